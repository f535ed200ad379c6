/- The program's areWords: a list of just so many numbers, each one of 32 bits. -/
import Derived.Test.YtkcbolcodgmpaaaLawI
import Derived.WalkKit
import Derived.WalkLawsBesides
import Derived.WalkSpells
namespace Go.Proofs.Ytkcbolcodgmpaaa
open Go.RowKit
set_option maxRecDepth 20000
set_option linter.unusedVariables false
def okW (x : Int) : Bool := decide (0 ≤ x) && decide (x ≤ 4294967295)
theorem okW_iff (x : Int) : okW x = true ↔ 0 ≤ x ∧ x ≤ 4294967295 := by simp [okW]
def allW (xs : List Int) : Bool := xs.all okW
theorem allW_iff (xs : List Int) : allW xs = true ↔ ∀ j, j < xs.length → okW (xs.getD j 0) = true := by
  unfold allW
  rw [List.all_eq_true]
  constructor
  · intro h j hj
    rw [List.getD_eq_getElem?_getD, List.getElem?_eq_getElem hj]
    exact h _ (List.getElem_mem hj)
  · intro h x hx
    obtain ⟨j, hj, rfl⟩ := List.getElem_of_mem hx
    have := h j hj
    rw [List.getD_eq_getElem?_getD, List.getElem?_eq_getElem hj] at this
    exact this
theorem isWord_any (x : Int) (w : World) : Calls Try.prog 49 #[.int .i64 x] w fun e w' => e = .returned (.bool (okW x)) ∧ w = w' := by
  by_cases h1 : 0 ≤ x
  · by_cases h2 : x ≤ 4294967295
    · have h : Hid (okW x = true) := (okW_iff x).2 ⟨h1, h2⟩
      go_enter Try.func49, Try.ntmps49
      go_wp2
      go_ret
      exact ⟨by rw [h.out]; rfl, rfl⟩
    · have h : Hid (okW x = false) := by show _ = _; cases hh : okW x with | false => rfl | true => exact absurd ((okW_iff x).1 hh).2 h2
      go_enter Try.func49, Try.ntmps49
      go_wp2
      go_ret
      exact ⟨by rw [h.out]; rfl, rfl⟩
  · have h : Hid (okW x = false) := by show _ = _; cases hh : okW x with | false => rfl | true => exact absurd ((okW_iff x).1 hh).1 h1
    go_enter Try.func49, Try.ntmps49
    go_wp2
    go_ret
    exact ⟨by rw [h.out]; rfl, rfl⟩
def areB (xs : List Int) (n : Nat) : Bool := decide (xs.length = n) && allW xs
end Go.Proofs.Ytkcbolcodgmpaaa
