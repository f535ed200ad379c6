/- The program's areWords: a list of just so many numbers, each one of 32 bits. -/
import Derived.Test.YthpkhbcahihbnaaDoorLawI
import Derived.WalkKit
import Derived.WalkLawsBesides
import Derived.WalkSpells
namespace Go.Proofs.YthpkhbcahihbnaaDoor
open Go.RowKit
set_option maxRecDepth 20000
set_option linter.unusedVariables false
def okW (x : Int) : Bool := decide (0 ≤ x) && decide (x ≤ 4294967295)
theorem okW_iff (x : Int) : okW x = true ↔ 0 ≤ x ∧ x ≤ 4294967295 := by simp [okW]
def allW (xs : List Int) : Bool := xs.all okW
theorem allW_iff (xs : List Int) : allW xs = true ↔ ∀ j, j < xs.length → okW (xs.getD j 0) = true := by
  unfold allW
  rw [List.all_eq_true]
  constructor
  · intro h j hj
    rw [List.getD_eq_getElem?_getD, List.getElem?_eq_getElem hj]
    exact h _ (List.getElem_mem hj)
  · intro h x hx
    obtain ⟨j, hj, rfl⟩ := List.getElem_of_mem hx
    have := h j hj
    rw [List.getD_eq_getElem?_getD, List.getElem?_eq_getElem hj] at this
    exact this
theorem isWord_any (x : Int) (w : World) : Calls Tryd.prog 40 #[.int .i64 x] w fun e w' => e = .returned (.bool (okW x)) ∧ w = w' := by
  by_cases h1 : 0 ≤ x
  · by_cases h2 : x ≤ 4294967295
    · have h : Hid (okW x = true) := (okW_iff x).2 ⟨h1, h2⟩
      go_enter Tryd.func40, Tryd.ntmps40
      go_wp2
      go_ret
      exact ⟨by rw [h.out]; rfl, rfl⟩
    · have h : Hid (okW x = false) := by show _ = _; cases hh : okW x with | false => rfl | true => exact absurd ((okW_iff x).1 hh).2 h2
      go_enter Tryd.func40, Tryd.ntmps40
      go_wp2
      go_ret
      exact ⟨by rw [h.out]; rfl, rfl⟩
  · have h : Hid (okW x = false) := by show _ = _; cases hh : okW x with | false => rfl | true => exact absurd ((okW_iff x).1 hh).1 h1
    go_enter Tryd.func40, Tryd.ntmps40
    go_wp2
    go_ret
    exact ⟨by rw [h.out]; rfl, rfl⟩
theorem isNone_any (x : Int) (w : World) : Calls Tryd.prog 39 #[.int .i64 x] w fun e w' => e = .returned (.bool (!okW x)) ∧ w = w' := by
  have H : Hid _ := isWord_any x w
  generalize okW x = b at H
  cases b
  all_goals
    go_enter Tryd.func39, Tryd.ntmps39
    go_wp2_with fail
    refine Calls.mono H.out ?_
    rintro e w1 ⟨rfl, rfl⟩
    go_wp2
    go_ret
    exact ⟨rfl, rfl⟩
set_option maxHeartbeats 1600000 in
theorem idxFn_any (a : Option Addr) (cap : Nat) (xs : List Int) (w : World) (hl : xs.length ≤ 1048576) (hr : RowI w.heap.size w a xs) :
    Calls Tryd.prog 52 #[.slice a xs.length cap, .func (.func 39) #[] #[]] w fun e w' => ∃ r : Int, e = .returned (.int .i64 r) ∧ decide (0 ≤ r) = (!allW xs) ∧ w = w' := by
  have HR : Hid (RowI w.heap.size w a xs) := hr
  clear hr
  go_enter Tryd.func52, Tryd.ntmps52
  go_wp2
  go_loop [8] (fun i => ∃ k : Nat, k ≤ xs.length ∧ i = .int .i64 (k : Int) ∧ Hid (∀ j, j < k → okW (xs.getD j 0) = true))
    (fun i => xs.length - (intOf i).toNat)
  case atStart => exact ⟨0, Nat.zero_le _, rfl, fun j hj => absurd hj (by omega)⟩
  case round =>
    obtain ⟨k, hk, rfl, HA⟩ := hrel
    by_cases hlt : k < xs.length
    · obtain ⟨b, off, rfl⟩ := HR.out.addr hlt
      have c0 := (HR.out.at (Below.refl _ _) hlt).2
      have hi0 : (0 : Int) ≤ (k : Int) := by omega
      have hi1 : (k : Int) < (xs.length : Int) := by omega
      have HS : Hid (∀ b, okW (xs.getD k 0) = b → _) := fun b hb => (show b = true → ∀ j, j < k + 1 → okW (xs.getD j 0) = true from fun e j hj => by
        by_cases h : j = k
        · subst h; rw [hb, e]
        · exact HA.out j (by omega))
      have HX : Hid (okW (xs.getD k 0) = false → allW xs = false) := fun e => by
        cases h : allW xs with
        | false => rfl
        | true => have := (allW_iff xs).1 h k hlt; rw [e] at this; cases this
      have HC : Hid _ := isNone_any (xs.getD k 0) w
      generalize hb : okW (xs.getD k 0) = b0 at HC HX
      replace HS : Hid _ := HS.out b0 hb
      clear hb
      generalize xs.getD k 0 = y at c0 HC
      cases b0
      · have hall := HX.out rfl
        go_wp2_with fail
        refine Calls.mono HC.out ?_
        rintro e w1 ⟨rfl, rfl⟩
        go_wp2
        go_ret
        exact ⟨(k : Int), rfl, by rw [hall]; simp, rfl⟩
      · have HS2 : Hid _ := HS.out rfl
        go_wp2_with fail
        refine Calls.mono HC.out ?_
        rintro e w1 ⟨rfl, rfl⟩
        go_wp2
        go_round
        case rel => exact ⟨k + 1, by omega, by go_num, HS2⟩
        case measure => simp [intOf]; omega
    · obtain rfl : k = xs.length := by omega
      have hall : allW xs = true := (allW_iff xs).2 HA.out
      go_wp2
      go_ret
      exact ⟨-1, rfl, by first | (rw [hall]; rfl) | omega | decide, rfl⟩
theorem contFn_any (a : Option Addr) (cap : Nat) (xs : List Int) (w : World) (hl : xs.length ≤ 1048576) (hr : RowI w.heap.size w a xs) :
    Calls Tryd.prog 41 #[.slice a xs.length cap, .func (.func 39) #[] #[]] w fun e w' => e = .returned (.bool (!allW xs)) ∧ w = w' := by
  have H0 := idxFn_any a cap xs w hl hr
  generalize (!allW xs) = b at H0 ⊢
  have H : Hid _ := H0
  clear H0
  go_enter Tryd.func41, Tryd.ntmps41
  go_wp2_with fail
  refine Calls.mono H.out ?_
  rintro e w1 ⟨r, rfl, hr2, rfl⟩
  go_wp2
  go_ret
  exact ⟨by first | rfl | (rw [← hr2]; rfl), rfl⟩
def areB (xs : List Int) (n : Nat) : Bool := decide (xs.length = n) && allW xs
set_option maxHeartbeats 800000 in
theorem areWords_any (a : Option Addr) (cap n : Nat) (xs : List Int) (w : World) (hl : xs.length ≤ 1048576) (hr : RowI w.heap.size w a xs) :
    Calls Tryd.prog 20 #[.slice a xs.length cap, .int .i64 (n : Int)] w fun e w' => e = .returned (.bool (areB xs n)) ∧ w = w' := by
  have H : Hid _ := contFn_any a cap xs w hl hr
  by_cases hn : xs.length = n
  · have hd : decide ((xs.length : Int) = (n : Int)) = true := by simp; omega
    have hq : ((xs.length : Int) == (n : Int)) = true := by simp; omega
    have HA : Hid (areB xs n = allW xs) := by show _ = _; unfold areB; rw [decide_eq_true hn]; rfl
    generalize allW xs = b at H HA
    clear hr hn
    go_enter Tryd.func20, Tryd.ntmps20
    go_wp2_with fail
    refine Calls.mono H.out ?_
    rintro e w1 ⟨rfl, rfl⟩
    go_wp2
    go_ret
    exact ⟨by rw [HA.out]; simp, rfl⟩
  · have hd : decide ((xs.length : Int) = (n : Int)) = false := by simp; omega
    have hq : ((xs.length : Int) == (n : Int)) = false := by simp; omega
    have HA : Hid (areB xs n = false) := by show _ = _; unfold areB; rw [decide_eq_false hn]; rfl
    clear hr
    go_enter Tryd.func20, Tryd.ntmps20
    go_wp2
    go_ret
    exact ⟨by rw [HA.out]; rfl, rfl⟩
end Go.Proofs.YthpkhbcahihbnaaDoor
