/- The program's areSeqs: numbers of a list, each one from 0 to 9999. -/
import Derived.Test.YthjaeajhldjapaaLawI
import Derived.WalkKit
import Derived.WalkLawsBesides
import Derived.WalkSpells
namespace Go.Proofs.Ythjaeajhldjapaa
open Go.RowKit
set_option maxRecDepth 20000
set_option linter.unusedVariables false
def okS (x : Int) : Bool := decide (0 ≤ x) && decide (x ≤ 9999)
theorem okS_iff (x : Int) : okS x = true ↔ 0 ≤ x ∧ x ≤ 9999 := by simp [okS]
def allS (xs : List Int) : Bool := xs.all okS
theorem allS_iff (xs : List Int) : allS xs = true ↔ ∀ j, j < xs.length → okS (xs.getD j 0) = true := by
  unfold allS
  rw [List.all_eq_true]
  constructor
  · intro h j hj
    rw [List.getD_eq_getElem?_getD, List.getElem?_eq_getElem hj]
    exact h _ (List.getElem_mem hj)
  · intro h x hx
    obtain ⟨j, hj, rfl⟩ := List.getElem_of_mem hx
    have := h j hj
    rw [List.getD_eq_getElem?_getD, List.getElem?_eq_getElem hj] at this
    exact this
theorem isSq_any (x : Int) (w : World) : Calls Try.prog 22 #[.int .i64 x] w fun e w' => e = .returned (.bool (okS x)) ∧ w = w' := by
  by_cases h1 : 0 ≤ x
  · by_cases h2 : x ≤ 9999
    · have h : Hid (okS x = true) := (okS_iff x).2 ⟨h1, h2⟩
      go_enter Try.func22, Try.ntmps22
      go_wp2
      go_ret
      exact ⟨by rw [h.out]; rfl, rfl⟩
    · have h : Hid (okS x = false) := by show _ = _; cases hh : okS x with | false => rfl | true => exact absurd ((okS_iff x).1 hh).2 h2
      go_enter Try.func22, Try.ntmps22
      go_wp2
      go_ret
      exact ⟨by rw [h.out]; rfl, rfl⟩
  · have h : Hid (okS x = false) := by show _ = _; cases hh : okS x with | false => rfl | true => exact absurd ((okS_iff x).1 hh).1 h1
    go_enter Try.func22, Try.ntmps22
    go_wp2
    go_ret
    exact ⟨by rw [h.out]; rfl, rfl⟩
theorem isNoSq_any (x : Int) (w : World) : Calls Try.prog 21 #[.int .i64 x] w fun e w' => e = .returned (.bool (!okS x)) ∧ w = w' := by
  have H : Hid _ := isSq_any x w
  generalize okS x = b at H
  cases b
  all_goals
    go_enter Try.func21, Try.ntmps21
    go_wp2_with fail
    refine Calls.mono H.out ?_
    rintro e w1 ⟨rfl, rfl⟩
    go_wp2
    go_ret
    exact ⟨rfl, rfl⟩
set_option maxHeartbeats 1600000 in
theorem idxSq_any (a : Option Addr) (cap : Nat) (xs : List Int) (w : World) (hl : xs.length ≤ 1048576) (hr : RowI w.heap.size w a xs) :
    Calls Try.prog 27 #[.slice a xs.length cap, .func (.func 21) #[] #[]] w fun e w' => ∃ r : Int, e = .returned (.int .i64 r) ∧ decide (0 ≤ r) = (!allS xs) ∧ w = w' := by
  have HR : Hid (RowI w.heap.size w a xs) := hr
  clear hr
  go_enter Try.func27, Try.ntmps27
  go_wp2
  go_loop [8] (fun i => ∃ k : Nat, k ≤ xs.length ∧ i = .int .i64 (k : Int) ∧ Hid (∀ j, j < k → okS (xs.getD j 0) = true))
    (fun i => xs.length - (intOf i).toNat)
  case atStart => exact ⟨0, Nat.zero_le _, rfl, fun j hj => absurd hj (by omega)⟩
  case round =>
    obtain ⟨k, hk, rfl, HA⟩ := hrel
    by_cases hlt : k < xs.length
    · obtain ⟨b, off, rfl⟩ := HR.out.addr hlt
      have c0 := (HR.out.at (Below.refl _ _) hlt).2
      have hi0 : (0 : Int) ≤ (k : Int) := by omega
      have hi1 : (k : Int) < (xs.length : Int) := by omega
      have HS : Hid (∀ b, okS (xs.getD k 0) = b → _) := fun b hb => (show b = true → ∀ j, j < k + 1 → okS (xs.getD j 0) = true from fun e j hj => by
        by_cases h : j = k
        · subst h; rw [hb, e]
        · exact HA.out j (by omega))
      have HX : Hid (okS (xs.getD k 0) = false → allS xs = false) := fun e => by
        cases h : allS xs with
        | false => rfl
        | true => have := (allS_iff xs).1 h k hlt; rw [e] at this; cases this
      have HC : Hid _ := isNoSq_any (xs.getD k 0) w
      generalize hb : okS (xs.getD k 0) = b0 at HC HX
      replace HS : Hid _ := HS.out b0 hb
      clear hb
      generalize xs.getD k 0 = y at c0 HC
      cases b0
      · have hall := HX.out rfl
        go_wp2_with fail
        refine Calls.mono HC.out ?_
        rintro e w1 ⟨rfl, rfl⟩
        go_wp2
        go_ret
        exact ⟨(k : Int), rfl, by rw [hall]; simp, rfl⟩
      · have HS2 : Hid _ := HS.out rfl
        go_wp2_with fail
        refine Calls.mono HC.out ?_
        rintro e w1 ⟨rfl, rfl⟩
        go_wp2
        go_round
        case rel => exact ⟨k + 1, by omega, by go_num, HS2⟩
        case measure => simp [intOf]; omega
    · obtain rfl : k = xs.length := by omega
      have hall : allS xs = true := (allS_iff xs).2 HA.out
      go_wp2
      go_ret
      exact ⟨-1, rfl, by first | (rw [hall]; rfl) | omega | decide, rfl⟩
theorem contSq_any (a : Option Addr) (cap : Nat) (xs : List Int) (w : World) (hl : xs.length ≤ 1048576) (hr : RowI w.heap.size w a xs) :
    Calls Try.prog 23 #[.slice a xs.length cap, .func (.func 21) #[] #[]] w fun e w' => e = .returned (.bool (!allS xs)) ∧ w = w' := by
  have H0 := idxSq_any a cap xs w hl hr
  generalize (!allS xs) = b at H0 ⊢
  have H : Hid _ := H0
  clear H0
  go_enter Try.func23, Try.ntmps23
  go_wp2_with fail
  refine Calls.mono H.out ?_
  rintro e w1 ⟨r, rfl, hr2, rfl⟩
  go_wp2
  go_ret
  exact ⟨by first | rfl | (rw [← hr2]; rfl), rfl⟩
theorem areSqs_any (a : Option Addr) (cap : Nat) (xs : List Int) (w : World) (hl : xs.length ≤ 1048576) (hr : RowI w.heap.size w a xs) :
    Calls Try.prog 15 #[.slice a xs.length cap] w fun e w' => e = .returned (.bool (allS xs)) ∧ w = w' := by
  have H : Hid _ := contSq_any a cap xs w hl hr
  generalize allS xs = b at H ⊢
  clear hr
  go_enter Try.func15, Try.ntmps15
  go_wp2_with fail
  refine Calls.mono H.out ?_
  rintro e w1 ⟨rfl, rfl⟩
  go_wp2
  go_ret
  exact ⟨by simp, rfl⟩
end Go.Proofs.Ythjaeajhldjapaa
