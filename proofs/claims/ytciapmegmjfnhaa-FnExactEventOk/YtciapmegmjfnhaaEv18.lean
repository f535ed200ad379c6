/- A right event (chapter 18): EventOk of both sides. -/
import Derived.Test.YtciapmegmjfnhaaPtP
import Derived.Test.YtciapmegmjfnhaaIn01
import Derived.WalkKit
import Derived.WalkLawsBesides
import Derived.WalkSpells
import Derived.BigRegion
namespace Go.Proofs.Ytciapmegmjfnhaa
open Go.RowKit
set_option maxRecDepth 20000
set_option linter.unusedVariables false
abbrev EvIs (x : Pt) : Prop := (1 ≤ x.n ∧ x.n ≤ 10) ∧ 0 ≤ x.a ∧ 0 ≤ x.b ∧ (x.n = 9 → x.t.size ≤ 4000) ∧ (x.n ≠ 9 → x.t.size = 0)
def evOk (x : Pt) : Bool := decide (EvIs x)
theorem ev_no {x : Pt} (h : ¬ EvIs x) : evOk x = false := decide_eq_false h
theorem ev_yes {x : Pt} (h : EvIs x) : evOk x = true := decide_eq_true h
theorem ev_noN {n a b : Int} {t : ByteArray} (h : (1 ≤ n ∧ n ≤ 10) → 0 ≤ a → 0 ≤ b → (n = 9 → t.size ≤ 4000) → (n ≠ 9 → t.size = 0) → False) : evOk ⟨n, a, b, t⟩ = false := ev_no (fun ⟨q1, q2, q3, q4, q5⟩ => h q1 q2 q3 q4 q5)
theorem list_no {t : ByteArray} (h : ¬ t.size = 0) : t.toList.isEmpty = false := by
  rw [ByteArray.toList_eq]
  cases e : t.data.toList with
  | nil => exact absurd (show t.data.toList.length = 0 by rw [e]; rfl) h
  | cons a l => rfl
theorem empty_yes {t : ByteArray} (h : t.size = 0) : t = ⟨#[]⟩ := by
  obtain ⟨⟨l⟩⟩ := t
  have : l.length = 0 := h
  rw [List.length_eq_zero_iff.1 this]
set_option maxHeartbeats 1600000 in
theorem implEv_any (x : Pt) (w : World) (hs : x.t.size ≤ 1048576) :
    Calls Try.prog 7 #[.agg #[.int .i64 x.n, .int .i64 x.a, .int .i64 x.b, .string x.t]] w fun e w' => e = .returned (.bool (evOk x)) ∧ Below w.heap.size w w' := by
  obtain ⟨n, a, b, t⟩ := x
  simp only [] at hs
  have hB : Below w.heap.size w (w.alloc (.cells #[.int .i64 n, .int .i64 a, .int .i64 b, .string t] 26)) := (Below.refl _ _).alloc (Nat.le_refl _) _
  by_cases h9 : n = 9
  · subst h9
    by_cases ha : 0 ≤ a <;> by_cases hb : 0 ≤ b <;> by_cases ht : ((t.size : Nat) : Int) ≤ 4000
    all_goals
      first
        | (have HE : Hid (evOk ⟨9, a, b, t⟩ = true) := ev_yes ⟨⟨by simp, by simp⟩, ha, hb, fun _ => by simp only []; omega, fun h => absurd rfl h⟩)
        | (have HE : Hid (evOk ⟨9, a, b, t⟩ = false) := ev_noN (fun q1 q2 q3 q4 q5 => by first | omega | (have := q4 rfl; omega) | (have := q5 h9; omega)))
      go_enter Try.func7, Try.ntmps7
      go_wp2
      go_ret
      exact ⟨by rw [HE.out]; first | rfl | (rw [show decide (((t.size : Nat) : Int) ≤ 4000) = true from decide_eq_true (by omega)]; rfl) | (rw [show decide (((t.size : Nat) : Int) ≤ 4000) = false from decide_eq_false (by omega)]; rfl), hB⟩
  · by_cases h1 : 1 ≤ n <;> by_cases h2 : n ≤ 10 <;> by_cases ha : 0 ≤ a <;> by_cases hb : 0 ≤ b <;> by_cases ht : ((t.size : Nat) : Int) ≤ 0
    all_goals try (exfalso; omega)
    all_goals
      first
        | (have HE : Hid (evOk ⟨n, a, b, t⟩ = true) := ev_yes ⟨⟨h1, h2⟩, ha, hb, fun h => absurd h h9, fun _ => by simp only []; omega⟩)
        | (have HE : Hid (evOk ⟨n, a, b, t⟩ = false) := ev_noN (fun q1 q2 q3 q4 q5 => by first | omega | (have := q4 rfl; omega) | (have := q5 h9; omega)))
      have e9 : (n == 9) = false := by simpa using h9
      go_enter Try.func7, Try.ntmps7
      go_wp2
      go_ret
      exact ⟨by rw [HE.out]; first | rfl | (rw [show decide (t = ByteArray.empty) = true from decide_eq_true (empty_yes (by omega))]; rfl) | (rw [show decide (t = ByteArray.empty) = false from decide_eq_false (fun h => by rw [h] at ht; exact absurd ht (by decide))]; rfl), hB⟩
set_option maxHeartbeats 1600000 in
theorem specEv_any (x : Pt) (w : World) (hs : x.t.size ≤ 1048576) :
    Calls Try.prog 5 #[.agg #[.int .i64 x.n, .int .i64 x.a, .int .i64 x.b, .string x.t]] w fun e w' => e = .returned (.bool (evOk x)) ∧ Below w.heap.size w w' := by
  obtain ⟨n, a, b, t⟩ := x
  simp only [] at hs
  have hB : Below w.heap.size w (w.alloc (.cells #[.int .i64 n, .int .i64 a, .int .i64 b, .string t] 26)) := (Below.refl _ _).alloc (Nat.le_refl _) _
  by_cases hn : (1 ≤ n ∧ n ≤ 10)
  · have HI : Hid (∀ wz, _) := fun wz => specInN_yes n 1 10 wz hn
    by_cases ha : a < 0 <;> by_cases hb : b < 0
    · have HE : Hid (evOk ⟨n, a, b, t⟩ = false) := ev_noN (fun q1 q2 q3 q4 q5 => by first | omega | (have := q4 rfl; omega) | (have := q5 h9; omega))
      clear hn
      go_enter Try.func5, Try.ntmps5
      go_wp2_with fail
      refine Calls.mono (HI.out _) ?_
      rintro e w1 ⟨rfl, rfl⟩
      go_wp2
      go_ret
      exact ⟨by rw [HE.out]; first | rfl | (rw [show decide (((t.size : Nat) : Int) ≤ 4000) = true from decide_eq_true (by omega)]; rfl) | (rw [show decide (((t.size : Nat) : Int) ≤ 4000) = false from decide_eq_false (by omega)]; rfl) | (rw [list_no ht]; rfl), hB⟩
    · have HE : Hid (evOk ⟨n, a, b, t⟩ = false) := ev_noN (fun q1 q2 q3 q4 q5 => by first | omega | (have := q4 rfl; omega) | (have := q5 h9; omega))
      clear hn
      go_enter Try.func5, Try.ntmps5
      go_wp2_with fail
      refine Calls.mono (HI.out _) ?_
      rintro e w1 ⟨rfl, rfl⟩
      go_wp2
      go_ret
      exact ⟨by rw [HE.out]; first | rfl | (rw [show decide (((t.size : Nat) : Int) ≤ 4000) = true from decide_eq_true (by omega)]; rfl) | (rw [show decide (((t.size : Nat) : Int) ≤ 4000) = false from decide_eq_false (by omega)]; rfl) | (rw [list_no ht]; rfl), hB⟩
    · have HE : Hid (evOk ⟨n, a, b, t⟩ = false) := ev_noN (fun q1 q2 q3 q4 q5 => by first | omega | (have := q4 rfl; omega) | (have := q5 h9; omega))
      clear hn
      go_enter Try.func5, Try.ntmps5
      go_wp2_with fail
      refine Calls.mono (HI.out _) ?_
      rintro e w1 ⟨rfl, rfl⟩
      go_wp2
      go_ret
      exact ⟨by rw [HE.out]; first | rfl | (rw [show decide (((t.size : Nat) : Int) ≤ 4000) = true from decide_eq_true (by omega)]; rfl) | (rw [show decide (((t.size : Nat) : Int) ≤ 4000) = false from decide_eq_false (by omega)]; rfl) | (rw [list_no ht]; rfl), hB⟩
    · by_cases h9 : n = 9
      · subst h9
        by_cases ht : ((t.size : Nat) : Int) ≤ 4000
        · have HE : Hid (evOk ⟨9, a, b, t⟩ = true) := ev_yes ⟨⟨by simp, by simp⟩, by simp only []; omega, by simp only []; omega, fun _ => by simp only []; omega, fun h => absurd rfl h⟩
          clear hn
          go_enter Try.func5, Try.ntmps5
          go_wp2_with fail
          refine Calls.mono (HI.out _) ?_
          rintro e w1 ⟨rfl, rfl⟩
          go_wp2
          go_ret
          exact ⟨by rw [HE.out]; first | rfl | (rw [show decide (((t.size : Nat) : Int) ≤ 4000) = true from decide_eq_true (by omega)]; rfl) | (rw [show decide (((t.size : Nat) : Int) ≤ 4000) = false from decide_eq_false (by omega)]; rfl) | (rw [list_no ht]; rfl), hB⟩
        · have HE : Hid (evOk ⟨9, a, b, t⟩ = false) := ev_noN (fun q1 q2 q3 q4 q5 => by first | omega | (have := q4 rfl; omega) | (have := q5 h9; omega))
          clear hn
          go_enter Try.func5, Try.ntmps5
          go_wp2_with fail
          refine Calls.mono (HI.out _) ?_
          rintro e w1 ⟨rfl, rfl⟩
          go_wp2
          go_ret
          exact ⟨by rw [HE.out]; first | rfl | (rw [show decide (((t.size : Nat) : Int) ≤ 4000) = true from decide_eq_true (by omega)]; rfl) | (rw [show decide (((t.size : Nat) : Int) ≤ 4000) = false from decide_eq_false (by omega)]; rfl) | (rw [list_no ht]; rfl), hB⟩
      · have e9 : (n == 9) = false := by simpa using h9
        by_cases ht : t.size = 0
        · have HE : Hid (evOk ⟨n, a, b, t⟩ = true) := ev_yes ⟨hn, by simp only []; omega, by simp only []; omega, fun h => absurd h h9, fun _ => ht⟩
          obtain rfl := empty_yes ht
          clear ht
          clear hn
          go_enter Try.func5, Try.ntmps5
          go_wp2_with fail
          refine Calls.mono (HI.out _) ?_
          rintro e w1 ⟨rfl, rfl⟩
          go_wp2
          go_ret
          exact ⟨by rw [HE.out]; first | rfl | (rw [show decide (((t.size : Nat) : Int) ≤ 4000) = true from decide_eq_true (by omega)]; rfl) | (rw [show decide (((t.size : Nat) : Int) ≤ 4000) = false from decide_eq_false (by omega)]; rfl) | (rw [list_no ht]; rfl), hB⟩
        · have HE : Hid (evOk ⟨n, a, b, t⟩ = false) := ev_noN (fun q1 q2 q3 q4 q5 => by first | omega | (have := q4 rfl; omega) | (have := q5 h9; omega))
          clear hn
          go_enter Try.func5, Try.ntmps5
          go_wp2_with fail
          refine Calls.mono (HI.out _) ?_
          rintro e w1 ⟨rfl, rfl⟩
          go_wp2
          go_ret
          exact ⟨by rw [HE.out]; first | rfl | (rw [show decide (((t.size : Nat) : Int) ≤ 4000) = true from decide_eq_true (by omega)]; rfl) | (rw [show decide (((t.size : Nat) : Int) ≤ 4000) = false from decide_eq_false (by omega)]; rfl) | (rw [list_no ht]; rfl), hB⟩
  · have HI : Hid (∀ wz, _) := fun wz => specInN_no n 1 10 wz hn
    have HE : Hid (evOk ⟨n, a, b, t⟩ = false) := ev_noN (fun q1 q2 q3 q4 q5 => by first | omega | (have := q4 rfl; omega) | (have := q5 h9; omega))
    clear hn
    go_enter Try.func5, Try.ntmps5
    go_wp2_with fail
    refine Calls.mono (HI.out _) ?_
    rintro e w1 ⟨rfl, rfl⟩
    go_wp2
    go_ret
    exact ⟨by rw [HE.out]; first | rfl | (rw [show decide (((t.size : Nat) : Int) ≤ 4000) = true from decide_eq_true (by omega)]; rfl) | (rw [show decide (((t.size : Nat) : Int) ≤ 4000) = false from decide_eq_false (by omega)]; rfl) | (rw [list_no ht]; rfl), hB⟩
end Go.Proofs.Ytciapmegmjfnhaa
