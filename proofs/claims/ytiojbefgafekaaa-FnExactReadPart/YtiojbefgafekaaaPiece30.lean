/- A right part (chapter 30): PieceOk of both sides. -/
import Derived.Test.YtiojbefgafekaaaPtP
import Derived.Test.YtiojbefgafekaaaIn01
import Derived.WalkKit
import Derived.WalkLawsBesides
import Derived.WalkSpells
import Derived.BigRegion
namespace Go.Proofs.Ytiojbefgafekaaa
open Go.RowKit
set_option maxRecDepth 20000
set_option linter.unusedVariables false
def pcOk (x : Pt) : Bool := decide ((0 ≤ x.n ∧ x.n ≤ 65535) ∧ (0 ≤ x.a ∧ x.a ≤ 4000) ∧ ((x.t.size : Nat) : Int) ≤ x.a ∧ 0 ≤ x.b ∧ x.b ≤ x.a - ((x.t.size : Nat) : Int))
theorem pc_no {x : Pt} (h : ¬ ((0 ≤ x.n ∧ x.n ≤ 65535) ∧ (0 ≤ x.a ∧ x.a ≤ 4000) ∧ ((x.t.size : Nat) : Int) ≤ x.a ∧ 0 ≤ x.b ∧ x.b ≤ x.a - ((x.t.size : Nat) : Int))) : pcOk x = false := decide_eq_false h
theorem pc_yes {x : Pt} (h : (0 ≤ x.n ∧ x.n ≤ 65535) ∧ (0 ≤ x.a ∧ x.a ≤ 4000) ∧ ((x.t.size : Nat) : Int) ≤ x.a ∧ 0 ≤ x.b ∧ x.b ≤ x.a - ((x.t.size : Nat) : Int)) : pcOk x = true := decide_eq_true h
theorem isId_any (x : Int) (w : World) : Calls Try.prog 28 #[.int .i64 x] w fun e w' => e = .returned (.bool (inN x 0 65535)) ∧ w = w' := by
  unfold inN
  by_cases h1 : 0 ≤ x <;> by_cases h2 : x ≤ 65535
  all_goals
    go_enter Try.func28, Try.ntmps28
    go_wp2
    go_ret
    exact ⟨by simp [h1, h2], rfl⟩
set_option maxHeartbeats 1600000 in
theorem implPiece_any (x : Pt) (w : World) (hs : x.t.size ≤ 1048576) :
    Calls Try.prog 11 #[.agg #[.int .i64 x.n, .int .i64 x.a, .int .i64 x.b, .string x.t]] w fun e w' => e = .returned (.bool (pcOk x)) ∧ Below w.heap.size w w' := by
  obtain ⟨n, a, b, t⟩ := x
  simp only [] at hs
  have hB : Below w.heap.size w (w.alloc (.cells #[.int .i64 n, .int .i64 a, .int .i64 b, .string t] 26)) := (Below.refl _ _).alloc (Nat.le_refl _) _
  have HI : Hid (∀ wz, _) := fun wz => isId_any n wz
  by_cases ha0 : 0 ≤ a <;> by_cases ha1 : a ≤ 4000 <;> by_cases hn : (0 ≤ n ∧ n ≤ 65535) <;> by_cases hb0 : 0 ≤ b <;> by_cases hb1 : b ≤ a - ((t.size : Nat) : Int)
  all_goals try (exfalso; omega)
  all_goals
    first
      | (have HE : Hid (pcOk ⟨n, a, b, t⟩ = true) := pc_yes ⟨hn, ⟨ha0, ha1⟩, by simp only []; omega, hb0, hb1⟩)
      | (have HE : Hid (pcOk ⟨n, a, b, t⟩ = false) := pc_no (by simp only []; omega))
    first
      | (have HN : Hid (inN n 0 65535 = true) := by unfold inN; rw [decide_eq_true hn.1, decide_eq_true hn.2]; rfl)
      | (have HN : Hid (inN n 0 65535 = false) := by unfold inN; rw [← Bool.decide_and]; exact decide_eq_false hn)
    rw [HN.out] at HI
    clear HN hn
    try (have hw : IntKind.i64.wrap (a - ((t.size : Nat) : Int)) = a - ((t.size : Nat) : Int) := by rw [IntKind.wrap_i64]; omega)
    go_enter Try.func11, Try.ntmps11
    go_wp2_with fail
    refine Calls.mono (HI.out _) ?_
    rintro e w1 ⟨rfl, rfl⟩
    go_wp2
    go_ret
    exact ⟨by rw [HE.out]; first | rfl | (rw [show decide (b ≤ a - ((t.size : Nat) : Int)) = false from decide_eq_false (by omega)]; rfl), hB⟩
set_option maxHeartbeats 1600000 in
theorem specPiece_any (x : Pt) (w : World) (hs : x.t.size ≤ 1048576) :
    Calls Try.prog 9 #[.agg #[.int .i64 x.n, .int .i64 x.a, .int .i64 x.b, .string x.t]] w fun e w' => e = .returned (.bool (pcOk x)) ∧ Below w.heap.size w w' := by
  obtain ⟨n, a, b, t⟩ := x
  simp only [] at hs
  have hB : Below w.heap.size w (w.alloc (.cells #[.int .i64 n, .int .i64 a, .int .i64 b, .string t] 26)) := (Below.refl _ _).alloc (Nat.le_refl _) _
  by_cases hn : (0 ≤ n ∧ n ≤ 65535)
  · have HI : Hid (∀ wz, _) := fun wz => specInN_yes n 0 65535 wz hn
    by_cases ha : (0 ≤ a ∧ a ≤ 4000)
    · have HA : Hid (∀ wz, _) := fun wz => specInN_yes a 0 4000 wz ha
      by_cases ht : ((t.size : Nat) : Int) ≤ a
      · have hw : IntKind.i64.wrap (a - ((t.size : Nat) : Int)) = a - ((t.size : Nat) : Int) := by rw [IntKind.wrap_i64]; omega
        by_cases hb : (0 ≤ b ∧ b ≤ a - ((t.size : Nat) : Int))
        · have HC : Hid (∀ wz, _) := fun wz => specInN_yes b 0 (a - ((t.size : Nat) : Int)) wz hb
          have HE : Hid (pcOk ⟨n, a, b, t⟩ = true) := pc_yes ⟨hn, ha, ht, hb⟩
          clear hn ha hb
          go_enter Try.func9, Try.ntmps9
          go_wp2_with fail
          refine Calls.mono (HI.out _) ?_
          rintro e w1 ⟨rfl, rfl⟩
          go_wp2_with fail
          refine Calls.mono (HA.out _) ?_
          rintro e w1 ⟨rfl, rfl⟩
          go_wp2_with fail
          refine Calls.mono (HC.out _) ?_
          rintro e w1 ⟨rfl, rfl⟩
          go_wp2
          go_ret
          exact ⟨by rw [HE.out]; rfl, hB⟩
        · have HC : Hid (∀ wz, _) := fun wz => specInN_no b 0 (a - ((t.size : Nat) : Int)) wz hb
          have HE : Hid (pcOk ⟨n, a, b, t⟩ = false) := pc_no (by simp only []; omega)
          clear hn ha hb
          go_enter Try.func9, Try.ntmps9
          go_wp2_with fail
          refine Calls.mono (HI.out _) ?_
          rintro e w1 ⟨rfl, rfl⟩
          go_wp2_with fail
          refine Calls.mono (HA.out _) ?_
          rintro e w1 ⟨rfl, rfl⟩
          go_wp2_with fail
          refine Calls.mono (HC.out _) ?_
          rintro e w1 ⟨rfl, rfl⟩
          go_wp2
          go_ret
          exact ⟨by rw [HE.out]; rfl, hB⟩
      · have HE : Hid (pcOk ⟨n, a, b, t⟩ = false) := pc_no (by simp only []; omega)
        clear hn ha
        go_enter Try.func9, Try.ntmps9
        go_wp2_with fail
        refine Calls.mono (HI.out _) ?_
        rintro e w1 ⟨rfl, rfl⟩
        go_wp2_with fail
        refine Calls.mono (HA.out _) ?_
        rintro e w1 ⟨rfl, rfl⟩
        go_wp2
        go_ret
        exact ⟨by rw [HE.out]; rfl, hB⟩
    · have HA : Hid (∀ wz, _) := fun wz => specInN_no a 0 4000 wz ha
      have HE : Hid (pcOk ⟨n, a, b, t⟩ = false) := pc_no (by simp only []; omega)
      clear hn ha
      go_enter Try.func9, Try.ntmps9
      go_wp2_with fail
      refine Calls.mono (HI.out _) ?_
      rintro e w1 ⟨rfl, rfl⟩
      go_wp2_with fail
      refine Calls.mono (HA.out _) ?_
      rintro e w1 ⟨rfl, rfl⟩
      go_wp2
      go_ret
      exact ⟨by rw [HE.out]; rfl, hB⟩
  · have HI : Hid (∀ wz, _) := fun wz => specInN_no n 0 65535 wz hn
    have HE : Hid (pcOk ⟨n, a, b, t⟩ = false) := pc_no (by simp only []; omega)
    clear hn
    go_enter Try.func9, Try.ntmps9
    go_wp2_with fail
    refine Calls.mono (HI.out _) ?_
    rintro e w1 ⟨rfl, rfl⟩
    go_wp2
    go_ret
    exact ⟨by rw [HE.out]; rfl, hB⟩
end Go.Proofs.Ytiojbefgafekaaa
