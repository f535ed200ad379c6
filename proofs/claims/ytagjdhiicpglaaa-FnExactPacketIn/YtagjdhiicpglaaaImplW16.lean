/- The program's chapter 16: what is right, and what fits. -/
import Derived.Test.YtagjdhiicpglaaaWay16
import Derived.Test.YtagjdhiicpglaaaTermW
import Derived.Test.YtagjdhiicpglaaaHeldQ
import Derived.Test.YtagjdhiicpglaaaSpec16
import Derived.WalkKit
import Derived.WalkLawsBesides
import Derived.WalkSpells
import Derived.OwnWalk
import Derived.Laws.Rows
import Derived.Deep.QuietTactic
import Derived.BigQuiet
namespace Go.Proofs.Ytagjdhiicpglaaa
open Go.RowKit
set_option linter.unusedVariables false
set_option maxHeartbeats 400000 in
theorem isAddr_any (x : Int) (w : World) : Calls Try.prog 31 #[.int .i64 x] w fun e w' => e = .returned (.bool (inB x 0 255)) ∧ Below w.heap.size w w' := by
  unfold inB
  by_cases h0 : 0 ≤ x
  · by_cases h1 : x ≤ 255
    · have HE : Hid ((decide (0 ≤ x) && decide (x ≤ 255)) = true) := by show _ = _; simp [h0, h1]
      rw [HE.out]
      go_enter Try.func31, Try.ntmps31
      go_wp2
      go_ret
      exact ⟨rfl, Below.refl _ _⟩
    · have HE : Hid ((decide (0 ≤ x) && decide (x ≤ 255)) = false) := by show _ = _; simp [h1]
      rw [HE.out]
      go_enter Try.func31, Try.ntmps31
      go_wp2
      go_ret
      exact ⟨rfl, Below.refl _ _⟩
  · have HE : Hid ((decide (0 ≤ x) && decide (x ≤ 255)) = false) := by show _ = _; simp [h0]
    rw [HE.out]
    go_enter Try.func31, Try.ntmps31
    go_wp2
    go_ret
    exact ⟨rfl, Below.refl _ _⟩
set_option maxHeartbeats 1600000 in
theorem implPkOk_any (p : Nd) (w : World) (hf : p.Fits) :
    Calls Try.prog 25 #[.agg #[.int .i64 p.k, .int .i64 p.n, .int .i64 p.a, .int .i64 p.b]] w fun e w' => e = .returned (.bool (pkOk p)) ∧ Below w.heap.size w w' := by
  have hb0 : Below w.heap.size w (w.alloc (.cells #[.int .i64 p.k, .int .i64 p.n, .int .i64 p.a, .int .i64 p.b] 27)) := (Below.refl _ _).alloc (Nat.le_refl _) _
  have hA := heap_alloc_new w (.cells #[.int .i64 p.k, .int .i64 p.n, .int .i64 p.a, .int .i64 p.b] 27)
  have HB0 : Hid _ := hb0
  have hs : w.heap.size < (w.alloc (.cells #[.int .i64 p.k, .int .i64 p.n, .int .i64 p.a, .int .i64 p.b] 27)).heap.size := by simp
  have HS : Hid _ := hs
  have HK : Hid (pkOk p = (inB p.k 0 255 && (inB p.n 0 255 && (inB p.a 1 9 && inB p.b 0 999)))) := rfl
  obtain ⟨V, HV⟩ : ∃ V, Hid (pkOk p = V) := ⟨_, rfl⟩
  rw [HV.out]
  rw [HV.out] at HK
  have c0 : (w.alloc (.cells #[.int .i64 p.k, .int .i64 p.n, .int .i64 p.a, .int .i64 p.b] 27)).cell? ⟨w.heap.size, 0, none⟩ = some (.int .i64 p.k) := (cell_of_row _ _ 0 _ _ _ hA).trans rfl
  have HA : Hid _ := hA
  obtain ⟨d0, h0⟩ : ∃ d, inB p.k 0 255 = d := ⟨_, rfl⟩
  have HC0 : Hid (∀ wz, Calls Try.prog 31 #[.int .i64 p.k] wz fun e w' => e = .returned (.bool d0) ∧ Below wz.heap.size wz w') := fun wz => by have := isAddr_any p.k wz; rw [h0] at this; exact this
  rw [h0] at HK
  clear h0 hb0 hA hs hf HV
  go_enter Try.func25, Try.ntmps25
  go_wp2_with fail
  refine Calls.mono (HC0.out _) ?_
  rintro e w1 ⟨rfl, hb1⟩
  have HB1 : Hid (Below w.heap.size w w1) := HB0.out.trans (hb1.mono HB0.out.size)
  have hA1 := (hb1.block _ HS.out).trans HA.out
  have hs1 : w.heap.size < w1.heap.size := (Array.getElem?_eq_some_iff.1 hA1).1
  clear hb1 HC0 HB0 HA HS c0
  cases d0 with
  | false =>
    have HE : Hid (V = false) := HK.out
    clear HK hA1
    go_wp2
    go_ret
    exact ⟨by rw [HE.out]; rfl, HB1.out⟩
  | true =>
    have c1 : w1.cell? ⟨w.heap.size, 1, none⟩ = some (.int .i64 p.n) := (cell_of_row _ _ 1 _ _ _ hA1).trans rfl
    obtain ⟨d1, h1⟩ : ∃ d, inB p.n 0 255 = d := ⟨_, rfl⟩
    have HC1 : Hid (∀ wz, Calls Try.prog 31 #[.int .i64 p.n] wz fun e w' => e = .returned (.bool d1) ∧ Below wz.heap.size wz w') := fun wz => by have := isAddr_any p.n wz; rw [h1] at this; exact this
    rw [h1] at HK
    clear h1
    go_wp2_with fail
    refine Calls.mono (HC1.out _) ?_
    rintro e w2 ⟨rfl, hb2⟩
    have HB2 : Hid (Below w.heap.size w w2) := HB1.out.trans (hb2.mono HB1.out.size)
    have hA2 := (hb2.block _ hs1).trans hA1
    clear hb2 HC1 HB1 hA1 c1 hs1
    cases d1 with
    | false =>
      have HE : Hid (V = false) := HK.out
      clear HK hA2
      go_wp2
      go_ret
      exact ⟨by rw [HE.out]; rfl, HB2.out⟩
    | true =>
      have c2 : w2.cell? ⟨w.heap.size, 2, none⟩ = some (.int .i64 p.a) := (cell_of_row _ _ 2 _ _ _ hA2).trans rfl
      have c3 : w2.cell? ⟨w.heap.size, 3, none⟩ = some (.int .i64 p.b) := (cell_of_row _ _ 3 _ _ _ hA2).trans rfl
      have HK2 : Hid (V = ((decide (1 ≤ p.a) && decide (p.a ≤ 9)) && (decide (0 ≤ p.b) && decide (p.b ≤ 999)))) := HK.out
      clear HK hA2
      by_cases e0 : 1 ≤ p.a
      · by_cases e1 : p.a ≤ 9
        · by_cases e2 : 0 ≤ p.b
          · by_cases e3 : p.b ≤ 999
            · have HE : Hid (V = true) := by show _ = _; rw [HK2.out]; simp [e0, e1, e2, e3]
              clear HK2
              go_wp2
              go_ret
              exact ⟨by rw [HE.out]; rfl, HB2.out⟩
            · have HE : Hid (V = false) := by show _ = _; rw [HK2.out]; simp [e3]
              have e3' : decide (p.b ≤ 999) = false := decide_eq_false e3
              clear HK2 e3
              go_wp2
              go_ret
              exact ⟨by rw [HE.out]; rfl, HB2.out⟩
          · have HE : Hid (V = false) := by show _ = _; rw [HK2.out]; simp [e2]
            have e2' : decide (0 ≤ p.b) = false := decide_eq_false e2
            clear HK2 e2
            go_wp2
            go_ret
            exact ⟨by rw [HE.out]; rfl, HB2.out⟩
        · have HE : Hid (V = false) := by show _ = _; rw [HK2.out]; simp [e1]
          have e1' : decide (p.a ≤ 9) = false := decide_eq_false e1
          clear HK2 e1
          go_wp2
          go_ret
          exact ⟨by rw [HE.out]; rfl, HB2.out⟩
      · have HE : Hid (V = false) := by show _ = _; rw [HK2.out]; simp [e0]
        have e0' : decide (1 ≤ p.a) = false := decide_eq_false e0
        clear HK2 e0
        go_wp2
        go_ret
        exact ⟨by rw [HE.out]; rfl, HB2.out⟩
theorem fit_net {n b d : Int} (hb : inB b 0 8 = true) (hd : inB d 0 255 = true) (h : d / 2 ^ (8 - b).toNat = n / 2 ^ (8 - b).toNat) : inB n 0 255 = true := by
  unfold inB at hb hd ⊢
  simp at hb hd ⊢
  rcases (show b = 0 ∨ b = 1 ∨ b = 2 ∨ b = 3 ∨ b = 4 ∨ b = 5 ∨ b = 6 ∨ b = 7 ∨ b = 8 by omega) with rfl | rfl | rfl | rfl | rfl | rfl | rfl | rfl | rfl <;> simp at h <;> omega
theorem fit_is (r : Rt) (d : Int) (h0 : inB r.b 0 8 = true) (h1 : inB d 0 255 = true) : fitB r d = (d / 2 ^ (8 - r.b).toNat == r.n / 2 ^ (8 - r.b).toNat) := by
  unfold fitB
  rw [h0, h1]
  simp only [Bool.true_and]
  rw [Bool.eq_iff_iff]
  simp only [Bool.and_eq_true, decide_eq_true_eq, beq_iff_eq]
  exact ⟨fun h => h.2, fun h => ⟨fit_net h0 h1 h, h⟩⟩
end Go.Proofs.Ytagjdhiicpglaaa
