/- The program's chapter 16: what is right, and what fits. -/
import Derived.Test.YtclnhjkmhemebaaPlainTerm
import Derived.Test.YtclnhjkmhemebaaTermW
import Derived.Test.YtclnhjkmhemebaaHeldQ
import Derived.Test.YtclnhjkmhemebaaSpec16b
import Derived.WalkKit
import Derived.WalkLawsBesides
import Derived.WalkSpells
import Derived.OwnWalk
import Derived.Laws.Rows
import Derived.Deep.QuietTactic
import Derived.BigQuiet
namespace Go.Proofs.Ytclnhjkmhemebaa
open Go.RowKit
set_option linter.unusedVariables false
set_option maxHeartbeats 400000 in
theorem isAddr_any (x : Int) (w : World) : Calls Try.prog 89 #[.int .i64 x] w fun e w' => e = .returned (.bool (inB x 0 255)) ∧ Below w.heap.size w w' := by
  unfold inB
  by_cases h0 : 0 ≤ x
  · by_cases h1 : x ≤ 255
    · have HE : Hid ((decide (0 ≤ x) && decide (x ≤ 255)) = true) := by show _ = _; simp [h0, h1]
      rw [HE.out]
      go_enter Try.func89, Try.ntmps89
      go_wp2
      go_ret
      exact ⟨rfl, Below.refl _ _⟩
    · have HE : Hid ((decide (0 ≤ x) && decide (x ≤ 255)) = false) := by show _ = _; simp [h1]
      rw [HE.out]
      go_enter Try.func89, Try.ntmps89
      go_wp2
      go_ret
      exact ⟨rfl, Below.refl _ _⟩
  · have HE : Hid ((decide (0 ≤ x) && decide (x ≤ 255)) = false) := by show _ = _; simp [h0]
    rw [HE.out]
    go_enter Try.func89, Try.ntmps89
    go_wp2
    go_ret
    exact ⟨rfl, Below.refl _ _⟩
set_option maxHeartbeats 400000 in
theorem hasBits_any (r : Rt) (w : World) : Calls Try.prog 88 #[.agg #[.int .i64 r.n, .int .i64 r.b, .int .i64 r.t]] w fun e w' => e = .returned (.bool (inB r.b 0 8)) ∧ Below w.heap.size w w' := by
  have HB : Hid (Below w.heap.size w (w.alloc (.cells #[.int .i64 r.n, .int .i64 r.b, .int .i64 r.t] 44))) := (Below.refl _ _).alloc (Nat.le_refl _) _
  unfold inB
  by_cases h0 : 0 ≤ r.b
  · by_cases h1 : r.b ≤ 8
    · have HE : Hid ((decide (0 ≤ r.b) && decide (r.b ≤ 8)) = true) := by show _ = _; simp [h0, h1]
      rw [HE.out]
      go_enter Try.func88, Try.ntmps88
      go_wp2
      go_ret
      exact ⟨rfl, HB.out⟩
    · have HE : Hid ((decide (0 ≤ r.b) && decide (r.b ≤ 8)) = false) := by show _ = _; simp [h1]
      rw [HE.out]
      go_enter Try.func88, Try.ntmps88
      go_wp2
      go_ret
      exact ⟨rfl, HB.out⟩
  · have HE : Hid ((decide (0 ≤ r.b) && decide (r.b ≤ 8)) = false) := by show _ = _; simp [h0]
    rw [HE.out]
    go_enter Try.func88, Try.ntmps88
    go_wp2
    go_ret
    exact ⟨rfl, HB.out⟩
set_option maxHeartbeats 400000 in
theorem freeBits_any (r : Rt) (w : World) (hb : inB r.b 0 8 = true) : Calls Try.prog 90 #[.agg #[.int .i64 r.n, .int .i64 r.b, .int .i64 r.t]] w fun e w' => e = .returned (.int .i64 (8 - r.b)) ∧ Below w.heap.size w w' := by
  have HB : Hid (Below w.heap.size w (w.alloc (.cells #[.int .i64 r.n, .int .i64 r.b, .int .i64 r.t] 44))) := (Below.refl _ _).alloc (Nat.le_refl _) _
  have h8 : IntKind.i64.wrap (8 - r.b) = 8 - r.b := by
    unfold inB at hb; simp at hb
    exact IntWalk.i64_in _ ⟨by omega, by omega⟩
  clear hb
  go_enter Try.func90, Try.ntmps90
  go_wp2
  go_ret
  exact ⟨rfl, HB.out⟩
set_option maxHeartbeats 800000 in
theorem sameWay_any (r x : Rt) (w : World) : Calls Try.prog 107 #[.agg #[.int .i64 r.n, .int .i64 r.b, .int .i64 r.t], .agg #[.int .i64 x.n, .int .i64 x.b, .int .i64 x.t]] w fun e w' => e = .returned (.bool (decide (r.n = x.n ∧ r.b = x.b))) ∧ Below w.heap.size w w' := by
  have HB : Hid (Below w.heap.size w ((w.alloc (.cells #[.int .i64 r.n, .int .i64 r.b, .int .i64 r.t] 44)).alloc (.cells #[.int .i64 x.n, .int .i64 x.b, .int .i64 x.t] 44))) := ((Below.refl _ _).alloc (Nat.le_refl _) _).alloc (by simp) _
  by_cases h0 : r.n = x.n
  · have h0' : (r.n == x.n) = true := by simp [h0]
    by_cases h1 : r.b = x.b
    · have h1' : (r.b == x.b) = true := by simp [h1]
      have HE : Hid (decide (r.n = x.n ∧ r.b = x.b) = true) := by show _ = _; simp [h0, h1]
      rw [HE.out]
      clear h0 h1
      go_enter Try.func107, Try.ntmps107
      go_wp2
      go_ret
      exact ⟨rfl, HB.out⟩
    · have h1' : (r.b == x.b) = false := by simp [h1]
      have HE : Hid (decide (r.n = x.n ∧ r.b = x.b) = false) := by show _ = _; simp [h1]
      rw [HE.out]
      clear h0 h1
      go_enter Try.func107, Try.ntmps107
      go_wp2
      go_ret
      exact ⟨rfl, HB.out⟩
  · have h0' : (r.n == x.n) = false := by simp [h0]
    have HE : Hid (decide (r.n = x.n ∧ r.b = x.b) = false) := by show _ = _; simp [h0]
    rw [HE.out]
    clear h0
    go_enter Try.func107, Try.ntmps107
    go_wp2
    go_ret
    exact ⟨rfl, HB.out⟩
set_option maxHeartbeats 1600000 in
theorem implPkOk_any (p : Nd) (w : World) (hf : p.Fits) :
    Calls Try.prog 53 #[.agg #[.int .i64 p.k, .int .i64 p.n, .int .i64 p.a, .int .i64 p.b]] w fun e w' => e = .returned (.bool (pkOk p)) ∧ Below w.heap.size w w' := by
  have hb0 : Below w.heap.size w (w.alloc (.cells #[.int .i64 p.k, .int .i64 p.n, .int .i64 p.a, .int .i64 p.b] 52)) := (Below.refl _ _).alloc (Nat.le_refl _) _
  have hA := heap_alloc_new w (.cells #[.int .i64 p.k, .int .i64 p.n, .int .i64 p.a, .int .i64 p.b] 52)
  have HB0 : Hid _ := hb0
  have hs : w.heap.size < (w.alloc (.cells #[.int .i64 p.k, .int .i64 p.n, .int .i64 p.a, .int .i64 p.b] 52)).heap.size := by simp
  have HS : Hid _ := hs
  have HK : Hid (pkOk p = (inB p.k 0 255 && (inB p.n 0 255 && (inB p.a 1 9 && inB p.b 0 999)))) := rfl
  obtain ⟨V, HV⟩ : ∃ V, Hid (pkOk p = V) := ⟨_, rfl⟩
  rw [HV.out]
  rw [HV.out] at HK
  have c0 : (w.alloc (.cells #[.int .i64 p.k, .int .i64 p.n, .int .i64 p.a, .int .i64 p.b] 52)).cell? ⟨w.heap.size, 0, none⟩ = some (.int .i64 p.k) := (cell_of_row _ _ 0 _ _ _ hA).trans rfl
  have HA : Hid _ := hA
  obtain ⟨d0, h0⟩ : ∃ d, inB p.k 0 255 = d := ⟨_, rfl⟩
  have HC0 : Hid (∀ wz, Calls Try.prog 89 #[.int .i64 p.k] wz fun e w' => e = .returned (.bool d0) ∧ Below wz.heap.size wz w') := fun wz => by have := isAddr_any p.k wz; rw [h0] at this; exact this
  rw [h0] at HK
  clear h0 hb0 hA hs hf HV
  go_enter Try.func53, Try.ntmps53
  go_wp2_with fail
  refine Calls.mono (HC0.out _) ?_
  rintro e w1 ⟨rfl, hb1⟩
  have HB1 : Hid (Below w.heap.size w w1) := HB0.out.trans (hb1.mono HB0.out.size)
  have hA1 := (hb1.block _ HS.out).trans HA.out
  have hs1 : w.heap.size < w1.heap.size := (Array.getElem?_eq_some_iff.1 hA1).1
  clear hb1 HC0 HB0 HA HS c0
  cases d0 with
  | false =>
    have HE : Hid (V = false) := HK.out
    clear HK hA1
    go_wp2
    go_ret
    exact ⟨by rw [HE.out]; rfl, HB1.out⟩
  | true =>
    have c1 : w1.cell? ⟨w.heap.size, 1, none⟩ = some (.int .i64 p.n) := (cell_of_row _ _ 1 _ _ _ hA1).trans rfl
    obtain ⟨d1, h1⟩ : ∃ d, inB p.n 0 255 = d := ⟨_, rfl⟩
    have HC1 : Hid (∀ wz, Calls Try.prog 89 #[.int .i64 p.n] wz fun e w' => e = .returned (.bool d1) ∧ Below wz.heap.size wz w') := fun wz => by have := isAddr_any p.n wz; rw [h1] at this; exact this
    rw [h1] at HK
    clear h1
    go_wp2_with fail
    refine Calls.mono (HC1.out _) ?_
    rintro e w2 ⟨rfl, hb2⟩
    have HB2 : Hid (Below w.heap.size w w2) := HB1.out.trans (hb2.mono HB1.out.size)
    have hA2 := (hb2.block _ hs1).trans hA1
    clear hb2 HC1 HB1 hA1 c1 hs1
    cases d1 with
    | false =>
      have HE : Hid (V = false) := HK.out
      clear HK hA2
      go_wp2
      go_ret
      exact ⟨by rw [HE.out]; rfl, HB2.out⟩
    | true =>
      have c2 : w2.cell? ⟨w.heap.size, 2, none⟩ = some (.int .i64 p.a) := (cell_of_row _ _ 2 _ _ _ hA2).trans rfl
      have c3 : w2.cell? ⟨w.heap.size, 3, none⟩ = some (.int .i64 p.b) := (cell_of_row _ _ 3 _ _ _ hA2).trans rfl
      have HK2 : Hid (V = ((decide (1 ≤ p.a) && decide (p.a ≤ 9)) && (decide (0 ≤ p.b) && decide (p.b ≤ 999)))) := HK.out
      clear HK hA2
      by_cases e0 : 1 ≤ p.a
      · by_cases e1 : p.a ≤ 9
        · by_cases e2 : 0 ≤ p.b
          · by_cases e3 : p.b ≤ 999
            · have HE : Hid (V = true) := by show _ = _; rw [HK2.out]; simp [e0, e1, e2, e3]
              clear HK2
              go_wp2
              go_ret
              exact ⟨by rw [HE.out]; rfl, HB2.out⟩
            · have HE : Hid (V = false) := by show _ = _; rw [HK2.out]; simp [e3]
              have e3' : decide (p.b ≤ 999) = false := decide_eq_false e3
              clear HK2 e3
              go_wp2
              go_ret
              exact ⟨by rw [HE.out]; rfl, HB2.out⟩
          · have HE : Hid (V = false) := by show _ = _; rw [HK2.out]; simp [e2]
            have e2' : decide (0 ≤ p.b) = false := decide_eq_false e2
            clear HK2 e2
            go_wp2
            go_ret
            exact ⟨by rw [HE.out]; rfl, HB2.out⟩
        · have HE : Hid (V = false) := by show _ = _; rw [HK2.out]; simp [e1]
          have e1' : decide (p.a ≤ 9) = false := decide_eq_false e1
          clear HK2 e1
          go_wp2
          go_ret
          exact ⟨by rw [HE.out]; rfl, HB2.out⟩
      · have HE : Hid (V = false) := by show _ = _; rw [HK2.out]; simp [e0]
        have e0' : decide (1 ≤ p.a) = false := decide_eq_false e0
        clear HK2 e0
        go_wp2
        go_ret
        exact ⟨by rw [HE.out]; rfl, HB2.out⟩
theorem fit_net {n b d : Int} (hb : inB b 0 8 = true) (hd : inB d 0 255 = true) (h : d / 2 ^ (8 - b).toNat = n / 2 ^ (8 - b).toNat) : inB n 0 255 = true := by
  unfold inB at hb hd ⊢
  simp at hb hd ⊢
  rcases (show b = 0 ∨ b = 1 ∨ b = 2 ∨ b = 3 ∨ b = 4 ∨ b = 5 ∨ b = 6 ∨ b = 7 ∨ b = 8 by omega) with rfl | rfl | rfl | rfl | rfl | rfl | rfl | rfl | rfl <;> simp at h <;> omega
theorem fit_is (r : Rt) (d : Int) (h0 : inB r.b 0 8 = true) (h1 : inB d 0 255 = true) : fitB r d = (d / 2 ^ (8 - r.b).toNat == r.n / 2 ^ (8 - r.b).toNat) := by
  unfold fitB
  rw [h0, h1]
  simp only [Bool.true_and]
  rw [Bool.eq_iff_iff]
  simp only [Bool.and_eq_true, decide_eq_true_eq, beq_iff_eq]
  exact ⟨fun h => h.2, fun h => ⟨fit_net h0 h1 h, h⟩⟩
set_option maxHeartbeats 1600000 in
set_option maxRecDepth 20000 in
theorem implFits_any (r : Rt) (d : Int) (w : World) (hf : r.Fits) (h1 : (Lit.int .i64 d).wf = true) :
    Calls Try.prog 39 #[.agg #[.int .i64 r.n, .int .i64 r.b, .int .i64 r.t], .int .i64 d] w fun e w' => e = .returned (.bool (fitB r d)) ∧ Below w.heap.size w w' := by
  have HB0 : Hid (Below w.heap.size w (w.alloc (.cells #[.int .i64 r.n, .int .i64 r.b, .int .i64 r.t] 44))) := (Below.refl _ _).alloc (Nat.le_refl _) _
  have hA := heap_alloc_new w (.cells #[.int .i64 r.n, .int .i64 r.b, .int .i64 r.t] 44)
  have hs : w.heap.size < (w.alloc (.cells #[.int .i64 r.n, .int .i64 r.b, .int .i64 r.t] 44)).heap.size := by simp
  obtain ⟨F, HF⟩ : ∃ F, Hid (fitB r d = F) := ⟨_, rfl⟩
  rw [HF.out]
  clear hf h1
  obtain ⟨d0, h0⟩ : ∃ d, inB r.b 0 8 = d := ⟨_, rfl⟩
  obtain ⟨d1, h1⟩ : ∃ q, inB d 0 255 = q := ⟨_, rfl⟩
  have HH : Hid (∀ wz, Calls Try.prog 88 #[.agg #[.int .i64 r.n, .int .i64 r.b, .int .i64 r.t]] wz fun e w' => e = .returned (.bool d0) ∧ Below wz.heap.size wz w') := fun wz => by have := hasBits_any r wz; rw [h0] at this; exact this
  have HD : Hid (∀ wz, Calls Try.prog 89 #[.int .i64 d] wz fun e w' => e = .returned (.bool d1) ∧ Below wz.heap.size wz w') := fun wz => by have := isAddr_any d wz; rw [h1] at this; exact this
  cases d0 with
  | false =>
    have HV : Hid (F = false) := by show _ = _; rw [← HF.out]; unfold fitB; rw [h0]; rfl
    clear h0 h1 HF HD
    go_enter Try.func39, Try.ntmps39
    go_wp2_with fail
    generalize w.alloc (.cells #[.int .i64 r.n, .int .i64 r.b, .int .i64 r.t] 44) = w1 at HB0 hs hA ⊢
    obtain ⟨S, hS0, hNE, HK⟩ := below_classB (Below.refl w1.heap.size w1) (Nat.le_refl _)
    have c0 : ∀ s : Hw S, s.w.cell? ⟨w.heap.size, 0, none⟩ = some (.int .i64 r.n) := fun s => ((HK.out.2 _ s.ok).cell (p := ⟨w.heap.size, 0, none⟩) hs).trans ((cell_of_row w1 _ 0 _ _ _ hA).trans rfl)
    have c1 : ∀ s : Hw S, s.w.cell? ⟨w.heap.size, 1, none⟩ = some (.int .i64 r.b) := fun s => ((HK.out.2 _ s.ok).cell (p := ⟨w.heap.size, 1, none⟩) hs).trans ((cell_of_row w1 _ 1 _ _ _ hA).trans rfl)
    have c2 : ∀ s : Hw S, s.w.cell? ⟨w.heap.size, 2, none⟩ = some (.int .i64 r.t) := fun s => ((HK.out.2 _ s.ok).cell (p := ⟨w.heap.size, 2, none⟩) hs).trans ((cell_of_row w1 _ 2 _ _ _ hA).trans rfl)
    clear hA hs
    refine wp_region_held (S := S) (by kernel_rfl) (by kernel_rfl) hS0 ?_
    try simp only [List.append_eq, List.cons_append, List.nil_append]
    repeat (go_big_quiet_step (first | (go_at_call 88; with_reducible exact Calls.held (HH.out _) (HK.out.1 _))))
    refine wpQuiet_nil ?_
    rintro _ ⟨sw, rfl⟩
    have HE2 : Hid (Below w.heap.size w sw.w) := HB0.out.trans ((HK.out.2 _ sw.ok).mono HB0.out.size)
    clear HK c0 c1 c2 hS0 hNE
    go_wp2
    go_ret
    exact ⟨by rw [HV.out]; rfl, HE2.out⟩
  | true =>
    cases d1 with
    | false =>
      have HV : Hid (F = false) := by show _ = _; rw [← HF.out]; unfold fitB; rw [h0, h1]; rfl
      clear h0 h1 HF
      go_enter Try.func39, Try.ntmps39
      go_wp2_with fail
      generalize w.alloc (.cells #[.int .i64 r.n, .int .i64 r.b, .int .i64 r.t] 44) = w1 at HB0 hs hA ⊢
      obtain ⟨S, hS0, hNE, HK⟩ := below_classB (Below.refl w1.heap.size w1) (Nat.le_refl _)
      have c0 : ∀ s : Hw S, s.w.cell? ⟨w.heap.size, 0, none⟩ = some (.int .i64 r.n) := fun s => ((HK.out.2 _ s.ok).cell (p := ⟨w.heap.size, 0, none⟩) hs).trans ((cell_of_row w1 _ 0 _ _ _ hA).trans rfl)
      have c1 : ∀ s : Hw S, s.w.cell? ⟨w.heap.size, 1, none⟩ = some (.int .i64 r.b) := fun s => ((HK.out.2 _ s.ok).cell (p := ⟨w.heap.size, 1, none⟩) hs).trans ((cell_of_row w1 _ 1 _ _ _ hA).trans rfl)
      have c2 : ∀ s : Hw S, s.w.cell? ⟨w.heap.size, 2, none⟩ = some (.int .i64 r.t) := fun s => ((HK.out.2 _ s.ok).cell (p := ⟨w.heap.size, 2, none⟩) hs).trans ((cell_of_row w1 _ 2 _ _ _ hA).trans rfl)
      clear hA hs
      refine wp_region_held (S := S) (by kernel_rfl) (by kernel_rfl) hS0 ?_
      try simp only [List.append_eq, List.cons_append, List.nil_append]
      repeat (go_big_quiet_step (first | (go_at_call 88; with_reducible exact Calls.held (HH.out _) (HK.out.1 _)) | (go_at_call 89; with_reducible exact Calls.held (HD.out _) (HK.out.1 _))))
      refine wpQuiet_nil ?_
      rintro _ ⟨sw, rfl⟩
      have HE2 : Hid (Below w.heap.size w sw.w) := HB0.out.trans ((HK.out.2 _ sw.ok).mono HB0.out.size)
      clear HK c0 c1 c2 hS0 hNE
      go_wp2
      go_ret
      exact ⟨by rw [HV.out]; rfl, HE2.out⟩
    | true =>
      have HFB : Hid (∀ wz, Calls Try.prog 90 #[.agg #[.int .i64 r.n, .int .i64 r.b, .int .i64 r.t]] wz fun e w' => e = .returned (.int .i64 (8 - r.b)) ∧ Below wz.heap.size wz w') := fun wz => freeBits_any r wz h0
      have H0 := h0
      unfold inB at H0
      simp at H0
      have hb8 : (0 : Int) ≤ 8 - r.b := by omega
      have HV : Hid (F = (d / 2 ^ (8 - r.b).toNat == r.n / 2 ^ (8 - r.b).toNat)) := by show _ = _; rw [← HF.out]; exact fit_is r d h0 h1
      clear h0 h1 HF
      go_enter Try.func39, Try.ntmps39
      go_wp2_with fail
      generalize w.alloc (.cells #[.int .i64 r.n, .int .i64 r.b, .int .i64 r.t] 44) = w1 at HB0 hs hA ⊢
      obtain ⟨S, hS0, hNE, HK⟩ := below_classB (Below.refl w1.heap.size w1) (Nat.le_refl _)
      have c0 : ∀ s : Hw S, s.w.cell? ⟨w.heap.size, 0, none⟩ = some (.int .i64 r.n) := fun s => ((HK.out.2 _ s.ok).cell (p := ⟨w.heap.size, 0, none⟩) hs).trans ((cell_of_row w1 _ 0 _ _ _ hA).trans rfl)
      have c1 : ∀ s : Hw S, s.w.cell? ⟨w.heap.size, 1, none⟩ = some (.int .i64 r.b) := fun s => ((HK.out.2 _ s.ok).cell (p := ⟨w.heap.size, 1, none⟩) hs).trans ((cell_of_row w1 _ 1 _ _ _ hA).trans rfl)
      have c2 : ∀ s : Hw S, s.w.cell? ⟨w.heap.size, 2, none⟩ = some (.int .i64 r.t) := fun s => ((HK.out.2 _ s.ok).cell (p := ⟨w.heap.size, 2, none⟩) hs).trans ((cell_of_row w1 _ 2 _ _ _ hA).trans rfl)
      clear hA hs
      refine wp_region_held (S := S) (by kernel_rfl) (by kernel_rfl) hS0 ?_
      try simp only [List.append_eq, List.cons_append, List.nil_append]
      repeat (go_big_quiet_step (first | (go_at_call 88; with_reducible exact Calls.held (HH.out _) (HK.out.1 _)) | (go_at_call 89; with_reducible exact Calls.held (HD.out _) (HK.out.1 _)) | (go_at_call 90; with_reducible exact Calls.held (HFB.out _) (HK.out.1 _))))
      refine wpQuiet_nil ?_
      rintro _ ⟨sw, rfl⟩
      have HE2 : Hid (Below w.heap.size w sw.w) := HB0.out.trans ((HK.out.2 _ sw.ok).mono HB0.out.size)
      clear HK c0 c1 c2 hS0 hNE
      go_wp2
      go_ret
      exact ⟨by rw [HV.out]; rfl, HE2.out⟩
set_option maxHeartbeats 3200000 in
set_option maxRecDepth 20000 in
theorem isRight_any (r : Rt) (w : World) :
    Calls Try.prog 105 #[.agg #[.int .i64 r.n, .int .i64 r.b, .int .i64 r.t]] w fun e w' => e = .returned (.bool (rtA r)) ∧ Below w.heap.size w w' := by
  have HB0 : Hid (Below w.heap.size w (w.alloc (.cells #[.int .i64 r.n, .int .i64 r.b, .int .i64 r.t] 44))) := (Below.refl _ _).alloc (Nat.le_refl _) _
  have hA := heap_alloc_new w (.cells #[.int .i64 r.n, .int .i64 r.b, .int .i64 r.t] 44)
  have hs : w.heap.size < (w.alloc (.cells #[.int .i64 r.n, .int .i64 r.b, .int .i64 r.t] 44)).heap.size := by simp
  obtain ⟨F, HF⟩ : ∃ F, Hid (rtA r = F) := ⟨_, rfl⟩
  rw [HF.out]
  obtain ⟨d0, h0⟩ : ∃ d, inB r.b 0 8 = d := ⟨_, rfl⟩
  obtain ⟨d1, h1⟩ : ∃ q, inB r.n 0 255 = q := ⟨_, rfl⟩
  have HH : Hid (∀ wz, Calls Try.prog 88 #[.agg #[.int .i64 r.n, .int .i64 r.b, .int .i64 r.t]] wz fun e w' => e = .returned (.bool d0) ∧ Below wz.heap.size wz w') := fun wz => by have := hasBits_any r wz; rw [h0] at this; exact this
  have HD : Hid (∀ wz, Calls Try.prog 89 #[.int .i64 r.n] wz fun e w' => e = .returned (.bool d1) ∧ Below wz.heap.size wz w') := fun wz => by have := isAddr_any r.n wz; rw [h1] at this; exact this
  cases d0 with
  | false =>
    have HV : Hid (F = false) := by show _ = _; rw [← HF.out]; unfold rtA; rw [h0]; rfl
    clear h0 h1 HF HD
    go_enter Try.func105, Try.ntmps105
    go_wp2_with fail
    generalize w.alloc (.cells #[.int .i64 r.n, .int .i64 r.b, .int .i64 r.t] 44) = w1 at HB0 hs hA ⊢
    obtain ⟨S, hS0, hNE, HK⟩ := below_classB (Below.refl w1.heap.size w1) (Nat.le_refl _)
    have c0 : ∀ s : Hw S, s.w.cell? ⟨w.heap.size, 0, none⟩ = some (.int .i64 r.n) := fun s => ((HK.out.2 _ s.ok).cell (p := ⟨w.heap.size, 0, none⟩) hs).trans ((cell_of_row w1 _ 0 _ _ _ hA).trans rfl)
    have c1 : ∀ s : Hw S, s.w.cell? ⟨w.heap.size, 1, none⟩ = some (.int .i64 r.b) := fun s => ((HK.out.2 _ s.ok).cell (p := ⟨w.heap.size, 1, none⟩) hs).trans ((cell_of_row w1 _ 1 _ _ _ hA).trans rfl)
    have c2 : ∀ s : Hw S, s.w.cell? ⟨w.heap.size, 2, none⟩ = some (.int .i64 r.t) := fun s => ((HK.out.2 _ s.ok).cell (p := ⟨w.heap.size, 2, none⟩) hs).trans ((cell_of_row w1 _ 2 _ _ _ hA).trans rfl)
    clear hA hs
    refine wp_region_held (S := S) (by kernel_rfl) (by kernel_rfl) hS0 ?_
    try simp only [List.append_eq, List.cons_append, List.nil_append]
    repeat (go_big_quiet_step (first | (go_at_call 88; with_reducible exact Calls.held (HH.out _) (HK.out.1 _))))
    refine wpQuiet_nil ?_
    rintro _ ⟨sw, rfl⟩
    have HE2 : Hid (Below w.heap.size w sw.w) := HB0.out.trans ((HK.out.2 _ sw.ok).mono HB0.out.size)
    clear HK c0 c1 c2 hS0 hNE
    go_wp2
    go_ret
    exact ⟨by rw [HV.out]; rfl, HE2.out⟩
  | true =>
    cases d1 with
    | false =>
      have HV : Hid (F = false) := by show _ = _; rw [← HF.out]; unfold rtA; rw [h0, h1]; rfl
      clear h0 h1 HF
      go_enter Try.func105, Try.ntmps105
      go_wp2_with fail
      generalize w.alloc (.cells #[.int .i64 r.n, .int .i64 r.b, .int .i64 r.t] 44) = w1 at HB0 hs hA ⊢
      obtain ⟨S, hS0, hNE, HK⟩ := below_classB (Below.refl w1.heap.size w1) (Nat.le_refl _)
      have c0 : ∀ s : Hw S, s.w.cell? ⟨w.heap.size, 0, none⟩ = some (.int .i64 r.n) := fun s => ((HK.out.2 _ s.ok).cell (p := ⟨w.heap.size, 0, none⟩) hs).trans ((cell_of_row w1 _ 0 _ _ _ hA).trans rfl)
      have c1 : ∀ s : Hw S, s.w.cell? ⟨w.heap.size, 1, none⟩ = some (.int .i64 r.b) := fun s => ((HK.out.2 _ s.ok).cell (p := ⟨w.heap.size, 1, none⟩) hs).trans ((cell_of_row w1 _ 1 _ _ _ hA).trans rfl)
      have c2 : ∀ s : Hw S, s.w.cell? ⟨w.heap.size, 2, none⟩ = some (.int .i64 r.t) := fun s => ((HK.out.2 _ s.ok).cell (p := ⟨w.heap.size, 2, none⟩) hs).trans ((cell_of_row w1 _ 2 _ _ _ hA).trans rfl)
      clear hA hs
      refine wp_region_held (S := S) (by kernel_rfl) (by kernel_rfl) hS0 ?_
      try simp only [List.append_eq, List.cons_append, List.nil_append]
      repeat (go_big_quiet_step (first | (go_at_call 88; with_reducible exact Calls.held (HH.out _) (HK.out.1 _)) | (go_at_call 89; with_reducible exact Calls.held (HD.out _) (HK.out.1 _))))
      refine wpQuiet_nil ?_
      rintro _ ⟨sw, rfl⟩
      have HE2 : Hid (Below w.heap.size w sw.w) := HB0.out.trans ((HK.out.2 _ sw.ok).mono HB0.out.size)
      clear HK c0 c1 c2 hS0 hNE
      go_wp2
      go_ret
      exact ⟨by rw [HV.out]; rfl, HE2.out⟩
    | true =>
      have HFB : Hid (∀ wz, Calls Try.prog 90 #[.agg #[.int .i64 r.n, .int .i64 r.b, .int .i64 r.t]] wz fun e w' => e = .returned (.int .i64 (8 - r.b)) ∧ Below wz.heap.size wz w') := fun wz => freeBits_any r wz h0
      have H0 := h0
      unfold inB at H0
      simp at H0
      have H1 := h1
      unfold inB at H1
      simp at H1
      have hb8 : (0 : Int) ≤ 8 - r.b := by omega
      have hwp := wrap_pow (n := (8 - r.b).toNat) (by omega)
      have hwq : wrap64 (2 ^ (8 - r.b).toNat) = 2 ^ shB r := hwp.1
      have hwn : ¬ (2 : Int) ^ shB r = 0 := hwp.2
      clear hwp
      have HRT : Hid (F = (decide (0 ≤ r.t) && decide (r.t ≤ 9) && decide (r.n % 2 ^ shB r = 0))) := by show _ = _; rw [← HF.out]; unfold rtA; rw [h0, h1]; rfl
      clear h0 h1 HF
      by_cases h3 : r.n % 2 ^ shB r = 0
      · have h3' : (r.n % 2 ^ shB r == 0) = true := by simp [h3]
        by_cases h4 : 0 ≤ r.t
        · by_cases h5 : r.t ≤ 9
          · skip
            have HV : Hid (F = true) := by show _ = _; rw [HRT.out, decide_eq_true h3, decide_eq_true h4, decide_eq_true h5]; rfl
            clear h3 HRT
            go_enter Try.func105, Try.ntmps105
            go_wp2_with fail
            generalize w.alloc (.cells #[.int .i64 r.n, .int .i64 r.b, .int .i64 r.t] 44) = w1 at HB0 hs hA ⊢
            obtain ⟨S, hS0, hNE, HK⟩ := below_classB (Below.refl w1.heap.size w1) (Nat.le_refl _)
            have c0 : ∀ s : Hw S, s.w.cell? ⟨w.heap.size, 0, none⟩ = some (.int .i64 r.n) := fun s => ((HK.out.2 _ s.ok).cell (p := ⟨w.heap.size, 0, none⟩) hs).trans ((cell_of_row w1 _ 0 _ _ _ hA).trans rfl)
            have c1 : ∀ s : Hw S, s.w.cell? ⟨w.heap.size, 1, none⟩ = some (.int .i64 r.b) := fun s => ((HK.out.2 _ s.ok).cell (p := ⟨w.heap.size, 1, none⟩) hs).trans ((cell_of_row w1 _ 1 _ _ _ hA).trans rfl)
            have c2 : ∀ s : Hw S, s.w.cell? ⟨w.heap.size, 2, none⟩ = some (.int .i64 r.t) := fun s => ((HK.out.2 _ s.ok).cell (p := ⟨w.heap.size, 2, none⟩) hs).trans ((cell_of_row w1 _ 2 _ _ _ hA).trans rfl)
            clear hA hs
            refine wp_region_held (S := S) (by kernel_rfl) (by kernel_rfl) hS0 ?_
            try simp only [List.append_eq, List.cons_append, List.nil_append]
            repeat (go_big_quiet_step (first | (go_at_call 88; with_reducible exact Calls.held (HH.out _) (HK.out.1 _)) | (go_at_call 89; with_reducible exact Calls.held (HD.out _) (HK.out.1 _)) | (go_at_call 90; with_reducible exact Calls.held (HFB.out _) (HK.out.1 _))))
            refine wpQuiet_nil ?_
            rintro _ ⟨sw, rfl⟩
            have HE2 : Hid (Below w.heap.size w sw.w) := HB0.out.trans ((HK.out.2 _ sw.ok).mono HB0.out.size)
            clear HK c0 c1 c2 hS0 hNE
            go_wp2
            go_ret
            exact ⟨by rw [HV.out]; rfl, HE2.out⟩
          · skip
            have HV : Hid (F = false) := by show _ = _; rw [HRT.out, decide_eq_false h5]; simp
            have h5' : decide (r.t ≤ 9) = false := decide_eq_false h5
            clear h3 HRT h5
            go_enter Try.func105, Try.ntmps105
            go_wp2_with fail
            generalize w.alloc (.cells #[.int .i64 r.n, .int .i64 r.b, .int .i64 r.t] 44) = w1 at HB0 hs hA ⊢
            obtain ⟨S, hS0, hNE, HK⟩ := below_classB (Below.refl w1.heap.size w1) (Nat.le_refl _)
            have c0 : ∀ s : Hw S, s.w.cell? ⟨w.heap.size, 0, none⟩ = some (.int .i64 r.n) := fun s => ((HK.out.2 _ s.ok).cell (p := ⟨w.heap.size, 0, none⟩) hs).trans ((cell_of_row w1 _ 0 _ _ _ hA).trans rfl)
            have c1 : ∀ s : Hw S, s.w.cell? ⟨w.heap.size, 1, none⟩ = some (.int .i64 r.b) := fun s => ((HK.out.2 _ s.ok).cell (p := ⟨w.heap.size, 1, none⟩) hs).trans ((cell_of_row w1 _ 1 _ _ _ hA).trans rfl)
            have c2 : ∀ s : Hw S, s.w.cell? ⟨w.heap.size, 2, none⟩ = some (.int .i64 r.t) := fun s => ((HK.out.2 _ s.ok).cell (p := ⟨w.heap.size, 2, none⟩) hs).trans ((cell_of_row w1 _ 2 _ _ _ hA).trans rfl)
            clear hA hs
            refine wp_region_held (S := S) (by kernel_rfl) (by kernel_rfl) hS0 ?_
            try simp only [List.append_eq, List.cons_append, List.nil_append]
            repeat (go_big_quiet_step (first | (go_at_call 88; with_reducible exact Calls.held (HH.out _) (HK.out.1 _)) | (go_at_call 89; with_reducible exact Calls.held (HD.out _) (HK.out.1 _)) | (go_at_call 90; with_reducible exact Calls.held (HFB.out _) (HK.out.1 _))))
            refine wpQuiet_nil ?_
            rintro _ ⟨sw, rfl⟩
            have HE2 : Hid (Below w.heap.size w sw.w) := HB0.out.trans ((HK.out.2 _ sw.ok).mono HB0.out.size)
            clear HK c0 c1 c2 hS0 hNE
            go_wp2
            go_ret
            exact ⟨by rw [HV.out]; rfl, HE2.out⟩
        · skip
          have HV : Hid (F = false) := by show _ = _; rw [HRT.out, decide_eq_false h4]; simp
          have h4' : decide (0 ≤ r.t) = false := decide_eq_false h4
          clear h3 HRT h4
          go_enter Try.func105, Try.ntmps105
          go_wp2_with fail
          generalize w.alloc (.cells #[.int .i64 r.n, .int .i64 r.b, .int .i64 r.t] 44) = w1 at HB0 hs hA ⊢
          obtain ⟨S, hS0, hNE, HK⟩ := below_classB (Below.refl w1.heap.size w1) (Nat.le_refl _)
          have c0 : ∀ s : Hw S, s.w.cell? ⟨w.heap.size, 0, none⟩ = some (.int .i64 r.n) := fun s => ((HK.out.2 _ s.ok).cell (p := ⟨w.heap.size, 0, none⟩) hs).trans ((cell_of_row w1 _ 0 _ _ _ hA).trans rfl)
          have c1 : ∀ s : Hw S, s.w.cell? ⟨w.heap.size, 1, none⟩ = some (.int .i64 r.b) := fun s => ((HK.out.2 _ s.ok).cell (p := ⟨w.heap.size, 1, none⟩) hs).trans ((cell_of_row w1 _ 1 _ _ _ hA).trans rfl)
          have c2 : ∀ s : Hw S, s.w.cell? ⟨w.heap.size, 2, none⟩ = some (.int .i64 r.t) := fun s => ((HK.out.2 _ s.ok).cell (p := ⟨w.heap.size, 2, none⟩) hs).trans ((cell_of_row w1 _ 2 _ _ _ hA).trans rfl)
          clear hA hs
          refine wp_region_held (S := S) (by kernel_rfl) (by kernel_rfl) hS0 ?_
          try simp only [List.append_eq, List.cons_append, List.nil_append]
          repeat (go_big_quiet_step (first | (go_at_call 88; with_reducible exact Calls.held (HH.out _) (HK.out.1 _)) | (go_at_call 89; with_reducible exact Calls.held (HD.out _) (HK.out.1 _)) | (go_at_call 90; with_reducible exact Calls.held (HFB.out _) (HK.out.1 _))))
          refine wpQuiet_nil ?_
          rintro _ ⟨sw, rfl⟩
          have HE2 : Hid (Below w.heap.size w sw.w) := HB0.out.trans ((HK.out.2 _ sw.ok).mono HB0.out.size)
          clear HK c0 c1 c2 hS0 hNE
          go_wp2
          go_ret
          exact ⟨by rw [HV.out]; rfl, HE2.out⟩
      · have h3' : (r.n % 2 ^ shB r == 0) = false := by simp [h3]
        have HV : Hid (F = false) := by show _ = _; rw [HRT.out, decide_eq_false h3]; simp
        clear h3 HRT
        go_enter Try.func105, Try.ntmps105
        go_wp2_with fail
        generalize w.alloc (.cells #[.int .i64 r.n, .int .i64 r.b, .int .i64 r.t] 44) = w1 at HB0 hs hA ⊢
        obtain ⟨S, hS0, hNE, HK⟩ := below_classB (Below.refl w1.heap.size w1) (Nat.le_refl _)
        have c0 : ∀ s : Hw S, s.w.cell? ⟨w.heap.size, 0, none⟩ = some (.int .i64 r.n) := fun s => ((HK.out.2 _ s.ok).cell (p := ⟨w.heap.size, 0, none⟩) hs).trans ((cell_of_row w1 _ 0 _ _ _ hA).trans rfl)
        have c1 : ∀ s : Hw S, s.w.cell? ⟨w.heap.size, 1, none⟩ = some (.int .i64 r.b) := fun s => ((HK.out.2 _ s.ok).cell (p := ⟨w.heap.size, 1, none⟩) hs).trans ((cell_of_row w1 _ 1 _ _ _ hA).trans rfl)
        have c2 : ∀ s : Hw S, s.w.cell? ⟨w.heap.size, 2, none⟩ = some (.int .i64 r.t) := fun s => ((HK.out.2 _ s.ok).cell (p := ⟨w.heap.size, 2, none⟩) hs).trans ((cell_of_row w1 _ 2 _ _ _ hA).trans rfl)
        clear hA hs
        refine wp_region_held (S := S) (by kernel_rfl) (by kernel_rfl) hS0 ?_
        try simp only [List.append_eq, List.cons_append, List.nil_append]
        repeat (go_big_quiet_step (first | (go_at_call 88; with_reducible exact Calls.held (HH.out _) (HK.out.1 _)) | (go_at_call 89; with_reducible exact Calls.held (HD.out _) (HK.out.1 _)) | (go_at_call 90; with_reducible exact Calls.held (HFB.out _) (HK.out.1 _))))
        refine wpQuiet_nil ?_
        rintro _ ⟨sw, rfl⟩
        have HE2 : Hid (Below w.heap.size w sw.w) := HB0.out.trans ((HK.out.2 _ sw.ok).mono HB0.out.size)
        clear HK c0 c1 c2 hS0 hNE
        go_wp2
        go_ret
        exact ⟨by rw [HV.out]; rfl, HE2.out⟩
end Go.Proofs.Ytclnhjkmhemebaa
