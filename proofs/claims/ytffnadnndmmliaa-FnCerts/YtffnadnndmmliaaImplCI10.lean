/- The program's CertIn (chapter 10): what stands at a place is read as a certificate. -/
import Derived.Test.YtffnadnndmmliaaLawClip
import Derived.Test.YtffnadnndmmliaaMakeParts
import Derived.Test.YtffnadnndmmliaaTold7
import Derived.Test.YtffnadnndmmliaaRegionH
import Derived.Deep.RegionWith
import Derived.ChangeOld
import Derived.Deep.DeepCutAuto
namespace Go.Proofs.Ytffnadnndmmliaa
open Go.RowKit
set_option linter.unusedVariables false
theorem isKey_wf {ns : List Nd} {x : Int} (hf : ∀ y ∈ ns, y.Fits) : (Lit.int .i64 (numV ns x)).wf = true := by
  have h : -9223372036854775808 ≤ numV ns x ∧ numV ns x ≤ 9223372036854775807 := by
    unfold numV
    split
    · rename_i h1
      obtain ⟨i, rfl, hi⟩ := okAt_in (isK_ok h1).1
      rw [ndAt_nat]
      have := hf _ (getD_mem ns i hi)
      unfold Nd.Fits at this
      omega
    · omega
  exact WalkArith.wf_i64 h
theorem node_cf {w : World} {g : Nat} {p q r s : Value} {T : TypeId} (h : w.heap[g]? = some (.cells #[p, q, r, s] T (0, 0))) :
    w.cell? ⟨g, 0, none⟩ = some p ∧ w.cell? ⟨g, 1, none⟩ = some q ∧ w.cell? ⟨g, 2, none⟩ = some r ∧ w.cell? ⟨g, 3, none⟩ = some s ∧ w.frozen? ⟨g, 0, none⟩ = false ∧ w.frozen? ⟨g, 1, none⟩ = false ∧ w.frozen? ⟨g, 2, none⟩ = false ∧ w.frozen? ⟨g, 3, none⟩ = false :=
  ⟨(cell_of_row _ _ 0 _ _ _ h).trans rfl, (cell_of_row _ _ 1 _ _ _ h).trans rfl, (cell_of_row _ _ 2 _ _ _ h).trans rfl, (cell_of_row _ _ 3 _ _ _ h).trans rfl, frozen_of_row _ _ 0 _ _ h, frozen_of_row _ _ 1 _ _ h, frozen_of_row _ _ 2 _ _ h, frozen_of_row _ _ 3 _ _ h⟩
set_option maxHeartbeats 3200000 in
set_option maxRecDepth 20000 in
theorem certAt_any (a : Option Addr) (cap : Nat) (ns : List Nd) (k : Int) (w : World) (hl : ns.length ≤ 1048576) (hf : ∀ y ∈ ns, y.Fits) (hr : RowN w.heap.size w a ns) :
    Calls Try.prog 133 #[.agg #[.slice a ns.length cap], .int .i64 k] w fun e w' => ∃ n p, e = .returned (.tuple #[.int .i64 n, .int .i64 p, .bool (crtB ns k)]) ∧ Hid ((crtB ns k = true → n = crtN ns k ∧ p = crtP ns k) ∧ Below w.heap.size w w') := by
  have hb0 : Below w.heap.size w (w.alloc (.cells #[.slice a ns.length cap] 28)) := (Below.refl _ _).alloc (Nat.le_refl _) _
  have hA0 := heap_alloc_new w (.cells #[.slice a ns.length cap] 28)
  have c0 : (w.alloc (.cells #[.slice a ns.length cap] 28)).cell? ⟨w.heap.size, 0, none⟩ = some (.slice a ns.length cap) := (cell_of_row _ _ 0 _ _ _ hA0).trans rfl
  have hs0 : (w.alloc (.cells #[.slice a ns.length cap] 28)).heap.size = w.heap.size + 1 := by simp
  have HR : Hid (RowN w.heap.size w a ns) := hr
  have HNI : Hid (∀ (x n : Int) (w' : World), RowN w'.heap.size w' a ns → Calls Try.prog 173 #[.agg #[.slice a ns.length cap], .int .i64 x, .int .i64 n] w' fun e w'' => e = .returned (.bool (numIs ns x n)) ∧ Below w'.heap.size w' w'') := fun x n w' h => isAtom_any a cap ns x n w' hl h
  have HN : Hid (∀ (x : Int) (w' : World), RowN w'.heap.size w' a ns → Calls Try.prog 175 #[.agg #[.slice a ns.length cap], .int .i64 x] w' fun e w'' => e = .returned (.tuple #[.int .i64 (numV ns x), .bool (isK ns x 1)]) ∧ Below w'.heap.size w' w'') := fun x w' h => implNum_any a cap ns x w' hl h
  have HAT : Hid (∀ (kd x : Int) (w' : World), RowN w'.heap.size w' a ns → Calls Try.prog 172 #[.int .i64 kd, .agg #[.slice a ns.length cap], .int .i64 x] w' fun e w'' => ∃ a0 a1 a2 a3, e = .returned (.tuple #[.agg #[.int .i64 a0, .int .i64 a1, .int .i64 a2, .int .i64 a3], .bool (isK ns x kd)]) ∧ Below w'.heap.size w' w'') := fun kd x w' h => by
    cases hk : isK ns x kd with
    | false =>
      refine (implAt_no kd a cap ns x w' hl h hk).mono ?_
      rintro e w2 ⟨rfl, hb⟩
      exact ⟨_, _, _, _, rfl, hb⟩
    | true =>
      refine (implAt_yes kd a cap ns x w' hl h hk).mono ?_
      rintro e w2 ⟨rfl, hb⟩
      exact ⟨_, _, _, _, rfl, hb⟩
  have HWF : Hid (∀ x, (Lit.int .i64 (numV ns x)).wf = true) := fun x => isKey_wf hf
  obtain ⟨G, HG, hG⟩ : ∃ G, Hid (G = crtB ns k) ∧ G = crtB ns k := ⟨_, rfl, rfl⟩
  rw [← hG]
  clear hG hf
  have HNO : Hid (∀ n p w', G = false → Below w.heap.size w w' → ((G = true → n = crtN ns k ∧ p = crtP ns k) ∧ Below w.heap.size w w')) := fun n p w' hz hb => ⟨fun h => absurd (hz.symm.trans h) (by decide), hb⟩
  cases h8 : isK ns k 8 with
  | false =>
    have H8 : Hid _ := implAt_no 8 a cap ns k _ hl (hr.grown hb0) h8
    have HB0 : Hid (Below w.heap.size w (w.alloc (.cells #[.slice a ns.length cap] 28))) := hb0
    have HZ : Hid (G = false) := by show _ = _; rw [HG.out]; unfold crtB; rw [h8]; rfl
    clear hr hA0 hb0 h8 HNI HN HG HAT
    go_enter Try.func133, Try.ntmps133
    go_wp2_with fail
    refine Calls.mono H8.out ?_
    rintro e w1 ⟨rfl, hb1⟩
    have HE : Hid (Below w.heap.size w (w1.alloc (.cells #[.int .i64 0, .int .i64 0, .int .i64 0, .int .i64 0] 45))) := (HB0.out.trans (hb1.mono (by omega))).alloc (by have := hb1.size; omega) _
    clear hb1 H8 c0 HB0
    go_wp2
    go_ret3
    exact ⟨0, -1, by rw [HZ.out]; rfl, HNO.out _ _ _ HZ.out HE.out⟩
  | true =>
    have H8 : Hid _ := implAt_yes 8 a cap ns k _ hl (hr.grown hb0) h8
    have HCX : Hid (G = (numIs ns (ndAt ns k).a 1000 && (partsB ns (ndAt ns k).b 3 && (numIs ns (p3 ns (ndAt ns k).b 0) 60 && (isK ns (p3 ns (ndAt ns k).b 2) 6 && (isK ns (p3 ns (ndAt ns k).b 1) 1 && inB (numV ns (p3 ns (ndAt ns k).b 1)) 0 9)))))) := by show _ = _; rw [HG.out]; unfold crtB; rw [h8]; rfl
    have HPP : Hid (G = true → numV ns (p3 ns (ndAt ns k).b 1) = crtN ns k ∧ p3 ns (ndAt ns k).b 2 = crtP ns k) := fun hz => by
      rw [HG.out] at hz
      refine ⟨?_, ?_⟩
      · unfold crtN; rw [hz]; rfl
      · unfold crtP; rw [hz]; rfl
    have HB0 : Hid (Below w.heap.size w (w.alloc (.cells #[.slice a ns.length cap] 28))) := hb0
    have HA0 : Hid _ := hA0
    generalize ndAt ns k = y at H8 HCX HPP
    obtain ⟨d1, HD1⟩ : ∃ d, Hid (numIs ns y.a 1000 = d) := ⟨_, rfl⟩
    clear hr hA0 hb0 h8 HG
    go_enter Try.func133, Try.ntmps133
    go_wp2_with fail
    refine Calls.mono H8.out ?_
    rintro e w1 ⟨rfl, hb1⟩
    obtain ⟨w2, hw2⟩ : ∃ w2, w1.alloc (.cells #[.int .i64 y.k, .int .i64 y.n, .int .i64 y.a, .int .i64 y.b] 45) = w2 := ⟨_, rfl⟩
    have hb12 : Below w1.heap.size w1 w2 := by rw [← hw2]; exact (Below.refl _ _).alloc (Nat.le_refl _) _
    have hN2 : w2.heap[w1.heap.size]? = some (.cells #[.int .i64 y.k, .int .i64 y.n, .int .i64 y.a, .int .i64 y.b] 45 (0, 0)) := by rw [← hw2]; exact heap_alloc_new w1 _
    have hs1 := hb1.size
    have HB2 : Hid (Below w.heap.size w w2) := (HB0.out.trans (hb1.mono (by omega))).trans (hb12.mono (by omega))
    have hA2 : w2.heap[w.heap.size]? = some (.cells #[.slice a ns.length cap] 28 (0, 0)) := (hb12.block _ (by omega)).trans ((hb1.block _ (by omega)).trans HA0.out)
    have k0 : w2.cell? ⟨w.heap.size, 0, none⟩ = some (.slice a ns.length cap) := (cell_of_row _ _ 0 _ _ _ hA2).trans rfl
    have k1 : w2.cell? ⟨w1.heap.size, 2, none⟩ = some (.int .i64 y.a) := (cell_of_row _ _ 2 _ _ _ hN2).trans rfl
    have HC1 : Hid (Calls Try.prog 173 #[.agg #[.slice a ns.length cap], .int .i64 y.a, .int .i64 1000] w2 fun e w'' => e = .returned (.bool d1) ∧ Below w2.heap.size w2 w'') := by have := HNI.out y.a 1000 w2 (HR.out.grown HB2.out); rw [HD1.out] at this; exact this
    have HP2 : Hid (w2.heap[w.heap.size]? = some (.cells #[.slice a ns.length cap] 28 (0, 0)) ∧ w2.heap[w1.heap.size]? = some (.cells #[.int .i64 y.k, .int .i64 y.n, .int .i64 y.a, .int .i64 y.b] 45 (0, 0))) := ⟨hA2, hN2⟩
    have hlt1 : w1.heap.size < w2.heap.size := (Array.getElem?_eq_some_iff.1 hN2).1
    have hlt0 : w.heap.size < w2.heap.size := by omega
    clear hb1 hb12 H8 c0 HB0 HA0 hA2 hN2 hs1 hs0
    go_wp2_with fail
    clear hw2
    refine Calls.mono HC1.out ?_
    rintro e w3 ⟨rfl, hb3⟩
    have HB3 : Hid (Below w.heap.size w w3) := HB2.out.trans (hb3.mono HB2.out.size)
    have hA3 := (hb3.block _ hlt0).trans HP2.out.1
    have hN3 := (hb3.block _ hlt1).trans HP2.out.2
    have hs3 := hb3.size
    clear hb3 HC1 k0 k1 HB2 HP2
    cases d1
    · have HZ : Hid (G = false) := by show _ = _; rw [HCX.out, HD1.out]; rfl
      clear hA3 hN3
      go_wp2
      go_ret3
      exact ⟨0, -1, by rw [HZ.out]; rfl, HNO.out _ _ _ HZ.out HB3.out⟩
    · have k0 : w3.cell? ⟨w.heap.size, 0, none⟩ = some (.slice a ns.length cap) := (cell_of_row _ _ 0 _ _ _ hA3).trans rfl
      have k1 : w3.cell? ⟨w1.heap.size, 3, none⟩ = some (.int .i64 y.b) := (cell_of_row _ _ 3 _ _ _ hN3).trans rfl
      obtain ⟨z, HZB⟩ : ∃ z, Hid (y.b = z) := ⟨_, rfl⟩
      rw [HZB.out] at k1 HCX HPP
      have HPA : Hid _ := implParts_any a cap ns z 3 w3 hl (HR.out.grown HB3.out)
      clear hN3
      go_wp2_with fail
      refine Calls.mono HPA.out ?_
      rintro e w4 ⟨v, rfl, hown, hb4⟩
      have HB4 : Hid (Below w.heap.size w w4) := HB3.out.trans (hb4.mono HB3.out.size)
      have hA4 := (hb4.block _ (by omega)).trans hA3
      have c4 : w4.cell? ⟨w.heap.size, 0, none⟩ = some (.slice a ns.length cap) := (cell_of_row _ _ 0 _ _ _ hA4).trans rfl
      have hsz4 : w.heap.size < w4.heap.size := (Array.getElem?_eq_some_iff.1 hA4).1
      clear hb4 HPA k0 k1 HB3 hA3 hA4 hs3 hlt0 hlt1
      obtain ⟨d2, HD2⟩ : ∃ d, Hid (partsB ns z 3 = d) := ⟨_, rfl⟩
      rw [HD2.out]
      obtain ⟨S, hS0, hNE, HK⟩ := read_class w4
      have k0 := HK.out.1 _ _ hsz4 c4
      have HB : Hid (∀ s : Hw S, Below w.heap.size w s.w) := fun s => HB4.out.trans ((HK.out.2.2.2 s).mono HB4.out.size)
      have HRS : Hid (∀ s : Hw S, RowN s.w.heap.size s.w a ns) := fun s => HR.out.grown (HB.out s)
      have hkk : ∀ (s : Hw S) w', Below s.w.heap.size s.w w' → S w' := HK.out.2.1
      have HDR : Hid (∀ s : Hw S, S s.w.drew) := fun s => HK.out.2.1 s _ (Below.refl _ _).drew
      have HSZ : Hid (∀ s : Hw S, w4.heap.size ≤ s.w.heap.size) := fun s => (HK.out.2.2.2 s).size
      have HS4 : Hid (w.heap.size < w4.heap.size) := hsz4
      clear c4 hsz4 HB4
      cases d2
      · have HZ : Hid (G = false) := by show _ = _; rw [HCX.out, HD2.out]; cases numIs ns y.a 1000 <;> rfl
        obtain ⟨a9, c9, rfl, -, -⟩ := hown.row
        clear HK
        go_wp2_with fail
        refine wp_region_held (S := S) (by kernel_rfl) (by kernel_rfl) hS0 ?_
        try simp only [List.append_eq, List.cons_append, List.nil_append]
        repeat (go_big_quiet_step (first | fail))
        refine wpQuiet_nil ?_
        rintro _ ⟨sw, rfl⟩
        have HE2 : Hid (Below w.heap.size w sw.w) := HB.out sw
        clear HB
        go_wp2
        go_ret3
        exact ⟨0, -1, by rw [HZ.out]; rfl, HNO.out _ _ _ HZ.out HE2.out⟩
      · obtain ⟨gp, o3, cp, rfl, hgp, q0, q1, q2⟩ := own3 hown (parts3 HD2.out)
        obtain ⟨x0, HX0⟩ : ∃ x, Hid (p3 ns z 0 = x) := ⟨_, rfl⟩
        obtain ⟨x1, HX1⟩ : ∃ x, Hid (p3 ns z 1 = x) := ⟨_, rfl⟩
        obtain ⟨x2, HX2⟩ : ∃ x, Hid (p3 ns z 2 = x) := ⟨_, rfl⟩
        rw [show (partsV ns z 3).getD 0 0 = x0 from HX0.out] at q0
        rw [show (partsV ns z 3).getD 1 0 = x1 from HX1.out] at q1
        rw [show (partsV ns z 3).getD 2 0 = x2 from HX2.out] at q2
        have k1 := HK.out.1 _ _ (show (⟨gp, o3, none⟩ : Addr).block < _ from hgp) q0
        have k2 := HK.out.1 _ _ (show (⟨gp, o3 + 1, none⟩ : Addr).block < _ from hgp) q1
        have k3 := HK.out.1 _ _ (show (⟨gp, o3 + 2, none⟩ : Addr).block < _ from hgp) q2
        obtain ⟨d3, HD3⟩ : ∃ d, Hid (numIs ns x0 60 = d) := ⟨_, rfl⟩
        obtain ⟨d4, HD4⟩ : ∃ d, Hid (isK ns x2 6 = d) := ⟨_, rfl⟩
        obtain ⟨d5, HD5⟩ : ∃ d, Hid (isK ns x1 1 = d) := ⟨_, rfl⟩
        obtain ⟨m, HM⟩ : ∃ m, Hid (numV ns x1 = m) := ⟨_, rfl⟩
        obtain ⟨d6, HD6⟩ : ∃ d, Hid (nmB m = d) := ⟨_, rfl⟩
        have HZZ : Hid (G = (d3 && (d4 && (d5 && d6)))) := by show _ = _; rw [HCX.out, HD1.out, HD2.out, HX0.out, HX1.out, HX2.out, HD3.out, HD4.out, HD5.out, HM.out, show inB m 0 9 = d6 from HD6.out]; rfl
        rw [HX1.out, HX2.out, HM.out] at HPP
        have HC3 : Hid (∀ (w' : World), RowN w'.heap.size w' a ns → Calls Try.prog 173 #[.agg #[.slice a ns.length cap], .int .i64 x0, .int .i64 60] w' fun e w'' => e = .returned (.bool d3) ∧ Below w'.heap.size w' w'') := fun w' h => by have := HNI.out x0 60 w' h; rw [HD3.out] at this; exact this
        have HC4 : Hid (∀ (w' : World), RowN w'.heap.size w' a ns → Calls Try.prog 172 #[.int .i64 6, .agg #[.slice a ns.length cap], .int .i64 x2] w' fun e w'' => ∃ a0 a1 a2 a3, e = .returned (.tuple #[.agg #[.int .i64 a0, .int .i64 a1, .int .i64 a2, .int .i64 a3], .bool d4]) ∧ Below w'.heap.size w' w'') := fun w' h => by have := HAT.out 6 x2 w' h; rw [HD4.out] at this; exact this
        have HC5 : Hid (∀ (w' : World), RowN w'.heap.size w' a ns → Calls Try.prog 175 #[.agg #[.slice a ns.length cap], .int .i64 x1] w' fun e w'' => e = .returned (.tuple #[.int .i64 m, .bool d5]) ∧ Below w'.heap.size w' w'') := fun w' h => by have := HN.out x1 w' h; rw [HD5.out, HM.out] at this; exact this
        have HC6 : Hid (∀ (w' : World), Calls Try.prog 176 #[.int .i64 m] w' fun e w'' => e = .returned (.bool d6) ∧ Below w'.heap.size w' w'') := fun w' => by have := isName_any m w' (by rw [← HM.out]; exact HWF.out x1); rw [HD6.out] at this; exact this
        clear q0 q1 q2 hown HCX HX0 HX1 HX2 HNI HN HAT HD3 HD4 HD5 HM HK HR HWF HD6
        go_wp2_with fail
        refine wp_region_held (S := S) (by kernel_rfl) (by kernel_rfl) hS0 ?_
        try simp only [List.append_eq, List.cons_append, List.nil_append]
        repeat (go_big_quiet_step (first | (go_at_call 173; exact Calls.held (HC3.out _ (HRS.out _)) (hkk _))))
        refine wpQuiet_nil ?_
        rintro _ ⟨sw, rfl⟩
        cases d3
        · have HE2 : Hid (Below w.heap.size w sw.w) := HB.out sw
          have HZ : Hid (G = false) := HZZ.out
          go_wp2
          go_ret3
          exact ⟨0, -1, by rw [HZ.out]; rfl, HNO.out _ _ _ HZ.out HE2.out⟩
        go_wp2_with fail
        refine wp_region_held (S := S) (by kernel_rfl) (by kernel_rfl) (HDR.out _) ?_
        try simp only [List.append_eq, List.cons_append, List.nil_append]
        repeat (go_big_quiet_step (first | (go_at_call 175; exact Calls.held (HC5.out _ (HRS.out _)) (hkk _))))
        refine wpQuiet_nil ?_
        rintro _ ⟨sw2, rfl⟩
        clear HC3 HC5
        have k0' := k0 sw2
        have k3' := k3 sw2
        have hlA : w.heap.size < sw2.w.heap.size := Nat.lt_of_lt_of_le HS4.out (HSZ.out sw2)
        have hlP : gp < sw2.w.heap.size := Nat.lt_of_lt_of_le hgp (HSZ.out sw2)
        have HC4' : Hid (∀ w', Below sw2.w.heap.size sw2.w w' → Calls Try.prog 172 #[.int .i64 6, .agg #[.slice a ns.length cap], .int .i64 x2] w' fun e w'' => ∃ a0 a1 a2 a3, e = .returned (.tuple #[.agg #[.int .i64 a0, .int .i64 a1, .int .i64 a2, .int .i64 a3], .bool d4]) ∧ Hid (Below sw2.w.heap.size sw2.w w'') ∧ Hid (Below w'.heap.size w' w'')) := fun w' h => by
          refine (HC4.out w' (HRS.out ⟨w', hkk sw2 w' h⟩)).mono ?_
          rintro e w'' ⟨a0, a1, a2, a3, rfl, hb⟩
          exact ⟨a0, a1, a2, a3, rfl, h.trans (hb.mono h.size), hb⟩
        go_wp2_with fail
        go_cut [9, 10, 11, 13] (fun s9 s10 s11 s13 wc => s9 = .slice (some ⟨gp, o3, none⟩) 3 cp ∧ s10 = .int .i64 m ∧ s11 = .bool d5 ∧ s13 = .bool d4 ∧ Hid (Below sw2.w.heap.size sw2.w wc))
        case first =>
          go_region_with (go_at_call 172; refine Calls.mono (HC4'.out _ (by first | exact (Below.refl _ _).drew | exact (Below.refl _ _).drew.alloc (Nat.le_refl _) _)) ?_; rintro e w6 ⟨a0, a1, a2, a3, rfl, hb6, hc6⟩; try (obtain ⟨r0, r1, r2, r3, f0, f1, f2, f3⟩ := node_cf ((hc6.out.block sw2.w.heap.size (by simp)).trans (heap_alloc_new _ _))))
          all_goals
            go_wp2_with fail
            go_meet
            refine ⟨rfl, rfl, rfl, rfl, ?_⟩
            first | exact hb6.out.alloc hb6.out.size _ | exact (((hb6.out.setCell (Nat.le_refl _) _).setCell (Nat.le_refl _) _).setCell (Nat.le_refl _) _).setCell (Nat.le_refl _) _
        case rest =>
          obtain ⟨rfl, rfl, rfl, rfl, HZ⟩ := hcut
          clear HC4' HC4 k0' k3' hlA hlP k0 k1 k2
          go_wp2_with fail
          refine wp_region_held (S := S) (by kernel_rfl) (by kernel_rfl) (HDR.out ⟨wc, hkk sw2 wc HZ.out⟩) ?_
          try simp only [List.append_eq, List.cons_append, List.nil_append]
          cases d5 <;> cases d6
          all_goals
            repeat (go_big_quiet_step (first | (go_at_call 176; exact Calls.held (HC6.out _) (hkk _))))
            refine wpQuiet_nil ?_
            rintro _ ⟨sw3, rfl⟩
            have HE2 : Hid (Below w.heap.size w sw3.w) := HB.out sw3
            clear HB
            go_wp2
            go_ret3
            exact ⟨m, x2, by rw [HZZ.out]; cases d4 <;> rfl, fun h => HPP.out h, HE2.out⟩
set_option maxHeartbeats 1600000 in
theorem implCertIn_any (a : Option Addr) (cap : Nat) (ns : List Nd) (k : Int) (w : World) (hl : ns.length ≤ 1048576) (hf : ∀ y ∈ ns, y.Fits) (hr : RowN w.heap.size w a ns) :
    Calls Try.prog 64 #[.agg #[.slice a ns.length cap], .int .i64 k] w fun e w' => e = .returned (.tuple #[.int .i64 (crtN ns k), .int .i64 (crtP ns k), .bool (crtB ns k)]) ∧ Below w.heap.size w w' := by
  have hb0 : Below w.heap.size w (w.alloc (.cells #[.slice a ns.length cap] 28)) := (Below.refl _ _).alloc (Nat.le_refl _) _
  have hA0 := heap_alloc_new w (.cells #[.slice a ns.length cap] 28)
  have c0 : (w.alloc (.cells #[.slice a ns.length cap] 28)).cell? ⟨w.heap.size, 0, none⟩ = some (.slice a ns.length cap) := (cell_of_row _ _ 0 _ _ _ hA0).trans rfl
  have hs0 : (w.alloc (.cells #[.slice a ns.length cap] 28)).heap.size = w.heap.size + 1 := by simp
  have H : Hid _ := certAt_any a cap ns k _ hl hf (hr.grown hb0)
  have HB0 : Hid (Below w.heap.size w (w.alloc (.cells #[.slice a ns.length cap] 28))) := hb0
  obtain ⟨G, HG, hG⟩ : ∃ G, Hid (crtB ns k = G) ∧ crtB ns k = G := ⟨_, rfl, rfl⟩
  rw [hG] at H ⊢
  clear hr hb0 hA0 hf hG
  go_enter Try.func64, Try.ntmps64
  go_wp2_with fail
  refine Calls.mono H.out ?_
  rintro e w1 ⟨n, p, rfl, HE⟩
  have HE2 : Hid (Below w.heap.size w w1) := HB0.out.trans (HE.out.2.mono (by omega))
  clear H HB0 c0
  cases G with
  | true =>
    have HX : Hid (n = crtN ns k ∧ p = crtP ns k) := HE.out.1 rfl
    clear HE
    go_wp2
    go_ret3
    exact ⟨by rw [← HX.out.1, ← HX.out.2]; rfl, HE2.out⟩
  | false =>
    have HX : Hid (crtN ns k = 0 ∧ crtP ns k = -1) := ⟨by unfold crtN; rw [HG.out]; rfl, by unfold crtP; rw [HG.out]; rfl⟩
    clear HE
    go_wp2
    go_ret3
    exact ⟨by rw [HX.out.1, HX.out.2]; rfl, HE2.out⟩
end Go.Proofs.Ytffnadnndmmliaa
