/- The contracts of chapter 10's l10Num and CertIn, the specification's. -/
import Derived.Test.YtffnadnndmmliaaLawClip
import Derived.Test.YtffnadnndmmliaaRegionH
import Derived.Deep.RegionWith
import Derived.ChangeOld
namespace Go.Proofs.Ytffnadnndmmliaa
open Go.RowKit
set_option linter.unusedVariables false
set_option maxHeartbeats 1600000 in
theorem specNumIs_any (a : Option Addr) (cap : Nat) (ns : List Nd) (x n : Int) (w : World) (hl : ns.length ≤ 1048576) (hr : RowN w.heap.size w a ns) :
    Calls Try.prog 140 #[.agg #[.slice a ns.length cap], .int .i64 x, .int .i64 n] w fun e w' => e = .returned (.bool (numIs ns x n)) ∧ Below w.heap.size w w' := by
  have hb0 : Below w.heap.size w (w.alloc (.cells #[.slice a ns.length cap] 28)) := (Below.refl _ _).alloc (Nat.le_refl _) _
  have H : Hid _ := specNum_any a cap ns x _ hl (hr.grown hb0)
  have HB0 : Hid (Below w.heap.size w (w.alloc (.cells #[.slice a ns.length cap] 28))) := hb0
  unfold numIs
  generalize numV ns x = m at H ⊢
  have hs0 : (w.alloc (.cells #[.slice a ns.length cap] 28)).heap.size = w.heap.size + 1 := by simp
  cases hk : isK ns x 1 with
  | false =>
    rw [hk] at H
    clear hr hb0
    go_enter Try.func140, Try.ntmps140
    go_wp2_with fail
    refine Calls.mono H.out ?_
    rintro e w1 ⟨rfl, hb1⟩
    have HB : Hid (Below w.heap.size w w1) := HB0.out.trans (hb1.mono (by omega))
    clear hb1 H
    go_wp2
    go_ret
    exact ⟨rfl, HB.out⟩
  | true =>
    rw [hk] at H
    clear hr hb0
    go_enter Try.func140, Try.ntmps140
    go_wp2_with fail
    refine Calls.mono H.out ?_
    rintro e w1 ⟨rfl, hb1⟩
    have HB : Hid (Below w.heap.size w w1) := HB0.out.trans (hb1.mono (by omega))
    clear hb1 H
    go_wp2
    go_ret
    exact ⟨by rw [show decide (m = n) = (m == n) from Bool.eq_iff_iff.2 (by simp)]; rfl, HB.out⟩
set_option maxHeartbeats 3200000 in
set_option maxRecDepth 20000 in
theorem specCertIn_any (a : Option Addr) (cap : Nat) (ns : List Nd) (k : Int) (w : World) (hl : ns.length ≤ 1048576) (hr : RowN w.heap.size w a ns) :
    Calls Try.prog 69 #[.agg #[.slice a ns.length cap], .int .i64 k] w fun e w' => e = .returned (.tuple #[.int .i64 (crtN ns k), .int .i64 (crtP ns k), .bool (crtB ns k)]) ∧ Below w.heap.size w w' := by
  have hb0 : Below w.heap.size w (w.alloc (.cells #[.slice a ns.length cap] 28)) := (Below.refl _ _).alloc (Nat.le_refl _) _
  have hA0 := heap_alloc_new w (.cells #[.slice a ns.length cap] 28)
  have c0 : (w.alloc (.cells #[.slice a ns.length cap] 28)).cell? ⟨w.heap.size, 0, none⟩ = some (.slice a ns.length cap) := (cell_of_row _ _ 0 _ _ _ hA0).trans rfl
  have hs0 : (w.alloc (.cells #[.slice a ns.length cap] 28)).heap.size = w.heap.size + 1 := by simp
  have HR : Hid (RowN w.heap.size w a ns) := hr
  have HIS : Hid (∀ (x kd : Int) (w' : World), RowN w'.heap.size w' a ns → Calls Try.prog 139 #[.agg #[.slice a ns.length cap], .int .i64 x, .int .i64 kd] w' fun e w'' => e = .returned (.bool (isK ns x kd)) ∧ Below w'.heap.size w' w'') := fun x kd w' h => specIs_any a cap ns x kd w' hl h
  have HNI : Hid (∀ (x n : Int) (w' : World), RowN w'.heap.size w' a ns → Calls Try.prog 140 #[.agg #[.slice a ns.length cap], .int .i64 x, .int .i64 n] w' fun e w'' => e = .returned (.bool (numIs ns x n)) ∧ Below w'.heap.size w' w'') := fun x n w' h => specNumIs_any a cap ns x n w' hl h
  have HN : Hid (∀ (x : Int) (w' : World), RowN w'.heap.size w' a ns → Calls Try.prog 142 #[.agg #[.slice a ns.length cap], .int .i64 x] w' fun e w'' => e = .returned (.tuple #[.int .i64 (numV ns x), .bool (isK ns x 1)]) ∧ Below w'.heap.size w' w'') := fun x w' h => specNum_any a cap ns x w' hl h
  obtain ⟨E, F, G, HEF, hE, hF, hG⟩ : ∃ E F G, Hid (E = crtN ns k ∧ F = crtP ns k ∧ G = crtB ns k) ∧ E = crtN ns k ∧ F = crtP ns k ∧ G = crtB ns k := ⟨_, _, _, ⟨rfl, rfl, rfl⟩, rfl, rfl, rfl⟩
  rw [← hE, ← hF, ← hG]
  clear hE hF hG
  have HNO : Hid (crtB ns k = false → E = 0 ∧ F = -1 ∧ G = false) := fun hz => by
    obtain ⟨e1, e2, e3⟩ := HEF.out
    rw [e1, e2, e3]
    refine ⟨?_, ?_, hz⟩
    · unfold crtN; rw [hz]; rfl
    · unfold crtP; rw [hz]; rfl
  obtain ⟨S, hS0, hNE, HK⟩ := read_class (w.alloc (.cells #[.slice a ns.length cap] 28))
  have k0 := HK.out.1 _ _ (show (⟨w.heap.size, 0, none⟩ : Addr).block < _ by simp) c0
  have HB : Hid (∀ s : Hw S, Below w.heap.size w s.w) := fun s => hb0.trans ((HK.out.2.2.2 s).mono (by omega))
  have HRS : Hid (∀ s : Hw S, RowN s.w.heap.size s.w a ns) := fun s => HR.out.grown (HB.out s)
  have hkk : ∀ (s : Hw S) w', Below s.w.heap.size s.w w' → S w' := HK.out.2.1
  have HDR : Hid (∀ s : Hw S, S s.w.drew) := fun s => HK.out.2.1 s _ (Below.refl _ _).drew
  have HCB : Hid (∀ s : Hw S, s.w.heap[w.heap.size]? = some (.cells #[.slice a ns.length cap] 28 (0, 0))) := fun s => ((HK.out.2.2.2 s).block w.heap.size (by simp)).trans hA0
  cases h8 : isK ns k 8 with
  | false =>
    have HI8 : Hid (∀ (w' : World), RowN w'.heap.size w' a ns → Calls Try.prog 139 #[.agg #[.slice a ns.length cap], .int .i64 k, .int .i64 8] w' fun e w'' => e = .returned (.bool false) ∧ Below w'.heap.size w' w'') := fun w' h => by have := HIS.out k 8 w' h; rw [h8] at this; exact this
    have HZ : Hid (crtB ns k = false) := by show _ = _; unfold crtB; rw [h8]; rfl
    clear hr hA0 c0 hb0 h8 HIS HNI HN HEF
    go_enter Try.func69, Try.ntmps69
    go_wp2_with fail
    refine wp_region_held (S := S) (by kernel_rfl) (by kernel_rfl) hS0 ?_
    try simp only [List.append_eq, List.cons_append, List.nil_append]
    repeat (go_big_quiet_step (first | (go_at_call 139; exact Calls.held (HI8.out _ (HRS.out _)) (hkk _))))
    refine wpQuiet_nil ?_
    rintro _ ⟨sw, rfl⟩
    have HE := HB.out sw
    have HE2 : Hid (Below w.heap.size w sw.w) := HE
    clear HE
    go_wp2
    go_ret3
    obtain ⟨e1, e2, e3⟩ := HNO.out (by exact HZ.out)
    exact ⟨by rw [e1, e2, e3]; rfl, HE2.out⟩
  | true =>
    have HI8 : Hid (∀ (w' : World), RowN w'.heap.size w' a ns → Calls Try.prog 139 #[.agg #[.slice a ns.length cap], .int .i64 k, .int .i64 8] w' fun e w'' => e = .returned (.bool true) ∧ Below w'.heap.size w' w'') := fun w' h => by have := HIS.out k 8 w' h; rw [h8] at this; exact this
    obtain ⟨i, rfl, hi⟩ := okAt_in (isK_ok h8).1
    obtain ⟨b, off, rfl⟩ := hr.addr hi
    obtain ⟨hbk, n0, n1, n2, n3⟩ := hr.at (Below.refl _ _) hi
    have hi0 : (0 : Int) ≤ (i : Int) := by omega
    have hi1 : (i : Int) < (ns.length : Int) := by omega
    have HND : Hid (ndAt ns (i : Int) = ns.getD i Nd.zero) := ndAt_nat _ _
    generalize ns.getD i Nd.zero = y at n0 n1 n2 n3 HND
    have hb0' := hb0
    have ka := HK.out.1 _ _ (Nat.lt_of_lt_of_le hbk hb0.size) ((hb0.cell hbk).trans n2)
    have kb := HK.out.1 _ _ (Nat.lt_of_lt_of_le hbk hb0.size) ((hb0.cell hbk).trans n3)
    obtain ⟨d1, HD1⟩ : ∃ d, Hid (numIs ns y.a 1000 = d) := ⟨_, rfl⟩
    have HN1 : Hid (∀ (w' : World), RowN w'.heap.size w' (some ⟨b, off, none⟩) ns → Calls Try.prog 140 #[.agg #[.slice (some ⟨b, off, none⟩) ns.length cap], .int .i64 y.a, .int .i64 1000] w' fun e w'' => e = .returned (.bool d1) ∧ Below w'.heap.size w' w'') := fun w' h => by have := HNI.out y.a 1000 w' h; rw [HD1.out] at this; exact this
    have HCX : Hid (crtB ns (i : Int) = (d1 && (partsB ns y.b 3 && (numIs ns (p3 ns y.b 0) 60 && (isK ns (p3 ns y.b 2) 6 && (isK ns (p3 ns y.b 1) 1 && inB (numV ns (p3 ns y.b 1)) 0 9)))))) := by show _ = _; unfold crtB; rw [HND.out, h8, HD1.out]; rfl
    have HPP : Hid (crtB ns (i : Int) = true → E = numV ns (p3 ns y.b 1) ∧ F = p3 ns y.b 2 ∧ G = true) := fun hz => by
      obtain ⟨e1, e2, e3⟩ := HEF.out
      rw [e1, e2, e3]
      refine ⟨?_, ?_, hz⟩
      · unfold crtN; rw [hz, HND.out]; rfl
      · unfold crtP; rw [hz, HND.out]; rfl
    obtain ⟨z, HZB⟩ : ∃ z, Hid (y.b = z) := ⟨_, rfl⟩
    rw [HZB.out] at kb HCX HPP
    obtain ⟨z', HZA⟩ : ∃ z, Hid (y.a = z) := ⟨_, rfl⟩
    rw [HZA.out] at ka HN1
    clear hr hA0 c0 hb0 hb0' h8 n0 n1 n2 n3 HEF HND hbk HD1 HZA HZB
    go_enter Try.func69, Try.ntmps69
    go_wp2_with fail
    refine wp_region_held (S := S) (by kernel_rfl) (by kernel_rfl) hS0 ?_
    try simp only [List.append_eq, List.cons_append, List.nil_append]
    repeat (go_big_quiet_step (first | (go_at_call 139; exact Calls.held (HI8.out _ (HRS.out _)) (hkk _)) | (go_at_call 140; exact Calls.held (HN1.out _ (HRS.out _)) (hkk _))))
    refine wpQuiet_nil ?_
    rintro _ ⟨sw, rfl⟩
    clear HN1 HI8
    cases d1
    · have HE2 : Hid (Below w.heap.size w sw.w) := HB.out sw
      have HZ : Hid (crtB ns (i : Int) = false) := by show _ = _; rw [HCX.out]; rfl
      clear HB
      go_wp2
      go_ret3
      obtain ⟨e1, e2, e3⟩ := HNO.out (by exact HZ.out)
      exact ⟨by rw [e1, e2, e3]; rfl, HE2.out⟩
    · have HB1 : Hid (Below w.heap.size w sw.w) := HB.out sw
      have hC1 := HCB.out sw
      have q0 : sw.w.drew.cell? ⟨w.heap.size, 0, none⟩ = some (.slice (some ⟨b, off, none⟩) ns.length cap) := k0 sw
      have q1 := kb sw
      have q2 : sw.w.drew.cell? _ = _ := q1
      have HP : Hid _ := specParts_any (some ⟨b, off, none⟩) cap ns z 3 sw.w.drew hl (HR.out.grown HB1.out.drew)
      obtain ⟨w1, hw1⟩ : ∃ w1, w1 = sw.w := ⟨_, rfl⟩
      rw [← hw1] at q0 q1 q2 HB1 HP hC1 ⊢
      clear hw1 HRS hkk HDR HCB k0 ka kb hS0 hNE HK HB
      clear sw
      clear q1
      go_wp2_with fail
      refine wp_region_head 7 74 (by kernel_rfl) rfl (by kernel_rfl) ?_
      simp only [List.take_succ_cons, List.take_zero]
      repeat still_step
      refine wpStill_nil ?_
      show wpAny _ _ _ _ 6 _ _ _
      refine wpAny_ready (rs := [7]) (by kernel_rfl) (by simp) ?_
      refine AllReady.cons rfl (fun Kt hKt => ?_) AllReady.nil
      go_simp
      go_wp2_with (go_at_call 141; refine Calls.mono HP.out ?_; rintro e w2 ⟨v, rfl, hown, hb2⟩)
      refine wpAny_take (i := 8) (v := ?_) rfl (by kernel_rfl) (by kernel_rfl) (by kernel_rfl) (fun _ _ _ h => h) (Or.inl ⟨by rfl, ?_⟩) ?_
      rotate_left
      · intro w; go_simp; try with_reducible rfl
      refine wpAny_take (i := 9) (v := ?_) rfl (by kernel_rfl) (by kernel_rfl) (by kernel_rfl) (fun _ _ _ h => h) (Or.inl ⟨by rfl, ?_⟩) ?_
      rotate_left
      · intro w; go_simp; try with_reducible rfl
      refine wpAny_take (i := 10) (v := ?_) rfl (by kernel_rfl) (by kernel_rfl) (by kernel_rfl) (fun _ _ _ h => h) (Or.inl ⟨by rfl, ?_⟩) ?_
      rotate_left
      · intro w; go_simp; try with_reducible rfl
      refine wpAny_take (i := 11) (v := ?_) rfl (by kernel_rfl) (by kernel_rfl) (by kernel_rfl) (fun _ _ _ h => h) (Or.inl ⟨by rfl, ?_⟩) ?_
      rotate_left
      · intro w; go_simp; try with_reducible rfl
      refine wpAny_take (i := 12) (v := ?_) rfl (by kernel_rfl) (by kernel_rfl) (by kernel_rfl) (fun _ _ _ h => h) (Or.inl ⟨by rfl, ?_⟩) ?_
      rotate_left
      · intro w; go_simp; try with_reducible rfl
      refine wpAny_done (by kernel_rfl) ?_ _
      go_simp
      have HB2 : Hid (Below w.heap.size w w2) := HB1.out.trans ((((Below.refl _ _).drew).trans hb2).mono HB1.out.size)
      have hb2' : Below w1.heap.size w1 w2 := ((Below.refl _ _).drew).trans hb2
      have hC2 := (hb2'.block w.heap.size (Array.getElem?_eq_some_iff.1 hC1).1).trans hC1
      have c2 : w2.cell? ⟨w.heap.size, 0, none⟩ = some (.slice (some ⟨b, off, none⟩) ns.length cap) := (cell_of_row _ _ 0 _ _ _ hC2).trans rfl
      have hsz2 : w.heap.size < w2.heap.size := (Array.getElem?_eq_some_iff.1 hC2).1
      clear q0 q2 HB1 HP hC1 hb2 hb2' hC2
      obtain ⟨d2, HD2⟩ : ∃ d, Hid (partsB ns z 3 = d) := ⟨_, rfl⟩
      rw [HD2.out]
      obtain ⟨S, hS0, hNE, HK⟩ := read_class w2
      have k0 := HK.out.1 _ _ hsz2 c2
      have HB : Hid (∀ s : Hw S, Below w.heap.size w s.w) := fun s => HB2.out.trans ((HK.out.2.2.2 s).mono HB2.out.size)
      have HRS : Hid (∀ s : Hw S, RowN s.w.heap.size s.w (some ⟨b, off, none⟩) ns) := fun s => HR.out.grown (HB.out s)
      have hkk : ∀ (s : Hw S) w', Below s.w.heap.size s.w w' → S w' := HK.out.2.1
      have HDR : Hid (∀ s : Hw S, S s.w.drew) := fun s => HK.out.2.1 s _ (Below.refl _ _).drew
      clear c2 hsz2 HB2
      cases d2
      · have HZ : Hid (crtB ns (i : Int) = false) := by show _ = _; rw [HCX.out, HD2.out]; rfl
        obtain ⟨a9, c9, rfl, -, -⟩ := hown.row
        clear HK
        go_wp2_with fail
        refine wp_region_held (S := S) (by kernel_rfl) (by kernel_rfl) hS0 ?_
        try simp only [List.append_eq, List.cons_append, List.nil_append]
        repeat (go_big_quiet_step (first | fail))
        refine wpQuiet_nil ?_
        rintro _ ⟨sw, rfl⟩
        have HE2 : Hid (Below w.heap.size w sw.w) := HB.out sw
        clear HB
        go_wp2
        go_ret3
        obtain ⟨e1, e2, e3⟩ := HNO.out (by exact HZ.out)
        exact ⟨by rw [e1, e2, e3]; rfl, HE2.out⟩
      · obtain ⟨gp, o3, cp, rfl, hgp, q0, q1, q2⟩ := own3 hown (parts3 HD2.out)
        obtain ⟨x0, HX0⟩ : ∃ x, Hid (p3 ns z 0 = x) := ⟨_, rfl⟩
        obtain ⟨x1, HX1⟩ : ∃ x, Hid (p3 ns z 1 = x) := ⟨_, rfl⟩
        obtain ⟨x2, HX2⟩ : ∃ x, Hid (p3 ns z 2 = x) := ⟨_, rfl⟩
        rw [show (partsV ns z 3).getD 0 0 = x0 from HX0.out] at q0
        rw [show (partsV ns z 3).getD 1 0 = x1 from HX1.out] at q1
        rw [show (partsV ns z 3).getD 2 0 = x2 from HX2.out] at q2
        have k1 := HK.out.1 _ _ (show (⟨gp, o3, none⟩ : Addr).block < _ from hgp) q0
        have k2 := HK.out.1 _ _ (show (⟨gp, o3 + 1, none⟩ : Addr).block < _ from hgp) q1
        have k3 := HK.out.1 _ _ (show (⟨gp, o3 + 2, none⟩ : Addr).block < _ from hgp) q2
        obtain ⟨d3, HD3⟩ : ∃ d, Hid (numIs ns x0 60 = d) := ⟨_, rfl⟩
        obtain ⟨d4, HD4⟩ : ∃ d, Hid (isK ns x2 6 = d) := ⟨_, rfl⟩
        obtain ⟨d5, HD5⟩ : ∃ d, Hid (isK ns x1 1 = d) := ⟨_, rfl⟩
        obtain ⟨m, HM⟩ : ∃ m, Hid (numV ns x1 = m) := ⟨_, rfl⟩
        obtain ⟨d6, HD6⟩ : ∃ d, Hid (inB m 0 9 = d) := ⟨_, rfl⟩
        have HZZ : Hid (crtB ns (i : Int) = (d3 && (d4 && (d5 && d6)))) := by show _ = _; rw [HCX.out, HD2.out, HX0.out, HX1.out, HX2.out, HD3.out, HD4.out, HD5.out, HM.out, HD6.out]; rfl
        rw [HX1.out, HX2.out, HM.out] at HPP
        have HC3 : Hid (∀ (w' : World), RowN w'.heap.size w' (some ⟨b, off, none⟩) ns → Calls Try.prog 140 #[.agg #[.slice (some ⟨b, off, none⟩) ns.length cap], .int .i64 x0, .int .i64 60] w' fun e w'' => e = .returned (.bool d3) ∧ Below w'.heap.size w' w'') := fun w' h => by have := HNI.out x0 60 w' h; rw [HD3.out] at this; exact this
        have HC4 : Hid (∀ (w' : World), RowN w'.heap.size w' (some ⟨b, off, none⟩) ns → Calls Try.prog 139 #[.agg #[.slice (some ⟨b, off, none⟩) ns.length cap], .int .i64 x2, .int .i64 6] w' fun e w'' => e = .returned (.bool d4) ∧ Below w'.heap.size w' w'') := fun w' h => by have := HIS.out x2 6 w' h; rw [HD4.out] at this; exact this
        have HC5 : Hid (∀ (w' : World), RowN w'.heap.size w' (some ⟨b, off, none⟩) ns → Calls Try.prog 142 #[.agg #[.slice (some ⟨b, off, none⟩) ns.length cap], .int .i64 x1] w' fun e w'' => e = .returned (.tuple #[.int .i64 m, .bool d5]) ∧ Below w'.heap.size w' w'') := fun w' h => by have := HN.out x1 w' h; rw [HD5.out, HM.out] at this; exact this
        clear q0 q1 q2 hown HCX HX0 HX1 HX2 HNI HIS HN HD3 HD4 HD5 HM HK HR
        cases d3
        · go_wp2_with fail
          refine wp_region_held (S := S) (by kernel_rfl) (by kernel_rfl) hS0 ?_
          try simp only [List.append_eq, List.cons_append, List.nil_append]
          repeat (go_big_quiet_step (first | (go_at_call 140; exact Calls.held (HC3.out _ (HRS.out _)) (hkk _)) | (go_at_call 139; exact Calls.held (HC4.out _ (HRS.out _)) (hkk _))))
          refine wpQuiet_nil ?_
          rintro _ ⟨sw, rfl⟩
          have HE2 : Hid (Below w.heap.size w sw.w) := HB.out sw
          go_wp2
          go_ret3
          obtain ⟨e1, e2, e3⟩ := HNO.out (by rw [HZZ.out]; first | rfl | simp)
          exact ⟨by rw [e1, e2, e3]; rfl, HE2.out⟩
        cases d4
        · go_wp2_with fail
          refine wp_region_held (S := S) (by kernel_rfl) (by kernel_rfl) hS0 ?_
          try simp only [List.append_eq, List.cons_append, List.nil_append]
          repeat (go_big_quiet_step (first | (go_at_call 140; exact Calls.held (HC3.out _ (HRS.out _)) (hkk _)) | (go_at_call 139; exact Calls.held (HC4.out _ (HRS.out _)) (hkk _))))
          refine wpQuiet_nil ?_
          rintro _ ⟨sw, rfl⟩
          have HE2 : Hid (Below w.heap.size w sw.w) := HB.out sw
          go_wp2
          go_ret3
          obtain ⟨e1, e2, e3⟩ := HNO.out (by rw [HZZ.out]; first | rfl | simp)
          exact ⟨by rw [e1, e2, e3]; rfl, HE2.out⟩
        go_wp2_with fail
        refine wp_region_held (S := S) (by kernel_rfl) (by kernel_rfl) hS0 ?_
        try simp only [List.append_eq, List.cons_append, List.nil_append]
        repeat (go_big_quiet_step (first | (go_at_call 140; exact Calls.held (HC3.out _ (HRS.out _)) (hkk _)) | (go_at_call 139; exact Calls.held (HC4.out _ (HRS.out _)) (hkk _))))
        refine wpQuiet_nil ?_
        rintro _ ⟨sw, rfl⟩
        go_wp2_with fail
        refine wp_region_held (S := S) (by kernel_rfl) (by kernel_rfl) (HDR.out _) ?_
        try simp only [List.append_eq, List.cons_append, List.nil_append]
        repeat (go_big_quiet_step (first | (go_at_call 142; exact Calls.held (HC5.out _ (HRS.out _)) (hkk _))))
        refine wpQuiet_nil ?_
        rintro _ ⟨sw2, rfl⟩
        cases d5
        · have HE2 : Hid (Below w.heap.size w sw2.w) := HB.out sw2
          go_wp2
          go_ret3
          obtain ⟨e1, e2, e3⟩ := HNO.out (by rw [HZZ.out]; first | rfl | simp)
          exact ⟨by rw [e1, e2, e3]; rfl, HE2.out⟩
        cases d6
        · have HE2 : Hid (Below w.heap.size w sw2.w) := HB.out sw2
          go_wp2_with (go_at_call 99; refine (specIn_any _ _ _ _).mono ?_; rintro e w' ⟨rfl, rfl⟩; rw [HD6.out])
          go_ret3
          obtain ⟨e1, e2, e3⟩ := HNO.out (by rw [HZZ.out]; first | rfl | simp)
          exact ⟨by rw [e1, e2, e3]; rfl, HE2.out⟩
        go_wp2_with (go_at_call 99; refine (specIn_any _ _ _ _).mono ?_; rintro e w' ⟨rfl, rfl⟩; rw [HD6.out])
        refine wp_region_held (S := S) (by kernel_rfl) (by kernel_rfl) (HDR.out _) ?_
        try simp only [List.append_eq, List.cons_append, List.nil_append]
        repeat (go_big_quiet_step (first | fail))
        refine wpQuiet_nil ?_
        rintro _ ⟨sw3, rfl⟩
        have HE2 : Hid (Below w.heap.size w sw3.w) := HB.out sw3
        go_wp2
        go_ret3
        obtain ⟨e1, e2, e3⟩ := HPP.out (by rw [HZZ.out]; rfl)
        exact ⟨by rw [e1, e2, e3]; rfl, HE2.out⟩
end Go.Proofs.Ytffnadnndmmliaa
