/- What is said next on a channel, told by a closure (the program's). -/
import Derived.Test.YtnjihmailppjkaaTold8
import Derived.Test.YtnjihmailppjkaaImplR8
import Derived.Test.YtnjihmailppjkaaImpl13
import Derived.Test.YtnjihmailppjkaaSay13
namespace Go.Proofs.Ytnjihmailppjkaa
open Go.RowKit Go.Maps
set_option linter.unusedVariables false
set_option linter.unusedSimpArgs false
theorem recd_fx (t : Tl) (ns : List Nd) (ep sq bd : Int) : (Tl.recd t ep sq bd).f ns = (recA (t.f ns).1 (t.f ns).2 ep sq bd, recK (t.f ns).1 (t.f ns).2 ep sq bd) := by
  show (if ((inB ep 0 8 && inB sq 0 9999) && (okAt (t.f ns).1 (t.f ns).2 && okAt (t.f ns).1 bd)) = true then (recT (t.f ns).2 ep sq bd).f (t.f ns).1 else ((t.f ns).1, -1)) = _
  have e : ((inB ep 0 8 && inB sq 0 9999) && (okAt (t.f ns).1 (t.f ns).2 && okAt (t.f ns).1 bd)) = recB (t.f ns).1 (t.f ns).2 ep sq bd := by unfold recB; rw [Bool.and_assoc]
  rw [e, recT_f]
  unfold recA recK
  split <;> rfl
theorem recK_negX {ns : List Nd} {key ep sq bd : Int} (h : recK ns key ep sq bd < 0) : recK ns key ep sq bd = -1 := by
  unfold recK at h ⊢
  split
  · rename_i hb; rw [if_pos hb] at h; exact listF_neg _ _ h
  · rfl
/-- What is said next. -/
def Tl.next (x : Ch) (bd : Int) : Tl := ⟨fun mx ns => if chanB ns x = true then (Tl.recd (.two 4 (epochT x.a x.e.toNat) (.atom x.s)) x.e x.q bd).g mx ns else (ns, -1), x.Fits ∧ (Lit.int .i64 bd).wf = true⟩
theorem ch_wfa {x : Ch} (hx : x.Fits) : (Lit.int .i64 x.a).wf = true ∧ (Lit.int .i64 x.s).wf = true ∧ (Lit.int .i64 x.e).wf = true ∧ (Lit.int .i64 x.q).wf = true := by
  unfold Ch.Fits at hx
  exact ⟨WalkArith.wf_i64 (by omega), WalkArith.wf_i64 (by omega), WalkArith.wf_i64 (by omega), WalkArith.wf_i64 (by omega)⟩
theorem epochT_ok {k : Int} (h : (Lit.int .i64 k).wf = true) : ∀ m, TlOk (epochT k m)
  | 0 => .pl h
  | m + 1 => .two (epochT_ok h m) (.atom 30)
theorem recdW {x : Ch} {bd : Int} (h : (Tl.next x bd).Wf) : (Tl.recd (.two 4 (epochT x.a x.e.toNat) (.atom x.s)) x.e x.q bd).Wf := ⟨⟨by omega, by omega, epochT_wf (ch_wfa h.1).1 _, (ch_wfa h.1).2.1⟩, (ch_wfa h.1).2.2.1, (ch_wfa h.1).2.2.2, h.2⟩
theorem TlOk.next {x : Ch} {bd : Int} (h : (Tl.next x bd).Wf) : TlOk (.next x bd) := by
  have hr : TlOk (Tl.recd (.two 4 (epochT x.a x.e.toNat) (.atom x.s)) x.e x.q bd) := .recd (.two (epochT_ok (ch_wfa h.1).1 _) (.atom _)) h.2
  refine ⟨fun {mx ns} hm hl => ?_, fun mx ns => ?_, fun {mx ns} hm hl => ?_⟩
  · show (ite _ _ _ : List Nd × Int).1.length ≤ _
    split
    · exact hr.lem hm hl
    · exact hl
  · show ns <+: (ite _ _ _ : List Nd × Int).1
    split
    · exact hr.prem mx ns
    · exact List.prefix_refl _
  · show _ ≤ (ite _ _ _ : List Nd × Int).2 ∧ (ite _ _ _ : List Nd × Int).2 ≤ _
    split
    · exact hr.bdm hm hl
    · exact ⟨by show _ ≤ (-1 : Int); omega, by show (-1 : Int) ≤ _; omega⟩
theorem next_f (ns : List Nd) (x : Ch) (b : Int) : (if ((Tl.next x b).f ns).2 < 0 then -1 else ((Tl.next x b).f ns).2) = sayK ns x b ∧ keptA ns ((Tl.next x b).f ns).1 ((Tl.next x b).f ns).2 = sayA ns x b := by
  have e0 : (Tl.next x b).f ns = if chanB ns x = true then (Tl.recd (.two 4 (epochT x.a x.e.toNat) (.atom x.s)) x.e x.q b).f ns else (ns, -1) := rfl
  rw [e0]
  cases hc : chanB ns x with
  | false =>
    have e : sayB ns x b = false := by unfold sayB; rw [hc]; rfl
    unfold sayK sayA keptA
    rw [e]
    simp
  | true =>
    have hb : epochB ns x.a x.e = true := by
      have h := hc
      unfold chanB at h
      simp only [Bool.and_eq_true] at h
      unfold epochB
      rw [h.1, h.2.2.1]; rfl
    have hk : (Tl.f (.two 4 (epochT x.a x.e.toNat) (.atom x.s)) ns) = (seA ns x.a x.e x.s, seK ns x.a x.e x.s) := by
      rw [show Tl.f (.two 4 (epochT x.a x.e.toNat) (.atom x.s)) ns = (sideT (epochT x.a x.e.toNat) x.s).f ns from rfl, sideT_f, epochT_f]
      unfold seA seK epochA epochK
      rw [if_pos hb, if_pos hb]
    rw [if_pos rfl, recd_fx, hk]
    show (if syK ns x b < 0 then -1 else syK ns x b) = _ ∧ keptA ns (syA ns x b) (syK ns x b) = _
    unfold sayK sayA sayB keptA
    rw [hc]
    by_cases hn : syK ns x b < 0
    · rw [if_pos hn, if_pos hn, decide_eq_false (by omega)]; simp
    · rw [if_neg hn, if_neg hn, decide_eq_true (by omega)]; simp
set_option maxHeartbeats 1600000 in
set_option maxRecDepth 20000 in
theorem toldChanKey_any {L : Nat} (ap ep sd : Int) (w : World) (hL : L ≤ w.heap.size) (h0 : 0 ≤ ep) (h8 : ep ≤ 8) : Calls Try.prog 59 #[.int .i64 ap, .int .i64 ep, .int .i64 sd] w (ToldP L (.two 4 (epochT ap ep.toNat) (.atom sd)) w) := by
  obtain ⟨m0, rfl⟩ := Int.eq_ofNat_of_zero_le h0
  have hm : m0 ≤ 8 := by omega
  rw [Int.toNat_natCast]
  clear h0 h8
  go_enter Try.func59, Try.ntmps59
  go_wp2_with fail
  refine Calls.mono (toldEpoch_any (L := L) ap m0 w hm hL) ?_
  rintro e w1 ⟨v1, rfl, ht, hb⟩
  obtain ⟨F1, cs1, rfl⟩ := ht.fn
  have HC : Hid (Below w.heap.size w w1 ∧ L ≤ w1.heap.size ∧ ToldIs L w1.heap.size w1 (epochT ap m0) (.func (.func F1) #[] cs1)) := ⟨hb, Nat.le_trans hL hb.size, ht⟩
  clear ht hb hL
  go_wp2_with fail
  refine Calls.mono (toldSideKey_any (L := L) (epochT ap m0) _ sd w1 HC.out.2.1 HC.out.2.2) ?_
  rintro e w2 ⟨v2, rfl, ht, hb⟩
  obtain ⟨F2, cs2, rfl⟩ := ht.fn
  have HE : Hid (ToldIs L w2.heap.size w2 (.two 4 (epochT ap m0) (.atom sd)) (.func (.func F2) #[] cs2) ∧ Below w.heap.size w w2) := ⟨ht, HC.out.1.trans (hb.mono HC.out.1.size)⟩
  clear ht hb HC
  go_wp2
  go_ret
  exact ⟨_, rfl, HE.out.1, HE.out.2⟩
set_option maxHeartbeats 3200000 in
set_option maxRecDepth 20000 in
theorem tl_next (mx B gb gm f g1 g2 : Nat) (x : Ch) (bd : Int) (ns : List Nd) (u : Value) (w : World) (hw : (Tl.next x bd).Wf) (hmx : mx ≤ 1048576) (hl : ns.length ≤ 1048576) (h1 : w.heap[g1]? = some (.cells #[.int .i64 x.a, .int .i64 x.s, .int .i64 x.e, .int .i64 x.q, .int .i64 x.h, .int .i64 x.t, .int .i64 x.u, .int .i64 x.l, .int .i64 x.m] 25 (0, 0))) (h2 : w.heap[g2]? = some (.cells #[.int .i64 bd] 3 (0, 0))) (hb : BldM mx B gb gm ns.length f ns u w) :
    Calls Try.prog 57 #[.pointer (some ⟨gb, 0, none⟩), .pointer (some ⟨g1, 0, none⟩), .pointer (some ⟨g2, 0, none⟩)] w (TlPost mx B gb gm f ((Tl.next x bd).g mx ns) u w) := by
  obtain ⟨av, cv, hve, hrow⟩ : ∃ av cv, u = .slice av ns.length cv ∧ RowN w.heap.size w av ns := by
    obtain ⟨D, _, hv, _⟩ := hb
    obtain ⟨av, cv, e, _, hr⟩ := hv.row
    exact ⟨av, cv, e, hr⟩
  subst hve
  obtain ⟨R, HR⟩ : ∃ R, Hid ((Tl.next x bd).g mx ns = R) := ⟨_, rfl⟩
  rw [HR.out]
  have HR2 : Hid ((if chanB ns x = true then (Tl.recd (.two 4 (epochT x.a x.e.toNat) (.atom x.s)) x.e x.q bd).g mx ns else (ns, -1)) = R) := HR.out
  clear HR
  have HB : Hid (BldM mx B gb gm ns.length f ns (.slice av ns.length cv) w) := hb
  have HW : Hid ((Tl.next x bd).Wf) := hw
  have HN : Hid (∀ wz, Below w.heap.size w wz → ChIn g1 x wz ∧ wz.cell? ⟨g2, 0, none⟩ = some (.int .i64 bd)) := fun wz hz => ⟨(ChIn.of h1).next hz, (cell_of_row _ _ 0 _ _ _ ((hz.block _ (Array.getElem?_eq_some_iff.1 h2).1).trans h2)).trans rfl⟩
  obtain ⟨d0, HD0⟩ : ∃ d, Hid (chanB ns x = d) := ⟨_, rfl⟩
  have UP : Hid (∀ {wz wy : World}, Below w.heap.size w wz → Below wz.heap.size wz wy → Below w.heap.size w wy) := fun h1 h2 => h1.trans (h2.mono h1.size)
  have hd : Below w.heap.size w w.drew := (Below.refl _ _).drew
  have HSF : Hid (∀ wz, Below w.heap.size w wz → Calls Try.prog 58 #[.pointer (some ⟨gb, 0, none⟩)] wz fun e w' => e = .returned (.agg #[.slice av ns.length cv]) ∧ Below w.heap.size w w') := fun wz hz => (soFar_any mx B gb gm f ns av cv wz (HB.out.later hz)).mono fun e w' h => ⟨h.1, UP.out hz h.2⟩
  have HCO : Hid (∀ wz, Below w.heap.size w wz → Calls Try.prog 15 #[.agg #[.slice av ns.length cv], .agg #[.int .i64 x.a, .int .i64 x.s, .int .i64 x.e, .int .i64 x.q, .int .i64 x.h, .int .i64 x.t, .int .i64 x.u, .int .i64 x.l, .int .i64 x.m]] wz fun e w' => e = .returned (.bool d0) ∧ Below w.heap.size w w') := fun wz hz => (implChanOk_any av cv ns x wz hl HW.out.1 (hrow.grown hz)).mono fun e w' h => ⟨by rw [← HD0.out]; exact h.1, UP.out hz h.2⟩
  clear hb hw h1 h2 hrow
  go_enter Try.func57, Try.ntmps57
  go_wp2_with fail
  refine _root_.Go.wp_region_held (S := fun w' : World => ChIn g1 x w') (by kernel_rfl) ?_
  have hS : (fun w' : World => ChIn g1 x w') w.drew := (HN.out _ hd).1
  refine wpAnyH_take (i := 0) (v := ?_) rfl (by kernel_rfl) (by kernel_rfl) (by kernel_rfl) (fun _ _ _ h => h) (Or.inl ⟨by rfl, ?_⟩) hS ?_
  rotate_left
  · intro w hSw; have yN := hSw; have z0 := yN.c0; have z1 := yN.c1; have z2 := yN.c2; have z3 := yN.c3; have z4 := yN.c4; have z5 := yN.c5; have z6 := yN.c6; have z7 := yN.c7; have z8 := yN.c8; go_simp; try with_reducible rfl
  simp only [Act.put, List.getElem_toArray, List.getElem_cons_zero, List.setIfInBounds_toArray, List.set_cons_succ, List.set_cons_zero]
  refine wpAnyH_take (i := 2) (v := ?_) rfl (by kernel_rfl) (by kernel_rfl) (by kernel_rfl) (fun _ _ _ h => h) (Or.inl ⟨by rfl, ?_⟩) hS ?_
  rotate_left
  · intro w hSw; have yN := hSw; have z0 := yN.c0; have z1 := yN.c1; have z2 := yN.c2; have z3 := yN.c3; have z4 := yN.c4; have z5 := yN.c5; have z6 := yN.c6; have z7 := yN.c7; have z8 := yN.c8; go_simp; try with_reducible rfl
  simp only [Act.put, List.getElem_toArray, List.getElem_cons_succ, List.getElem_cons_zero, List.setIfInBounds_toArray, List.set_cons_succ, List.set_cons_zero]
  refine wpAnyH_ready (rs := [1]) (by kernel_rfl) (by simp) ?_
  refine AllReadyH.cons rfl (fun K hK => ?_) AllReadyH.nil
  go_simp
  refine Calls.mono (HSF.out _ hd) ?_
  rintro e w1 ⟨rfl, h1⟩
  refine hK.out _ _ (HN.out _ h1).1 (fun hS => ?_)
  clear hK K
  refine wpAnyH_ready (rs := [3]) (by kernel_rfl) (by simp) ?_
  refine AllReadyH.cons rfl (fun K hK => ?_) AllReadyH.nil
  go_simp
  refine Calls.mono (HCO.out _ h1) ?_
  rintro e w2 ⟨rfl, h2⟩
  refine hK.out _ _ (HN.out _ h2).1 (fun hS => ?_)
  clear hK K
  refine wpAnyH_take (i := 4) (v := ?_) rfl (by kernel_rfl) (by kernel_rfl) (by kernel_rfl) (fun _ _ _ h => h) (Or.inl ⟨by rfl, ?_⟩) hS ?_
  rotate_left
  · intro w hSw; have yN := hSw; have z0 := yN.c0; have z1 := yN.c1; have z2 := yN.c2; have z3 := yN.c3; have z4 := yN.c4; have z5 := yN.c5; have z6 := yN.c6; have z7 := yN.c7; have z8 := yN.c8; go_simp; try with_reducible rfl
  simp only [Act.put, List.getElem_toArray, List.getElem_cons_succ, List.getElem_cons_zero, List.setIfInBounds_toArray, List.set_cons_succ, List.set_cons_zero]
  clear hS
  refine wpAnyH_done (by kernel_rfl) ?_ _
  clear HSF HCO
  cases d0 with
  | false =>
    have HE : Hid (TlPost mx B gb gm f R (.slice av ns.length cv) w (.returned (.int .i64 (-1))) w2) := by
      rw [← HR2.out, if_neg (by rw [HD0.out]; simp)]
      exact ⟨rfl, _, HB.out.later h2, Keep.below h2, h2.mono HB.out.size⟩
    clear HN UP
    go_wp2
    go_ret
    exact HE.out
  | true =>
    have HRT : Hid ((Tl.recd (.two 4 (epochT x.a x.e.toNat) (.atom x.s)) x.e x.q bd).g mx ns = R) := by show _ = _; rw [← HR2.out, if_pos HD0.out]
    have hep : 0 ≤ x.e ∧ x.e ≤ 8 := by have h := HD0.out; unfold chanB inB at h; simp at h; omega
    have HEP : Hid (0 ≤ x.e ∧ x.e ≤ 8) := hep
    clear hep HR2 HD0
    have q0 := (HN.out _ h2).1.c0
    have q1 := (HN.out _ h2).1.c1
    have q2 := (HN.out _ h2).1.c2
    go_wp2_with fail
    clear q0 q1 q2
    refine Calls.mono (toldChanKey_any (L := w2.heap.size) x.a x.e x.s w2 (Nat.le_refl _) HEP.out.1 HEP.out.2) ?_
    rintro e w3 ⟨v3, rfl, t3, hb⟩
    have h3 := UP.out h2 hb
    have s3 : w2.heap.size ≤ w3.heap.size := hb.size
    clear hb
    obtain ⟨F3, cs3, rfl⟩ := t3.fn
    have q2 := (HN.out _ h3).1.c2
    have q3 := (HN.out _ h3).1.c3
    have q4 := (HN.out _ h3).2
    go_wp2_with fail
    clear q2 q3 q4
    refine Calls.mono (toldRecord_any (L := w2.heap.size) _ _ x.e x.q bd w3 s3 t3) ?_
    rintro e w4 ⟨v4, rfl, t4, hb⟩
    have h4 := UP.out h3 hb
    have s4 : w2.heap.size ≤ w4.heap.size := Nat.le_trans s3 hb.size
    clear hb t3
    obtain ⟨G, ds, rfl⟩ := t4.fn
    have eg := t4.eg
    have HCL : Hid _ := t4.callA (recdW HW.out) w4 mx B gb gm f ns _ hmx (fun _ _ _ => rfl) (fun k hk1 hk2 => ⟨hk2, by have := HB.out.lts.1; have := h2.size; omega, by have := HB.out.lts.2.1; have := h2.size; omega, fun e => by have := HB.out.lts.2.2 k e; have := h2.size; omega⟩) hl (HB.out.later h4)
    rw [HRT.out] at HCL
    have HFIN : Hid (∀ e w', TlPost mx B gb gm f R (.slice av ns.length cv) w4 e w' → e = .returned (.int .i64 R.2) ∧ Hid (TlPost mx B gb gm f R (.slice av ns.length cv) w e w')) := fun e w' ⟨q1, u', q2, q3, q4⟩ => ⟨q1, q1, u', q2, (Keep.below h4).trans q3, (h4.mono HB.out.size).trans q4⟩
    clear t4 HN UP
    go_wp2_with fail
    refine Calls.mono HCL.out ?_
    intro e w5 hpost
    obtain ⟨rfl, hh⟩ := HFIN.out _ _ hpost
    clear hpost HCL HFIN
    go_wp2
    go_ret
    exact hh.out
theorem toldIs_next {L B g1 g2 : Nat} {w : World} (x : Ch) (bd : Int) (h1 : L ≤ g1 ∧ g1 < B) (h2 : L ≤ g2 ∧ g2 < B) (e1 : w.heap[g1]? = some (.cells #[.int .i64 x.a, .int .i64 x.s, .int .i64 x.e, .int .i64 x.q, .int .i64 x.h, .int .i64 x.t, .int .i64 x.u, .int .i64 x.l, .int .i64 x.m] 25 (0, 0))) (e2 : w.heap[g2]? = some (.cells #[.int .i64 bd] 3 (0, 0))) : ToldIs L B w (.next x bd) (.func (.func 57) #[] #[.pointer (some ⟨g1, 0, none⟩), .pointer (some ⟨g2, 0, none⟩)]) :=
  ⟨fun hw => .next hw, _, _, rfl, Try.call57, fun hw w' mx B' gb gm fl ns u hmx ha hp hl hb => tl_next mx B' gb gm fl g1 g2 x bd ns u w' hw hmx hl ((ha g1 h1.1 h1.2).trans e1) ((ha g2 h2.1 h2.2).trans e2) hb⟩
set_option maxHeartbeats 1600000 in
theorem toldNext_any {L : Nat} (x : Ch) (bd : Int) (w : World) (hL : L ≤ w.heap.size) : Calls Try.prog 40 #[.agg #[.int .i64 x.a, .int .i64 x.s, .int .i64 x.e, .int .i64 x.q, .int .i64 x.h, .int .i64 x.t, .int .i64 x.u, .int .i64 x.l, .int .i64 x.m], .int .i64 bd] w (ToldP L (.next x bd) w) := by
  have hb : Below w.heap.size w ((w.alloc (.cells #[.int .i64 x.a, .int .i64 x.s, .int .i64 x.e, .int .i64 x.q, .int .i64 x.h, .int .i64 x.t, .int .i64 x.u, .int .i64 x.l, .int .i64 x.m] 25)).alloc (.cells #[.int .i64 bd] 3)) := ((Below.refl _ _).alloc (Nat.le_refl _) _).alloc (by simp) _
  have hs : ((w.alloc (.cells #[.int .i64 x.a, .int .i64 x.s, .int .i64 x.e, .int .i64 x.q, .int .i64 x.h, .int .i64 x.t, .int .i64 x.u, .int .i64 x.l, .int .i64 x.m] 25)).alloc (.cells #[.int .i64 bd] 3)).heap.size = w.heap.size + 2 := by simp
  have a1 : ((w.alloc (.cells #[.int .i64 x.a, .int .i64 x.s, .int .i64 x.e, .int .i64 x.q, .int .i64 x.h, .int .i64 x.t, .int .i64 x.u, .int .i64 x.l, .int .i64 x.m] 25)).alloc (.cells #[.int .i64 bd] 3)).heap[w.heap.size]? = some (.cells #[.int .i64 x.a, .int .i64 x.s, .int .i64 x.e, .int .i64 x.q, .int .i64 x.h, .int .i64 x.t, .int .i64 x.u, .int .i64 x.l, .int .i64 x.m] 25 (0, 0)) := (heap_alloc_old _ _ (by simp)).trans (heap_alloc_new w _)
  have a2 : ((w.alloc (.cells #[.int .i64 x.a, .int .i64 x.s, .int .i64 x.e, .int .i64 x.q, .int .i64 x.h, .int .i64 x.t, .int .i64 x.u, .int .i64 x.l, .int .i64 x.m] 25)).alloc (.cells #[.int .i64 bd] 3)).heap[w.heap.size + 1]? = some (.cells #[.int .i64 bd] 3 (0, 0)) := by have := heap_alloc_new (w.alloc (.cells #[.int .i64 x.a, .int .i64 x.s, .int .i64 x.e, .int .i64 x.q, .int .i64 x.h, .int .i64 x.t, .int .i64 x.u, .int .i64 x.l, .int .i64 x.m] 25)) (.cells #[.int .i64 bd] 3); rw [show (w.alloc (.cells #[.int .i64 x.a, .int .i64 x.s, .int .i64 x.e, .int .i64 x.q, .int .i64 x.h, .int .i64 x.t, .int .i64 x.u, .int .i64 x.l, .int .i64 x.m] 25)).heap.size = w.heap.size + 1 by simp] at this; exact this
  have HF : Hid (ToldP L (.next x bd) w (.returned (.func (.func 57) #[] #[.pointer (some ⟨w.heap.size, 0, none⟩), .pointer (some ⟨w.heap.size + 1, 0, none⟩)])) ((w.alloc (.cells #[.int .i64 x.a, .int .i64 x.s, .int .i64 x.e, .int .i64 x.q, .int .i64 x.h, .int .i64 x.t, .int .i64 x.u, .int .i64 x.l, .int .i64 x.m] 25)).alloc (.cells #[.int .i64 bd] 3))) := ⟨_, rfl, toldIs_next x bd ⟨hL, by omega⟩ ⟨by omega, by omega⟩ a1 a2, hb⟩
  have hmf : ∀ (fn : Fn) (first cap : Array Value) (w : World), (Instr.makeFunc fn first cap).run Try.prog w = .ok (.func fn first cap) w := fun _ _ _ _ => rfl
  clear hb hs a1 a2 hL
  go_enter Try.func40, Try.ntmps40
  go_wp2
  go_ret
  exact HF.out
end Go.Proofs.Ytnjihmailppjkaa
