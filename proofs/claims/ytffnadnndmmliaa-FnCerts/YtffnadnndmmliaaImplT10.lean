/- The program's functions of chapter 10: secrets of names, certificates. -/
import Derived.Test.YtffnadnndmmliaaTold7
import Derived.Test.YtffnadnndmmliaaLawClip
import Derived.OpenShut
import Derived.Test.YtffnadnndmmliaaRegionK
import Derived.Test.YtffnadnndmmliaaTermPut2
namespace Go.Proofs.Ytffnadnndmmliaa
open Go.RowKit Go.Maps
set_option linter.unusedVariables false
theorem make_asN {ns : List Nd} {k x y : Int} (h : ¬ (k = 1 ∨ k = 7)) : makeA ns k x y = putA ns (mkNd k x y) ∧ makeK ns k x y = putK ns (mkNd k x y) := by
  unfold makeA makeK; rw [if_neg h, if_neg h]; exact ⟨rfl, rfl⟩
theorem ifneg_sameN {K : Int} (h : K < 0 → K = -1) : (if K < 0 then -1 else K) = K := by
  split
  · rename_i h1; exact (h h1).symm
  · rfl
theorem lgK_neg {ns : List Nd} {n : Int} (h : lgK ns n < 0) : lgK ns n = -1 := by
  unfold lgK at h ⊢
  split
  · rename_i h1; rw [if_pos h1] at h; exact putK_neg h
  · rfl
theorem pkK_neg {ns : List Nd} {x y : Int} (h : pkK ns x y < 0) : pkK ns x y = -1 := by
  unfold pkK at h ⊢
  split
  · rename_i h1; rw [if_pos h1] at h; exact putK_neg h
  · rfl
theorem crK_neg {ns : List Nd} {n : Int} (h : crK ns n < 0) : crK ns n = -1 := makeK_neg (show makeK _ _ _ _ < 0 from h)
/-- A certificate, as it is told. -/
def certT (n : Int) : Tl := .two 8 (.atom 1000) (.list [.atom 60, .atom n, .one 6 (longT n)])
theorem certT_f (n : Int) (ns : List Nd) : (certT n).f ns = (crA ns n, crK ns n) := by
  have e5 : ((Tl.one 6 (longT n)).f (crA3 ns n)) = (crA5 ns n, crK5 ns n) := by
    unfold crA5 crK5
    rw [(make_asN (k := 6) (by omega)).1, (make_asN (k := 6) (by omega)).2]
    show (putA ((longT n).f (crA3 ns n)).1 (mkNd 6 ((longT n).f (crA3 ns n)).2 0), putK ((longT n).f (crA3 ns n)).1 (mkNd 6 ((longT n).f (crA3 ns n)).2 0)) = _
    rw [longT_f]
  have eL : ((Tl.list [.atom 60, .atom n, .one 6 (longT n)]).f (crA1 ns)) = crL ns n := by
    rw [Tl.f_list, Tl.fs_cons, Tl.fs_cons, Tl.fs_cons, Tl.fs_nil]
    show listF [crK2 ns, crK3 ns n, ((Tl.one 6 (longT n)).f (crA3 ns n)).2] ((Tl.one 6 (longT n)).f (crA3 ns n)).1 = _
    rw [e5]; rfl
  unfold crA crK
  rw [(make_asN (k := 8) (by omega)).1, (make_asN (k := 8) (by omega)).2]
  show (putA ((Tl.list [.atom 60, .atom n, .one 6 (longT n)]).f (crA1 ns)).1 (mkNd 8 (crK1 ns) ((Tl.list [.atom 60, .atom n, .one 6 (longT n)]).f (crA1 ns)).2), putK ((Tl.list [.atom 60, .atom n, .one 6 (longT n)]).f (crA1 ns)).1 (mkNd 8 (crK1 ns) ((Tl.list [.atom 60, .atom n, .one 6 (longT n)]).f (crA1 ns)).2)) = _
  rw [eL]
theorem wf60 : (Lit.int .i64 60).wf = true := by decide
theorem wf1000 : (Lit.int .i64 1000).wf = true := by decide
theorem certT_wf {n : Int} (h : (Lit.int .i64 n).wf = true) : (certT n).Wf := ⟨by omega, by omega, wf1000, by simp, wf60, h, longT_wf n, trivial⟩
/-- Terms that are told stay so. -/
theorem ToldIs.next {L : Nat} {w w' : World} {t : Tl} {v : Value} (hb : Below w.heap.size w w') (h : ToldIs L w.heap.size w t v) : ToldIs L w'.heap.size w' t v := ToldIs.base hb.size t (ToldIs.later hb t h)
set_option maxHeartbeats 1600000 in
theorem toldCert_any {L : Nat} (n : Int) (w : World) (hL : L ≤ w.heap.size) (hn : (Lit.int .i64 n).wf = true) : Calls Try.prog 132 #[.int .i64 n] w (ToldP L (certT n) w) := by
  have HL : Hid (L ≤ w.heap.size) := hL
  have HN : Hid ((Lit.int .i64 n).wf = true) := hn
  clear hL hn
  go_enter Try.func132, Try.ntmps132
  go_wp2_with fail
  refine Calls.mono (toldLong_any (L := L) n w HL.out HN.out) ?_
  rintro e w1 ⟨v1, rfl, t1, b1⟩
  have B1 : Hid (Below w.heap.size w w1 ∧ L ≤ w1.heap.size ∧ ToldIs L w1.heap.size w1 (longT n) v1) := ⟨b1, Nat.le_trans HL.out b1.size, t1⟩
  obtain ⟨F1, c1, rfl⟩ := t1.fn
  clear t1 b1
  go_wp2_with fail
  refine Calls.mono (toldOne_any (L := L) 6 _ _ w1 (by omega) B1.out.2.1 B1.out.2.2) ?_
  rintro e w2 ⟨v2, rfl, t2, b2⟩
  have B2 : Hid (Below w.heap.size w w2 ∧ L ≤ w2.heap.size ∧ ToldIs L w2.heap.size w2 (.one 6 (longT n)) v2) := ⟨B1.out.1.trans (b2.mono B1.out.1.size), Nat.le_trans B1.out.2.1 b2.size, t2⟩
  obtain ⟨F2, c2, rfl⟩ := t2.fn
  clear t2 b2 B1
  go_wp2_with fail
  refine Calls.mono (toldAtom_any (L := L) 1000 w2 B2.out.2.1) ?_
  rintro e w3 ⟨v3, rfl, t3, b3⟩
  have B3 : Hid (Below w.heap.size w w3 ∧ L ≤ w3.heap.size ∧ ToldIs L w3.heap.size w3 (.one 6 (longT n)) (.func (.func F2) #[] c2) ∧ ToldIs L w3.heap.size w3 (.atom 1000) v3) := ⟨B2.out.1.trans (b3.mono B2.out.1.size), Nat.le_trans B2.out.2.1 b3.size, B2.out.2.2.next b3, t3⟩
  obtain ⟨F3, c3, rfl⟩ := t3.fn
  clear t3 b3 B2
  go_wp2_with fail
  refine Calls.mono (toldAtom_any (L := L) 60 w3 B3.out.2.1) ?_
  rintro e w4 ⟨v4, rfl, t4, b4⟩
  have B4 : Hid (Below w.heap.size w w4 ∧ L ≤ w4.heap.size ∧ ToldIs L w4.heap.size w4 (.one 6 (longT n)) (.func (.func F2) #[] c2) ∧ ToldIs L w4.heap.size w4 (.atom 1000) (.func (.func F3) #[] c3) ∧ ToldIs L w4.heap.size w4 (.atom 60) v4) := ⟨B3.out.1.trans (b4.mono B3.out.1.size), Nat.le_trans B3.out.2.1 b4.size, B3.out.2.2.1.next b4, B3.out.2.2.2.next b4, t4⟩
  obtain ⟨F4, c4, rfl⟩ := t4.fn
  clear t4 b4 B3
  go_wp2_with fail
  refine Calls.mono (toldAtom_any (L := L) n w4 B4.out.2.1) ?_
  rintro e w5 ⟨v5, rfl, t5, b5⟩
  have B5 : Hid (Below w.heap.size w w5 ∧ L ≤ w5.heap.size ∧ ToldIs L w5.heap.size w5 (.one 6 (longT n)) (.func (.func F2) #[] c2) ∧ ToldIs L w5.heap.size w5 (.atom 1000) (.func (.func F3) #[] c3) ∧ ToldIs L w5.heap.size w5 (.atom 60) (.func (.func F4) #[] c4) ∧ ToldIs L w5.heap.size w5 (.atom n) v5) := ⟨B4.out.1.trans (b5.mono B4.out.1.size), Nat.le_trans B4.out.2.1 b5.size, B4.out.2.2.1.next b5, B4.out.2.2.2.1.next b5, B4.out.2.2.2.2.next b5, t5⟩
  obtain ⟨F5, c5, rfl⟩ := t5.fn
  clear t5 b5 B4
  obtain ⟨w6, hw6⟩ : ∃ w6, w5.alloc (.cells #[.func (.func F4) #[] c4, .func (.func F5) #[] c5, .func (.func F2) #[] c2] 116) = w6 := ⟨_, rfl⟩
  have b6 : Below w5.heap.size w5 w6 := by rw [← hw6]; exact (Below.refl _ _).alloc (Nat.le_refl _) _
  have s6 : w6.heap.size = w5.heap.size + 1 := by rw [← hw6]; simp
  have h6 : w6.heap[w5.heap.size]? = some (.cells #[.func (.func F4) #[] c4, .func (.func F5) #[] c5, .func (.func F2) #[] c2] 116 (0, 0)) := by rw [← hw6]; exact heap_alloc_new w5 _
  have HLC : Hid (Calls Try.prog 169 #[.slice (some ⟨w5.heap.size, 0, none⟩) 3 3] w6 (ToldP L (.list [.atom 60, .atom n, .one 6 (longT n)]) w6)) := by
    refine toldList_any (h := w5.heap.size) [.atom 60, .atom n, .one 6 (longT n)] [.func (.func F4) #[] c4, .func (.func F5) #[] c5, .func (.func F2) #[] c2] w6 (Nat.le_trans B5.out.2.1 b6.size) ⟨B5.out.2.1, by omega⟩ h6 ⟨rfl, fun m hm => ?_⟩
    rcases (show m = 0 ∨ m = 1 ∨ m = 2 by simp at hm; omega) with rfl | rfl | rfl
    · exact B5.out.2.2.2.2.1.next b6
    · exact B5.out.2.2.2.2.2.next b6
    · exact B5.out.2.2.1.next b6
  have B6 : Hid (Below w.heap.size w w6 ∧ L ≤ w6.heap.size ∧ ToldIs L w6.heap.size w6 (.atom 1000) (.func (.func F3) #[] c3)) := ⟨B5.out.1.trans (b6.mono B5.out.1.size), Nat.le_trans B5.out.2.1 b6.size, B5.out.2.2.2.1.next b6⟩
  clear B5 b6 s6 h6
  go_wp2_with fail
  clear hw6
  refine Calls.mono HLC.out ?_
  rintro e w7 ⟨v7, rfl, t7, b7⟩
  have B7 : Hid (Below w.heap.size w w7 ∧ L ≤ w7.heap.size ∧ ToldIs L w7.heap.size w7 (.atom 1000) (.func (.func F3) #[] c3) ∧ ToldIs L w7.heap.size w7 (.list [.atom 60, .atom n, .one 6 (longT n)]) v7) := ⟨B6.out.1.trans (b7.mono B6.out.1.size), Nat.le_trans B6.out.2.1 b7.size, B6.out.2.2.next b7, t7⟩
  obtain ⟨F7, c7, rfl⟩ := t7.fn
  clear t7 b7 B6 HLC
  go_wp2_with fail
  refine Calls.mono (toldTwo_any (L := L) 8 _ _ _ _ w7 B7.out.2.1 B7.out.2.2.1 B7.out.2.2.2) ?_
  rintro e w8 ⟨v8, rfl, t8, b8⟩
  have HE : Hid (ToldP L (certT n) w (.returned v8) w8) := ⟨v8, rfl, t8, B7.out.1.trans (b8.mono B7.out.1.size)⟩
  clear t8 b8 B7
  go_wp2
  go_ret
  exact HE.out

set_option maxHeartbeats 1600000 in
set_option maxRecDepth 20000 in
theorem implLong_any (a : Option Addr) (cap : Nat) (ns : List Nd) (nm : Int) (w : World) (hl : ns.length ≤ 1048576) (hf : ∀ y ∈ ns, y.Fits) (h1 : (Lit.int .i64 nm).wf = true) (ha : AddrN a cap) (hr : RowN w.heap.size w a ns) :
    Calls Try.prog 65 #[.agg #[.slice a ns.length cap], .int .i64 nm] w fun e w' => ∃ v, e = .returned (.tuple #[.agg #[v], .int .i64 (lgK ns nm)]) ∧ OwnC w.heap.size w' v (keptA ns (lgA ns nm) (lgK ns nm)) ∧ Below w.heap.size w w' := by
  have HFN : Hid (∀ (v : Value) (wz : World), Below w.heap.size w wz → ToldIs (w.heap.size + 2) wz.heap.size wz (longT nm) v → Calls Try.prog 112 #[v, .agg #[.slice a ns.length cap]] wz fun e w' => ∃ v', e = .returned (.tuple #[.agg #[v'], .int .i64 (lgK ns nm)]) ∧ OwnC wz.heap.size w' v' (keptA ns (lgA ns nm) (lgK ns nm)) ∧ Below wz.heap.size wz w') := fun v wz hb ht => by
    have := putIn_any (longT nm) v a cap ns wz (longT_wf nm) ht hl hf ha (hr.grown hb)
    rw [longT_f nm ns, ifneg_sameN (lgK_neg (ns := ns) (n := nm))] at this
    exact this
  generalize lgK ns nm = KK at HFN ⊢
  generalize lgA ns nm = AA at HFN ⊢
  obtain ⟨KP, hKP⟩ : ∃ X, keptA ns AA KK = X := ⟨_, rfl⟩
  rw [hKP] at HFN ⊢
  clear hKP
  clear hf ha hr
  obtain ⟨w0, he, hb0, hs0, hA0, hr0⟩ := two_cells a ns.length cap w
  have HC0 : Hid (w0.heap[w.heap.size]? = some (.cells #[.slice a ns.length cap] 28 (0, 0)) ∧ w0.heap[w.heap.size + 1]? = some (.cells #[.slice none 0 0] 28 (0, 0)) ∧ Below w.heap.size w w0 ∧ w.heap.size + 2 ≤ w0.heap.size) := ⟨hA0, hr0, hb0, by omega⟩
  clear hb0 hs0 hA0 hr0
  go_enter Try.func65, Try.ntmps65
  go_wp2_with fail
  rw [← he]
  clear he
  have HI : Hid (RgI w a ns.length cap [] w0) := ⟨HC0.out.2.2.1, HC0.out.1, ⟨_, HC0.out.2.1⟩, HC0.out.2.2.2, fun p hp => by cases hp⟩
  clear HC0
  refine wp_region_list (I := RgI w a ns.length cap []) (R := RgR (w.heap.size + 1) 6)
    (fs := #[⟨[6], fun vs _ => vs = [.int .i64 nm]⟩, ⟨[7], fun vs w' => ∃ v, vs = [v] ∧ ToldIs (w.heap.size + 2) w'.heap.size w' (longT nm) v⟩, ⟨[8], fun vs _ => vs = [.agg #[.slice a ns.length cap]]⟩, ⟨[9], fun vs w' => ∃ v, vs = [.tuple #[.agg #[v], .int .i64 KK]] ∧ OwnC (w.heap.size + 2) w' v KP⟩, ⟨[10], fun vs w' => ∃ v, vs = [.agg #[v]] ∧ OwnC (w.heap.size + 2) w' v KP⟩, ⟨[11], fun vs _ => vs = [.int .i64 KK]⟩, ⟨[], fun vs w' => ∃ a9 c9, w'.heap[w.heap.size + 1]? = some (.cells #[.slice a9 KP.length c9] 28 (0, 0)) ∧ OwnC (w.heap.size + 2) w' (.slice a9 KP.length c9) KP⟩, ⟨[5], fun vs _ => vs = [.int .i64 KK]⟩])
    (by kernel_rfl) 12 rfl (by kernel_rfl) ?stab ?istab ?start ?exec ?fin
  case stab =>
    intro k i f hki hf
    have hk : k < 8 := (Array.getElem?_eq_some_iff.1 hf).1
    rcases (show k = 0 ∨ k = 1 ∨ k = 2 ∨ k = 3 ∨ k = 4 ∨ k = 5 ∨ k = 6 ∨ k = 7 by omega) with rfl | rfl | rfl | rfl | rfl | rfl | rfl | rfl
    all_goals
      simp only [List.getElem?_toArray, List.getElem?_cons_succ, List.getElem?_cons_zero, Option.some.injEq] at hf
      subst hf
    · exact fun vs _ _ _ h => h
    · exact fun vs w' w'' hR ⟨v, h1, h2⟩ => ⟨v, h1, RgR.told hR (by omega) _ h2⟩
    · exact fun vs _ _ _ h => h
    · exact fun vs w' w'' hR ⟨v, h1, h2⟩ => ⟨v, h1, RgR.own hR (by omega) h2⟩
    · exact fun vs w' w'' hR ⟨v, h1, h2⟩ => ⟨v, h1, RgR.own hR (by omega) h2⟩
    · exact fun vs _ _ _ h => h
    · exact fun vs w' w'' hR ⟨a9, c9, h1, h2⟩ => ⟨a9, c9, by have h3 := hR; unfold RgR at h3; rw [if_neg (Ne.symm hki)] at h3; exact (h3.block _ (Array.getElem?_eq_some_iff.1 h1).1).trans h1, RgR.own hR (by omega) h2⟩
    · exact fun vs _ _ _ h => h
  case istab => exact fun i w' w'' hR h => h.next hR
  case start => exact HI.out.drew
  case exec =>
    intro i o f hi hf act wq hsz hI hold hpre
    have hi11 : i < 8 := (Array.getElem?_eq_some_iff.1 hi).1
    rcases (show i = 0 ∨ i = 1 ∨ i = 2 ∨ i = 3 ∨ i = 4 ∨ i = 5 ∨ i = 6 ∨ i = 7 by omega) with rfl | rfl | rfl | rfl | rfl | rfl | rfl | rfl
    all_goals
      simp only [List.getElem?_toArray, List.getElem?_cons_succ, List.getElem?_cons_zero, Option.some.injEq] at hi hf
      subst hi hf
    · have g1 : act.tmps.getD 1 undef = .int .i64 nm := hold 1 (free_spec (by kernel_rfl))
      refine exec_same (v := .int .i64 nm) ?_ ⟨_, rfl, (by show (if _ then _ else _); rw [if_neg (by decide)]; exact Below.refl _ _), at_one (by omega) rfl⟩
      simp [go_sem, Act.eval, g1]
    · have g6 : act.tmps.getD 6 undef = .int .i64 nm := by have := of_one (hpre ⟨0, .data⟩ (by simp) rfl _ rfl); simpa using this
      refine exec_call (f := 134) (args := #[.int .i64 nm]) (by simp [go_sem, Act.eval, g6]) ?_
      refine Calls.mono (toldLong_any nm wq hI.size h1) ?_
      rintro e w2 ⟨v2, rfl, l2, hb2⟩
      exact ⟨_, rfl, _, rfl, (by show (if _ then _ else _); rw [if_neg (by decide)]; exact hb2), ⟨_, by show [(act.put _ _).tmps.getD _ undef] = _; rw [put_same _ _ _ (by omega)], l2⟩⟩
    · have g2 : act.tmps.getD 2 undef = .pointer (some ⟨w.heap.size, 0, none⟩) := hold 2 (free_spec (by kernel_rfl))
      have hc : wq.cell? ⟨w.heap.size, 0, none⟩ = some (.slice a ns.length cap) := (cell_of_row _ _ 0 _ _ _ hI.box).trans rfl
      refine exec_same (v := .agg #[.slice a ns.length cap]) ?_ ⟨_, rfl, (by show (if _ then _ else _); rw [if_neg (by decide)]; exact Below.refl _ _), at_one (by omega) rfl⟩
      simp [go_sem, Act.eval, g2, hc]
    · obtain ⟨u1, h1_1, l1⟩ := hpre ⟨1, .data⟩ (by simp) rfl _ rfl
      have g7 : act.tmps.getD 7 undef = u1 := by simpa using h1_1
      have g8 : act.tmps.getD 8 undef = .agg #[.slice a ns.length cap] := by have := of_one (hpre ⟨2, .data⟩ (by simp) rfl _ rfl); simpa using this
      refine exec_call (f := 112) (args := #[u1, .agg #[.slice a ns.length cap]]) (by simp [go_sem, Act.eval, g7, g8]) ?_
      refine Calls.mono (HFN.out _ wq hI.below l1) ?_
      rintro e w2 ⟨v2, rfl, l2, hb2⟩
      exact ⟨_, rfl, _, rfl, (by show (if _ then _ else _); rw [if_neg (by decide)]; exact hb2), ⟨_, by show [(act.put _ _).tmps.getD _ undef] = _; rw [put_same _ _ _ (by omega)], l2.base (by have := hI.size; omega)⟩⟩
    · obtain ⟨uu, h1u, lu⟩ := hpre ⟨3, .data⟩ (by simp) rfl _ rfl
      have gu : act.tmps[9]?.getD undef = .tuple #[.agg #[uu], .int .i64 KK] := by simpa using h1u
      refine exec_same (v := .agg #[uu]) ?_ ⟨_, rfl, (by show (if _ then _ else _); rw [if_neg (by decide)]; exact Below.refl _ _), ⟨_, by show [(act.put _ _).tmps.getD _ undef] = _; rw [put_same _ _ _ (by omega)], lu⟩⟩
      simp [go_sem, Act.eval, gu]
    · obtain ⟨uu, h1u, lu⟩ := hpre ⟨3, .data⟩ (by simp) rfl _ rfl
      have gu : act.tmps[9]?.getD undef = .tuple #[.agg #[uu], .int .i64 KK] := by simpa using h1u
      refine exec_same (v := .int .i64 KK) ?_ ⟨_, rfl, (by show (if _ then _ else _); rw [if_neg (by decide)]; exact Below.refl _ _), at_one (by omega) rfl⟩
      simp [go_sem, Act.eval, gu]
    · obtain ⟨uu, h1u, lu⟩ := hpre ⟨4, .data⟩ (by simp) rfl _ rfl
      have gu : act.tmps[10]?.getD undef = .agg #[uu] := by simpa using h1u
      obtain ⟨a9, c9, rfl, -, -⟩ := lu.row
      have g4 : act.tmps.getD 4 undef = .pointer (some ⟨w.heap.size + 1, 0, none⟩) := hold 4 (free_spec (by kernel_rfl))
      obtain ⟨u0, hu0⟩ := hI.res
      have hcg : wq.cell? ⟨w.heap.size + 1, 0, none⟩ = some u0 := by rw [cell_of_row wq _ 0 _ _ _ hu0]; rfl
      have hfg : wq.frozen? ⟨w.heap.size + 1, 0, none⟩ = false := frozen_of_row wq _ 0 _ _ hu0
      have hRR : RgR (w.heap.size + 1) 6 6 wq (wq.setCell ⟨w.heap.size + 1, 0, none⟩ (.slice a9 KP.length c9)) := by show (if _ then _ else _); rw [if_pos rfl]; exact ⟨_, rfl⟩
      refine exec_skip (w' := wq.setCell ⟨w.heap.size + 1, 0, none⟩ (.slice a9 KP.length c9)) ?_ ⟨_, rfl, hRR, ⟨a9, c9, (heap_setCell_same wq _ 0 _ _ _ hu0).trans rfl, RgR.own hRR (by omega) lu⟩⟩
      simp [go_sem, Act.eval, g4, gu, hcg, hfg]
    · have g11 : act.tmps.getD 11 undef = .int .i64 KK := by have := of_one (hpre ⟨5, .data⟩ (by simp) rfl _ rfl); simpa using this
      refine exec_same (v := .int .i64 KK) ?_ ⟨_, rfl, (by show (if _ then _ else _); rw [if_neg (by decide)]; exact Below.refl _ _), at_one (by omega) rfl⟩
      simp [go_sem, Act.eval, g11]
  case fin =>
    intro zs w5 hzl hI hF
    obtain ⟨z0, z1, z2, z3, z4, z5, z6, z7, rfl⟩ := list8 zs hzl
    obtain ⟨a9, c9, hbox, hown⟩ := hF 6 _ rfl
    have hint := of_one (hF 7 _ rfl)
    simp only [List.cons.injEq, and_true] at hint
    have hs3 := last_is (i := 7) (v := z7) (n := 12) hint (by kernel_rfl) rfl rfl (by omega)
    clear hint
    subst hs3
    clear hF
    simp only [putAll, Act.put, List.setIfInBounds_toArray, List.set_cons_succ, List.set_cons_zero]
    have HE : Hid _ := And.intro hbox (And.intro hown hI.below)
    clear hbox hI hown
    go_wp2
    refine bodyPost_ret (res_cell2 rfl _ _ (w.heap.size + 1) 28 #[.slice a9 KP.length c9] (0, 0) _ rfl ?_ Try.underlying28 rfl arenaSize) rfl ?_
    · exact HE.out.1
    · exact ⟨_, rfl, HE.out.2.1.base (by omega), HE.out.2.2⟩
set_option maxHeartbeats 1600000 in
set_option maxRecDepth 20000 in
theorem implPsk_any (a : Option Addr) (cap : Nat) (ns : List Nd) (x : Int) (y : Int) (w : World) (hl : ns.length ≤ 1048576) (hf : ∀ y ∈ ns, y.Fits) (h1 : (Lit.int .i64 x).wf = true) (h2 : (Lit.int .i64 y).wf = true) (ha : AddrN a cap) (hr : RowN w.heap.size w a ns) :
    Calls Try.prog 67 #[.agg #[.slice a ns.length cap], .int .i64 x, .int .i64 y] w fun e w' => ∃ v, e = .returned (.tuple #[.agg #[v], .int .i64 (pkK ns x y)]) ∧ OwnC w.heap.size w' v (keptA ns (pkA ns x y) (pkK ns x y)) ∧ Below w.heap.size w w' := by
  have HFN : Hid (∀ (v : Value) (wz : World), Below w.heap.size w wz → ToldIs (w.heap.size + 2) wz.heap.size wz (pskT x y) v → Calls Try.prog 112 #[v, .agg #[.slice a ns.length cap]] wz fun e w' => ∃ v', e = .returned (.tuple #[.agg #[v'], .int .i64 (pkK ns x y)]) ∧ OwnC wz.heap.size w' v' (keptA ns (pkA ns x y) (pkK ns x y)) ∧ Below wz.heap.size wz w') := fun v wz hb ht => by
    have := putIn_any (pskT x y) v a cap ns wz (pskT_wf x y) ht hl hf ha (hr.grown hb)
    rw [pskT_f x y ns, ifneg_sameN (pkK_neg (ns := ns) (x := x) (y := y))] at this
    exact this
  generalize pkK ns x y = KK at HFN ⊢
  generalize pkA ns x y = AA at HFN ⊢
  obtain ⟨KP, hKP⟩ : ∃ X, keptA ns AA KK = X := ⟨_, rfl⟩
  rw [hKP] at HFN ⊢
  clear hKP
  clear hf ha hr
  obtain ⟨w0, he, hb0, hs0, hA0, hr0⟩ := two_cells a ns.length cap w
  have HC0 : Hid (w0.heap[w.heap.size]? = some (.cells #[.slice a ns.length cap] 28 (0, 0)) ∧ w0.heap[w.heap.size + 1]? = some (.cells #[.slice none 0 0] 28 (0, 0)) ∧ Below w.heap.size w w0 ∧ w.heap.size + 2 ≤ w0.heap.size) := ⟨hA0, hr0, hb0, by omega⟩
  clear hb0 hs0 hA0 hr0
  go_enter Try.func67, Try.ntmps67
  go_wp2_with fail
  rw [← he]
  clear he
  have HI : Hid (RgI w a ns.length cap [] w0) := ⟨HC0.out.2.2.1, HC0.out.1, ⟨_, HC0.out.2.1⟩, HC0.out.2.2.2, fun p hp => by cases hp⟩
  clear HC0
  refine wp_region_list (I := RgI w a ns.length cap []) (R := RgR (w.heap.size + 1) 7)
    (fs := #[⟨[8], fun vs _ => vs = [.int .i64 x]⟩, ⟨[9], fun vs _ => vs = [.int .i64 y]⟩, ⟨[10], fun vs w' => ∃ v, vs = [v] ∧ ToldIs (w.heap.size + 2) w'.heap.size w' (pskT x y) v⟩, ⟨[11], fun vs _ => vs = [.agg #[.slice a ns.length cap]]⟩, ⟨[12], fun vs w' => ∃ v, vs = [.tuple #[.agg #[v], .int .i64 KK]] ∧ OwnC (w.heap.size + 2) w' v KP⟩, ⟨[13], fun vs w' => ∃ v, vs = [.agg #[v]] ∧ OwnC (w.heap.size + 2) w' v KP⟩, ⟨[14], fun vs _ => vs = [.int .i64 KK]⟩, ⟨[], fun vs w' => ∃ a9 c9, w'.heap[w.heap.size + 1]? = some (.cells #[.slice a9 KP.length c9] 28 (0, 0)) ∧ OwnC (w.heap.size + 2) w' (.slice a9 KP.length c9) KP⟩, ⟨[7], fun vs _ => vs = [.int .i64 KK]⟩])
    (by kernel_rfl) 15 rfl (by kernel_rfl) ?stab ?istab ?start ?exec ?fin
  case stab =>
    intro k i f hki hf
    have hk : k < 9 := (Array.getElem?_eq_some_iff.1 hf).1
    rcases (show k = 0 ∨ k = 1 ∨ k = 2 ∨ k = 3 ∨ k = 4 ∨ k = 5 ∨ k = 6 ∨ k = 7 ∨ k = 8 by omega) with rfl | rfl | rfl | rfl | rfl | rfl | rfl | rfl | rfl
    all_goals
      simp only [List.getElem?_toArray, List.getElem?_cons_succ, List.getElem?_cons_zero, Option.some.injEq] at hf
      subst hf
    · exact fun vs _ _ _ h => h
    · exact fun vs _ _ _ h => h
    · exact fun vs w' w'' hR ⟨v, h1, h2⟩ => ⟨v, h1, RgR.told hR (by omega) _ h2⟩
    · exact fun vs _ _ _ h => h
    · exact fun vs w' w'' hR ⟨v, h1, h2⟩ => ⟨v, h1, RgR.own hR (by omega) h2⟩
    · exact fun vs w' w'' hR ⟨v, h1, h2⟩ => ⟨v, h1, RgR.own hR (by omega) h2⟩
    · exact fun vs _ _ _ h => h
    · exact fun vs w' w'' hR ⟨a9, c9, h1, h2⟩ => ⟨a9, c9, by have h3 := hR; unfold RgR at h3; rw [if_neg (Ne.symm hki)] at h3; exact (h3.block _ (Array.getElem?_eq_some_iff.1 h1).1).trans h1, RgR.own hR (by omega) h2⟩
    · exact fun vs _ _ _ h => h
  case istab => exact fun i w' w'' hR h => h.next hR
  case start => exact HI.out.drew
  case exec =>
    intro i o f hi hf act wq hsz hI hold hpre
    have hi11 : i < 9 := (Array.getElem?_eq_some_iff.1 hi).1
    rcases (show i = 0 ∨ i = 1 ∨ i = 2 ∨ i = 3 ∨ i = 4 ∨ i = 5 ∨ i = 6 ∨ i = 7 ∨ i = 8 by omega) with rfl | rfl | rfl | rfl | rfl | rfl | rfl | rfl | rfl
    all_goals
      simp only [List.getElem?_toArray, List.getElem?_cons_succ, List.getElem?_cons_zero, Option.some.injEq] at hi hf
      subst hi hf
    · have g1 : act.tmps.getD 1 undef = .int .i64 x := hold 1 (free_spec (by kernel_rfl))
      refine exec_same (v := .int .i64 x) ?_ ⟨_, rfl, (by show (if _ then _ else _); rw [if_neg (by decide)]; exact Below.refl _ _), at_one (by omega) rfl⟩
      simp [go_sem, Act.eval, g1]
    · have g2 : act.tmps.getD 2 undef = .int .i64 y := hold 2 (free_spec (by kernel_rfl))
      refine exec_same (v := .int .i64 y) ?_ ⟨_, rfl, (by show (if _ then _ else _); rw [if_neg (by decide)]; exact Below.refl _ _), at_one (by omega) rfl⟩
      simp [go_sem, Act.eval, g2]
    · have g8 : act.tmps.getD 8 undef = .int .i64 x := by have := of_one (hpre ⟨0, .data⟩ (by simp) rfl _ rfl); simpa using this
      have g9 : act.tmps.getD 9 undef = .int .i64 y := by have := of_one (hpre ⟨1, .data⟩ (by simp) rfl _ rfl); simpa using this
      refine exec_call (f := 136) (args := #[.int .i64 x, .int .i64 y]) (by simp [go_sem, Act.eval, g8, g9]) ?_
      refine Calls.mono (toldPsk_any x y wq hI.size h1 h2) ?_
      rintro e w2 ⟨v2, rfl, l2, hb2⟩
      exact ⟨_, rfl, _, rfl, (by show (if _ then _ else _); rw [if_neg (by decide)]; exact hb2), ⟨_, by show [(act.put _ _).tmps.getD _ undef] = _; rw [put_same _ _ _ (by omega)], l2⟩⟩
    · have g3 : act.tmps.getD 3 undef = .pointer (some ⟨w.heap.size, 0, none⟩) := hold 3 (free_spec (by kernel_rfl))
      have hc : wq.cell? ⟨w.heap.size, 0, none⟩ = some (.slice a ns.length cap) := (cell_of_row _ _ 0 _ _ _ hI.box).trans rfl
      refine exec_same (v := .agg #[.slice a ns.length cap]) ?_ ⟨_, rfl, (by show (if _ then _ else _); rw [if_neg (by decide)]; exact Below.refl _ _), at_one (by omega) rfl⟩
      simp [go_sem, Act.eval, g3, hc]
    · obtain ⟨u2, h1_2, l2⟩ := hpre ⟨2, .data⟩ (by simp) rfl _ rfl
      have g10 : act.tmps.getD 10 undef = u2 := by simpa using h1_2
      have g11 : act.tmps.getD 11 undef = .agg #[.slice a ns.length cap] := by have := of_one (hpre ⟨3, .data⟩ (by simp) rfl _ rfl); simpa using this
      refine exec_call (f := 112) (args := #[u2, .agg #[.slice a ns.length cap]]) (by simp [go_sem, Act.eval, g10, g11]) ?_
      refine Calls.mono (HFN.out _ wq hI.below l2) ?_
      rintro e w2 ⟨v2, rfl, l2, hb2⟩
      exact ⟨_, rfl, _, rfl, (by show (if _ then _ else _); rw [if_neg (by decide)]; exact hb2), ⟨_, by show [(act.put _ _).tmps.getD _ undef] = _; rw [put_same _ _ _ (by omega)], l2.base (by have := hI.size; omega)⟩⟩
    · obtain ⟨uu, h1u, lu⟩ := hpre ⟨4, .data⟩ (by simp) rfl _ rfl
      have gu : act.tmps[12]?.getD undef = .tuple #[.agg #[uu], .int .i64 KK] := by simpa using h1u
      refine exec_same (v := .agg #[uu]) ?_ ⟨_, rfl, (by show (if _ then _ else _); rw [if_neg (by decide)]; exact Below.refl _ _), ⟨_, by show [(act.put _ _).tmps.getD _ undef] = _; rw [put_same _ _ _ (by omega)], lu⟩⟩
      simp [go_sem, Act.eval, gu]
    · obtain ⟨uu, h1u, lu⟩ := hpre ⟨4, .data⟩ (by simp) rfl _ rfl
      have gu : act.tmps[12]?.getD undef = .tuple #[.agg #[uu], .int .i64 KK] := by simpa using h1u
      refine exec_same (v := .int .i64 KK) ?_ ⟨_, rfl, (by show (if _ then _ else _); rw [if_neg (by decide)]; exact Below.refl _ _), at_one (by omega) rfl⟩
      simp [go_sem, Act.eval, gu]
    · obtain ⟨uu, h1u, lu⟩ := hpre ⟨5, .data⟩ (by simp) rfl _ rfl
      have gu : act.tmps[13]?.getD undef = .agg #[uu] := by simpa using h1u
      obtain ⟨a9, c9, rfl, -, -⟩ := lu.row
      have g6 : act.tmps.getD 6 undef = .pointer (some ⟨w.heap.size + 1, 0, none⟩) := hold 6 (free_spec (by kernel_rfl))
      obtain ⟨u0, hu0⟩ := hI.res
      have hcg : wq.cell? ⟨w.heap.size + 1, 0, none⟩ = some u0 := by rw [cell_of_row wq _ 0 _ _ _ hu0]; rfl
      have hfg : wq.frozen? ⟨w.heap.size + 1, 0, none⟩ = false := frozen_of_row wq _ 0 _ _ hu0
      have hRR : RgR (w.heap.size + 1) 7 7 wq (wq.setCell ⟨w.heap.size + 1, 0, none⟩ (.slice a9 KP.length c9)) := by show (if _ then _ else _); rw [if_pos rfl]; exact ⟨_, rfl⟩
      refine exec_skip (w' := wq.setCell ⟨w.heap.size + 1, 0, none⟩ (.slice a9 KP.length c9)) ?_ ⟨_, rfl, hRR, ⟨a9, c9, (heap_setCell_same wq _ 0 _ _ _ hu0).trans rfl, RgR.own hRR (by omega) lu⟩⟩
      simp [go_sem, Act.eval, g6, gu, hcg, hfg]
    · have g14 : act.tmps.getD 14 undef = .int .i64 KK := by have := of_one (hpre ⟨6, .data⟩ (by simp) rfl _ rfl); simpa using this
      refine exec_same (v := .int .i64 KK) ?_ ⟨_, rfl, (by show (if _ then _ else _); rw [if_neg (by decide)]; exact Below.refl _ _), at_one (by omega) rfl⟩
      simp [go_sem, Act.eval, g14]
  case fin =>
    intro zs w5 hzl hI hF
    obtain ⟨z0, z1, z2, z3, z4, z5, z6, z7, z8, rfl⟩ := list9 zs hzl
    obtain ⟨a9, c9, hbox, hown⟩ := hF 7 _ rfl
    have hint := of_one (hF 8 _ rfl)
    simp only [List.cons.injEq, and_true] at hint
    have hs3 := last_is (i := 8) (v := z8) (n := 15) hint (by kernel_rfl) rfl rfl (by omega)
    clear hint
    subst hs3
    clear hF
    simp only [putAll, Act.put, List.setIfInBounds_toArray, List.set_cons_succ, List.set_cons_zero]
    have HE : Hid _ := And.intro hbox (And.intro hown hI.below)
    clear hbox hI hown
    go_wp2
    refine bodyPost_ret (res_cell2 rfl _ _ (w.heap.size + 1) 28 #[.slice a9 KP.length c9] (0, 0) _ rfl ?_ Try.underlying28 rfl arenaSize) rfl ?_
    · exact HE.out.1
    · exact ⟨_, rfl, HE.out.2.1.base (by omega), HE.out.2.2⟩
set_option maxHeartbeats 1600000 in
set_option maxRecDepth 20000 in
theorem implCert_any (a : Option Addr) (cap : Nat) (ns : List Nd) (nm : Int) (w : World) (hl : ns.length ≤ 1048576) (hf : ∀ y ∈ ns, y.Fits) (h1 : (Lit.int .i64 nm).wf = true) (ha : AddrN a cap) (hr : RowN w.heap.size w a ns) :
    Calls Try.prog 63 #[.agg #[.slice a ns.length cap], .int .i64 nm] w fun e w' => ∃ v, e = .returned (.tuple #[.agg #[v], .int .i64 (crK ns nm)]) ∧ OwnC w.heap.size w' v (keptA ns (crA ns nm) (crK ns nm)) ∧ Below w.heap.size w w' := by
  have HFN : Hid (∀ (v : Value) (wz : World), Below w.heap.size w wz → ToldIs (w.heap.size + 2) wz.heap.size wz (certT nm) v → Calls Try.prog 112 #[v, .agg #[.slice a ns.length cap]] wz fun e w' => ∃ v', e = .returned (.tuple #[.agg #[v'], .int .i64 (crK ns nm)]) ∧ OwnC wz.heap.size w' v' (keptA ns (crA ns nm) (crK ns nm)) ∧ Below wz.heap.size wz w') := fun v wz hb ht => by
    have := putIn_any (certT nm) v a cap ns wz (certT_wf h1) ht hl hf ha (hr.grown hb)
    rw [certT_f nm ns, ifneg_sameN (crK_neg (ns := ns) (n := nm))] at this
    exact this
  generalize crK ns nm = KK at HFN ⊢
  generalize crA ns nm = AA at HFN ⊢
  obtain ⟨KP, hKP⟩ : ∃ X, keptA ns AA KK = X := ⟨_, rfl⟩
  rw [hKP] at HFN ⊢
  clear hKP
  clear hf ha hr
  obtain ⟨w0, he, hb0, hs0, hA0, hr0⟩ := two_cells a ns.length cap w
  have HC0 : Hid (w0.heap[w.heap.size]? = some (.cells #[.slice a ns.length cap] 28 (0, 0)) ∧ w0.heap[w.heap.size + 1]? = some (.cells #[.slice none 0 0] 28 (0, 0)) ∧ Below w.heap.size w w0 ∧ w.heap.size + 2 ≤ w0.heap.size) := ⟨hA0, hr0, hb0, by omega⟩
  clear hb0 hs0 hA0 hr0
  go_enter Try.func63, Try.ntmps63
  go_wp2_with fail
  rw [← he]
  clear he
  have HI : Hid (RgI w a ns.length cap [] w0) := ⟨HC0.out.2.2.1, HC0.out.1, ⟨_, HC0.out.2.1⟩, HC0.out.2.2.2, fun p hp => by cases hp⟩
  clear HC0
  refine wp_region_list (I := RgI w a ns.length cap []) (R := RgR (w.heap.size + 1) 6)
    (fs := #[⟨[6], fun vs _ => vs = [.int .i64 nm]⟩, ⟨[7], fun vs w' => ∃ v, vs = [v] ∧ ToldIs (w.heap.size + 2) w'.heap.size w' (certT nm) v⟩, ⟨[8], fun vs _ => vs = [.agg #[.slice a ns.length cap]]⟩, ⟨[9], fun vs w' => ∃ v, vs = [.tuple #[.agg #[v], .int .i64 KK]] ∧ OwnC (w.heap.size + 2) w' v KP⟩, ⟨[10], fun vs w' => ∃ v, vs = [.agg #[v]] ∧ OwnC (w.heap.size + 2) w' v KP⟩, ⟨[11], fun vs _ => vs = [.int .i64 KK]⟩, ⟨[], fun vs w' => ∃ a9 c9, w'.heap[w.heap.size + 1]? = some (.cells #[.slice a9 KP.length c9] 28 (0, 0)) ∧ OwnC (w.heap.size + 2) w' (.slice a9 KP.length c9) KP⟩, ⟨[5], fun vs _ => vs = [.int .i64 KK]⟩])
    (by kernel_rfl) 12 rfl (by kernel_rfl) ?stab ?istab ?start ?exec ?fin
  case stab =>
    intro k i f hki hf
    have hk : k < 8 := (Array.getElem?_eq_some_iff.1 hf).1
    rcases (show k = 0 ∨ k = 1 ∨ k = 2 ∨ k = 3 ∨ k = 4 ∨ k = 5 ∨ k = 6 ∨ k = 7 by omega) with rfl | rfl | rfl | rfl | rfl | rfl | rfl | rfl
    all_goals
      simp only [List.getElem?_toArray, List.getElem?_cons_succ, List.getElem?_cons_zero, Option.some.injEq] at hf
      subst hf
    · exact fun vs _ _ _ h => h
    · exact fun vs w' w'' hR ⟨v, h1, h2⟩ => ⟨v, h1, RgR.told hR (by omega) _ h2⟩
    · exact fun vs _ _ _ h => h
    · exact fun vs w' w'' hR ⟨v, h1, h2⟩ => ⟨v, h1, RgR.own hR (by omega) h2⟩
    · exact fun vs w' w'' hR ⟨v, h1, h2⟩ => ⟨v, h1, RgR.own hR (by omega) h2⟩
    · exact fun vs _ _ _ h => h
    · exact fun vs w' w'' hR ⟨a9, c9, h1, h2⟩ => ⟨a9, c9, by have h3 := hR; unfold RgR at h3; rw [if_neg (Ne.symm hki)] at h3; exact (h3.block _ (Array.getElem?_eq_some_iff.1 h1).1).trans h1, RgR.own hR (by omega) h2⟩
    · exact fun vs _ _ _ h => h
  case istab => exact fun i w' w'' hR h => h.next hR
  case start => exact HI.out.drew
  case exec =>
    intro i o f hi hf act wq hsz hI hold hpre
    have hi11 : i < 8 := (Array.getElem?_eq_some_iff.1 hi).1
    rcases (show i = 0 ∨ i = 1 ∨ i = 2 ∨ i = 3 ∨ i = 4 ∨ i = 5 ∨ i = 6 ∨ i = 7 by omega) with rfl | rfl | rfl | rfl | rfl | rfl | rfl | rfl
    all_goals
      simp only [List.getElem?_toArray, List.getElem?_cons_succ, List.getElem?_cons_zero, Option.some.injEq] at hi hf
      subst hi hf
    · have g1 : act.tmps.getD 1 undef = .int .i64 nm := hold 1 (free_spec (by kernel_rfl))
      refine exec_same (v := .int .i64 nm) ?_ ⟨_, rfl, (by show (if _ then _ else _); rw [if_neg (by decide)]; exact Below.refl _ _), at_one (by omega) rfl⟩
      simp [go_sem, Act.eval, g1]
    · have g6 : act.tmps.getD 6 undef = .int .i64 nm := by have := of_one (hpre ⟨0, .data⟩ (by simp) rfl _ rfl); simpa using this
      refine exec_call (f := 132) (args := #[.int .i64 nm]) (by simp [go_sem, Act.eval, g6]) ?_
      refine Calls.mono (toldCert_any nm wq hI.size h1) ?_
      rintro e w2 ⟨v2, rfl, l2, hb2⟩
      exact ⟨_, rfl, _, rfl, (by show (if _ then _ else _); rw [if_neg (by decide)]; exact hb2), ⟨_, by show [(act.put _ _).tmps.getD _ undef] = _; rw [put_same _ _ _ (by omega)], l2⟩⟩
    · have g2 : act.tmps.getD 2 undef = .pointer (some ⟨w.heap.size, 0, none⟩) := hold 2 (free_spec (by kernel_rfl))
      have hc : wq.cell? ⟨w.heap.size, 0, none⟩ = some (.slice a ns.length cap) := (cell_of_row _ _ 0 _ _ _ hI.box).trans rfl
      refine exec_same (v := .agg #[.slice a ns.length cap]) ?_ ⟨_, rfl, (by show (if _ then _ else _); rw [if_neg (by decide)]; exact Below.refl _ _), at_one (by omega) rfl⟩
      simp [go_sem, Act.eval, g2, hc]
    · obtain ⟨u1, h1_1, l1⟩ := hpre ⟨1, .data⟩ (by simp) rfl _ rfl
      have g7 : act.tmps.getD 7 undef = u1 := by simpa using h1_1
      have g8 : act.tmps.getD 8 undef = .agg #[.slice a ns.length cap] := by have := of_one (hpre ⟨2, .data⟩ (by simp) rfl _ rfl); simpa using this
      refine exec_call (f := 112) (args := #[u1, .agg #[.slice a ns.length cap]]) (by simp [go_sem, Act.eval, g7, g8]) ?_
      refine Calls.mono (HFN.out _ wq hI.below l1) ?_
      rintro e w2 ⟨v2, rfl, l2, hb2⟩
      exact ⟨_, rfl, _, rfl, (by show (if _ then _ else _); rw [if_neg (by decide)]; exact hb2), ⟨_, by show [(act.put _ _).tmps.getD _ undef] = _; rw [put_same _ _ _ (by omega)], l2.base (by have := hI.size; omega)⟩⟩
    · obtain ⟨uu, h1u, lu⟩ := hpre ⟨3, .data⟩ (by simp) rfl _ rfl
      have gu : act.tmps[9]?.getD undef = .tuple #[.agg #[uu], .int .i64 KK] := by simpa using h1u
      refine exec_same (v := .agg #[uu]) ?_ ⟨_, rfl, (by show (if _ then _ else _); rw [if_neg (by decide)]; exact Below.refl _ _), ⟨_, by show [(act.put _ _).tmps.getD _ undef] = _; rw [put_same _ _ _ (by omega)], lu⟩⟩
      simp [go_sem, Act.eval, gu]
    · obtain ⟨uu, h1u, lu⟩ := hpre ⟨3, .data⟩ (by simp) rfl _ rfl
      have gu : act.tmps[9]?.getD undef = .tuple #[.agg #[uu], .int .i64 KK] := by simpa using h1u
      refine exec_same (v := .int .i64 KK) ?_ ⟨_, rfl, (by show (if _ then _ else _); rw [if_neg (by decide)]; exact Below.refl _ _), at_one (by omega) rfl⟩
      simp [go_sem, Act.eval, gu]
    · obtain ⟨uu, h1u, lu⟩ := hpre ⟨4, .data⟩ (by simp) rfl _ rfl
      have gu : act.tmps[10]?.getD undef = .agg #[uu] := by simpa using h1u
      obtain ⟨a9, c9, rfl, -, -⟩ := lu.row
      have g4 : act.tmps.getD 4 undef = .pointer (some ⟨w.heap.size + 1, 0, none⟩) := hold 4 (free_spec (by kernel_rfl))
      obtain ⟨u0, hu0⟩ := hI.res
      have hcg : wq.cell? ⟨w.heap.size + 1, 0, none⟩ = some u0 := by rw [cell_of_row wq _ 0 _ _ _ hu0]; rfl
      have hfg : wq.frozen? ⟨w.heap.size + 1, 0, none⟩ = false := frozen_of_row wq _ 0 _ _ hu0
      have hRR : RgR (w.heap.size + 1) 6 6 wq (wq.setCell ⟨w.heap.size + 1, 0, none⟩ (.slice a9 KP.length c9)) := by show (if _ then _ else _); rw [if_pos rfl]; exact ⟨_, rfl⟩
      refine exec_skip (w' := wq.setCell ⟨w.heap.size + 1, 0, none⟩ (.slice a9 KP.length c9)) ?_ ⟨_, rfl, hRR, ⟨a9, c9, (heap_setCell_same wq _ 0 _ _ _ hu0).trans rfl, RgR.own hRR (by omega) lu⟩⟩
      simp [go_sem, Act.eval, g4, gu, hcg, hfg]
    · have g11 : act.tmps.getD 11 undef = .int .i64 KK := by have := of_one (hpre ⟨5, .data⟩ (by simp) rfl _ rfl); simpa using this
      refine exec_same (v := .int .i64 KK) ?_ ⟨_, rfl, (by show (if _ then _ else _); rw [if_neg (by decide)]; exact Below.refl _ _), at_one (by omega) rfl⟩
      simp [go_sem, Act.eval, g11]
  case fin =>
    intro zs w5 hzl hI hF
    obtain ⟨z0, z1, z2, z3, z4, z5, z6, z7, rfl⟩ := list8 zs hzl
    obtain ⟨a9, c9, hbox, hown⟩ := hF 6 _ rfl
    have hint := of_one (hF 7 _ rfl)
    simp only [List.cons.injEq, and_true] at hint
    have hs3 := last_is (i := 7) (v := z7) (n := 12) hint (by kernel_rfl) rfl rfl (by omega)
    clear hint
    subst hs3
    clear hF
    simp only [putAll, Act.put, List.setIfInBounds_toArray, List.set_cons_succ, List.set_cons_zero]
    have HE : Hid _ := And.intro hbox (And.intro hown hI.below)
    clear hbox hI hown
    go_wp2
    refine bodyPost_ret (res_cell2 rfl _ _ (w.heap.size + 1) 28 #[.slice a9 KP.length c9] (0, 0) _ rfl ?_ Try.underlying28 rfl arenaSize) rfl ?_
    · exact HE.out.1
    · exact ⟨_, rfl, HE.out.2.1.base (by omega), HE.out.2.2⟩
end Go.Proofs.Ytffnadnndmmliaa
