/- The program's AckOf (chapter 12). -/
import Derived.Test.YtlecpjgeaigjkaaMakeDh
import Derived.Test.YtlecpjgeaigjkaaPart12
import Derived.Test.YtlecpjgeaigjkaaLawClip
import Derived.OpenShut
import Derived.Test.YtlecpjgeaigjkaaRegionK
import Derived.Test.YtlecpjgeaigjkaaRegionA
namespace Go.Proofs.Ytlecpjgeaigjkaa
open Go.RowKit Go.Maps
set_option linter.unusedVariables false
theorem ifneg_sameK {K : Int} (h : K < 0 → K = -1) : (if K < 0 then -1 else K) = K := by
  split
  · rename_i h1; exact (h h1).symm
  · rfl
theorem make_asK {ns : List Nd} {k x y : Int} (h : ¬ (k = 1 ∨ k = 7)) : makeA ns k x y = putA ns (mkNd k x y) ∧ makeK ns k x y = putK ns (mkNd k x y) := by
  unfold makeA makeK; rw [if_neg h, if_neg h]; exact ⟨rfl, rfl⟩
theorem akK_neg {ns : List Nd} {hd le sa : Int} (h : akK ns hd le sa < 0) : akK ns hd le sa = -1 := makeK_neg (show makeK _ _ _ _ < 0 from h)
theorem akT_f (hd le sa : Int) (ns : List Nd) : (Tl.two 5 (.two 4 (.pl hd) (.atom 40)) (.list [.atom le, .hash (.pl sa)])).f ns = (akA ns hd le sa, akK ns hd le sa) := by
  have e1 : (Tl.two 4 (.pl hd) (.atom 40)).f ns = (akA1 ns hd, sideK ns hd 40) := by
    unfold akA1 sideA sideK
    rw [(make_asK (by omega)).1, (make_asK (by omega)).2]
    rfl
  have e2 : (Tl.list [.atom le, .hash (.pl sa)]).f (akA1 ns hd) = akL ns hd le sa := by
    rw [Tl.f_list, Tl.fs_cons, Tl.fs_cons, Tl.fs_nil]
    unfold akL akA3 akA2
    rw [(make_asK (k := 3) (by omega)).1, (make_asK (k := 3) (by omega)).2]
    rfl
  unfold akA akK
  rw [(make_asK (k := 5) (by omega)).1, (make_asK (k := 5) (by omega)).2]
  show (putA ((Tl.list [.atom le, .hash (.pl sa)]).f ((Tl.two 4 (.pl hd) (.atom 40)).f ns).1).1 (mkNd 5 ((Tl.two 4 (.pl hd) (.atom 40)).f ns).2 ((Tl.list [.atom le, .hash (.pl sa)]).f ((Tl.two 4 (.pl hd) (.atom 40)).f ns).1).2), putK ((Tl.list [.atom le, .hash (.pl sa)]).f ((Tl.two 4 (.pl hd) (.atom 40)).f ns).1).1 (mkNd 5 ((Tl.two 4 (.pl hd) (.atom 40)).f ns).2 ((Tl.list [.atom le, .hash (.pl sa)]).f ((Tl.two 4 (.pl hd) (.atom 40)).f ns).1).2)) = _
  rw [e1]; simp only; rw [e2]
theorem wf40 : (Lit.int .i64 40).wf = true := by decide

set_option maxHeartbeats 1600000 in
set_option maxRecDepth 20000 in
theorem implAck_any (a : Option Addr) (cap : Nat) (ns : List Nd) (hd le sa : Int) (w : World) (hl : ns.length ≤ 1048576) (hf : ∀ y ∈ ns, y.Fits) (h1 : (Lit.int .i64 hd).wf = true) (h2 : (Lit.int .i64 le).wf = true) (h3 : (Lit.int .i64 sa).wf = true) (ha : AddrN a cap) (hr : RowN w.heap.size w a ns) :
    Calls Try.prog 39 #[.agg #[.slice a ns.length cap], .int .i64 hd, .int .i64 le, .int .i64 sa] w fun e w' => ∃ v, e = .returned (.tuple #[.agg #[v], .int .i64 (akK ns hd le sa)]) ∧ OwnC w.heap.size w' v (keptA ns (akA ns hd le sa) (akK ns hd le sa)) ∧ Below w.heap.size w w' := by
  have HFN : Hid (∀ (v : Value) (wz : World), Below w.heap.size w wz → ToldIs (w.heap.size + 2) wz.heap.size wz (Tl.two 5 (.two 4 (.pl hd) (.atom 40)) (.list [.atom le, .hash (.pl sa)])) v → Calls Try.prog 46 #[v, .agg #[.slice a ns.length cap]] wz fun e w' => ∃ v', e = .returned (.tuple #[.agg #[v'], .int .i64 (akK ns hd le sa)]) ∧ OwnC wz.heap.size w' v' (keptA ns (akA ns hd le sa) (akK ns hd le sa)) ∧ Below wz.heap.size wz w') := fun v wz hb ht => by
    have := putIn_any (Tl.two 5 (.two 4 (.pl hd) (.atom 40)) (.list [.atom le, .hash (.pl sa)])) v a cap ns wz ⟨by omega, by omega, ⟨by omega, by omega, h1, wf40⟩, by simp, h2, h3, trivial⟩ ht hl hf ha (hr.grown hb)
    rw [akT_f hd le sa ns, ifneg_sameK akK_neg] at this
    exact this
  generalize akK ns hd le sa = KK at HFN ⊢
  generalize akA ns hd le sa = AA at HFN ⊢
  obtain ⟨KP, hKP⟩ : ∃ X, keptA ns AA KK = X := ⟨_, rfl⟩
  rw [hKP] at HFN ⊢
  clear hKP
  clear hf ha hr
  obtain ⟨w0, he, hb0, hs0, hA0, hr0⟩ := two_cells a ns.length cap w
  have HC0 : Hid (w0.heap[w.heap.size]? = some (.cells #[.slice a ns.length cap] 30 (0, 0)) ∧ w0.heap[w.heap.size + 1]? = some (.cells #[.slice none 0 0] 30 (0, 0)) ∧ Below w.heap.size w w0 ∧ w.heap.size + 2 ≤ w0.heap.size) := ⟨hA0, hr0, hb0, by omega⟩
  clear hb0 hs0 hA0 hr0
  go_enter Try.func39, Try.ntmps39
  go_wp2_with fail
  rw [← he]
  clear he
  refine Calls.mono (toldAtom_any (L := (w.heap.size + 2)) le w0 HC0.out.2.2.2) ?_
  rintro e w1 ⟨v1, rfl, ht, hb⟩
  obtain ⟨F1, cs1, rfl⟩ := ht.fn
  have HC1 : Hid (w1.heap[w.heap.size]? = some (.cells #[.slice a ns.length cap] 30 (0, 0)) ∧ w1.heap[w.heap.size + 1]? = some (.cells #[.slice none 0 0] 30 (0, 0)) ∧ Below w.heap.size w w1 ∧ w.heap.size + 2 ≤ w1.heap.size) := ⟨(hb.block _ (by have := HC0.out.2.2.2; omega)).trans HC0.out.1, (hb.block _ (by have := HC0.out.2.2.2; omega)).trans HC0.out.2.1, HC0.out.2.2.1.trans (hb.mono (by have := HC0.out.2.2.2; omega)), by have := HC0.out.2.2.2; have := hb.size; omega⟩
  have T1 : Hid (ToldIs (w.heap.size + 2) w1.heap.size w1 _ (.func (.func F1) #[] cs1)) := ht
  clear ht hb HC0
  go_wp2_with fail
  refine Calls.mono (toldAt_any (L := (w.heap.size + 2)) sa w1 HC1.out.2.2.2) ?_
  rintro e w2 ⟨v2, rfl, ht, hb⟩
  obtain ⟨F2, cs2, rfl⟩ := ht.fn
  have HC2 : Hid (w2.heap[w.heap.size]? = some (.cells #[.slice a ns.length cap] 30 (0, 0)) ∧ w2.heap[w.heap.size + 1]? = some (.cells #[.slice none 0 0] 30 (0, 0)) ∧ Below w.heap.size w w2 ∧ w.heap.size + 2 ≤ w2.heap.size) := ⟨(hb.block _ (by have := HC1.out.2.2.2; omega)).trans HC1.out.1, (hb.block _ (by have := HC1.out.2.2.2; omega)).trans HC1.out.2.1, HC1.out.2.2.1.trans (hb.mono (by have := HC1.out.2.2.2; omega)), by have := HC1.out.2.2.2; have := hb.size; omega⟩
  have T2 : Hid (ToldIs (w.heap.size + 2) w2.heap.size w2 _ (.func (.func F2) #[] cs2)) := ht
  replace T1 : Hid (ToldIs (w.heap.size + 2) w2.heap.size w2 _ (.func (.func F1) #[] cs1)) := ToldIs.base hb.size _ (ToldIs.later hb _ T1.out)
  clear ht hb HC1
  go_wp2_with fail
  refine Calls.mono (toldHash_any (L := (w.heap.size + 2)) _ _ w2 HC2.out.2.2.2 T2.out) ?_
  rintro e w3 ⟨v3, rfl, ht, hb⟩
  obtain ⟨F3, cs3, rfl⟩ := ht.fn
  have HC3 : Hid (w3.heap[w.heap.size]? = some (.cells #[.slice a ns.length cap] 30 (0, 0)) ∧ w3.heap[w.heap.size + 1]? = some (.cells #[.slice none 0 0] 30 (0, 0)) ∧ Below w.heap.size w w3 ∧ w.heap.size + 2 ≤ w3.heap.size) := ⟨(hb.block _ (by have := HC2.out.2.2.2; omega)).trans HC2.out.1, (hb.block _ (by have := HC2.out.2.2.2; omega)).trans HC2.out.2.1, HC2.out.2.2.1.trans (hb.mono (by have := HC2.out.2.2.2; omega)), by have := HC2.out.2.2.2; have := hb.size; omega⟩
  have T3 : Hid (ToldIs (w.heap.size + 2) w3.heap.size w3 _ (.func (.func F3) #[] cs3)) := ht
  replace T1 : Hid (ToldIs (w.heap.size + 2) w3.heap.size w3 _ (.func (.func F1) #[] cs1)) := ToldIs.base hb.size _ (ToldIs.later hb _ T1.out)
  clear ht hb HC2
  obtain ⟨wa, hwa⟩ : ∃ wa, w3.alloc (.cells #[.func (.func F1) #[] cs1, .func (.func F3) #[] cs3] 73) = wa := ⟨_, rfl⟩
  have ba : Below w3.heap.size w3 wa := by rw [← hwa]; exact (Below.refl _ _).alloc (Nat.le_refl _) _
  have sa' : wa.heap.size = w3.heap.size + 1 := by rw [← hwa]; simp
  have ha' : wa.heap[w3.heap.size]? = some (.cells #[.func (.func F1) #[] cs1, .func (.func F3) #[] cs3] 73 (0, 0)) := by rw [← hwa]; exact heap_alloc_new w3 _
  have hsz' := HC3.out.2.2.2
  have HLC : Hid (Calls Try.prog 75 #[.slice (some ⟨w3.heap.size, 0, none⟩) 2 2] wa (ToldP (w.heap.size + 2) (.list [.atom le, .hash (.pl sa)]) w3)) := by
    refine Calls.mono (toldList_any (L := w.heap.size + 2) (h := w3.heap.size) [.atom le, .hash (.pl sa)] [.func (.func F1) #[] cs1, .func (.func F3) #[] cs3] wa (by omega) ⟨hsz', by omega⟩ ha' ⟨rfl, fun m hm => ?_⟩) ?_
    · rcases (show m = 0 ∨ m = 1 by simp at hm; omega) with rfl | rfl
      · exact ToldIs.nx ba T1.out
      · exact ToldIs.nx ba T3.out
    · rintro e w' ⟨v, h1, h2, h3⟩
      exact ⟨v, h1, h2, ba.trans (h3.mono ba.size)⟩
  clear ba sa' ha' hsz'
  go_wp2_with fail
  clear hwa
  refine Calls.mono (HLC.out) ?_
  rintro e w4 ⟨v4, rfl, ht, hb⟩
  obtain ⟨F4, cs4, rfl⟩ := ht.fn
  have HC4 : Hid (w4.heap[w.heap.size]? = some (.cells #[.slice a ns.length cap] 30 (0, 0)) ∧ w4.heap[w.heap.size + 1]? = some (.cells #[.slice none 0 0] 30 (0, 0)) ∧ Below w.heap.size w w4 ∧ w.heap.size + 2 ≤ w4.heap.size) := ⟨(hb.block _ (by have := HC3.out.2.2.2; omega)).trans HC3.out.1, (hb.block _ (by have := HC3.out.2.2.2; omega)).trans HC3.out.2.1, HC3.out.2.2.1.trans (hb.mono (by have := HC3.out.2.2.2; omega)), by have := HC3.out.2.2.2; have := hb.size; omega⟩
  have T4 : Hid (ToldIs (w.heap.size + 2) w4.heap.size w4 _ (.func (.func F4) #[] cs4)) := ht
  clear ht hb HC3
  go_wp2_with fail
  have HI : Hid (RgI w a ns.length cap [(.list [.atom le, .hash (.pl sa)], .func (.func F4) #[] cs4)] w4) := ⟨HC4.out.2.2.1, HC4.out.1, ⟨_, HC4.out.2.1⟩, HC4.out.2.2.2, fun p hp => by rw [List.mem_singleton] at hp; subst hp; exact T4.out⟩
  clear HC4 T4
  refine wp_region_list (I := RgI w a ns.length cap [(.list [.atom le, .hash (.pl sa)], .func (.func F4) #[] cs4)]) (R := RgR (w.heap.size + 1) 8)
    (fs := #[⟨[18], fun vs _ => vs = [.int .i64 hd]⟩, ⟨[19], fun vs w' => ∃ v, vs = [v] ∧ ToldIs (w.heap.size + 2) w'.heap.size w' (.two 4 (.pl hd) (.atom 40)) v⟩, ⟨[20], fun vs w' => ∃ v, vs = [v] ∧ ToldIs (w.heap.size + 2) w'.heap.size w' (.list [.atom le, .hash (.pl sa)]) v⟩, ⟨[21], fun vs w' => ∃ v, vs = [v] ∧ ToldIs (w.heap.size + 2) w'.heap.size w' (.two 5 (.two 4 (.pl hd) (.atom 40)) (.list [.atom le, .hash (.pl sa)])) v⟩, ⟨[22], fun vs _ => vs = [.agg #[.slice a ns.length cap]]⟩, ⟨[23], fun vs w' => ∃ v, vs = [.tuple #[.agg #[v], .int .i64 KK]] ∧ OwnC (w.heap.size + 2) w' v KP⟩, ⟨[24], fun vs w' => ∃ v, vs = [.agg #[v]] ∧ OwnC (w.heap.size + 2) w' v KP⟩, ⟨[25], fun vs _ => vs = [.int .i64 KK]⟩, ⟨[], fun vs w' => ∃ a9 c9, w'.heap[w.heap.size + 1]? = some (.cells #[.slice a9 KP.length c9] 30 (0, 0)) ∧ OwnC (w.heap.size + 2) w' (.slice a9 KP.length c9) KP⟩, ⟨[9], fun vs _ => vs = [.int .i64 KK]⟩])
    (by kernel_rfl) 26 rfl (by kernel_rfl) ?stab ?istab ?start ?exec ?fin
  case stab =>
    intro k i f hki hf
    have hk : k < 10 := (Array.getElem?_eq_some_iff.1 hf).1
    rcases (show k = 0 ∨ k = 1 ∨ k = 2 ∨ k = 3 ∨ k = 4 ∨ k = 5 ∨ k = 6 ∨ k = 7 ∨ k = 8 ∨ k = 9 by omega) with rfl | rfl | rfl | rfl | rfl | rfl | rfl | rfl | rfl | rfl
    all_goals
      simp only [List.getElem?_toArray, List.getElem?_cons_succ, List.getElem?_cons_zero, Option.some.injEq] at hf
      subst hf
    · exact fun vs _ _ _ h => h
    · exact fun vs w' w'' hR ⟨v, h1, h2⟩ => ⟨v, h1, RgR.told hR (by omega) _ h2⟩
    · exact fun vs w' w'' hR ⟨v, h1, h2⟩ => ⟨v, h1, RgR.told hR (by omega) _ h2⟩
    · exact fun vs w' w'' hR ⟨v, h1, h2⟩ => ⟨v, h1, RgR.told hR (by omega) _ h2⟩
    · exact fun vs _ _ _ h => h
    · exact fun vs w' w'' hR ⟨v, h1, h2⟩ => ⟨v, h1, RgR.own hR (by omega) h2⟩
    · exact fun vs w' w'' hR ⟨v, h1, h2⟩ => ⟨v, h1, RgR.own hR (by omega) h2⟩
    · exact fun vs _ _ _ h => h
    · exact fun vs w' w'' hR ⟨a9, c9, h1, h2⟩ => ⟨a9, c9, by have h3 := hR; unfold RgR at h3; rw [if_neg (Ne.symm hki)] at h3; exact (h3.block _ (Array.getElem?_eq_some_iff.1 h1).1).trans h1, RgR.own hR (by omega) h2⟩
    · exact fun vs _ _ _ h => h
  case istab => exact fun i w' w'' hR h => h.next hR
  case start => exact HI.out.drew
  case exec =>
    intro i o f hi hf act wq hsz hI hold hpre
    have hi11 : i < 10 := (Array.getElem?_eq_some_iff.1 hi).1
    rcases (show i = 0 ∨ i = 1 ∨ i = 2 ∨ i = 3 ∨ i = 4 ∨ i = 5 ∨ i = 6 ∨ i = 7 ∨ i = 8 ∨ i = 9 by omega) with rfl | rfl | rfl | rfl | rfl | rfl | rfl | rfl | rfl | rfl
    all_goals
      simp only [List.getElem?_toArray, List.getElem?_cons_succ, List.getElem?_cons_zero, Option.some.injEq] at hi hf
      subst hi hf
    · have g1 : act.tmps.getD 1 undef = .int .i64 hd := hold 1 (free_spec (by kernel_rfl))
      refine exec_same (v := .int .i64 hd) ?_ ⟨_, rfl, (by show (if _ then _ else _); rw [if_neg (by decide)]; exact Below.refl _ _), at_one (by omega) rfl⟩
      simp [go_sem, Act.eval, g1]
    · have g18 : act.tmps.getD 18 undef = .int .i64 hd := by have := of_one (hpre ⟨0, .data⟩ (by simp) rfl _ rfl); simpa using this
      refine exec_call (f := 81) (args := #[.int .i64 hd]) (by simp [go_sem, Act.eval, g18]) ?_
      refine Calls.mono (toldAckKey_any (L := (w.heap.size + 2)) hd wq hI.size) ?_
      rintro e w2 ⟨v2, rfl, l2, hb2⟩
      exact ⟨_, rfl, _, rfl, (by show (if _ then _ else _); rw [if_neg (by decide)]; exact hb2), ⟨_, by show [(act.put _ _).tmps.getD _ undef] = _; rw [put_same _ _ _ (by omega)], l2⟩⟩
    · have g10 : act.tmps.getD 10 undef = .func (.func F4) #[] cs4 := hold 10 (free_spec (by kernel_rfl))
      refine exec_same (v := .func (.func F4) #[] cs4) ?_ ⟨_, rfl, (by show (if _ then _ else _); rw [if_neg (by decide)]; exact Below.refl _ _), ⟨_, by show [(act.put _ _).tmps.getD _ undef] = _; rw [put_same _ _ _ (by omega)], hI.told _ (List.mem_cons_self ..)⟩⟩
      simp [go_sem, Act.eval, g10]
    · obtain ⟨u1, h1_1, l1⟩ := hpre ⟨1, .data⟩ (by simp) rfl _ rfl
      have g19 : act.tmps.getD 19 undef = u1 := by simpa using h1_1
      obtain ⟨u2, h1_2, l2⟩ := hpre ⟨2, .data⟩ (by simp) rfl _ rfl
      have g20 : act.tmps.getD 20 undef = u2 := by simpa using h1_2
      refine exec_call (f := 76) (args := #[.int .i64 5, u1, u2]) (by simp [go_sem, Act.eval, g19, g20]) ?_
      refine Calls.mono (toldTwo_any 5 _ _ u1 u2 wq hI.size l1 l2) ?_
      rintro e w2 ⟨v2, rfl, l2, hb2⟩
      exact ⟨_, rfl, _, rfl, (by show (if _ then _ else _); rw [if_neg (by decide)]; exact hb2), ⟨_, by show [(act.put _ _).tmps.getD _ undef] = _; rw [put_same _ _ _ (by omega)], l2⟩⟩
    · have g4 : act.tmps.getD 4 undef = .pointer (some ⟨w.heap.size, 0, none⟩) := hold 4 (free_spec (by kernel_rfl))
      have hc : wq.cell? ⟨w.heap.size, 0, none⟩ = some (.slice a ns.length cap) := (cell_of_row _ _ 0 _ _ _ hI.box).trans rfl
      refine exec_same (v := .agg #[.slice a ns.length cap]) ?_ ⟨_, rfl, (by show (if _ then _ else _); rw [if_neg (by decide)]; exact Below.refl _ _), at_one (by omega) rfl⟩
      simp [go_sem, Act.eval, g4, hc]
    · obtain ⟨u3, h1_3, l3⟩ := hpre ⟨3, .data⟩ (by simp) rfl _ rfl
      have g21 : act.tmps.getD 21 undef = u3 := by simpa using h1_3
      have g22 : act.tmps.getD 22 undef = .agg #[.slice a ns.length cap] := by have := of_one (hpre ⟨4, .data⟩ (by simp) rfl _ rfl); simpa using this
      refine exec_call (f := 46) (args := #[u3, .agg #[.slice a ns.length cap]]) (by simp [go_sem, Act.eval, g21, g22]) ?_
      refine Calls.mono (HFN.out _ wq hI.below l3) ?_
      rintro e w2 ⟨v2, rfl, l2, hb2⟩
      exact ⟨_, rfl, _, rfl, (by show (if _ then _ else _); rw [if_neg (by decide)]; exact hb2), ⟨_, by show [(act.put _ _).tmps.getD _ undef] = _; rw [put_same _ _ _ (by omega)], l2.base (by have := hI.size; omega)⟩⟩
    · obtain ⟨uu, h1u, lu⟩ := hpre ⟨5, .data⟩ (by simp) rfl _ rfl
      have gu : act.tmps[23]?.getD undef = .tuple #[.agg #[uu], .int .i64 KK] := by simpa using h1u
      refine exec_same (v := .agg #[uu]) ?_ ⟨_, rfl, (by show (if _ then _ else _); rw [if_neg (by decide)]; exact Below.refl _ _), ⟨_, by show [(act.put _ _).tmps.getD _ undef] = _; rw [put_same _ _ _ (by omega)], lu⟩⟩
      simp [go_sem, Act.eval, gu]
    · obtain ⟨uu, h1u, lu⟩ := hpre ⟨5, .data⟩ (by simp) rfl _ rfl
      have gu : act.tmps[23]?.getD undef = .tuple #[.agg #[uu], .int .i64 KK] := by simpa using h1u
      refine exec_same (v := .int .i64 KK) ?_ ⟨_, rfl, (by show (if _ then _ else _); rw [if_neg (by decide)]; exact Below.refl _ _), at_one (by omega) rfl⟩
      simp [go_sem, Act.eval, gu]
    · obtain ⟨uu, h1u, lu⟩ := hpre ⟨6, .data⟩ (by simp) rfl _ rfl
      have gu : act.tmps[24]?.getD undef = .agg #[uu] := by simpa using h1u
      obtain ⟨a9, c9, rfl, -, -⟩ := lu.row
      have g8 : act.tmps.getD 8 undef = .pointer (some ⟨w.heap.size + 1, 0, none⟩) := hold 8 (free_spec (by kernel_rfl))
      obtain ⟨u0, hu0⟩ := hI.res
      have hcg : wq.cell? ⟨w.heap.size + 1, 0, none⟩ = some u0 := by rw [cell_of_row wq _ 0 _ _ _ hu0]; rfl
      have hfg : wq.frozen? ⟨w.heap.size + 1, 0, none⟩ = false := frozen_of_row wq _ 0 _ _ hu0
      have hRR : RgR (w.heap.size + 1) 8 8 wq (wq.setCell ⟨w.heap.size + 1, 0, none⟩ (.slice a9 KP.length c9)) := by show (if _ then _ else _); rw [if_pos rfl]; exact ⟨_, rfl⟩
      refine exec_skip (w' := wq.setCell ⟨w.heap.size + 1, 0, none⟩ (.slice a9 KP.length c9)) ?_ ⟨_, rfl, hRR, ⟨a9, c9, (heap_setCell_same wq _ 0 _ _ _ hu0).trans rfl, RgR.own hRR (by omega) lu⟩⟩
      simp [go_sem, Act.eval, g8, gu, hcg, hfg]
    · have g25 : act.tmps.getD 25 undef = .int .i64 KK := by have := of_one (hpre ⟨7, .data⟩ (by simp) rfl _ rfl); simpa using this
      refine exec_same (v := .int .i64 KK) ?_ ⟨_, rfl, (by show (if _ then _ else _); rw [if_neg (by decide)]; exact Below.refl _ _), at_one (by omega) rfl⟩
      simp [go_sem, Act.eval, g25]
  case fin =>
    intro zs w5 hzl hI hF
    obtain ⟨z0, z1, z2, z3, z4, z5, z6, z7, z8, z9, rfl⟩ := list10 zs hzl
    obtain ⟨a9, c9, hbox, hown⟩ := hF 8 _ rfl
    have hint := of_one (hF 9 _ rfl)
    simp only [List.cons.injEq, and_true] at hint
    have hs3 := last_is (i := 9) (v := z9) (n := 26) hint (by kernel_rfl) rfl rfl (by omega)
    clear hint
    subst hs3
    clear hF
    simp only [putAll, Act.put, List.setIfInBounds_toArray, List.set_cons_succ, List.set_cons_zero]
    have HE : Hid _ := And.intro hbox (And.intro hown hI.below)
    clear hbox hI hown
    go_wp2
    refine bodyPost_ret (res_cell2 rfl _ _ (w.heap.size + 1) 30 #[.slice a9 KP.length c9] (0, 0) _ rfl ?_ Try.underlying30 rfl arenaSize) rfl ?_
    · exact HE.out.1
    · exact ⟨_, rfl, HE.out.2.1.base (by omega), HE.out.2.2⟩
end Go.Proofs.Ytlecpjgeaigjkaa
