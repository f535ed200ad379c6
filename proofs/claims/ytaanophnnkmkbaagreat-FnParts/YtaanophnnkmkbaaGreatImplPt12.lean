/- The program's PartOf (chapter 12): signed and sealed. -/
import Derived.Test.YtaanophnnkmkbaaGreatToldP12
import Derived.Test.YtaanophnnkmkbaaGreatPart12
import Derived.Test.YtaanophnnkmkbaaGreatCert10
import Derived.OpenShut
import Derived.Test.YtaanophnnkmkbaaGreatRegionK
import Derived.Test.YtaanophnnkmkbaaGreatLawKeep
namespace Go.Proofs.YtaanophnnkmkbaaGreat
open Go.RowKit Go.Maps
set_option linter.unusedVariables false
theorem ifneg_sameP {K : Int} (h : K < 0 → K = -1) : (if K < 0 then -1 else K) = K := by
  split
  · rename_i h1; exact (h h1).symm
  · rfl
theorem make_asP {ns : List Nd} {k x y : Int} (h : ¬ (k = 1 ∨ k = 7)) : makeA ns k x y = putA ns (mkNd k x y) ∧ makeK ns k x y = putK ns (mkNd k x y) := by
  unfold makeA makeK; rw [if_neg h, if_neg h]; exact ⟨rfl, rfl⟩
theorem ptK_neg {ns : List Nd} {sd hd m1 m mo nm sa : Int} (h : ptK ns sd hd m1 m mo nm sa < 0) : ptK ns sd hd m1 m mo nm sa = -1 := by
  unfold ptK at h ⊢; exact makeK_neg h
theorem sideP_f (hd n : Int) (ns : List Nd) : (Tl.two 4 (.pl hd) (.atom n)).f ns = (sideA ns hd n, sideK ns hd n) := by
  unfold sideA sideK
  rw [(make_asP (by omega)).1, (make_asP (by omega)).2]
  rfl
theorem overP_f (hd n sa : Int) (ns : List Nd) : (Tl.two 9 (.two 4 (.pl hd) (.atom n)) (.hash (.pl sa))).f ns = (overA ns 9 hd n sa, overK ns 9 hd n sa) := by
  have e := sideP_f hd n ns
  unfold overA overK
  rw [(make_asP (k := 9) (by omega)).1, (make_asP (k := 9) (by omega)).2, (make_asP (k := 3) (by omega)).1, (make_asP (k := 3) (by omega)).2]
  show (putA (putA ((Tl.two 4 (.pl hd) (.atom n)).f ns).1 (mkNd 3 sa 0)) (mkNd 9 ((Tl.two 4 (.pl hd) (.atom n)).f ns).2 (putK ((Tl.two 4 (.pl hd) (.atom n)).f ns).1 (mkNd 3 sa 0))), putK (putA ((Tl.two 4 (.pl hd) (.atom n)).f ns).1 (mkNd 3 sa 0)) (mkNd 9 ((Tl.two 4 (.pl hd) (.atom n)).f ns).2 (putK ((Tl.two 4 (.pl hd) (.atom n)).f ns).1 (mkNd 3 sa 0)))) = _
  rw [e]
theorem wordsP_f (m sa : Int) (ns : List Nd) : (Tl.list [.atom m, .hash (.pl sa)]).f ns = (wdA ns m sa, wdK ns m sa) := by
  rw [Tl.f_list, Tl.fs_cons, Tl.fs_cons, Tl.fs_nil]
  unfold wdA wdK wdL wdA2 wdA1
  rw [(make_asP (k := 3) (by omega)).1, (make_asP (k := 3) (by omega)).2]
  rfl
theorem findFrom_newP12 (x : Nd) : ∀ (l t : List Nd) (i : Nat), findFrom x l i = -1 → findFrom x (l ++ x :: t) i = ((i + l.length : Nat) : Int)
  | [], t, i, h => by simp [findFrom]
  | y :: l, t, i, h => by
    rw [findFrom] at h
    rw [List.cons_append, findFrom]
    split at h
    · omega
    · rename_i h1
      rw [if_neg h1, findFrom_newP12 x l t (i + 1) h]
      simp; omega
theorem findFrom_appP12 (x : Nd) : ∀ (l t : List Nd) (i : Nat), findFrom x l i ≠ -1 → findFrom x (l ++ t) i = findFrom x l i
  | [], t, i, h => absurd rfl h
  | y :: l, t, i, h => by
    rw [List.cons_append, findFrom, findFrom] at *
    split
    · rfl
    · rename_i h1
      rw [if_neg h1] at h
      exact findFrom_appP12 x l t (i + 1) h
theorem putA_fullP12 {ns : List Nd} {x : Nd} (h : 3000 ≤ ns.length) : putA ns x = ns := by unfold putA; rw [if_neg (by omega)]
theorem put_againP12 {x : Nd} {ns ms : List Nd} (hx : ∀ m m', nodeB x m = nodeB x m') (hp : putA ns x <+: ms) (hfull : 3000 ≤ ns.length → ms = ns) : putA ms x = ms ∧ putK ms x = putK ns x := by
  by_cases hn : nodeB x ns.length = true
  · have hn2 : nodeB x ms.length = true := by rw [← hn]; exact hx _ _
    by_cases hl : ns.length < 3000
    · by_cases hf : findN ns x = -1
      · have e1 : putA ns x = ns ++ [x] := by unfold putA; rw [if_pos ⟨hn, hf, hl⟩]
        have e2 : putK ns x = (ns.length : Int) := by unfold putK; rw [if_pos hn, if_pos ⟨hf, hl⟩]
        rw [e1] at hp
        obtain ⟨t, rfl⟩ := hp
        have e3 : findN (ns ++ [x] ++ t) x = (ns.length : Int) := by
          unfold findN at hf ⊢
          have := findFrom_newP12 x ns t 0 hf
          simpa using this
        rw [e2]
        refine ⟨?_, ?_⟩
        · unfold putA; rw [if_neg (by rw [e3]; omega)]
        · unfold putK; rw [if_pos hn2, if_neg (by rw [e3]; omega), e3]
      · have e1 : putA ns x = ns := by unfold putA; rw [if_neg (fun h => hf h.2.1)]
        have e2 : putK ns x = findN ns x := by unfold putK; rw [if_pos hn, if_neg (fun h => hf h.1)]
        rw [e1] at hp
        obtain ⟨t, rfl⟩ := hp
        have e3 : findN (ns ++ t) x = findN ns x := findFrom_appP12 x ns t 0 hf
        rw [e2]
        refine ⟨?_, ?_⟩
        · unfold putA; rw [if_neg (fun h => hf (by rw [← e3]; exact h.2.1))]
        · unfold putK; rw [if_pos hn2, if_neg (fun h => hf (by rw [← e3]; exact h.1)), e3]
    · have e := hfull (by omega)
      subst e
      exact ⟨putA_fullP12 (by omega), rfl⟩
  · have hn2 : ¬ nodeB x ms.length = true := by rw [hx ms.length ns.length]; exact hn
    refine ⟨?_, ?_⟩
    · unfold putA; rw [if_neg (fun h => hn2 h.1)]
    · unfold putK; rw [if_neg hn2, if_neg hn]
theorem put_twice (ns : List Nd) : putA (putA ns ⟨1, 0, 0, 0⟩) ⟨1, 0, 0, 0⟩ = putA ns ⟨1, 0, 0, 0⟩ ∧ putK (putA ns ⟨1, 0, 0, 0⟩) ⟨1, 0, 0, 0⟩ = putK ns ⟨1, 0, 0, 0⟩ :=
  put_againP12 (fun m m' => rfl) (List.prefix_refl _) (fun h => by unfold putA; rw [if_neg (by omega)])
theorem whoP_f (m mo nm sa : Int) (ns : List Nd) : (whoC mo nm).f ns = ((if mo = 1 then crA ns nm else putA ns ⟨1, 0, 0, 0⟩), pvC ns mo nm) ∧ (whoS mo nm (.list [.atom m, .hash (.pl sa)])).f (if mo = 1 then crA ns nm else putA ns ⟨1, 0, 0, 0⟩) = (pvA ns m mo nm sa, pvS ns m mo nm sa) := by
  unfold whoC whoS pvA pvC pvS
  by_cases h : mo = 1
  · simp only [if_pos h]
    refine ⟨certT_f nm ns, ?_⟩
    unfold pcA pcK pcA3 pcA2 pcA1
    rw [(make_asP (k := 8) (by omega)).1, (make_asP (k := 8) (by omega)).2]
    show (putA ((Tl.list [.atom m, .hash (.pl sa)]).f ((longT nm).f (crA ns nm)).1).1 (mkNd 8 ((longT nm).f (crA ns nm)).2 ((Tl.list [.atom m, .hash (.pl sa)]).f ((longT nm).f (crA ns nm)).1).2), putK ((Tl.list [.atom m, .hash (.pl sa)]).f ((longT nm).f (crA ns nm)).1).1 (mkNd 8 ((longT nm).f (crA ns nm)).2 ((Tl.list [.atom m, .hash (.pl sa)]).f ((longT nm).f (crA ns nm)).1).2)) = _
    rw [longT_f]; simp only; rw [wordsP_f]
  · simp only [if_neg h]
    refine ⟨rfl, ?_⟩
    show (putA (putA ns ⟨1, 0, 0, 0⟩) ⟨1, 0, 0, 0⟩, putK (putA ns ⟨1, 0, 0, 0⟩) ⟨1, 0, 0, 0⟩) = _
    rw [(put_twice _).1, (put_twice _).2]
theorem ptT_f (sd hd m1 m mo nm sa : Int) (ns : List Nd) : (Tl.two 5 (.two 4 (.pl hd) (.atom sd)) (.list [whoC mo nm, whoS mo nm (.list [.atom m, .hash (.pl sa)]), .two 9 (.two 4 (.pl hd) (.atom m1)) (.hash (.pl sa))])).f ns = (ptA ns sd hd m1 m mo nm sa, ptK ns sd hd m1 m mo nm sa) := by
  have e1 := sideP_f hd sd ns
  have e2 := whoP_f m mo nm sa (sideA ns hd sd)
  have e3 := overP_f hd m1 sa (pvA (sideA ns hd sd) m mo nm sa)
  have eL : (Tl.list [whoC mo nm, whoS mo nm (.list [.atom m, .hash (.pl sa)]), .two 9 (.two 4 (.pl hd) (.atom m1)) (.hash (.pl sa))]).f (sideA ns hd sd) = ptL ns sd hd m1 m mo nm sa := by
    rw [Tl.f_list, Tl.fs_cons, Tl.fs_cons, Tl.fs_cons, Tl.fs_nil, e2.1]
    simp only
    rw [e2.2]
    simp only
    rw [e3]
    rfl
  unfold ptA ptK
  rw [(make_asP (k := 5) (by omega)).1, (make_asP (k := 5) (by omega)).2]
  show (putA ((Tl.list [whoC mo nm, whoS mo nm (.list [.atom m, .hash (.pl sa)]), .two 9 (.two 4 (.pl hd) (.atom m1)) (.hash (.pl sa))]).f ((Tl.two 4 (.pl hd) (.atom sd)).f ns).1).1 (mkNd 5 ((Tl.two 4 (.pl hd) (.atom sd)).f ns).2 ((Tl.list [whoC mo nm, whoS mo nm (.list [.atom m, .hash (.pl sa)]), .two 9 (.two 4 (.pl hd) (.atom m1)) (.hash (.pl sa))]).f ((Tl.two 4 (.pl hd) (.atom sd)).f ns).1).2), putK ((Tl.list [whoC mo nm, whoS mo nm (.list [.atom m, .hash (.pl sa)]), .two 9 (.two 4 (.pl hd) (.atom m1)) (.hash (.pl sa))]).f ((Tl.two 4 (.pl hd) (.atom sd)).f ns).1).1 (mkNd 5 ((Tl.two 4 (.pl hd) (.atom sd)).f ns).2 ((Tl.list [whoC mo nm, whoS mo nm (.list [.atom m, .hash (.pl sa)]), .two 9 (.two 4 (.pl hd) (.atom m1)) (.hash (.pl sa))]).f ((Tl.two 4 (.pl hd) (.atom sd)).f ns).1).2)) = _
  rw [e1]; simp only; rw [eL]
theorem whoC_wf {mo nm : Int} (h : (Lit.int .i64 nm).wf = true) : (whoC mo nm).Wf := by
  unfold whoC; split
  · exact certT_wf h
  · exact WalkArith.wf_i64 (by omega)
theorem whoS_wf {mo nm : Int} {x : Tl} (h : x.Wf) : (whoS mo nm x).Wf := by
  unfold whoS; split
  · exact ⟨by omega, by omega, longT_wf nm, h⟩
  · exact WalkArith.wf_i64 (by omega)
theorem RgR.blk {r s i k : Nat} {w' w'' : World} (h : RgR r s i w' w'') (hr : k ≠ r) (hk : k < w'.heap.size) : w''.heap[k]? = w'.heap[k]? := by
  unfold RgR at h
  split at h
  · obtain ⟨u, rfl⟩ := h; exact Below.heap_setCell _ _ _ _ hr
  · exact h.block k hk
set_option maxHeartbeats 3200000 in
set_option maxRecDepth 20000 in
theorem implPart_any (a : Option Addr) (cap : Nat) (ns : List Nd) (sd hd mo nm sa : Int) (w : World) (hl : ns.length ≤ 1048576) (hf : ∀ y ∈ ns, y.Fits) (h1 : (Lit.int .i64 sd).wf = true) (h2 : (Lit.int .i64 hd).wf = true) (h3 : (Lit.int .i64 mo).wf = true) (h4 : (Lit.int .i64 nm).wf = true) (h5 : (Lit.int .i64 sa).wf = true) (ha : AddrN a cap) (hr : RowN w.heap.size w a ns) :
    Calls Tryz.prog 7 #[.agg #[.slice a ns.length cap], .int .i64 sd, .int .i64 hd, .int .i64 mo, .int .i64 nm, .int .i64 sa] w fun e w' => ∃ v, e = .returned (.tuple #[.agg #[v], .int .i64 (ptK ns sd hd (IntKind.i64.wrap (10 + sd)) (IntKind.i64.wrap (80 + sd)) mo nm sa)]) ∧ OwnC w.heap.size w' v (keptA ns (ptA ns sd hd (IntKind.i64.wrap (10 + sd)) (IntKind.i64.wrap (80 + sd)) mo nm sa) (ptK ns sd hd (IntKind.i64.wrap (10 + sd)) (IntKind.i64.wrap (80 + sd)) mo nm sa)) ∧ Below w.heap.size w w' := by
  obtain ⟨m1, hm1⟩ : ∃ m, IntKind.i64.wrap (10 + sd) = m := ⟨_, rfl⟩
  obtain ⟨m, hm⟩ : ∃ m, IntKind.i64.wrap (80 + sd) = m := ⟨_, rfl⟩
  have w1' : (Lit.int .i64 m1).wf = true := by rw [← hm1]; exact wf_wrap _ _
  have w2' : (Lit.int .i64 m).wf = true := by rw [← hm]; exact wf_wrap _ _
  rw [hm1, hm]
  have HM1 : Hid (IntKind.i64.wrap (10 + sd) = m1) := hm1
  have HM : Hid (IntKind.i64.wrap (80 + sd) = m) := hm
  clear hm hm1
  have HFN : Hid (∀ (v : Value) (wz : World), Below w.heap.size w wz → ToldIs (w.heap.size + 2) wz.heap.size wz (Tl.two 5 (.two 4 (.pl hd) (.atom sd)) (.list [whoC mo nm, whoS mo nm (.list [.atom m, .hash (.pl sa)]), .two 9 (.two 4 (.pl hd) (.atom m1)) (.hash (.pl sa))])) v → Calls Tryz.prog 27 #[v, .agg #[.slice a ns.length cap]] wz fun e w' => ∃ v', e = .returned (.tuple #[.agg #[v'], .int .i64 (ptK ns sd hd m1 m mo nm sa)]) ∧ OwnC wz.heap.size w' v' (keptA ns (ptA ns sd hd m1 m mo nm sa) (ptK ns sd hd m1 m mo nm sa)) ∧ Below wz.heap.size wz w') := fun v wz hb ht => by
    have := putIn_any (Tl.two 5 (.two 4 (.pl hd) (.atom sd)) (.list [whoC mo nm, whoS mo nm (.list [.atom m, .hash (.pl sa)]), .two 9 (.two 4 (.pl hd) (.atom m1)) (.hash (.pl sa))])) v a cap ns wz ⟨by omega, by omega, ⟨by omega, by omega, h2, h1⟩, by simp, whoC_wf h4, whoS_wf ⟨by simp, w2', h5, trivial⟩, ⟨by omega, by omega, ⟨by omega, by omega, h2, w1'⟩, h5⟩, trivial⟩ ht hl hf ha (hr.grown hb)
    rw [ptT_f sd hd m1 m mo nm sa ns, ifneg_sameP ptK_neg] at this
    exact this
  generalize ptK ns sd hd m1 m mo nm sa = KK at HFN ⊢
  generalize ptA ns sd hd m1 m mo nm sa = AA at HFN ⊢
  obtain ⟨KP, hKP⟩ : ∃ X, keptA ns AA KK = X := ⟨_, rfl⟩
  rw [hKP] at HFN ⊢
  clear hKP
  have HWN : Hid ((Lit.int .i64 nm).wf = true) := h4
  clear h1 h2 h3 h4 h5 w1' w2'
  clear hf ha hr
  obtain ⟨w0, he, hb0, hs0, hA0, hr0⟩ := two_cells a ns.length cap w
  have HC0 : Hid (w0.heap[w.heap.size]? = some (.cells #[.slice a ns.length cap] 26 (0, 0)) ∧ w0.heap[w.heap.size + 1]? = some (.cells #[.slice none 0 0] 26 (0, 0)) ∧ Below w.heap.size w w0 ∧ w.heap.size + 2 ≤ w0.heap.size) := ⟨hA0, hr0, hb0, by omega⟩
  clear hb0 hs0 hA0 hr0
  go_enter Tryz.func7, Tryz.ntmps7
  go_wp2_with fail
  rw [← he]
  clear he
  refine Calls.mono (sideTable_any w0) ?_
  rintro e w1 ⟨rfl, hb⟩
  have HC1 : Hid (w1.heap[w.heap.size]? = some (.cells #[.slice a ns.length cap] 26 (0, 0)) ∧ w1.heap[w.heap.size + 1]? = some (.cells #[.slice none 0 0] 26 (0, 0)) ∧ Below w.heap.size w w1 ∧ w.heap.size + 2 ≤ w1.heap.size) := ⟨(hb.block _ (by have := HC0.out.2.2.2; omega)).trans HC0.out.1, (hb.block _ (by have := HC0.out.2.2.2; omega)).trans HC0.out.2.1, HC0.out.2.2.1.trans (hb.mono (by have := HC0.out.2.2.2; omega)), by have := HC0.out.2.2.2; have := hb.size; omega⟩
  clear hb HC0
  obtain ⟨w2, hw2⟩ : ∃ w2, (w1.alloc (.cells #[.int .i64 sd, .int .i64 hd, .int .i64 sa] 48)).alloc (.cells #[.func (.func 55) #[] #[], .func (.func 56) #[] #[], .func (.func 57) #[] #[]] 50) = w2 := ⟨_, rfl⟩
  have b2 : Below w1.heap.size w1 w2 := by rw [← hw2]; exact ((Below.refl _ _).alloc (Nat.le_refl _) _).alloc (by simp) _
  have HK2 : Hid (w2.heap[w1.heap.size]? = some (.cells #[.int .i64 sd, .int .i64 hd, .int .i64 sa] 48 (0, 0)) ∧ w2.heap[w1.heap.size + 1]? = some (.cells #[.func (.func 55) #[] #[], .func (.func 56) #[] #[], .func (.func 57) #[] #[]] 50 (0, 0)) ∧ w1.heap.size + 1 < w2.heap.size) := by
    rw [← hw2]
    refine ⟨(heap_alloc_old _ _ (by simp)).trans (heap_alloc_new w1 _), ?_, by simp⟩
    have := heap_alloc_new (w1.alloc (.cells #[.int .i64 sd, .int .i64 hd, .int .i64 sa] 48)) (.cells #[.func (.func 55) #[] #[], .func (.func 56) #[] #[], .func (.func 57) #[] #[]] 50)
    simpa using this
  have HC2 : Hid (w2.heap[w.heap.size]? = some (.cells #[.slice a ns.length cap] 26 (0, 0)) ∧ w2.heap[w.heap.size + 1]? = some (.cells #[.slice none 0 0] 26 (0, 0)) ∧ Below w.heap.size w w2 ∧ w.heap.size + 2 ≤ w2.heap.size) := ⟨(b2.block _ (by have := HC1.out.2.2.2; omega)).trans HC1.out.1, (b2.block _ (by have := HC1.out.2.2.2; omega)).trans HC1.out.2.1, HC1.out.2.2.1.trans (b2.mono (by have := HC1.out.2.2.2; omega)), by have := HC1.out.2.2.2; have := b2.size; omega⟩
  have hL2 : w.heap.size + 2 ≤ w1.heap.size := HC1.out.2.2.2
  have k0 : w2.cell? ⟨w1.heap.size, 0, none⟩ = some (.int .i64 sd) := (cell_of_row _ _ 0 _ _ _ HK2.out.1).trans rfl
  have k1 : w2.cell? ⟨w1.heap.size, 1, none⟩ = some (.int .i64 hd) := (cell_of_row _ _ 1 _ _ _ HK2.out.1).trans rfl
  have k2 : w2.cell? ⟨w1.heap.size, 2, none⟩ = some (.int .i64 sa) := (cell_of_row _ _ 2 _ _ _ HK2.out.1).trans rfl
  have k3 : w2.cell? ⟨w1.heap.size + 1, 1, none⟩ = some (.func (.func 56) #[] #[]) := (cell_of_row _ _ 1 _ _ _ HK2.out.2.1).trans rfl
  clear HC1 b2
  go_wp2_with fail
  clear hw2 k0 k1 k2 k3
  generalize w1.heap.size = g at HK2 hL2 ⊢
  refine Calls.mono (psSigned_any (L := (w.heap.size + 2)) sd hd sa w2 HC2.out.2.2.2 HM.out) ?_
  rintro e w3 ⟨v3, rfl, t3, hb⟩
  obtain ⟨F3, cs3, rfl⟩ := t3.fn
  have T3 : Hid (ToldIs (w.heap.size + 2) w3.heap.size w3 (.list [.atom m, .hash (.pl sa)]) (.func (.func F3) #[] cs3)) := t3
  have HC3 : Hid (w3.heap[w.heap.size]? = some (.cells #[.slice a ns.length cap] 26 (0, 0)) ∧ w3.heap[w.heap.size + 1]? = some (.cells #[.slice none 0 0] 26 (0, 0)) ∧ Below w.heap.size w w3 ∧ w.heap.size + 2 ≤ w3.heap.size) := ⟨(hb.block _ (by have := HC2.out.2.2.2; omega)).trans HC2.out.1, (hb.block _ (by have := HC2.out.2.2.2; omega)).trans HC2.out.2.1, HC2.out.2.2.1.trans (hb.mono (by have := HC2.out.2.2.2; omega)), by have := HC2.out.2.2.2; have := hb.size; omega⟩
  have HK3 : Hid (w3.heap[g]? = some (.cells #[.int .i64 sd, .int .i64 hd, .int .i64 sa] 48 (0, 0)) ∧ w3.heap[g + 1]? = some (.cells #[.func (.func 55) #[] #[], .func (.func 56) #[] #[], .func (.func 57) #[] #[]] 50 (0, 0)) ∧ g + 1 < w3.heap.size) := ⟨(hb.block _ (by have := HK2.out.2.2; omega)).trans HK2.out.1, (hb.block _ HK2.out.2.2).trans HK2.out.2.1, by have := HK2.out.2.2; have := hb.size; omega⟩
  clear t3 hb HC2 HK2
  go_wp2_with fail
  refine Calls.mono (toldWho_any (L := (w.heap.size + 2)) mo nm _ _ w3 HC3.out.2.2.2 HWN.out T3.out) ?_
  rintro e w4 ⟨v4, v5, rfl, t4, t5, hb⟩
  obtain ⟨F4, cs4, rfl⟩ := t4.fn
  obtain ⟨F5, cs5, rfl⟩ := t5.fn
  have T4 : Hid (ToldIs (w.heap.size + 2) w4.heap.size w4 (whoC mo nm) (.func (.func F4) #[] cs4)) := t4
  have T5 : Hid (ToldIs (w.heap.size + 2) w4.heap.size w4 (whoS mo nm (.list [.atom m, .hash (.pl sa)])) (.func (.func F5) #[] cs5)) := t5
  have HC4 : Hid (w4.heap[w.heap.size]? = some (.cells #[.slice a ns.length cap] 26 (0, 0)) ∧ w4.heap[w.heap.size + 1]? = some (.cells #[.slice none 0 0] 26 (0, 0)) ∧ Below w.heap.size w w4 ∧ w.heap.size + 2 ≤ w4.heap.size) := ⟨(hb.block _ (by have := HC3.out.2.2.2; omega)).trans HC3.out.1, (hb.block _ (by have := HC3.out.2.2.2; omega)).trans HC3.out.2.1, HC3.out.2.2.1.trans (hb.mono (by have := HC3.out.2.2.2; omega)), by have := HC3.out.2.2.2; have := hb.size; omega⟩
  have HK4 : Hid (w4.heap[g]? = some (.cells #[.int .i64 sd, .int .i64 hd, .int .i64 sa] 48 (0, 0)) ∧ w4.heap[g + 1]? = some (.cells #[.func (.func 55) #[] #[], .func (.func 56) #[] #[], .func (.func 57) #[] #[]] 50 (0, 0)) ∧ g + 1 < w4.heap.size) := ⟨(hb.block _ (by have := HK3.out.2.2; omega)).trans HK3.out.1, (hb.block _ HK3.out.2.2).trans HK3.out.2.1, by have := HK3.out.2.2; have := hb.size; omega⟩
  clear t4 t5 hb HC3 HK3 T3
  have k0 : w4.cell? ⟨g, 0, none⟩ = some (.int .i64 sd) := (cell_of_row _ _ 0 _ _ _ HK4.out.1).trans rfl
  have k1 : w4.cell? ⟨g, 1, none⟩ = some (.int .i64 hd) := (cell_of_row _ _ 1 _ _ _ HK4.out.1).trans rfl
  have k2 : w4.cell? ⟨g, 2, none⟩ = some (.int .i64 sa) := (cell_of_row _ _ 2 _ _ _ HK4.out.1).trans rfl
  have k3 : w4.cell? ⟨g + 1, 2, none⟩ = some (.func (.func 57) #[] #[]) := (cell_of_row _ _ 2 _ _ _ HK4.out.2.1).trans rfl
  go_wp2_with fail
  clear k0 k1 k2 k3
  refine Calls.mono (psDone_any (L := (w.heap.size + 2)) sd hd sa w4 HC4.out.2.2.2 HM1.out) ?_
  rintro e w5 ⟨v6, rfl, t6, hb⟩
  obtain ⟨F6, cs6, rfl⟩ := t6.fn
  have T6 : Hid (ToldIs (w.heap.size + 2) w5.heap.size w5 (.two 9 (.two 4 (.pl hd) (.atom m1)) (.hash (.pl sa))) (.func (.func F6) #[] cs6)) := t6
  replace T4 : Hid (ToldIs (w.heap.size + 2) w5.heap.size w5 _ (.func (.func F4) #[] cs4)) := ToldIs.nx hb T4.out
  replace T5 : Hid (ToldIs (w.heap.size + 2) w5.heap.size w5 _ (.func (.func F5) #[] cs5)) := ToldIs.nx hb T5.out
  have HC5 : Hid (w5.heap[w.heap.size]? = some (.cells #[.slice a ns.length cap] 26 (0, 0)) ∧ w5.heap[w.heap.size + 1]? = some (.cells #[.slice none 0 0] 26 (0, 0)) ∧ Below w.heap.size w w5 ∧ w.heap.size + 2 ≤ w5.heap.size) := ⟨(hb.block _ (by have := HC4.out.2.2.2; omega)).trans HC4.out.1, (hb.block _ (by have := HC4.out.2.2.2; omega)).trans HC4.out.2.1, HC4.out.2.2.1.trans (hb.mono (by have := HC4.out.2.2.2; omega)), by have := HC4.out.2.2.2; have := hb.size; omega⟩
  have HK5 : Hid (w5.heap[g]? = some (.cells #[.int .i64 sd, .int .i64 hd, .int .i64 sa] 48 (0, 0)) ∧ w5.heap[g + 1]? = some (.cells #[.func (.func 55) #[] #[], .func (.func 56) #[] #[], .func (.func 57) #[] #[]] 50 (0, 0)) ∧ g + 1 < w5.heap.size) := ⟨(hb.block _ (by have := HK4.out.2.2; omega)).trans HK4.out.1, (hb.block _ HK4.out.2.2).trans HK4.out.2.1, by have := HK4.out.2.2; have := hb.size; omega⟩
  clear t6 hb HC4 HK4
  obtain ⟨wa, hwa⟩ : ∃ wa, w5.alloc (.cells #[.func (.func F4) #[] cs4, .func (.func F5) #[] cs5, .func (.func F6) #[] cs6] 53) = wa := ⟨_, rfl⟩
  have ba : Below w5.heap.size w5 wa := by rw [← hwa]; exact (Below.refl _ _).alloc (Nat.le_refl _) _
  have sa' : wa.heap.size = w5.heap.size + 1 := by rw [← hwa]; simp
  have ha' : wa.heap[w5.heap.size]? = some (.cells #[.func (.func F4) #[] cs4, .func (.func F5) #[] cs5, .func (.func F6) #[] cs6] 53 (0, 0)) := by rw [← hwa]; exact heap_alloc_new w5 _
  have hsz' := HC5.out.2.2.2
  have HLC : Hid (Calls Tryz.prog 25 #[.slice (some ⟨w5.heap.size, 0, none⟩) 3 3] wa (ToldP (w.heap.size + 2) (.list [whoC mo nm, whoS mo nm (.list [.atom m, .hash (.pl sa)]), .two 9 (.two 4 (.pl hd) (.atom m1)) (.hash (.pl sa))]) w5)) := by
    refine Calls.mono (toldList_any (L := (w.heap.size + 2)) (h := w5.heap.size) [whoC mo nm, whoS mo nm (.list [.atom m, .hash (.pl sa)]), .two 9 (.two 4 (.pl hd) (.atom m1)) (.hash (.pl sa))] [.func (.func F4) #[] cs4, .func (.func F5) #[] cs5, .func (.func F6) #[] cs6] wa (by omega) ⟨hsz', by omega⟩ ha' ⟨rfl, fun m hm => ?_⟩) ?_
    · rcases (show m = 0 ∨ m = 1 ∨ m = 2 by simp at hm; omega) with rfl | rfl | rfl
      · exact ToldIs.nx ba T4.out
      · exact ToldIs.nx ba T5.out
      · exact ToldIs.nx ba T6.out
    · rintro e w' ⟨v, h1, h2, h3⟩
      exact ⟨v, h1, h2, ba.trans (h3.mono ba.size)⟩
  clear ba sa' ha' hsz'
  go_wp2_with fail
  clear hwa
  refine Calls.mono HLC.out ?_
  rintro e w6 ⟨v7, rfl, t7, hb⟩
  obtain ⟨F7, cs7, rfl⟩ := t7.fn
  have T7 : Hid (ToldIs (w.heap.size + 2) w6.heap.size w6 (.list [whoC mo nm, whoS mo nm (.list [.atom m, .hash (.pl sa)]), .two 9 (.two 4 (.pl hd) (.atom m1)) (.hash (.pl sa))]) (.func (.func F7) #[] cs7)) := t7
  have HC6 : Hid (w6.heap[w.heap.size]? = some (.cells #[.slice a ns.length cap] 26 (0, 0)) ∧ w6.heap[w.heap.size + 1]? = some (.cells #[.slice none 0 0] 26 (0, 0)) ∧ Below w.heap.size w w6 ∧ w.heap.size + 2 ≤ w6.heap.size) := ⟨(hb.block _ (by have := HC5.out.2.2.2; omega)).trans HC5.out.1, (hb.block _ (by have := HC5.out.2.2.2; omega)).trans HC5.out.2.1, HC5.out.2.2.1.trans (hb.mono (by have := HC5.out.2.2.2; omega)), by have := HC5.out.2.2.2; have := hb.size; omega⟩
  have HK6 : Hid (w6.heap[g]? = some (.cells #[.int .i64 sd, .int .i64 hd, .int .i64 sa] 48 (0, 0)) ∧ w6.heap[g + 1]? = some (.cells #[.func (.func 55) #[] #[], .func (.func 56) #[] #[], .func (.func 57) #[] #[]] 50 (0, 0)) ∧ g + 1 < w6.heap.size) := ⟨(hb.block _ (by have := HK5.out.2.2; omega)).trans HK5.out.1, (hb.block _ HK5.out.2.2).trans HK5.out.2.1, by have := HK5.out.2.2; have := hb.size; omega⟩
  clear t7 hb HC5 HK5 T4 T5 T6 HLC
  go_wp2_with fail
  have HI : Hid (RgI w a ns.length cap [(.list [whoC mo nm, whoS mo nm (.list [.atom m, .hash (.pl sa)]), .two 9 (.two 4 (.pl hd) (.atom m1)) (.hash (.pl sa))], .func (.func F7) #[] cs7)] w6 ∧ w6.heap[g]? = some (.cells #[.int .i64 sd, .int .i64 hd, .int .i64 sa] 48 (0, 0)) ∧ w6.heap[g + 1]? = some (.cells #[.func (.func 55) #[] #[], .func (.func 56) #[] #[], .func (.func 57) #[] #[]] 50 (0, 0)) ∧ g + 1 < w6.heap.size) := ⟨⟨HC6.out.2.2.1, HC6.out.1, ⟨_, HC6.out.2.1⟩, HC6.out.2.2.2, fun p hp => by rw [List.mem_singleton] at hp; subst hp; exact T7.out⟩, HK6.out.1, HK6.out.2.1, HK6.out.2.2⟩
  clear HC6 T7 HK6
  refine wp_region_list (I := fun w' => RgI w a ns.length cap [(.list [whoC mo nm, whoS mo nm (.list [.atom m, .hash (.pl sa)]), .two 9 (.two 4 (.pl hd) (.atom m1)) (.hash (.pl sa))], .func (.func F7) #[] cs7)] w' ∧ w'.heap[g]? = some (.cells #[.int .i64 sd, .int .i64 hd, .int .i64 sa] 48 (0, 0)) ∧ w'.heap[g + 1]? = some (.cells #[.func (.func 55) #[] #[], .func (.func 56) #[] #[], .func (.func 57) #[] #[]] 50 (0, 0)) ∧ g + 1 < w'.heap.size) (R := RgR (w.heap.size + 1) 10)
    (fs := #[⟨[42], fun vs _ => vs = [.pointer (some ⟨g + 1, 0, none⟩)]⟩, ⟨[43], fun vs _ => vs = [.func (.func 55) #[] #[]]⟩, ⟨[44], fun vs _ => vs = [.agg #[.int .i64 sd, .int .i64 hd, .int .i64 sa]]⟩, ⟨[45], fun vs w' => ∃ v, vs = [v] ∧ ToldIs (w.heap.size + 2) w'.heap.size w' (.two 4 (.pl hd) (.atom sd)) v⟩, ⟨[46], fun vs w' => ∃ v, vs = [v] ∧ ToldIs (w.heap.size + 2) w'.heap.size w' (.list [whoC mo nm, whoS mo nm (.list [.atom m, .hash (.pl sa)]), .two 9 (.two 4 (.pl hd) (.atom m1)) (.hash (.pl sa))]) v⟩, ⟨[47], fun vs w' => ∃ v, vs = [v] ∧ ToldIs (w.heap.size + 2) w'.heap.size w' (.two 5 (.two 4 (.pl hd) (.atom sd)) (.list [whoC mo nm, whoS mo nm (.list [.atom m, .hash (.pl sa)]), .two 9 (.two 4 (.pl hd) (.atom m1)) (.hash (.pl sa))])) v⟩, ⟨[48], fun vs _ => vs = [.agg #[.slice a ns.length cap]]⟩, ⟨[49], fun vs w' => ∃ v, vs = [.tuple #[.agg #[v], .int .i64 KK]] ∧ OwnC (w.heap.size + 2) w' v KP⟩, ⟨[50], fun vs w' => ∃ v, vs = [.agg #[v]] ∧ OwnC (w.heap.size + 2) w' v KP⟩, ⟨[51], fun vs _ => vs = [.int .i64 KK]⟩, ⟨[], fun vs w' => ∃ a9 c9, w'.heap[w.heap.size + 1]? = some (.cells #[.slice a9 KP.length c9] 26 (0, 0)) ∧ OwnC (w.heap.size + 2) w' (.slice a9 KP.length c9) KP⟩, ⟨[13], fun vs _ => vs = [.int .i64 KK]⟩])
    (by kernel_rfl) 52 rfl (by kernel_rfl) ?stab ?istab ?start ?exec ?fin
  case stab =>
    intro k i f hki hf
    have hk : k < 12 := (Array.getElem?_eq_some_iff.1 hf).1
    rcases (show k = 0 ∨ k = 1 ∨ k = 2 ∨ k = 3 ∨ k = 4 ∨ k = 5 ∨ k = 6 ∨ k = 7 ∨ k = 8 ∨ k = 9 ∨ k = 10 ∨ k = 11 by omega) with rfl | rfl | rfl | rfl | rfl | rfl | rfl | rfl | rfl | rfl | rfl | rfl
    all_goals
      simp only [List.getElem?_toArray, List.getElem?_cons_succ, List.getElem?_cons_zero, Option.some.injEq] at hf
      subst hf
    · exact fun vs _ _ _ h => h
    · exact fun vs _ _ _ h => h
    · exact fun vs _ _ _ h => h
    · exact fun vs w' w'' hR ⟨v, h1, h2⟩ => ⟨v, h1, RgR.told hR (by omega) _ h2⟩
    · exact fun vs w' w'' hR ⟨v, h1, h2⟩ => ⟨v, h1, RgR.told hR (by omega) _ h2⟩
    · exact fun vs w' w'' hR ⟨v, h1, h2⟩ => ⟨v, h1, RgR.told hR (by omega) _ h2⟩
    · exact fun vs _ _ _ h => h
    · exact fun vs w' w'' hR ⟨v, h1, h2⟩ => ⟨v, h1, RgR.own hR (by omega) h2⟩
    · exact fun vs w' w'' hR ⟨v, h1, h2⟩ => ⟨v, h1, RgR.own hR (by omega) h2⟩
    · exact fun vs _ _ _ h => h
    · exact fun vs w' w'' hR ⟨a9, c9, h1, h2⟩ => ⟨a9, c9, by have h3 := hR; unfold RgR at h3; rw [if_neg (Ne.symm hki)] at h3; exact (h3.block _ (Array.getElem?_eq_some_iff.1 h1).1).trans h1, RgR.own hR (by omega) h2⟩
    · exact fun vs _ _ _ h => h
  case istab => exact fun i w' w'' hR h => ⟨h.1.next hR, (hR.blk (by omega) (by have := h.2.2.2; omega)).trans h.2.1, (hR.blk (by omega) h.2.2.2).trans h.2.2.1, Nat.lt_of_lt_of_le h.2.2.2 hR.size⟩
  case start => exact ⟨HI.out.1.drew, HI.out.2.1, HI.out.2.2.1, HI.out.2.2.2⟩
  case exec =>
    intro i o f hi hf act wq hsz hI hold hpre
    have hi11 : i < 12 := (Array.getElem?_eq_some_iff.1 hi).1
    rcases (show i = 0 ∨ i = 1 ∨ i = 2 ∨ i = 3 ∨ i = 4 ∨ i = 5 ∨ i = 6 ∨ i = 7 ∨ i = 8 ∨ i = 9 ∨ i = 10 ∨ i = 11 by omega) with rfl | rfl | rfl | rfl | rfl | rfl | rfl | rfl | rfl | rfl | rfl | rfl
    all_goals
      simp only [List.getElem?_toArray, List.getElem?_cons_succ, List.getElem?_cons_zero, Option.some.injEq] at hi hf
      subst hi hf
    · have g15 : act.tmps.getD 15 undef = .pointer (some ⟨g + 1, 0, none⟩) := hold 15 (free_spec (by kernel_rfl))
      refine exec_same (v := .pointer (some ⟨g + 1, 0, none⟩)) ?_ ⟨_, rfl, (by show (if _ then _ else _); rw [if_neg (by decide)]; exact Below.refl _ _), at_one (by omega) rfl⟩
      simp [go_sem, Act.eval, g15, Tryz.underlying50]
    · have g42 : act.tmps.getD 42 undef = .pointer (some ⟨g + 1, 0, none⟩) := by have := of_one (hpre ⟨0, .data⟩ (by simp) rfl _ rfl); simpa using this
      have hcf : wq.cell? ⟨g + 1, 0, none⟩ = some (.func (.func 55) #[] #[]) := (cell_of_row _ _ 0 _ _ _ hI.2.2.1).trans rfl
      refine exec_same (v := .func (.func 55) #[] #[]) ?_ ⟨_, rfl, (by show (if _ then _ else _); rw [if_neg (by decide)]; exact Below.refl _ _), at_one (by omega) rfl⟩
      simp [go_sem, Act.eval, g42, hcf]
    · have g14 : act.tmps.getD 14 undef = .pointer (some ⟨g, 0, none⟩) := hold 14 (free_spec (by kernel_rfl))
      have hs0 : wq.cell? ⟨g, 0, none⟩ = some (.int .i64 sd) := (cell_of_row _ _ 0 _ _ _ hI.2.1).trans rfl
      have hs1 : wq.cell? ⟨g, 1, none⟩ = some (.int .i64 hd) := (cell_of_row _ _ 1 _ _ _ hI.2.1).trans rfl
      have hs2 : wq.cell? ⟨g, 2, none⟩ = some (.int .i64 sa) := (cell_of_row _ _ 2 _ _ _ hI.2.1).trans rfl
      refine exec_same (v := .agg #[.int .i64 sd, .int .i64 hd, .int .i64 sa]) ?_ ⟨_, rfl, (by show (if _ then _ else _); rw [if_neg (by decide)]; exact Below.refl _ _), at_one (by omega) rfl⟩
      simp [go_sem, Act.eval, g14, hs0, hs1, hs2]
    · have g43 : act.tmps.getD 43 undef = .func (.func 55) #[] #[] := by have := of_one (hpre ⟨1, .data⟩ (by simp) rfl _ rfl); simpa using this
      have g44 : act.tmps.getD 44 undef = .agg #[.int .i64 sd, .int .i64 hd, .int .i64 sa] := by have := of_one (hpre ⟨2, .data⟩ (by simp) rfl _ rfl); simpa using this
      refine exec_call (f := 55) (args := #[.agg #[.int .i64 sd, .int .i64 hd, .int .i64 sa]]) (by simp [go_sem, Act.eval, g43, g44]) ?_
      refine Calls.mono (psKey_any (L := (w.heap.size + 2)) sd hd sa wq hI.1.size) ?_
      rintro e w2 ⟨v2, rfl, l2, hb2⟩
      exact ⟨_, rfl, _, rfl, (by show (if _ then _ else _); rw [if_neg (by decide)]; exact hb2), ⟨_, by show [(act.put _ _).tmps.getD _ undef] = _; rw [put_same _ _ _ (by omega)], l2⟩⟩
    · have g18 : act.tmps.getD 18 undef = .func (.func F7) #[] cs7 := hold 18 (free_spec (by kernel_rfl))
      refine exec_same (v := .func (.func F7) #[] cs7) ?_ ⟨_, rfl, (by show (if _ then _ else _); rw [if_neg (by decide)]; exact Below.refl _ _), ⟨_, by show [(act.put _ _).tmps.getD _ undef] = _; rw [put_same _ _ _ (by omega)], hI.1.told _ (List.mem_cons_self ..)⟩⟩
      simp [go_sem, Act.eval, g18]
    · obtain ⟨u3, h1_3, l3⟩ := hpre ⟨3, .data⟩ (by simp) rfl _ rfl
      have g45 : act.tmps.getD 45 undef = u3 := by simpa using h1_3
      obtain ⟨u4, h1_4, l4⟩ := hpre ⟨4, .data⟩ (by simp) rfl _ rfl
      have g46 : act.tmps.getD 46 undef = u4 := by simpa using h1_4
      refine exec_call (f := 26) (args := #[.int .i64 5, u3, u4]) (by simp [go_sem, Act.eval, g45, g46]) ?_
      refine Calls.mono (toldTwo_any 5 _ _ u3 u4 wq hI.1.size l3 l4) ?_
      rintro e w2 ⟨v2, rfl, l2, hb2⟩
      exact ⟨_, rfl, _, rfl, (by show (if _ then _ else _); rw [if_neg (by decide)]; exact hb2), ⟨_, by show [(act.put _ _).tmps.getD _ undef] = _; rw [put_same _ _ _ (by omega)], l2⟩⟩
    · have g6 : act.tmps.getD 6 undef = .pointer (some ⟨w.heap.size, 0, none⟩) := hold 6 (free_spec (by kernel_rfl))
      have hc : wq.cell? ⟨w.heap.size, 0, none⟩ = some (.slice a ns.length cap) := (cell_of_row _ _ 0 _ _ _ hI.1.box).trans rfl
      refine exec_same (v := .agg #[.slice a ns.length cap]) ?_ ⟨_, rfl, (by show (if _ then _ else _); rw [if_neg (by decide)]; exact Below.refl _ _), at_one (by omega) rfl⟩
      simp [go_sem, Act.eval, g6, hc]
    · obtain ⟨u5, h1_5, l5⟩ := hpre ⟨5, .data⟩ (by simp) rfl _ rfl
      have g47 : act.tmps.getD 47 undef = u5 := by simpa using h1_5
      have g48 : act.tmps.getD 48 undef = .agg #[.slice a ns.length cap] := by have := of_one (hpre ⟨6, .data⟩ (by simp) rfl _ rfl); simpa using this
      refine exec_call (f := 27) (args := #[u5, .agg #[.slice a ns.length cap]]) (by simp [go_sem, Act.eval, g47, g48]) ?_
      refine Calls.mono (HFN.out _ wq hI.1.below l5) ?_
      rintro e w2 ⟨v2, rfl, l2, hb2⟩
      exact ⟨_, rfl, _, rfl, (by show (if _ then _ else _); rw [if_neg (by decide)]; exact hb2), ⟨_, by show [(act.put _ _).tmps.getD _ undef] = _; rw [put_same _ _ _ (by omega)], l2.base (by have := hI.1.size; omega)⟩⟩
    · obtain ⟨uu, h1u, lu⟩ := hpre ⟨7, .data⟩ (by simp) rfl _ rfl
      have gu : act.tmps[49]?.getD undef = .tuple #[.agg #[uu], .int .i64 KK] := by simpa using h1u
      refine exec_same (v := .agg #[uu]) ?_ ⟨_, rfl, (by show (if _ then _ else _); rw [if_neg (by decide)]; exact Below.refl _ _), ⟨_, by show [(act.put _ _).tmps.getD _ undef] = _; rw [put_same _ _ _ (by omega)], lu⟩⟩
      simp [go_sem, Act.eval, gu]
    · obtain ⟨uu, h1u, lu⟩ := hpre ⟨7, .data⟩ (by simp) rfl _ rfl
      have gu : act.tmps[49]?.getD undef = .tuple #[.agg #[uu], .int .i64 KK] := by simpa using h1u
      refine exec_same (v := .int .i64 KK) ?_ ⟨_, rfl, (by show (if _ then _ else _); rw [if_neg (by decide)]; exact Below.refl _ _), at_one (by omega) rfl⟩
      simp [go_sem, Act.eval, gu]
    · obtain ⟨uu, h1u, lu⟩ := hpre ⟨8, .data⟩ (by simp) rfl _ rfl
      have gu : act.tmps[50]?.getD undef = .agg #[uu] := by simpa using h1u
      obtain ⟨a9, c9, rfl, -, -⟩ := lu.row
      have g12 : act.tmps.getD 12 undef = .pointer (some ⟨w.heap.size + 1, 0, none⟩) := hold 12 (free_spec (by kernel_rfl))
      obtain ⟨u0, hu0⟩ := hI.1.res
      have hcg : wq.cell? ⟨w.heap.size + 1, 0, none⟩ = some u0 := by rw [cell_of_row wq _ 0 _ _ _ hu0]; rfl
      have hfg : wq.frozen? ⟨w.heap.size + 1, 0, none⟩ = false := frozen_of_row wq _ 0 _ _ hu0
      have hRR : RgR (w.heap.size + 1) 10 10 wq (wq.setCell ⟨w.heap.size + 1, 0, none⟩ (.slice a9 KP.length c9)) := by show (if _ then _ else _); rw [if_pos rfl]; exact ⟨_, rfl⟩
      refine exec_skip (w' := wq.setCell ⟨w.heap.size + 1, 0, none⟩ (.slice a9 KP.length c9)) ?_ ⟨_, rfl, hRR, ⟨a9, c9, (heap_setCell_same wq _ 0 _ _ _ hu0).trans rfl, RgR.own hRR (by omega) lu⟩⟩
      simp [go_sem, Act.eval, g12, gu, hcg, hfg]
    · have g51 : act.tmps.getD 51 undef = .int .i64 KK := by have := of_one (hpre ⟨9, .data⟩ (by simp) rfl _ rfl); simpa using this
      refine exec_same (v := .int .i64 KK) ?_ ⟨_, rfl, (by show (if _ then _ else _); rw [if_neg (by decide)]; exact Below.refl _ _), at_one (by omega) rfl⟩
      simp [go_sem, Act.eval, g51]
  case fin =>
    intro zs w5 hzl hI hF
    obtain ⟨z0, z1, z2, z3, z4, z5, z6, z7, z8, z9, z10, z11, rfl⟩ := list12 zs hzl
    obtain ⟨a9, c9, hbox, hown⟩ := hF 10 _ rfl
    have hint := of_one (hF 11 _ rfl)
    simp only [List.cons.injEq, and_true] at hint
    have hs3 := last_is (i := 11) (v := z11) (n := 52) hint (by kernel_rfl) rfl rfl (by omega)
    clear hint
    subst hs3
    clear hF
    simp only [putAll, Act.put, List.setIfInBounds_toArray, List.set_cons_succ, List.set_cons_zero]
    have HE : Hid _ := And.intro hbox (And.intro hown hI.1.below)
    clear hbox hI hown
    go_wp2
    refine bodyPost_ret (res_cell2 rfl _ _ (w.heap.size + 1) 26 #[.slice a9 KP.length c9] (0, 0) _ rfl ?_ Tryz.underlying26 rfl arenaSize) rfl ?_
    · exact HE.out.1
    · exact ⟨_, rfl, HE.out.2.1.base (by omega), HE.out.2.2⟩
end Go.Proofs.YtaanophnnkmkbaaGreat
