/- The program's functions of chapter 10: secrets of names, certificates. -/
import Derived.Test.YtlecpjgeaigjkaaNameW10
import Derived.Test.YtlecpjgeaigjkaaLawClip
import Derived.OpenShut
import Derived.Test.YtlecpjgeaigjkaaRegionK
import Derived.Test.YtlecpjgeaigjkaaRegionA
namespace Go.Proofs.Ytlecpjgeaigjkaa
open Go.RowKit Go.Maps
set_option linter.unusedVariables false
theorem make_asN {ns : List Nd} {k x y : Int} (h : ¬ (k = 1 ∨ k = 7)) : makeA ns k x y = putA ns (mkNd k x y) ∧ makeK ns k x y = putK ns (mkNd k x y) := by
  unfold makeA makeK; rw [if_neg h, if_neg h]; exact ⟨rfl, rfl⟩
theorem ifneg_sameN {K : Int} (h : K < 0 → K = -1) : (if K < 0 then -1 else K) = K := by
  split
  · rename_i h1; exact (h h1).symm
  · rfl
theorem lgK_neg {ns : List Nd} {n : Int} (h : lgK ns n < 0) : lgK ns n = -1 := by
  unfold lgK at h ⊢
  split
  · rename_i h1; rw [if_pos h1] at h; exact putK_neg h
  · rfl
theorem pkK_neg {ns : List Nd} {x y : Int} (h : pkK ns x y < 0) : pkK ns x y = -1 := by
  unfold pkK at h ⊢
  split
  · rename_i h1; rw [if_pos h1] at h; exact putK_neg h
  · rfl
theorem crK_neg {ns : List Nd} {n : Int} (h : crK ns n < 0) : crK ns n = -1 := makeK_neg (show makeK _ _ _ _ < 0 from h)
/-- A certificate, as it is told. -/
def certT (n : Int) : Tl := .two 8 (.atom 1000) (.list [.atom 60, .atom n, .one 6 (longT n)])
theorem certT_f (n : Int) (ns : List Nd) : (certT n).f ns = (crA ns n, crK ns n) := by
  have e5 : ((Tl.one 6 (longT n)).f (crA3 ns n)) = (crA5 ns n, crK5 ns n) := by
    unfold crA5 crK5
    rw [(make_asN (k := 6) (by omega)).1, (make_asN (k := 6) (by omega)).2]
    show (putA ((longT n).f (crA3 ns n)).1 (mkNd 6 ((longT n).f (crA3 ns n)).2 0), putK ((longT n).f (crA3 ns n)).1 (mkNd 6 ((longT n).f (crA3 ns n)).2 0)) = _
    rw [longT_f]
  have eL : ((Tl.list [.atom 60, .atom n, .one 6 (longT n)]).f (crA1 ns)) = crL ns n := by
    rw [Tl.f_list, Tl.fs_cons, Tl.fs_cons, Tl.fs_cons, Tl.fs_nil]
    show listF [crK2 ns, crK3 ns n, ((Tl.one 6 (longT n)).f (crA3 ns n)).2] ((Tl.one 6 (longT n)).f (crA3 ns n)).1 = _
    rw [e5]; rfl
  unfold crA crK
  rw [(make_asN (k := 8) (by omega)).1, (make_asN (k := 8) (by omega)).2]
  show (putA ((Tl.list [.atom 60, .atom n, .one 6 (longT n)]).f (crA1 ns)).1 (mkNd 8 (crK1 ns) ((Tl.list [.atom 60, .atom n, .one 6 (longT n)]).f (crA1 ns)).2), putK ((Tl.list [.atom 60, .atom n, .one 6 (longT n)]).f (crA1 ns)).1 (mkNd 8 (crK1 ns) ((Tl.list [.atom 60, .atom n, .one 6 (longT n)]).f (crA1 ns)).2)) = _
  rw [eL]
theorem wf60 : (Lit.int .i64 60).wf = true := by decide
theorem wf1000 : (Lit.int .i64 1000).wf = true := by decide
theorem certT_wf {n : Int} (h : (Lit.int .i64 n).wf = true) : (certT n).Wf := ⟨by omega, by omega, wf1000, by simp, wf60, h, longT_wf n, trivial⟩
/-- Terms that are told stay so. -/
theorem ToldIs.next {L : Nat} {w w' : World} {t : Tl} {v : Value} (hb : Below w.heap.size w w') (h : ToldIs L w.heap.size w t v) : ToldIs L w'.heap.size w' t v := ToldIs.base hb.size t (ToldIs.later hb t h)
set_option maxHeartbeats 1600000 in
theorem toldCert_any {L : Nat} (n : Int) (w : World) (hL : L ≤ w.heap.size) (hn : (Lit.int .i64 n).wf = true) : Calls Try.prog 114 #[.int .i64 n] w (ToldP L (certT n) w) := by
  have HL : Hid (L ≤ w.heap.size) := hL
  have HN : Hid ((Lit.int .i64 n).wf = true) := hn
  clear hL hn
  go_enter Try.func114, Try.ntmps114
  go_wp2_with fail
  refine Calls.mono (toldLong_any (L := L) n w HL.out HN.out) ?_
  rintro e w1 ⟨v1, rfl, t1, b1⟩
  have B1 : Hid (Below w.heap.size w w1 ∧ L ≤ w1.heap.size ∧ ToldIs L w1.heap.size w1 (longT n) v1) := ⟨b1, Nat.le_trans HL.out b1.size, t1⟩
  obtain ⟨F1, c1, rfl⟩ := t1.fn
  clear t1 b1
  go_wp2_with fail
  refine Calls.mono (toldOne_any (L := L) 6 _ _ w1 (by omega) B1.out.2.1 B1.out.2.2) ?_
  rintro e w2 ⟨v2, rfl, t2, b2⟩
  have B2 : Hid (Below w.heap.size w w2 ∧ L ≤ w2.heap.size ∧ ToldIs L w2.heap.size w2 (.one 6 (longT n)) v2) := ⟨B1.out.1.trans (b2.mono B1.out.1.size), Nat.le_trans B1.out.2.1 b2.size, t2⟩
  obtain ⟨F2, c2, rfl⟩ := t2.fn
  clear t2 b2 B1
  go_wp2_with fail
  refine Calls.mono (toldAtom_any (L := L) 1000 w2 B2.out.2.1) ?_
  rintro e w3 ⟨v3, rfl, t3, b3⟩
  have B3 : Hid (Below w.heap.size w w3 ∧ L ≤ w3.heap.size ∧ ToldIs L w3.heap.size w3 (.one 6 (longT n)) (.func (.func F2) #[] c2) ∧ ToldIs L w3.heap.size w3 (.atom 1000) v3) := ⟨B2.out.1.trans (b3.mono B2.out.1.size), Nat.le_trans B2.out.2.1 b3.size, B2.out.2.2.next b3, t3⟩
  obtain ⟨F3, c3, rfl⟩ := t3.fn
  clear t3 b3 B2
  go_wp2_with fail
  refine Calls.mono (toldAtom_any (L := L) 60 w3 B3.out.2.1) ?_
  rintro e w4 ⟨v4, rfl, t4, b4⟩
  have B4 : Hid (Below w.heap.size w w4 ∧ L ≤ w4.heap.size ∧ ToldIs L w4.heap.size w4 (.one 6 (longT n)) (.func (.func F2) #[] c2) ∧ ToldIs L w4.heap.size w4 (.atom 1000) (.func (.func F3) #[] c3) ∧ ToldIs L w4.heap.size w4 (.atom 60) v4) := ⟨B3.out.1.trans (b4.mono B3.out.1.size), Nat.le_trans B3.out.2.1 b4.size, B3.out.2.2.1.next b4, B3.out.2.2.2.next b4, t4⟩
  obtain ⟨F4, c4, rfl⟩ := t4.fn
  clear t4 b4 B3
  go_wp2_with fail
  refine Calls.mono (toldAtom_any (L := L) n w4 B4.out.2.1) ?_
  rintro e w5 ⟨v5, rfl, t5, b5⟩
  have B5 : Hid (Below w.heap.size w w5 ∧ L ≤ w5.heap.size ∧ ToldIs L w5.heap.size w5 (.one 6 (longT n)) (.func (.func F2) #[] c2) ∧ ToldIs L w5.heap.size w5 (.atom 1000) (.func (.func F3) #[] c3) ∧ ToldIs L w5.heap.size w5 (.atom 60) (.func (.func F4) #[] c4) ∧ ToldIs L w5.heap.size w5 (.atom n) v5) := ⟨B4.out.1.trans (b5.mono B4.out.1.size), Nat.le_trans B4.out.2.1 b5.size, B4.out.2.2.1.next b5, B4.out.2.2.2.1.next b5, B4.out.2.2.2.2.next b5, t5⟩
  obtain ⟨F5, c5, rfl⟩ := t5.fn
  clear t5 b5 B4
  obtain ⟨w6, hw6⟩ : ∃ w6, w5.alloc (.cells #[.func (.func F4) #[] c4, .func (.func F5) #[] c5, .func (.func F2) #[] c2] 73) = w6 := ⟨_, rfl⟩
  have b6 : Below w5.heap.size w5 w6 := by rw [← hw6]; exact (Below.refl _ _).alloc (Nat.le_refl _) _
  have s6 : w6.heap.size = w5.heap.size + 1 := by rw [← hw6]; simp
  have h6 : w6.heap[w5.heap.size]? = some (.cells #[.func (.func F4) #[] c4, .func (.func F5) #[] c5, .func (.func F2) #[] c2] 73 (0, 0)) := by rw [← hw6]; exact heap_alloc_new w5 _
  have HLC : Hid (Calls Try.prog 75 #[.slice (some ⟨w5.heap.size, 0, none⟩) 3 3] w6 (ToldP L (.list [.atom 60, .atom n, .one 6 (longT n)]) w6)) := by
    refine toldList_any (h := w5.heap.size) [.atom 60, .atom n, .one 6 (longT n)] [.func (.func F4) #[] c4, .func (.func F5) #[] c5, .func (.func F2) #[] c2] w6 (Nat.le_trans B5.out.2.1 b6.size) ⟨B5.out.2.1, by omega⟩ h6 ⟨rfl, fun m hm => ?_⟩
    rcases (show m = 0 ∨ m = 1 ∨ m = 2 by simp at hm; omega) with rfl | rfl | rfl
    · exact B5.out.2.2.2.2.1.next b6
    · exact B5.out.2.2.2.2.2.next b6
    · exact B5.out.2.2.1.next b6
  have B6 : Hid (Below w.heap.size w w6 ∧ L ≤ w6.heap.size ∧ ToldIs L w6.heap.size w6 (.atom 1000) (.func (.func F3) #[] c3)) := ⟨B5.out.1.trans (b6.mono B5.out.1.size), Nat.le_trans B5.out.2.1 b6.size, B5.out.2.2.2.1.next b6⟩
  clear B5 b6 s6 h6
  go_wp2_with fail
  clear hw6
  refine Calls.mono HLC.out ?_
  rintro e w7 ⟨v7, rfl, t7, b7⟩
  have B7 : Hid (Below w.heap.size w w7 ∧ L ≤ w7.heap.size ∧ ToldIs L w7.heap.size w7 (.atom 1000) (.func (.func F3) #[] c3) ∧ ToldIs L w7.heap.size w7 (.list [.atom 60, .atom n, .one 6 (longT n)]) v7) := ⟨B6.out.1.trans (b7.mono B6.out.1.size), Nat.le_trans B6.out.2.1 b7.size, B6.out.2.2.next b7, t7⟩
  obtain ⟨F7, c7, rfl⟩ := t7.fn
  clear t7 b7 B6 HLC
  go_wp2_with fail
  refine Calls.mono (toldTwo_any (L := L) 8 _ _ _ _ w7 B7.out.2.1 B7.out.2.2.1 B7.out.2.2.2) ?_
  rintro e w8 ⟨v8, rfl, t8, b8⟩
  have HE : Hid (ToldP L (certT n) w (.returned v8) w8) := ⟨v8, rfl, t8, B7.out.1.trans (b8.mono B7.out.1.size)⟩
  clear t8 b8 B7
  go_wp2
  go_ret
  exact HE.out

end Go.Proofs.Ytlecpjgeaigjkaa
