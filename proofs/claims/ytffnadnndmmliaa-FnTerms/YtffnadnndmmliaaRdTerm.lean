/- The program's reader of terms (chapter 3): nextTerm. -/
import Derived.Test.YtffnadnndmmliaaRdAt
import Derived.Test.YtffnadnndmmliaaImplR
import Derived.WalkKit
import Derived.WalkLawsBesides
import Derived.WalkSpells
import Derived.Laws.Rows
import Derived.Deep.RegionHeld3
namespace Go.Proofs.Ytffnadnndmmliaa
open Go.RowKit Go.Maps
set_option linter.unusedVariables false
theorem grown_setCellR (w : World) (g j : Nat) (u : Value) : w.grownBy (w.setCell ⟨g, j, none⟩ u) (some g) :=
  ⟨rfl, rfl, rfl, by simp, fun k _ hk => Below.heap_setCell _ _ _ _ (by simpa using hk)⟩
theorem numI_bd (s : ByteArray) (p : Nat) : -1 ≤ (numI s p).1 ∧ (numI s p).1 ≤ 1000000000 := by
  unfold numI
  cases hr : RV s p with
  | none => simp
  | some nq =>
    obtain ⟨n, q⟩ := nq
    have := RV_bd hr
    simp only
    omega
def NtPost (s : ByteArray) (B gr gb gm F : Nat) (v : Value) (w : World) (r : List Nd × Int × Nat × Nat) (e : Ending) (w' : World) : Prop :=
  e = .returned (.int .i64 r.2.1) ∧ ∃ v', RdrAt B gr gb gm F s r.2.2.1 r.2.2.2 r.1.length r.1 v' w' ∧ KeepR gr gb gm v v' w w' ∧ Below B w w'
/-- The node's box, while the reader goes on. -/
structure Nb (gr gb gm gn : Nat) (v : Value) (x : Nd) (w : World) : Prop where
  b : w.heap[gn]? = some (.cells #[.int .i64 x.k, .int .i64 x.n, .int .i64 x.a, .int .i64 x.b] 45 (0, 0))
  ne : gn ≠ gr ∧ gn ≠ gb ∧ gn ≠ gm ∧ v.ownBlock ≠ some gn
theorem Nb.keep {gr gb gm gn : Nat} {v v' : Value} {x : Nd} {w w' : World} (h : Nb gr gb gm gn v x w) (hk : KeepR gr gb gm v v' w w') : Nb gr gb gm gn v' x w' := by
  have hl := (Array.getElem?_eq_some_iff.1 h.b).1
  refine ⟨(hk.1 gn hl h.ne.1 h.ne.2.1 h.ne.2.2.1 h.ne.2.2.2).trans h.b, h.ne.1, h.ne.2.1, h.ne.2.2.1, ?_⟩
  rcases hk.2.2 with e | e
  · rw [e]; exact h.ne.2.2.2
  · intro e2
    have := e gn e2
    omega
/-- A cell of the box is written: the reader stays. -/
theorem RdrAt.box {B gr gb gm gn F : Nat} {s : ByteArray} {p l n : Nat} {ns : List Nd} {v : Value} {x : Nd} {w : World} (h : RdrAt B gr gb gm F s p l n ns v w) (hn : Nb gr gb gm gn v x w) (j : Nat) (u : Value) : RdrAt B gr gb gm F s p l n ns v (w.setCell ⟨gn, j, none⟩ u) := by
  obtain ⟨h0, ⟨D, h1, h2, h3, h4⟩, h5⟩ := h
  refine ⟨(Below.heap_setCell _ _ _ _ (Ne.symm hn.ne.1)).trans h0, ⟨D, (Below.heap_setCell _ _ _ _ (Ne.symm hn.ne.2.1)).trans h1, ?_, h3.setCell (Ne.symm hn.ne.2.2.1) _, h4⟩, h5⟩
  exact ownsRow_setCell_other h2 (a := ⟨gn, j, none⟩) hn.ne.2.2.2 u
theorem keep_box {gr gb gm gn : Nat} {v v' : Value} {w w' : World} {j : Nat} {u : Value} (h : KeepR gr gb gm v v' w w') (hg : w.heap.size ≤ gn) : KeepR gr gb gm v v' w (w'.setCell ⟨gn, j, none⟩ u) :=
  ⟨fun k hk h0 h1 h2 h3 => (Below.heap_setCell _ _ _ _ (by simp; omega)).trans (h.1 k hk h0 h1 h2 h3), by simpa using h.2.1, h.2.2⟩
set_option maxHeartbeats 3200000 in
set_option maxRecDepth 20000 in
theorem ntTerm_any (s : ByteArray) (B gr gb gm F : Nat) (hs : s.size ≤ 1048576) : ∀ (f : Nat) (ns : List Nd) (p l : Nat) (v : Value) (w : World), l ≤ f → l ≤ 2000 → ns.length ≤ 1048576 → RdrAt B gr gb gm F s p l ns.length ns v w →
    Calls Try.prog 80 #[.pointer (some ⟨gr, 0, none⟩)] w (NtPost s B gr gb gm F v w (rdI s f ns p l)) := by
  have zero : ∀ (f : Nat) (ns : List Nd) (p : Nat) (v : Value) (w : World), RdrAt B gr gb gm F s p 0 ns.length ns v w → Calls Try.prog 80 #[.pointer (some ⟨gr, 0, none⟩)] w (NtPost s B gr gb gm F v w (rdI s f ns p 0)) := by
    intro f ns p v w h
    have HE : Hid (rdI s f ns p 0 = (ns, -1, p, 0)) := by show _ = _; cases f <;> simp [rdI]
    have HR : Hid (RdrAt B gr gb gm F s p 0 ns.length ns v w) := h
    obtain ⟨h1, _⟩ := h
    have c2 : w.cell? ⟨gr, 2, none⟩ = some (.int .i64 0) := (cell_of_row _ _ 2 _ _ _ h1).trans rfl
    clear h1
    rw [HE.out]
    go_enter Try.func80, Try.ntmps80
    go_wp2
    go_ret
    exact ⟨rfl, v, HR.out, KeepR.below (Below.refl _ _), Below.refl _ _⟩
  intro f
  induction f with
  | zero =>
    intro ns p l v w hl h2 hn h
    obtain rfl : l = 0 := by omega
    exact zero 0 ns p v w h
  | succ f ih =>
    intro ns p l v w hl h2 hn h
    by_cases hl0 : l = 0
    · obtain rfl := hl0
      exact zero (f + 1) ns p v w h
    have HIH : Hid _ := ih
    have HZ : Hid (∀ r, rdI s (f + 1) ns p l = r → rdI s (f + 1) ns p l = r) := fun _ h => h
    clear ih zero HZ
    obtain ⟨h1, _⟩ := id h
    have c2 : w.cell? ⟨gr, 2, none⟩ = some (.int .i64 (l : Int)) := (cell_of_row _ _ 2 _ _ _ h1).trans rfl
    have f2 : w.frozen? ⟨gr, 2, none⟩ = false := frozen_of_row _ _ 2 _ _ h1
    have hb1 : (w.setCell ⟨gr, 2, none⟩ (.int .i64 ((l : Int) - 1))).heap[gr]? = some (.cells #[.string s, .int .i64 (p : Int), .int .i64 ((l - 1 : Nat) : Int), .pointer (some ⟨gb, 0, none⟩)] 82 (0, 0)) := by
      rw [show ((l - 1 : Nat) : Int) = (l : Int) - 1 by omega]
      exact (heap_setCell_same _ _ 2 _ _ _ h1).trans rfl
    have HT : Hid _ := h.turned (grown_setCellR w gr 2 (.int .i64 ((l : Int) - 1))) hb1
    have hll : ((l : Int) == 0) = false := by simp; omega
    have hl1 : (1 : Int) ≤ (l : Int) := by omega
    clear h1 hb1 h
    go_enter Try.func80, Try.ntmps80
    go_wp2_with fail
    refine (numI_any B gr gb gm F s p (l - 1) ns.length ns v _ hs HT.out.1).mono ?_
    rintro e w1 ⟨rfl, hR1, hK1, hB1⟩
    have HK1 : Hid (KeepR gr gb gm v v w w1) := HT.out.2.1.trans hK1
    have HB1 : Hid (Below B w w1) := HT.out.2.2.trans hB1
    clear hK1 hB1 HT c2 f2 hll
    have hBw1 := hR1.size
    have hkb := numI_bd s p
    obtain ⟨kd, hkd⟩ : ∃ kd, kd = (numI s p).1 := ⟨_, rfl⟩
    obtain ⟨q, hq⟩ : ∃ q, q = (numI s p).2 := ⟨_, rfl⟩
    rw [← hkd] at hkb ⊢
    rw [← hq] at hR1
    have HE0 : Hid (rdI s (f + 1) ns p l = if inB kd 1 9 = false then putI ns ⟨kd, 0, 0, 0⟩ q (l - 1) else if kd = 1 then putI ns ⟨1, (numI s q).1, 0, 0⟩ (numI s q).2 (l - 1) else if oneK kd = true then putI (rdI s f ns q (l - 1)).1 ⟨kd, 0, (rdI s f ns q (l - 1)).2.1, 0⟩ (rdI s f ns q (l - 1)).2.2.1 (rdI s f ns q (l - 1)).2.2.2 else if (rdI s f ns q (l - 1)).2.1 < 0 then putI (rdI s f ns q (l - 1)).1 ⟨kd, 0, (rdI s f ns q (l - 1)).2.1, 0⟩ (rdI s f ns q (l - 1)).2.2.1 (rdI s f ns q (l - 1)).2.2.2 else putI (rdI s f (rdI s f ns q (l - 1)).1 (rdI s f ns q (l - 1)).2.2.1 (rdI s f ns q (l - 1)).2.2.2).1 ⟨kd, 0, (rdI s f ns q (l - 1)).2.1, (rdI s f (rdI s f ns q (l - 1)).1 (rdI s f ns q (l - 1)).2.2.1 (rdI s f ns q (l - 1)).2.2.2).2.1⟩ (rdI s f (rdI s f ns q (l - 1)).1 (rdI s f ns q (l - 1)).2.2.1 (rdI s f ns q (l - 1)).2.2.2).2.2.1 (rdI s f (rdI s f ns q (l - 1)).1 (rdI s f ns q (l - 1)).2.2.1 (rdI s f ns q (l - 1)).2.2.2).2.2.2) := by show _ = _; rw [rdI, if_neg hl0, hkd, hq]
    clear hkd hq
    have hlts := hR1.lts
    have hb2 : Below w1.heap.size w1 (w1.alloc (.cells #[.int .i64 kd, .int .i64 0, .int .i64 0, .int .i64 0] 45)) := (Below.refl _ _).alloc (Nat.le_refl _) _
    have hR2 := hR1.later hb2
    have hN2 : Nb gr gb gm w1.heap.size v ⟨kd, 0, 0, 0⟩ (w1.alloc (.cells #[.int .i64 kd, .int .i64 0, .int .i64 0, .int .i64 0] 45)) := ⟨heap_alloc_new w1 _, by omega, by omega, by omega, fun e => by have := hlts.2.2.2 _ e; omega⟩
    have HK2 : Hid (KeepR gr gb gm v v w (w1.alloc (.cells #[.int .i64 kd, .int .i64 0, .int .i64 0, .int .i64 0] 45))) := HK1.out.trans (KeepR.below hb2)
    have HB2 : Hid (Below B w (w1.alloc (.cells #[.int .i64 kd, .int .i64 0, .int .i64 0, .int .i64 0] 45))) := HB1.out.trans (hb2.mono hR1.size)
    have hgn : w.heap.size ≤ w1.heap.size := HK1.out.2.1
    have HR2 : Hid (RdrAt B gr gb gm F s q (l - 1) ns.length ns v (w1.alloc (.cells #[.int .i64 kd, .int .i64 0, .int .i64 0, .int .i64 0] 45))) := hR2
    have HN2 : Hid (Nb gr gb gm w1.heap.size v ⟨kd, 0, 0, 0⟩ (w1.alloc (.cells #[.int .i64 kd, .int .i64 0, .int .i64 0, .int .i64 0] 45))) := hN2
    clear hR1 hR2 hN2 hb2 hlts HK1 HB1
    go_wp2_with fail
    generalize w1.alloc (.cells #[.int .i64 kd, .int .i64 0, .int .i64 0, .int .i64 0] 45) = w2 at HR2 HN2 HK2 HB2 ⊢
    have hBw := HR2.out.size
    have hB1 : B ≤ w1.heap.size := hBw1
    cases hi : inB kd 1 9 with
    | false =>
      have HE : Hid (rdI s (f + 1) ns p l = putI ns ⟨kd, 0, 0, 0⟩ q (l - 1)) := by show _ = _; rw [HE0.out, if_pos hi]
      have HI : Hid (inB kd 1 9 = false) := hi
      clear hi HE0 HIH
      refine (termOf_none kd 0 0 0 _ HI.out).mono ?_
      rintro e w3 ⟨rfl, hb3⟩
      have HRc : Hid (RdrAt B gr gb gm F s q (l - 1) ns.length ns v w3) := HR2.out.later hb3
      have hN := HN2.out.keep (KeepR.below (gr := gr) (gb := gb) (gm := gm) (v := v) hb3)
      have HKc : Hid (KeepR gr gb gm v v w w3) := HK2.out.trans (KeepR.below hb3)
      have HBc : Hid (Below B w w3) := HB2.out.trans (hb3.mono HR2.out.size)
      clear hb3 HR2 HN2 HK2 HB2
      have t1 := as_nil_atomTerm
      have t2 := as_nil_oneTerm
      have t3 := as_nil_twoTerm
      go_wp2_with fail
      have hdr : Below w3.heap.size w3 w3.drew := (Below.refl _ _).drew
      have HRz : Hid (RdrAt B gr gb gm F s (q) (l - 1) ns.length ns v w3.drew) := HRc.out.later hdr
      have HKz : Hid (KeepR gr gb gm v v w w3.drew) := HKc.out.trans (KeepR.below hdr)
      have HBz : Hid (Below B w w3.drew) := HBc.out.drew
      have HNz : Hid (Nb gr gb gm w1.heap.size v ⟨kd, 0, 0, 0⟩ w3.drew) := hN.keep (KeepR.below hdr)
      have S0 : w3.drew.cell? ⟨gr, 3, none⟩ = some (.pointer (some ⟨gb, 0, none⟩)) := (cell_of_row _ _ 3 _ _ _ HRz.out.1).trans rfl
      have S1 : w3.drew.cell? ⟨w1.heap.size, 0, none⟩ = some (.int .i64 (kd)) := (cell_of_row _ _ 0 _ _ _ HNz.out.b).trans rfl
      have S2 : w3.drew.cell? ⟨w1.heap.size, 1, none⟩ = some (.int .i64 (0)) := (cell_of_row _ _ 1 _ _ _ HNz.out.b).trans rfl
      have S3 : w3.drew.cell? ⟨w1.heap.size, 2, none⟩ = some (.int .i64 (0)) := (cell_of_row _ _ 2 _ _ _ HNz.out.b).trans rfl
      have S4 : w3.drew.cell? ⟨w1.heap.size, 3, none⟩ = some (.int .i64 (0)) := (cell_of_row _ _ 3 _ _ _ HNz.out.b).trans rfl
      clear hN hdr HRc HKc HBc
      go_region_held3 (fun w' => w'.cell? ⟨gr, 3, none⟩ = some (.pointer (some ⟨gb, 0, none⟩)) ∧ w'.cell? ⟨w1.heap.size, 0, none⟩ = some (.int .i64 (kd)) ∧ w'.cell? ⟨w1.heap.size, 1, none⟩ = some (.int .i64 (0)) ∧ w'.cell? ⟨w1.heap.size, 2, none⟩ = some (.int .i64 (0)) ∧ w'.cell? ⟨w1.heap.size, 3, none⟩ = some (.int .i64 (0))) (first | exact ⟨S0, S1, S2, S3, S4⟩ | assumption | exact ⟨T0, T1, T2, T3, T4⟩) ((go_at_call 152; refine (putI_any B gr gb gm F s (q) (l - 1) ns ⟨kd, 0, 0, 0⟩ v _ hn ?_ ?_).mono ?_; exact (by unfold Nd.Fits; simp only; omega); exact HRz.out; rintro e w9 ⟨rfl, v9, hr9, hk9, hb9⟩; have hn9 := HNz.out.keep hk9; have T0 : w9.cell? ⟨gr, 3, none⟩ = some (.pointer (some ⟨gb, 0, none⟩)) := (cell_of_row _ _ 3 _ _ _ hr9.1).trans rfl; have T1 : w9.cell? ⟨w1.heap.size, 0, none⟩ = some (.int .i64 (kd)) := (cell_of_row _ _ 0 _ _ _ hn9.b).trans rfl; have T2 : w9.cell? ⟨w1.heap.size, 1, none⟩ = some (.int .i64 (0)) := (cell_of_row _ _ 1 _ _ _ hn9.b).trans rfl; have T3 : w9.cell? ⟨w1.heap.size, 2, none⟩ = some (.int .i64 (0)) := (cell_of_row _ _ 2 _ _ _ hn9.b).trans rfl; have T4 : w9.cell? ⟨w1.heap.size, 3, none⟩ = some (.int .i64 (0)) := (cell_of_row _ _ 3 _ _ _ hn9.b).trans rfl))
      have HP : Hid (NtPost s B gr gb gm F v w (rdI s (f + 1) ns p l) (.returned (.int .i64 (putK ns ⟨kd, 0, 0, 0⟩))) w9) := by rw [HE.out]; exact ⟨rfl, v9, hr9, HKz.out.trans hk9, HBz.out.trans hb9⟩
      clear hr9 hk9 hb9 hn9 S0 S1 S2 S3 S4 T0 T1 T2 T3 T4
      go_wp2
      go_ret
      exact HP.out
    | true =>
      by_cases h1 : kd = 1
      · obtain rfl := h1
        have HE : Hid (rdI s (f + 1) ns p l = putI ns ⟨1, (numI s q).1, 0, 0⟩ (numI s q).2 (l - 1)) := by show _ = _; rw [HE0.out, if_neg (by simp [hi]), if_pos rfl]
        clear hi HE0 HIH
        refine (termOf_atom 1 0 0 0 _ rfl).mono ?_
        rintro e w3 ⟨rfl, hb3⟩
        have HR3 : Hid (RdrAt B gr gb gm F s q (l - 1) ns.length ns v w3) := HR2.out.later hb3
        have HN3 : Hid (Nb gr gb gm w1.heap.size v ⟨1, 0, 0, 0⟩ w3) := HN2.out.keep (KeepR.below (gr := gr) (gb := gb) (gm := gm) (v := v) hb3)
        have HK3 : Hid (KeepR gr gb gm v v w w3) := HK2.out.trans (KeepR.below hb3)
        have HB3 : Hid (Below B w w3) := HB2.out.trans (hb3.mono HR2.out.size)
        clear hb3 HR2 HN2 HK2 HB2
        have t1 := as_atomTerm_atomTerm
        go_wp2_with fail
        refine (numI_any B gr gb gm F s q (l - 1) ns.length ns v _ hs HR3.out).mono ?_
        rintro e w4 ⟨rfl, hR4, hK4, hB4⟩
        have hzb := numI_bd s q
        have hN4 := HN3.out.keep hK4
        have d1 : w4.cell? ⟨w1.heap.size, 1, none⟩ = some (.int .i64 0) := (cell_of_row _ _ 1 _ _ _ hN4.b).trans rfl
        have g1 : w4.frozen? ⟨w1.heap.size, 1, none⟩ = false := frozen_of_row _ _ 1 _ _ hN4.b
        generalize (numI s q).1 = z at HE hzb ⊢
        generalize (numI s q).2 = q2 at HE hR4
        have HRc : Hid (RdrAt B gr gb gm F s q2 (l - 1) ns.length ns v (w4.setCell ⟨w1.heap.size, 1, none⟩ (.int .i64 z))) := hR4.box hN4 1 _
        have HNc : Hid (Nb gr gb gm w1.heap.size v ⟨1, z, 0, 0⟩ (w4.setCell ⟨w1.heap.size, 1, none⟩ (.int .i64 z))) := ⟨(heap_setCell_same _ _ 1 _ _ _ hN4.b).trans rfl, hN4.ne⟩
        have HKc : Hid (KeepR gr gb gm v v w (w4.setCell ⟨w1.heap.size, 1, none⟩ (.int .i64 z))) := keep_box (HK3.out.trans hK4) hgn
        have HBc : Hid (Below B w (w4.setCell ⟨w1.heap.size, 1, none⟩ (.int .i64 z))) := (HB3.out.trans hB4).setCell (show B ≤ w1.heap.size by omega) _
        clear hR4 hK4 hB4 hN4 HR3 HN3 HK3 HB3
        have hN := HNc.out
        clear HNc
        go_wp2_with fail
        clear d1 g1
        generalize (w4.setCell ⟨w1.heap.size, 1, none⟩ (.int .i64 z)) = wc at HRc HKc HBc hN ⊢
        have hdr : Below wc.heap.size wc wc.drew := (Below.refl _ _).drew
        have HRz : Hid (RdrAt B gr gb gm F s (q2) (l - 1) ns.length ns v wc.drew) := HRc.out.later hdr
        have HKz : Hid (KeepR gr gb gm v v w wc.drew) := HKc.out.trans (KeepR.below hdr)
        have HBz : Hid (Below B w wc.drew) := HBc.out.drew
        have HNz : Hid (Nb gr gb gm w1.heap.size v ⟨1, z, 0, 0⟩ wc.drew) := hN.keep (KeepR.below hdr)
        have S0 : wc.drew.cell? ⟨gr, 3, none⟩ = some (.pointer (some ⟨gb, 0, none⟩)) := (cell_of_row _ _ 3 _ _ _ HRz.out.1).trans rfl
        have S1 : wc.drew.cell? ⟨w1.heap.size, 0, none⟩ = some (.int .i64 (1)) := (cell_of_row _ _ 0 _ _ _ HNz.out.b).trans rfl
        have S2 : wc.drew.cell? ⟨w1.heap.size, 1, none⟩ = some (.int .i64 (z)) := (cell_of_row _ _ 1 _ _ _ HNz.out.b).trans rfl
        have S3 : wc.drew.cell? ⟨w1.heap.size, 2, none⟩ = some (.int .i64 (0)) := (cell_of_row _ _ 2 _ _ _ HNz.out.b).trans rfl
        have S4 : wc.drew.cell? ⟨w1.heap.size, 3, none⟩ = some (.int .i64 (0)) := (cell_of_row _ _ 3 _ _ _ HNz.out.b).trans rfl
        clear hN hdr HRc HKc HBc
        go_region_held3 (fun w' => w'.cell? ⟨gr, 3, none⟩ = some (.pointer (some ⟨gb, 0, none⟩)) ∧ w'.cell? ⟨w1.heap.size, 0, none⟩ = some (.int .i64 (1)) ∧ w'.cell? ⟨w1.heap.size, 1, none⟩ = some (.int .i64 (z)) ∧ w'.cell? ⟨w1.heap.size, 2, none⟩ = some (.int .i64 (0)) ∧ w'.cell? ⟨w1.heap.size, 3, none⟩ = some (.int .i64 (0))) (first | exact ⟨S0, S1, S2, S3, S4⟩ | assumption | exact ⟨T0, T1, T2, T3, T4⟩) ((go_at_call 152; refine (putI_any B gr gb gm F s (q2) (l - 1) ns ⟨1, z, 0, 0⟩ v _ hn ?_ ?_).mono ?_; exact (by unfold Nd.Fits; simp only; omega); exact HRz.out; rintro e w9 ⟨rfl, v9, hr9, hk9, hb9⟩; have hn9 := HNz.out.keep hk9; have T0 : w9.cell? ⟨gr, 3, none⟩ = some (.pointer (some ⟨gb, 0, none⟩)) := (cell_of_row _ _ 3 _ _ _ hr9.1).trans rfl; have T1 : w9.cell? ⟨w1.heap.size, 0, none⟩ = some (.int .i64 (1)) := (cell_of_row _ _ 0 _ _ _ hn9.b).trans rfl; have T2 : w9.cell? ⟨w1.heap.size, 1, none⟩ = some (.int .i64 (z)) := (cell_of_row _ _ 1 _ _ _ hn9.b).trans rfl; have T3 : w9.cell? ⟨w1.heap.size, 2, none⟩ = some (.int .i64 (0)) := (cell_of_row _ _ 2 _ _ _ hn9.b).trans rfl; have T4 : w9.cell? ⟨w1.heap.size, 3, none⟩ = some (.int .i64 (0)) := (cell_of_row _ _ 3 _ _ _ hn9.b).trans rfl))
        have HP : Hid (NtPost s B gr gb gm F v w (rdI s (f + 1) ns p l) (.returned (.int .i64 (putK ns ⟨1, z, 0, 0⟩))) w9) := by rw [HE.out]; exact ⟨rfl, v9, hr9, HKz.out.trans hk9, HBz.out.trans hb9⟩
        clear hr9 hk9 hb9 hn9 S0 S1 S2 S3 S4 T0 T1 T2 T3 T4
        go_wp2
        go_ret
        exact HP.out
      · have hk1 : (kd == 1) = false := by simp [h1]
        cases ho : oneK kd with
        | true =>
          have hk36 : kd = 3 ∨ kd = 6 := by unfold oneK at ho; simpa using ho
          refine (termOf_one kd 0 0 0 _ hk36).mono ?_
          rintro e w3 ⟨rfl, hb3⟩
          have HR3 : Hid (RdrAt B gr gb gm F s q (l - 1) ns.length ns v w3) := HR2.out.later hb3
          have HN3 : Hid (Nb gr gb gm w1.heap.size v ⟨kd, 0, 0, 0⟩ w3) := HN2.out.keep (KeepR.below (gr := gr) (gb := gb) (gm := gm) (v := v) hb3)
          have HK3 : Hid (KeepR gr gb gm v v w w3) := HK2.out.trans (KeepR.below hb3)
          have HB3 : Hid (Below B w w3) := HB2.out.trans (hb3.mono HR2.out.size)
          clear hb3 HR2 HN2 HK2 HB2
          have t0 := as_oneTerm_atomTerm
          have t1 := as_oneTerm_oneTerm
          go_wp2_with fail
          refine (HIH.out ns q (l - 1) v _ (by omega) (by omega) hn HR3.out).mono ?_
          rintro e w4 ⟨rfl, v4, hR4, hK4, hB4⟩
          have hrb := rdI_bd s f ns q (l - 1) hn
          have hN4 := HN3.out.keep hK4
          have d1 : w4.cell? ⟨w1.heap.size, 2, none⟩ = some (.int .i64 0) := (cell_of_row _ _ 2 _ _ _ hN4.b).trans rfl
          have g1 : w4.frozen? ⟨w1.heap.size, 2, none⟩ = false := frozen_of_row _ _ 2 _ _ hN4.b
          obtain ⟨r1, hr1⟩ : ∃ r1, r1 = rdI s f ns q (l - 1) := ⟨_, rfl⟩
          rw [← hr1] at hR4 hrb HE0 ⊢
          obtain ⟨n4, x4, p4, l4⟩ := r1
          simp only at hR4 hrb HE0 ⊢
          clear hr1
          have HRc : Hid (RdrAt B gr gb gm F s p4 l4 n4.length n4 v4 (w4.setCell ⟨w1.heap.size, 2, none⟩ (.int .i64 x4))) := hR4.box hN4 2 _
          have HNc : Hid (Nb gr gb gm w1.heap.size v4 ⟨kd, 0, x4, 0⟩ (w4.setCell ⟨w1.heap.size, 2, none⟩ (.int .i64 x4))) := ⟨(heap_setCell_same _ _ 2 _ _ _ hN4.b).trans rfl, hN4.ne⟩
          have HKc : Hid (KeepR gr gb gm v v4 w (w4.setCell ⟨w1.heap.size, 2, none⟩ (.int .i64 x4))) := keep_box (HK3.out.trans hK4) hgn
          have HBc : Hid (Below B w (w4.setCell ⟨w1.heap.size, 2, none⟩ (.int .i64 x4))) := (HB3.out.trans hB4).setCell (show B ≤ w1.heap.size by omega) _
          clear hR4 hK4 hB4 hN4 HR3 HN3 HK3 HB3
          have HE : Hid (rdI s (f + 1) ns p l = putI n4 ⟨kd, 0, x4, 0⟩ p4 l4) := by show _ = _; rw [HE0.out, if_neg (by simp [hi]), if_neg h1, if_pos ho]
          clear HE0 HIH hi ho h1
          have hN := HNc.out
          clear HNc
          go_wp2_with fail
          clear d1 g1
          generalize (w4.setCell ⟨w1.heap.size, 2, none⟩ (.int .i64 x4)) = wc at HRc HKc HBc hN ⊢
          have hdr : Below wc.heap.size wc wc.drew := (Below.refl _ _).drew
          have HRz : Hid (RdrAt B gr gb gm F s (p4) (l4) n4.length n4 v4 wc.drew) := HRc.out.later hdr
          have HKz : Hid (KeepR gr gb gm v v4 w wc.drew) := HKc.out.trans (KeepR.below hdr)
          have HBz : Hid (Below B w wc.drew) := HBc.out.drew
          have HNz : Hid (Nb gr gb gm w1.heap.size v4 ⟨kd, 0, x4, 0⟩ wc.drew) := hN.keep (KeepR.below hdr)
          have S0 : wc.drew.cell? ⟨gr, 3, none⟩ = some (.pointer (some ⟨gb, 0, none⟩)) := (cell_of_row _ _ 3 _ _ _ HRz.out.1).trans rfl
          have S1 : wc.drew.cell? ⟨w1.heap.size, 0, none⟩ = some (.int .i64 (kd)) := (cell_of_row _ _ 0 _ _ _ HNz.out.b).trans rfl
          have S2 : wc.drew.cell? ⟨w1.heap.size, 1, none⟩ = some (.int .i64 (0)) := (cell_of_row _ _ 1 _ _ _ HNz.out.b).trans rfl
          have S3 : wc.drew.cell? ⟨w1.heap.size, 2, none⟩ = some (.int .i64 (x4)) := (cell_of_row _ _ 2 _ _ _ HNz.out.b).trans rfl
          have S4 : wc.drew.cell? ⟨w1.heap.size, 3, none⟩ = some (.int .i64 (0)) := (cell_of_row _ _ 3 _ _ _ HNz.out.b).trans rfl
          clear hN hdr HRc HKc HBc
          go_region_held3 (fun w' => w'.cell? ⟨gr, 3, none⟩ = some (.pointer (some ⟨gb, 0, none⟩)) ∧ w'.cell? ⟨w1.heap.size, 0, none⟩ = some (.int .i64 (kd)) ∧ w'.cell? ⟨w1.heap.size, 1, none⟩ = some (.int .i64 (0)) ∧ w'.cell? ⟨w1.heap.size, 2, none⟩ = some (.int .i64 (x4)) ∧ w'.cell? ⟨w1.heap.size, 3, none⟩ = some (.int .i64 (0))) (first | exact ⟨S0, S1, S2, S3, S4⟩ | assumption | exact ⟨T0, T1, T2, T3, T4⟩) ((go_at_call 152; refine (putI_any B gr gb gm F s (p4) (l4) n4 ⟨kd, 0, x4, 0⟩ v4 _ hrb.1 ?_ ?_).mono ?_; exact (by unfold Nd.Fits; simp only; omega); exact HRz.out; rintro e w9 ⟨rfl, v9, hr9, hk9, hb9⟩; have hn9 := HNz.out.keep hk9; have T0 : w9.cell? ⟨gr, 3, none⟩ = some (.pointer (some ⟨gb, 0, none⟩)) := (cell_of_row _ _ 3 _ _ _ hr9.1).trans rfl; have T1 : w9.cell? ⟨w1.heap.size, 0, none⟩ = some (.int .i64 (kd)) := (cell_of_row _ _ 0 _ _ _ hn9.b).trans rfl; have T2 : w9.cell? ⟨w1.heap.size, 1, none⟩ = some (.int .i64 (0)) := (cell_of_row _ _ 1 _ _ _ hn9.b).trans rfl; have T3 : w9.cell? ⟨w1.heap.size, 2, none⟩ = some (.int .i64 (x4)) := (cell_of_row _ _ 2 _ _ _ hn9.b).trans rfl; have T4 : w9.cell? ⟨w1.heap.size, 3, none⟩ = some (.int .i64 (0)) := (cell_of_row _ _ 3 _ _ _ hn9.b).trans rfl))
          have HP : Hid (NtPost s B gr gb gm F v w (rdI s (f + 1) ns p l) (.returned (.int .i64 (putK n4 ⟨kd, 0, x4, 0⟩))) w9) := by rw [HE.out]; exact ⟨rfl, v9, hr9, HKz.out.trans hk9, HBz.out.trans hb9⟩
          clear hr9 hk9 hb9 hn9 S0 S1 S2 S3 S4 T0 T1 T2 T3 T4
          go_wp2
          go_ret
          exact HP.out
        | false =>
          have hk2 : kd = 2 ∨ kd = 4 ∨ kd = 5 ∨ kd = 7 ∨ kd = 8 ∨ kd = 9 := by have := inB_true hi; unfold oneK at ho; simp at ho; omega
          refine (termOf_two kd 0 0 0 _ hk2).mono ?_
          rintro e w3 ⟨rfl, hb3⟩
          have HR3 : Hid (RdrAt B gr gb gm F s q (l - 1) ns.length ns v w3) := HR2.out.later hb3
          have HN3 : Hid (Nb gr gb gm w1.heap.size v ⟨kd, 0, 0, 0⟩ w3) := HN2.out.keep (KeepR.below (gr := gr) (gb := gb) (gm := gm) (v := v) hb3)
          have HK3 : Hid (KeepR gr gb gm v v w w3) := HK2.out.trans (KeepR.below hb3)
          have HB3 : Hid (Below B w w3) := HB2.out.trans (hb3.mono HR2.out.size)
          clear hb3 HR2 HN2 HK2 HB2
          have t0 := as_twoTerm_atomTerm
          have t1 := as_twoTerm_oneTerm
          have t2 := as_twoTerm_twoTerm
          go_wp2_with fail
          refine (HIH.out ns q (l - 1) v _ (by omega) (by omega) hn HR3.out).mono ?_
          rintro e w4 ⟨rfl, v4, hR4, hK4, hB4⟩
          have hrb := rdI_bd s f ns q (l - 1) hn
          have hN4 := HN3.out.keep hK4
          have d1 : w4.cell? ⟨w1.heap.size, 2, none⟩ = some (.int .i64 0) := (cell_of_row _ _ 2 _ _ _ hN4.b).trans rfl
          have g1 : w4.frozen? ⟨w1.heap.size, 2, none⟩ = false := frozen_of_row _ _ 2 _ _ hN4.b
          obtain ⟨r1, hr1⟩ : ∃ r1, r1 = rdI s f ns q (l - 1) := ⟨_, rfl⟩
          rw [← hr1] at hR4 hrb HE0 ⊢
          obtain ⟨n4, x4, p4, l4⟩ := r1
          simp only at hR4 hrb HE0 ⊢
          clear hr1
          have HRc : Hid (RdrAt B gr gb gm F s p4 l4 n4.length n4 v4 (w4.setCell ⟨w1.heap.size, 2, none⟩ (.int .i64 x4))) := hR4.box hN4 2 _
          have HNc : Hid (Nb gr gb gm w1.heap.size v4 ⟨kd, 0, x4, 0⟩ (w4.setCell ⟨w1.heap.size, 2, none⟩ (.int .i64 x4))) := ⟨(heap_setCell_same _ _ 2 _ _ _ hN4.b).trans rfl, hN4.ne⟩
          have HKc : Hid (KeepR gr gb gm v v4 w (w4.setCell ⟨w1.heap.size, 2, none⟩ (.int .i64 x4))) := keep_box (HK3.out.trans hK4) hgn
          have HBc : Hid (Below B w (w4.setCell ⟨w1.heap.size, 2, none⟩ (.int .i64 x4))) := (HB3.out.trans hB4).setCell (show B ≤ w1.heap.size by omega) _
          clear hR4 hK4 hB4 hN4 HR3 HN3 HK3 HB3
          have HN2' := HNc
          by_cases hx : x4 < 0
          · have HE : Hid (rdI s (f + 1) ns p l = putI n4 ⟨kd, 0, x4, 0⟩ p4 l4) := by show _ = _; rw [HE0.out, if_neg (by simp [hi]), if_neg h1, if_neg (by simp [ho]), if_pos hx]
            have hxx : decide ((0 : Int) ≤ x4) = false := by simp; omega
            clear HE0 HIH hi ho h1
            have hN := HNc.out
            clear HNc HN2'
            go_wp2_with fail
            clear d1 g1
            generalize (w4.setCell ⟨w1.heap.size, 2, none⟩ (.int .i64 x4)) = wc at HRc HKc HBc hN ⊢
            have hdr : Below wc.heap.size wc wc.drew := (Below.refl _ _).drew
            have HRz : Hid (RdrAt B gr gb gm F s (p4) (l4) n4.length n4 v4 wc.drew) := HRc.out.later hdr
            have HKz : Hid (KeepR gr gb gm v v4 w wc.drew) := HKc.out.trans (KeepR.below hdr)
            have HBz : Hid (Below B w wc.drew) := HBc.out.drew
            have HNz : Hid (Nb gr gb gm w1.heap.size v4 ⟨kd, 0, x4, 0⟩ wc.drew) := hN.keep (KeepR.below hdr)
            have S0 : wc.drew.cell? ⟨gr, 3, none⟩ = some (.pointer (some ⟨gb, 0, none⟩)) := (cell_of_row _ _ 3 _ _ _ HRz.out.1).trans rfl
            have S1 : wc.drew.cell? ⟨w1.heap.size, 0, none⟩ = some (.int .i64 (kd)) := (cell_of_row _ _ 0 _ _ _ HNz.out.b).trans rfl
            have S2 : wc.drew.cell? ⟨w1.heap.size, 1, none⟩ = some (.int .i64 (0)) := (cell_of_row _ _ 1 _ _ _ HNz.out.b).trans rfl
            have S3 : wc.drew.cell? ⟨w1.heap.size, 2, none⟩ = some (.int .i64 (x4)) := (cell_of_row _ _ 2 _ _ _ HNz.out.b).trans rfl
            have S4 : wc.drew.cell? ⟨w1.heap.size, 3, none⟩ = some (.int .i64 (0)) := (cell_of_row _ _ 3 _ _ _ HNz.out.b).trans rfl
            clear hN hdr HRc HKc HBc
            go_region_held3 (fun w' => w'.cell? ⟨gr, 3, none⟩ = some (.pointer (some ⟨gb, 0, none⟩)) ∧ w'.cell? ⟨w1.heap.size, 0, none⟩ = some (.int .i64 (kd)) ∧ w'.cell? ⟨w1.heap.size, 1, none⟩ = some (.int .i64 (0)) ∧ w'.cell? ⟨w1.heap.size, 2, none⟩ = some (.int .i64 (x4)) ∧ w'.cell? ⟨w1.heap.size, 3, none⟩ = some (.int .i64 (0))) (first | exact ⟨S0, S1, S2, S3, S4⟩ | assumption | exact ⟨T0, T1, T2, T3, T4⟩) ((go_at_call 152; refine (putI_any B gr gb gm F s (p4) (l4) n4 ⟨kd, 0, x4, 0⟩ v4 _ hrb.1 ?_ ?_).mono ?_; exact (by unfold Nd.Fits; simp only; omega); exact HRz.out; rintro e w9 ⟨rfl, v9, hr9, hk9, hb9⟩; have hn9 := HNz.out.keep hk9; have T0 : w9.cell? ⟨gr, 3, none⟩ = some (.pointer (some ⟨gb, 0, none⟩)) := (cell_of_row _ _ 3 _ _ _ hr9.1).trans rfl; have T1 : w9.cell? ⟨w1.heap.size, 0, none⟩ = some (.int .i64 (kd)) := (cell_of_row _ _ 0 _ _ _ hn9.b).trans rfl; have T2 : w9.cell? ⟨w1.heap.size, 1, none⟩ = some (.int .i64 (0)) := (cell_of_row _ _ 1 _ _ _ hn9.b).trans rfl; have T3 : w9.cell? ⟨w1.heap.size, 2, none⟩ = some (.int .i64 (x4)) := (cell_of_row _ _ 2 _ _ _ hn9.b).trans rfl; have T4 : w9.cell? ⟨w1.heap.size, 3, none⟩ = some (.int .i64 (0)) := (cell_of_row _ _ 3 _ _ _ hn9.b).trans rfl))
            have HP : Hid (NtPost s B gr gb gm F v w (rdI s (f + 1) ns p l) (.returned (.int .i64 (putK n4 ⟨kd, 0, x4, 0⟩))) w9) := by rw [HE.out]; exact ⟨rfl, v9, hr9, HKz.out.trans hk9, HBz.out.trans hb9⟩
            clear hr9 hk9 hb9 hn9 S0 S1 S2 S3 S4 T0 T1 T2 T3 T4
            go_wp2
            go_ret
            exact HP.out
          · have hxx : decide ((0 : Int) ≤ x4) = true := by simp; omega
            have hN := HNc.out
            have c2 : (w4.setCell ⟨w1.heap.size, 2, none⟩ (.int .i64 x4)).cell? ⟨w1.heap.size, 2, none⟩ = some (.int .i64 x4) := (cell_of_row _ _ 2 _ _ _ hN.b).trans rfl
            go_wp2_with fail
            clear c2 d1 g1
            generalize (w4.setCell ⟨w1.heap.size, 2, none⟩ (.int .i64 x4)) = w5 at HRc HNc HKc HBc hN HN2' ⊢
            refine (HIH.out n4 p4 l4 v4 _ (by omega) (by omega) hrb.1 HRc.out).mono ?_
            rintro e w6 ⟨rfl, v6, hR6, hK6, hB6⟩
            have hrb2 := rdI_bd s f n4 p4 l4 hrb.1
            have hN6 := HNc.out.keep hK6
            have d1 : w6.cell? ⟨w1.heap.size, 3, none⟩ = some (.int .i64 0) := (cell_of_row _ _ 3 _ _ _ hN6.b).trans rfl
            have g1 : w6.frozen? ⟨w1.heap.size, 3, none⟩ = false := frozen_of_row _ _ 3 _ _ hN6.b
            obtain ⟨r2, hr2⟩ : ∃ r2, r2 = rdI s f n4 p4 l4 := ⟨_, rfl⟩
            rw [← hr2] at hR6 hrb2 HE0 ⊢
            obtain ⟨n6, x6, p6, l6⟩ := r2
            simp only at hR6 hrb2 HE0 ⊢
            clear hr2
            have HE : Hid (rdI s (f + 1) ns p l = putI n6 ⟨kd, 0, x4, x6⟩ p6 l6) := by show _ = _; rw [HE0.out, if_neg (by simp [hi]), if_neg h1, if_neg (by simp [ho]), if_neg (by omega)]
            have HKd : Hid (KeepR gr gb gm v v6 w (w6.setCell ⟨w1.heap.size, 3, none⟩ (.int .i64 x6))) := keep_box (HKc.out.trans hK6) hgn
            have HBd : Hid (Below B w (w6.setCell ⟨w1.heap.size, 3, none⟩ (.int .i64 x6))) := (HBc.out.trans hB6).setCell (show B ≤ w1.heap.size by omega) _
            have HRd : Hid (RdrAt B gr gb gm F s p6 l6 n6.length n6 v6 (w6.setCell ⟨w1.heap.size, 3, none⟩ (.int .i64 x6))) := hR6.box hN6 3 _
            have HNd : Hid (Nb gr gb gm w1.heap.size v6 ⟨kd, 0, x4, x6⟩ (w6.setCell ⟨w1.heap.size, 3, none⟩ (.int .i64 x6))) := ⟨(heap_setCell_same _ _ 3 _ _ _ hN6.b).trans rfl, hN6.ne⟩
            clear hN hR6 hK6 hB6 hN6 HRc HNc HKc HBc HN2' HE0 HIH hi ho h1
            have HRc := HRd
            have HKc := HKd
            have HBc := HBd
            have hN := HNd.out
            clear HRd HKd HBd HNd
            go_wp2_with fail
            clear d1 g1
            generalize (w6.setCell ⟨w1.heap.size, 3, none⟩ (.int .i64 x6)) = wc at HRc HKc HBc hN ⊢
            have hdr : Below wc.heap.size wc wc.drew := (Below.refl _ _).drew
            have HRz : Hid (RdrAt B gr gb gm F s (p6) (l6) n6.length n6 v6 wc.drew) := HRc.out.later hdr
            have HKz : Hid (KeepR gr gb gm v v6 w wc.drew) := HKc.out.trans (KeepR.below hdr)
            have HBz : Hid (Below B w wc.drew) := HBc.out.drew
            have HNz : Hid (Nb gr gb gm w1.heap.size v6 ⟨kd, 0, x4, x6⟩ wc.drew) := hN.keep (KeepR.below hdr)
            have S0 : wc.drew.cell? ⟨gr, 3, none⟩ = some (.pointer (some ⟨gb, 0, none⟩)) := (cell_of_row _ _ 3 _ _ _ HRz.out.1).trans rfl
            have S1 : wc.drew.cell? ⟨w1.heap.size, 0, none⟩ = some (.int .i64 (kd)) := (cell_of_row _ _ 0 _ _ _ HNz.out.b).trans rfl
            have S2 : wc.drew.cell? ⟨w1.heap.size, 1, none⟩ = some (.int .i64 (0)) := (cell_of_row _ _ 1 _ _ _ HNz.out.b).trans rfl
            have S3 : wc.drew.cell? ⟨w1.heap.size, 2, none⟩ = some (.int .i64 (x4)) := (cell_of_row _ _ 2 _ _ _ HNz.out.b).trans rfl
            have S4 : wc.drew.cell? ⟨w1.heap.size, 3, none⟩ = some (.int .i64 (x6)) := (cell_of_row _ _ 3 _ _ _ HNz.out.b).trans rfl
            clear hN hdr HRc HKc HBc
            go_region_held3 (fun w' => w'.cell? ⟨gr, 3, none⟩ = some (.pointer (some ⟨gb, 0, none⟩)) ∧ w'.cell? ⟨w1.heap.size, 0, none⟩ = some (.int .i64 (kd)) ∧ w'.cell? ⟨w1.heap.size, 1, none⟩ = some (.int .i64 (0)) ∧ w'.cell? ⟨w1.heap.size, 2, none⟩ = some (.int .i64 (x4)) ∧ w'.cell? ⟨w1.heap.size, 3, none⟩ = some (.int .i64 (x6))) (first | exact ⟨S0, S1, S2, S3, S4⟩ | assumption | exact ⟨T0, T1, T2, T3, T4⟩) ((go_at_call 152; refine (putI_any B gr gb gm F s (p6) (l6) n6 ⟨kd, 0, x4, x6⟩ v6 _ hrb2.1 ?_ ?_).mono ?_; exact (by unfold Nd.Fits; simp only; omega); exact HRz.out; rintro e w9 ⟨rfl, v9, hr9, hk9, hb9⟩; have hn9 := HNz.out.keep hk9; have T0 : w9.cell? ⟨gr, 3, none⟩ = some (.pointer (some ⟨gb, 0, none⟩)) := (cell_of_row _ _ 3 _ _ _ hr9.1).trans rfl; have T1 : w9.cell? ⟨w1.heap.size, 0, none⟩ = some (.int .i64 (kd)) := (cell_of_row _ _ 0 _ _ _ hn9.b).trans rfl; have T2 : w9.cell? ⟨w1.heap.size, 1, none⟩ = some (.int .i64 (0)) := (cell_of_row _ _ 1 _ _ _ hn9.b).trans rfl; have T3 : w9.cell? ⟨w1.heap.size, 2, none⟩ = some (.int .i64 (x4)) := (cell_of_row _ _ 2 _ _ _ hn9.b).trans rfl; have T4 : w9.cell? ⟨w1.heap.size, 3, none⟩ = some (.int .i64 (x6)) := (cell_of_row _ _ 3 _ _ _ hn9.b).trans rfl))
            have HP : Hid (NtPost s B gr gb gm F v w (rdI s (f + 1) ns p l) (.returned (.int .i64 (putK n6 ⟨kd, 0, x4, x6⟩))) w9) := by rw [HE.out]; exact ⟨rfl, v9, hr9, HKz.out.trans hk9, HBz.out.trans hb9⟩
            clear hr9 hk9 hb9 hn9 S0 S1 S2 S3 S4 T0 T1 T2 T3 T4
            go_wp2
            go_ret
            exact HP.out
end Go.Proofs.Ytffnadnndmmliaa
