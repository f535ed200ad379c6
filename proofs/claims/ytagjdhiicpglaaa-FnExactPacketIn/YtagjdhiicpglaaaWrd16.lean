/- Chapter 16's packets, read by the program: every outcome of its reader. -/
import Derived.Test.YtagjdhiicpglaaaWrd11d
import Derived.Test.YtagjdhiicpglaaaImplW16
import Derived.Deep.RegionHeld3
namespace Go.Proofs.Ytagjdhiicpglaaa
open Go.RowKit
set_option linter.unusedVariables false
theorem pkSize16 : (Try.prog.info? 27).map (·.size) = some 4 := by kernel_rfl
def pkW (s d h v : Int) : Int := wrap64 (wrap64 (wrap64 (s + d) + h) + v)
theorem pkSumW_any (s d h v : Int) (w : World) : Calls Try.prog 24 #[.agg #[.int .i64 s, .int .i64 d, .int .i64 h, .int .i64 v]] w fun e w' => e = .returned (.int .i64 (pkW s d h v)) ∧ Below w.heap.size w w' := by
  have HB : Hid (Below w.heap.size w (w.alloc (.cells #[.int .i64 s, .int .i64 d, .int .i64 h, .int .i64 v] 27))) := (Below.refl _ _).alloc (Nat.le_refl _) _
  unfold pkW
  go_enter Try.func24, Try.ntmps24
  go_wp2
  go_ret
  exact ⟨rfl, HB.out⟩
theorem fin4p {g : Nat} {a : Option Addr} {cap : Nat} {ns : List Nd} {k : Int} {w w5 : World} (hr : Rd g a cap ns k w5) (hg : w.grownBy w5 (some g)) (hlt : g < w.heap.size) (hz : w5.heap[w.heap.size]? = some (.cells #[.int .i64 0, .int .i64 0, .int .i64 0, .int .i64 0] 27 (0, 0))) (v0 v1 v2 v3 : Value) :
    ((((w5.setCell ⟨w.heap.size, 0, none⟩ v0).setCell ⟨w.heap.size, 1, none⟩ v1).setCell ⟨w.heap.size, 2, none⟩ v2).setCell ⟨w.heap.size, 3, none⟩ v3).heap[w.heap.size]? = some (.cells #[v0, v1, v2, v3] 27 (0, 0)) ∧ Rd g a cap ns k ((((w5.setCell ⟨w.heap.size, 0, none⟩ v0).setCell ⟨w.heap.size, 1, none⟩ v1).setCell ⟨w.heap.size, 2, none⟩ v2).setCell ⟨w.heap.size, 3, none⟩ v3) ∧ w.grownBy ((((w5.setCell ⟨w.heap.size, 0, none⟩ v0).setCell ⟨w.heap.size, 1, none⟩ v1).setCell ⟨w.heap.size, 2, none⟩ v2).setCell ⟨w.heap.size, 3, none⟩ v3) (some g) := by
  have a0 := heap_setCell_same w5 w.heap.size 0 _ _ v0 hz
  have a1 := heap_setCell_same (w5.setCell ⟨w.heap.size, 0, none⟩ v0) w.heap.size 1 _ _ v1 a0
  have a2 := heap_setCell_same ((w5.setCell ⟨w.heap.size, 0, none⟩ v0).setCell ⟨w.heap.size, 1, none⟩ v1) w.heap.size 2 _ _ v2 a1
  have a3 := heap_setCell_same (((w5.setCell ⟨w.heap.size, 0, none⟩ v0).setCell ⟨w.heap.size, 1, none⟩ v1).setCell ⟨w.heap.size, 2, none⟩ v2) w.heap.size 3 _ _ v3 a2
  have hk : ∀ k, k ≠ w.heap.size → ((((w5.setCell ⟨w.heap.size, 0, none⟩ v0).setCell ⟨w.heap.size, 1, none⟩ v1).setCell ⟨w.heap.size, 2, none⟩ v2).setCell ⟨w.heap.size, 3, none⟩ v3).heap[k]? = w5.heap[k]? := fun k hk => (Below.heap_setCell _ _ _ _ hk).trans ((Below.heap_setCell _ _ _ _ hk).trans ((Below.heap_setCell _ _ _ _ hk).trans (Below.heap_setCell _ _ _ _ hk)))
  have hB : Below w.heap.size w5 ((((w5.setCell ⟨w.heap.size, 0, none⟩ v0).setCell ⟨w.heap.size, 1, none⟩ v1).setCell ⟨w.heap.size, 2, none⟩ v2).setCell ⟨w.heap.size, 3, none⟩ v3) := ((((Below.refl _ w5).setCell (show w.heap.size ≤ (⟨w.heap.size, 0, none⟩ : Addr).block from Nat.le_refl _) _).setCell (show w.heap.size ≤ (⟨w.heap.size, 1, none⟩ : Addr).block from Nat.le_refl _) _).setCell (show w.heap.size ≤ (⟨w.heap.size, 2, none⟩ : Addr).block from Nat.le_refl _) _).setCell (show w.heap.size ≤ (⟨w.heap.size, 3, none⟩ : Addr).block from Nat.le_refl _) _
  refine ⟨a3.trans rfl, ⟨(hk g (by omega)).trans hr.1, hr.2.later (hB.mono (by omega))⟩, hB.os.trans hg.os, hB.tape.trans hg.tape, hB.output.trans hg.output, Nat.le_trans hg.size (by simp), fun k hk1 hk2 => (hk k (by omega)).trans (hg.block k hk1 hk2)⟩
set_option maxHeartbeats 1600000 in
set_option maxRecDepth 20000 in
theorem pk_f0 (g : Nat) (a : Option Addr) (cap : Nat) (ns : List Nd) (k : Int) (k1 k2 k3 k4 k5 k6 v0 v1 v2 v3 v4 v5 : Int) (w : World) (hs : Rd g a cap ns k w)
    (H0 : ∀ wz, Rd g a cap ns k wz → Calls Try.prog 23 #[.pointer (some ⟨g, 0, none⟩)] wz (RdN g wz)) :
    Calls Try.prog 16 #[.pointer (some ⟨g, 0, none⟩)] w (RdN g w) := by
  have hb0 : Below w.heap.size w (w.alloc (.cells #[.int .i64 0, .int .i64 0, .int .i64 0, .int .i64 0] 27)) := (Below.refl _ _).alloc (Nat.le_refl _) _
  have hlt := hs.lt
  have HS0 : Hid (Rd g a cap ns k (w.alloc (.cells #[.int .i64 0, .int .i64 0, .int .i64 0, .int .i64 0] 27)) ∧ w.grownBy (w.alloc (.cells #[.int .i64 0, .int .i64 0, .int .i64 0, .int .i64 0] 27)) (some g) ∧ (w.alloc (.cells #[.int .i64 0, .int .i64 0, .int .i64 0, .int .i64 0] 27)).heap[w.heap.size]? = some (.cells #[.int .i64 0, .int .i64 0, .int .i64 0, .int .i64 0] 27 (0, 0))) := ⟨hs.below hb0, grw_below hb0, heap_alloc_new w _⟩
  have IH0 : Hid (∀ wz, Rd g a cap ns k wz → Calls Try.prog 23 #[.pointer (some ⟨g, 0, none⟩)] wz (RdN g wz)) := H0
  clear H0
  clear hs hb0
  go_enter Try.func16, Try.ntmps16
  go_wp2_with fail
  generalize w.alloc (.cells #[.int .i64 0, .int .i64 0, .int .i64 0, .int .i64 0] 27) = w0 at HS0 ⊢
  refine Calls.mono (IH0.out _ HS0.out.1) ?_
  rintro e w1 ⟨rfl, hg⟩
  have HE : Hid (w.grownBy w1 (some g)) := grw_more HS0.out.2.1 hg
  clear hg HS0
  go_wp2
  exact ⟨rfl, rfl, HE.out⟩
set_option maxHeartbeats 1600000 in
set_option maxRecDepth 20000 in
theorem pk_f1 (g : Nat) (a : Option Addr) (cap : Nat) (ns : List Nd) (k : Int) (k1 k2 k3 k4 k5 k6 v0 v1 v2 v3 v4 v5 : Int) (w : World) (hs : Rd g a cap ns k w)
    (H0 : ∀ wz, Rd g a cap ns k wz → Calls Try.prog 23 #[.pointer (some ⟨g, 0, none⟩)] wz (RdP g a cap ns (.int .i64 v0) k1 wz))
    (he : (v0 == 90) = false) :
    Calls Try.prog 16 #[.pointer (some ⟨g, 0, none⟩)] w (RdN g w) := by
  have hb0 : Below w.heap.size w (w.alloc (.cells #[.int .i64 0, .int .i64 0, .int .i64 0, .int .i64 0] 27)) := (Below.refl _ _).alloc (Nat.le_refl _) _
  have hlt := hs.lt
  have HS0 : Hid (Rd g a cap ns k (w.alloc (.cells #[.int .i64 0, .int .i64 0, .int .i64 0, .int .i64 0] 27)) ∧ w.grownBy (w.alloc (.cells #[.int .i64 0, .int .i64 0, .int .i64 0, .int .i64 0] 27)) (some g) ∧ (w.alloc (.cells #[.int .i64 0, .int .i64 0, .int .i64 0, .int .i64 0] 27)).heap[w.heap.size]? = some (.cells #[.int .i64 0, .int .i64 0, .int .i64 0, .int .i64 0] 27 (0, 0))) := ⟨hs.below hb0, grw_below hb0, heap_alloc_new w _⟩
  have IH0 : Hid (∀ wz, Rd g a cap ns k wz → Calls Try.prog 23 #[.pointer (some ⟨g, 0, none⟩)] wz (RdP g a cap ns (.int .i64 v0) k1 wz)) := H0
  clear H0
  clear hs hb0
  go_enter Try.func16, Try.ntmps16
  go_wp2_with fail
  generalize w.alloc (.cells #[.int .i64 0, .int .i64 0, .int .i64 0, .int .i64 0] 27) = w0 at HS0 ⊢
  refine Calls.mono (IH0.out _ HS0.out.1) ?_
  rintro e w1 ⟨rfl, hr, hg⟩
  have HS1 : Hid (Rd g a cap ns _ w1 ∧ w.grownBy w1 (some g) ∧ w1.heap[w.heap.size]? = some (.cells #[.int .i64 0, .int .i64 0, .int .i64 0, .int .i64 0] 27 (0, 0))) := ⟨hr, grw_more HS0.out.2.1 hg, (hg.block _ (Array.getElem?_eq_some_iff.1 HS0.out.2.2).1 (by simp; omega)).trans HS0.out.2.2⟩
  clear hr hg HS0
  go_wp2_with fail
  refine (want_no _ _).mono ?_
  rintro e wq ⟨rfl, rfl⟩
  go_wp2
  exact ⟨rfl, rfl, HS1.out.2.1⟩
set_option maxHeartbeats 1600000 in
set_option maxRecDepth 20000 in
theorem pk_f2 (g : Nat) (a : Option Addr) (cap : Nat) (ns : List Nd) (k : Int) (k1 k2 k3 k4 k5 k6 v0 v1 v2 v3 v4 v5 : Int) (w : World) (hs : Rd g a cap ns k w)
    (H0 : ∀ wz, Rd g a cap ns k wz → Calls Try.prog 23 #[.pointer (some ⟨g, 0, none⟩)] wz (RdP g a cap ns (.int .i64 v0) k1 wz))
    (he : (v0 == 90) = true)
    (H1 : ∀ wz, Rd g a cap ns k1 wz → Calls Try.prog 23 #[.pointer (some ⟨g, 0, none⟩)] wz (RdN g wz)) :
    Calls Try.prog 16 #[.pointer (some ⟨g, 0, none⟩)] w (RdN g w) := by
  have hb0 : Below w.heap.size w (w.alloc (.cells #[.int .i64 0, .int .i64 0, .int .i64 0, .int .i64 0] 27)) := (Below.refl _ _).alloc (Nat.le_refl _) _
  have hlt := hs.lt
  have HS0 : Hid (Rd g a cap ns k (w.alloc (.cells #[.int .i64 0, .int .i64 0, .int .i64 0, .int .i64 0] 27)) ∧ w.grownBy (w.alloc (.cells #[.int .i64 0, .int .i64 0, .int .i64 0, .int .i64 0] 27)) (some g) ∧ (w.alloc (.cells #[.int .i64 0, .int .i64 0, .int .i64 0, .int .i64 0] 27)).heap[w.heap.size]? = some (.cells #[.int .i64 0, .int .i64 0, .int .i64 0, .int .i64 0] 27 (0, 0))) := ⟨hs.below hb0, grw_below hb0, heap_alloc_new w _⟩
  have IH0 : Hid (∀ wz, Rd g a cap ns k wz → Calls Try.prog 23 #[.pointer (some ⟨g, 0, none⟩)] wz (RdP g a cap ns (.int .i64 v0) k1 wz)) := H0
  clear H0
  have IH1 : Hid (∀ wz, Rd g a cap ns k1 wz → Calls Try.prog 23 #[.pointer (some ⟨g, 0, none⟩)] wz (RdN g wz)) := H1
  clear H1
  clear hs hb0
  go_enter Try.func16, Try.ntmps16
  go_wp2_with fail
  generalize w.alloc (.cells #[.int .i64 0, .int .i64 0, .int .i64 0, .int .i64 0] 27) = w0 at HS0 ⊢
  refine Calls.mono (IH0.out _ HS0.out.1) ?_
  rintro e w1 ⟨rfl, hr, hg⟩
  have HS1 : Hid (Rd g a cap ns _ w1 ∧ w.grownBy w1 (some g) ∧ w1.heap[w.heap.size]? = some (.cells #[.int .i64 0, .int .i64 0, .int .i64 0, .int .i64 0] 27 (0, 0))) := ⟨hr, grw_more HS0.out.2.1 hg, (hg.block _ (Array.getElem?_eq_some_iff.1 HS0.out.2.2).1 (by simp; omega)).trans HS0.out.2.2⟩
  clear hr hg HS0
  go_wp2_with fail
  refine (want_yes _ _).mono ?_
  rintro e wq ⟨rfl, rfl⟩
  go_wp2_with fail
  refine Calls.mono (IH1.out _ HS1.out.1) ?_
  rintro e w2 ⟨rfl, hg⟩
  have HE : Hid (w.grownBy w2 (some g)) := grw_more HS1.out.2.1 hg
  clear hg HS1
  go_wp2
  exact ⟨rfl, rfl, HE.out⟩
set_option maxHeartbeats 1600000 in
set_option maxRecDepth 20000 in
theorem pk_f3 (g : Nat) (a : Option Addr) (cap : Nat) (ns : List Nd) (k : Int) (k1 k2 k3 k4 k5 k6 v0 v1 v2 v3 v4 v5 : Int) (w : World) (hs : Rd g a cap ns k w)
    (H0 : ∀ wz, Rd g a cap ns k wz → Calls Try.prog 23 #[.pointer (some ⟨g, 0, none⟩)] wz (RdP g a cap ns (.int .i64 v0) k1 wz))
    (he : (v0 == 90) = true)
    (H1 : ∀ wz, Rd g a cap ns k1 wz → Calls Try.prog 23 #[.pointer (some ⟨g, 0, none⟩)] wz (RdP g a cap ns (.int .i64 v1) k2 wz))
    (H2 : ∀ wz, Rd g a cap ns k2 wz → Calls Try.prog 23 #[.pointer (some ⟨g, 0, none⟩)] wz (RdN g wz)) :
    Calls Try.prog 16 #[.pointer (some ⟨g, 0, none⟩)] w (RdN g w) := by
  have hb0 : Below w.heap.size w (w.alloc (.cells #[.int .i64 0, .int .i64 0, .int .i64 0, .int .i64 0] 27)) := (Below.refl _ _).alloc (Nat.le_refl _) _
  have hlt := hs.lt
  have HS0 : Hid (Rd g a cap ns k (w.alloc (.cells #[.int .i64 0, .int .i64 0, .int .i64 0, .int .i64 0] 27)) ∧ w.grownBy (w.alloc (.cells #[.int .i64 0, .int .i64 0, .int .i64 0, .int .i64 0] 27)) (some g) ∧ (w.alloc (.cells #[.int .i64 0, .int .i64 0, .int .i64 0, .int .i64 0] 27)).heap[w.heap.size]? = some (.cells #[.int .i64 0, .int .i64 0, .int .i64 0, .int .i64 0] 27 (0, 0))) := ⟨hs.below hb0, grw_below hb0, heap_alloc_new w _⟩
  have IH0 : Hid (∀ wz, Rd g a cap ns k wz → Calls Try.prog 23 #[.pointer (some ⟨g, 0, none⟩)] wz (RdP g a cap ns (.int .i64 v0) k1 wz)) := H0
  clear H0
  have IH1 : Hid (∀ wz, Rd g a cap ns k1 wz → Calls Try.prog 23 #[.pointer (some ⟨g, 0, none⟩)] wz (RdP g a cap ns (.int .i64 v1) k2 wz)) := H1
  clear H1
  have IH2 : Hid (∀ wz, Rd g a cap ns k2 wz → Calls Try.prog 23 #[.pointer (some ⟨g, 0, none⟩)] wz (RdN g wz)) := H2
  clear H2
  clear hs hb0
  go_enter Try.func16, Try.ntmps16
  go_wp2_with fail
  generalize w.alloc (.cells #[.int .i64 0, .int .i64 0, .int .i64 0, .int .i64 0] 27) = w0 at HS0 ⊢
  refine Calls.mono (IH0.out _ HS0.out.1) ?_
  rintro e w1 ⟨rfl, hr, hg⟩
  have HS1 : Hid (Rd g a cap ns _ w1 ∧ w.grownBy w1 (some g) ∧ w1.heap[w.heap.size]? = some (.cells #[.int .i64 0, .int .i64 0, .int .i64 0, .int .i64 0] 27 (0, 0))) := ⟨hr, grw_more HS0.out.2.1 hg, (hg.block _ (Array.getElem?_eq_some_iff.1 HS0.out.2.2).1 (by simp; omega)).trans HS0.out.2.2⟩
  clear hr hg HS0
  go_wp2_with fail
  refine (want_yes _ _).mono ?_
  rintro e wq ⟨rfl, rfl⟩
  go_wp2_with fail
  refine Calls.mono (IH1.out _ HS1.out.1) ?_
  rintro e w2 ⟨rfl, hr, hg⟩
  have HS2 : Hid (Rd g a cap ns _ w2 ∧ w.grownBy w2 (some g) ∧ w2.heap[w.heap.size]? = some (.cells #[.int .i64 0, .int .i64 0, .int .i64 0, .int .i64 0] 27 (0, 0))) := ⟨hr, grw_more HS1.out.2.1 hg, (hg.block _ (Array.getElem?_eq_some_iff.1 HS1.out.2.2).1 (by simp; omega)).trans HS1.out.2.2⟩
  clear hr hg HS1
  go_wp2_with fail
  refine Calls.mono (IH2.out _ HS2.out.1) ?_
  rintro e w3 ⟨rfl, hg⟩
  have HE : Hid (w.grownBy w3 (some g)) := grw_more HS2.out.2.1 hg
  clear hg HS2
  go_wp2
  exact ⟨rfl, rfl, HE.out⟩
set_option maxHeartbeats 1600000 in
set_option maxRecDepth 20000 in
theorem pk_f4 (g : Nat) (a : Option Addr) (cap : Nat) (ns : List Nd) (k : Int) (k1 k2 k3 k4 k5 k6 v0 v1 v2 v3 v4 v5 : Int) (w : World) (hs : Rd g a cap ns k w)
    (H0 : ∀ wz, Rd g a cap ns k wz → Calls Try.prog 23 #[.pointer (some ⟨g, 0, none⟩)] wz (RdP g a cap ns (.int .i64 v0) k1 wz))
    (he : (v0 == 90) = true)
    (H1 : ∀ wz, Rd g a cap ns k1 wz → Calls Try.prog 23 #[.pointer (some ⟨g, 0, none⟩)] wz (RdP g a cap ns (.int .i64 v1) k2 wz))
    (H2 : ∀ wz, Rd g a cap ns k2 wz → Calls Try.prog 23 #[.pointer (some ⟨g, 0, none⟩)] wz (RdP g a cap ns (.int .i64 v2) k3 wz))
    (H3 : ∀ wz, Rd g a cap ns k3 wz → Calls Try.prog 23 #[.pointer (some ⟨g, 0, none⟩)] wz (RdN g wz)) :
    Calls Try.prog 16 #[.pointer (some ⟨g, 0, none⟩)] w (RdN g w) := by
  have hb0 : Below w.heap.size w (w.alloc (.cells #[.int .i64 0, .int .i64 0, .int .i64 0, .int .i64 0] 27)) := (Below.refl _ _).alloc (Nat.le_refl _) _
  have hlt := hs.lt
  have HS0 : Hid (Rd g a cap ns k (w.alloc (.cells #[.int .i64 0, .int .i64 0, .int .i64 0, .int .i64 0] 27)) ∧ w.grownBy (w.alloc (.cells #[.int .i64 0, .int .i64 0, .int .i64 0, .int .i64 0] 27)) (some g) ∧ (w.alloc (.cells #[.int .i64 0, .int .i64 0, .int .i64 0, .int .i64 0] 27)).heap[w.heap.size]? = some (.cells #[.int .i64 0, .int .i64 0, .int .i64 0, .int .i64 0] 27 (0, 0))) := ⟨hs.below hb0, grw_below hb0, heap_alloc_new w _⟩
  have IH0 : Hid (∀ wz, Rd g a cap ns k wz → Calls Try.prog 23 #[.pointer (some ⟨g, 0, none⟩)] wz (RdP g a cap ns (.int .i64 v0) k1 wz)) := H0
  clear H0
  have IH1 : Hid (∀ wz, Rd g a cap ns k1 wz → Calls Try.prog 23 #[.pointer (some ⟨g, 0, none⟩)] wz (RdP g a cap ns (.int .i64 v1) k2 wz)) := H1
  clear H1
  have IH2 : Hid (∀ wz, Rd g a cap ns k2 wz → Calls Try.prog 23 #[.pointer (some ⟨g, 0, none⟩)] wz (RdP g a cap ns (.int .i64 v2) k3 wz)) := H2
  clear H2
  have IH3 : Hid (∀ wz, Rd g a cap ns k3 wz → Calls Try.prog 23 #[.pointer (some ⟨g, 0, none⟩)] wz (RdN g wz)) := H3
  clear H3
  clear hs hb0
  go_enter Try.func16, Try.ntmps16
  go_wp2_with fail
  generalize w.alloc (.cells #[.int .i64 0, .int .i64 0, .int .i64 0, .int .i64 0] 27) = w0 at HS0 ⊢
  refine Calls.mono (IH0.out _ HS0.out.1) ?_
  rintro e w1 ⟨rfl, hr, hg⟩
  have HS1 : Hid (Rd g a cap ns _ w1 ∧ w.grownBy w1 (some g) ∧ w1.heap[w.heap.size]? = some (.cells #[.int .i64 0, .int .i64 0, .int .i64 0, .int .i64 0] 27 (0, 0))) := ⟨hr, grw_more HS0.out.2.1 hg, (hg.block _ (Array.getElem?_eq_some_iff.1 HS0.out.2.2).1 (by simp; omega)).trans HS0.out.2.2⟩
  clear hr hg HS0
  go_wp2_with fail
  refine (want_yes _ _).mono ?_
  rintro e wq ⟨rfl, rfl⟩
  go_wp2_with fail
  refine Calls.mono (IH1.out _ HS1.out.1) ?_
  rintro e w2 ⟨rfl, hr, hg⟩
  have HS2 : Hid (Rd g a cap ns _ w2 ∧ w.grownBy w2 (some g) ∧ w2.heap[w.heap.size]? = some (.cells #[.int .i64 0, .int .i64 0, .int .i64 0, .int .i64 0] 27 (0, 0))) := ⟨hr, grw_more HS1.out.2.1 hg, (hg.block _ (Array.getElem?_eq_some_iff.1 HS1.out.2.2).1 (by simp; omega)).trans HS1.out.2.2⟩
  clear hr hg HS1
  go_wp2_with fail
  refine Calls.mono (IH2.out _ HS2.out.1) ?_
  rintro e w3 ⟨rfl, hr, hg⟩
  have HS3 : Hid (Rd g a cap ns _ w3 ∧ w.grownBy w3 (some g) ∧ w3.heap[w.heap.size]? = some (.cells #[.int .i64 0, .int .i64 0, .int .i64 0, .int .i64 0] 27 (0, 0))) := ⟨hr, grw_more HS2.out.2.1 hg, (hg.block _ (Array.getElem?_eq_some_iff.1 HS2.out.2.2).1 (by simp; omega)).trans HS2.out.2.2⟩
  clear hr hg HS2
  go_wp2_with fail
  refine Calls.mono (IH3.out _ HS3.out.1) ?_
  rintro e w4 ⟨rfl, hg⟩
  have HE : Hid (w.grownBy w4 (some g)) := grw_more HS3.out.2.1 hg
  clear hg HS3
  go_wp2
  exact ⟨rfl, rfl, HE.out⟩
set_option maxHeartbeats 1600000 in
set_option maxRecDepth 20000 in
theorem pk_f5 (g : Nat) (a : Option Addr) (cap : Nat) (ns : List Nd) (k : Int) (k1 k2 k3 k4 k5 k6 v0 v1 v2 v3 v4 v5 : Int) (w : World) (hs : Rd g a cap ns k w)
    (H0 : ∀ wz, Rd g a cap ns k wz → Calls Try.prog 23 #[.pointer (some ⟨g, 0, none⟩)] wz (RdP g a cap ns (.int .i64 v0) k1 wz))
    (he : (v0 == 90) = true)
    (H1 : ∀ wz, Rd g a cap ns k1 wz → Calls Try.prog 23 #[.pointer (some ⟨g, 0, none⟩)] wz (RdP g a cap ns (.int .i64 v1) k2 wz))
    (H2 : ∀ wz, Rd g a cap ns k2 wz → Calls Try.prog 23 #[.pointer (some ⟨g, 0, none⟩)] wz (RdP g a cap ns (.int .i64 v2) k3 wz))
    (H3 : ∀ wz, Rd g a cap ns k3 wz → Calls Try.prog 23 #[.pointer (some ⟨g, 0, none⟩)] wz (RdP g a cap ns (.int .i64 v3) k4 wz))
    (H4 : ∀ wz, Rd g a cap ns k4 wz → Calls Try.prog 23 #[.pointer (some ⟨g, 0, none⟩)] wz (RdN g wz)) :
    Calls Try.prog 16 #[.pointer (some ⟨g, 0, none⟩)] w (RdN g w) := by
  have hb0 : Below w.heap.size w (w.alloc (.cells #[.int .i64 0, .int .i64 0, .int .i64 0, .int .i64 0] 27)) := (Below.refl _ _).alloc (Nat.le_refl _) _
  have hlt := hs.lt
  have HS0 : Hid (Rd g a cap ns k (w.alloc (.cells #[.int .i64 0, .int .i64 0, .int .i64 0, .int .i64 0] 27)) ∧ w.grownBy (w.alloc (.cells #[.int .i64 0, .int .i64 0, .int .i64 0, .int .i64 0] 27)) (some g) ∧ (w.alloc (.cells #[.int .i64 0, .int .i64 0, .int .i64 0, .int .i64 0] 27)).heap[w.heap.size]? = some (.cells #[.int .i64 0, .int .i64 0, .int .i64 0, .int .i64 0] 27 (0, 0))) := ⟨hs.below hb0, grw_below hb0, heap_alloc_new w _⟩
  have IH0 : Hid (∀ wz, Rd g a cap ns k wz → Calls Try.prog 23 #[.pointer (some ⟨g, 0, none⟩)] wz (RdP g a cap ns (.int .i64 v0) k1 wz)) := H0
  clear H0
  have IH1 : Hid (∀ wz, Rd g a cap ns k1 wz → Calls Try.prog 23 #[.pointer (some ⟨g, 0, none⟩)] wz (RdP g a cap ns (.int .i64 v1) k2 wz)) := H1
  clear H1
  have IH2 : Hid (∀ wz, Rd g a cap ns k2 wz → Calls Try.prog 23 #[.pointer (some ⟨g, 0, none⟩)] wz (RdP g a cap ns (.int .i64 v2) k3 wz)) := H2
  clear H2
  have IH3 : Hid (∀ wz, Rd g a cap ns k3 wz → Calls Try.prog 23 #[.pointer (some ⟨g, 0, none⟩)] wz (RdP g a cap ns (.int .i64 v3) k4 wz)) := H3
  clear H3
  have IH4 : Hid (∀ wz, Rd g a cap ns k4 wz → Calls Try.prog 23 #[.pointer (some ⟨g, 0, none⟩)] wz (RdN g wz)) := H4
  clear H4
  clear hs hb0
  go_enter Try.func16, Try.ntmps16
  go_wp2_with fail
  generalize w.alloc (.cells #[.int .i64 0, .int .i64 0, .int .i64 0, .int .i64 0] 27) = w0 at HS0 ⊢
  refine Calls.mono (IH0.out _ HS0.out.1) ?_
  rintro e w1 ⟨rfl, hr, hg⟩
  have HS1 : Hid (Rd g a cap ns _ w1 ∧ w.grownBy w1 (some g) ∧ w1.heap[w.heap.size]? = some (.cells #[.int .i64 0, .int .i64 0, .int .i64 0, .int .i64 0] 27 (0, 0))) := ⟨hr, grw_more HS0.out.2.1 hg, (hg.block _ (Array.getElem?_eq_some_iff.1 HS0.out.2.2).1 (by simp; omega)).trans HS0.out.2.2⟩
  clear hr hg HS0
  go_wp2_with fail
  refine (want_yes _ _).mono ?_
  rintro e wq ⟨rfl, rfl⟩
  go_wp2_with fail
  refine Calls.mono (IH1.out _ HS1.out.1) ?_
  rintro e w2 ⟨rfl, hr, hg⟩
  have HS2 : Hid (Rd g a cap ns _ w2 ∧ w.grownBy w2 (some g) ∧ w2.heap[w.heap.size]? = some (.cells #[.int .i64 0, .int .i64 0, .int .i64 0, .int .i64 0] 27 (0, 0))) := ⟨hr, grw_more HS1.out.2.1 hg, (hg.block _ (Array.getElem?_eq_some_iff.1 HS1.out.2.2).1 (by simp; omega)).trans HS1.out.2.2⟩
  clear hr hg HS1
  go_wp2_with fail
  refine Calls.mono (IH2.out _ HS2.out.1) ?_
  rintro e w3 ⟨rfl, hr, hg⟩
  have HS3 : Hid (Rd g a cap ns _ w3 ∧ w.grownBy w3 (some g) ∧ w3.heap[w.heap.size]? = some (.cells #[.int .i64 0, .int .i64 0, .int .i64 0, .int .i64 0] 27 (0, 0))) := ⟨hr, grw_more HS2.out.2.1 hg, (hg.block _ (Array.getElem?_eq_some_iff.1 HS2.out.2.2).1 (by simp; omega)).trans HS2.out.2.2⟩
  clear hr hg HS2
  go_wp2_with fail
  refine Calls.mono (IH3.out _ HS3.out.1) ?_
  rintro e w4 ⟨rfl, hr, hg⟩
  have HS4 : Hid (Rd g a cap ns _ w4 ∧ w.grownBy w4 (some g) ∧ w4.heap[w.heap.size]? = some (.cells #[.int .i64 0, .int .i64 0, .int .i64 0, .int .i64 0] 27 (0, 0))) := ⟨hr, grw_more HS3.out.2.1 hg, (hg.block _ (Array.getElem?_eq_some_iff.1 HS3.out.2.2).1 (by simp; omega)).trans HS3.out.2.2⟩
  clear hr hg HS3
  go_wp2_with fail
  refine Calls.mono (IH4.out _ HS4.out.1) ?_
  rintro e w5 ⟨rfl, hg⟩
  have HE : Hid (w.grownBy w5 (some g)) := grw_more HS4.out.2.1 hg
  clear hg HS4
  go_wp2
  exact ⟨rfl, rfl, HE.out⟩
set_option maxHeartbeats 1600000 in
set_option maxRecDepth 20000 in
theorem pk_f6 (g : Nat) (a : Option Addr) (cap : Nat) (ns : List Nd) (k : Int) (k1 k2 k3 k4 k5 k6 v0 v1 v2 v3 v4 v5 : Int) (w : World) (hs : Rd g a cap ns k w)
    (H0 : ∀ wz, Rd g a cap ns k wz → Calls Try.prog 23 #[.pointer (some ⟨g, 0, none⟩)] wz (RdP g a cap ns (.int .i64 v0) k1 wz))
    (he : (v0 == 90) = true)
    (H1 : ∀ wz, Rd g a cap ns k1 wz → Calls Try.prog 23 #[.pointer (some ⟨g, 0, none⟩)] wz (RdP g a cap ns (.int .i64 v1) k2 wz))
    (H2 : ∀ wz, Rd g a cap ns k2 wz → Calls Try.prog 23 #[.pointer (some ⟨g, 0, none⟩)] wz (RdP g a cap ns (.int .i64 v2) k3 wz))
    (H3 : ∀ wz, Rd g a cap ns k3 wz → Calls Try.prog 23 #[.pointer (some ⟨g, 0, none⟩)] wz (RdP g a cap ns (.int .i64 v3) k4 wz))
    (H4 : ∀ wz, Rd g a cap ns k4 wz → Calls Try.prog 23 #[.pointer (some ⟨g, 0, none⟩)] wz (RdP g a cap ns (.int .i64 v4) k5 wz))
    (H5 : ∀ wz, Rd g a cap ns k5 wz → Calls Try.prog 23 #[.pointer (some ⟨g, 0, none⟩)] wz (RdN g wz)) :
    Calls Try.prog 16 #[.pointer (some ⟨g, 0, none⟩)] w (RdN g w) := by
  have hb0 : Below w.heap.size w (w.alloc (.cells #[.int .i64 0, .int .i64 0, .int .i64 0, .int .i64 0] 27)) := (Below.refl _ _).alloc (Nat.le_refl _) _
  have hlt := hs.lt
  have HS0 : Hid (Rd g a cap ns k (w.alloc (.cells #[.int .i64 0, .int .i64 0, .int .i64 0, .int .i64 0] 27)) ∧ w.grownBy (w.alloc (.cells #[.int .i64 0, .int .i64 0, .int .i64 0, .int .i64 0] 27)) (some g) ∧ (w.alloc (.cells #[.int .i64 0, .int .i64 0, .int .i64 0, .int .i64 0] 27)).heap[w.heap.size]? = some (.cells #[.int .i64 0, .int .i64 0, .int .i64 0, .int .i64 0] 27 (0, 0))) := ⟨hs.below hb0, grw_below hb0, heap_alloc_new w _⟩
  have IH0 : Hid (∀ wz, Rd g a cap ns k wz → Calls Try.prog 23 #[.pointer (some ⟨g, 0, none⟩)] wz (RdP g a cap ns (.int .i64 v0) k1 wz)) := H0
  clear H0
  have IH1 : Hid (∀ wz, Rd g a cap ns k1 wz → Calls Try.prog 23 #[.pointer (some ⟨g, 0, none⟩)] wz (RdP g a cap ns (.int .i64 v1) k2 wz)) := H1
  clear H1
  have IH2 : Hid (∀ wz, Rd g a cap ns k2 wz → Calls Try.prog 23 #[.pointer (some ⟨g, 0, none⟩)] wz (RdP g a cap ns (.int .i64 v2) k3 wz)) := H2
  clear H2
  have IH3 : Hid (∀ wz, Rd g a cap ns k3 wz → Calls Try.prog 23 #[.pointer (some ⟨g, 0, none⟩)] wz (RdP g a cap ns (.int .i64 v3) k4 wz)) := H3
  clear H3
  have IH4 : Hid (∀ wz, Rd g a cap ns k4 wz → Calls Try.prog 23 #[.pointer (some ⟨g, 0, none⟩)] wz (RdP g a cap ns (.int .i64 v4) k5 wz)) := H4
  clear H4
  have IH5 : Hid (∀ wz, Rd g a cap ns k5 wz → Calls Try.prog 23 #[.pointer (some ⟨g, 0, none⟩)] wz (RdN g wz)) := H5
  clear H5
  clear hs hb0
  go_enter Try.func16, Try.ntmps16
  go_wp2_with fail
  generalize w.alloc (.cells #[.int .i64 0, .int .i64 0, .int .i64 0, .int .i64 0] 27) = w0 at HS0 ⊢
  refine Calls.mono (IH0.out _ HS0.out.1) ?_
  rintro e w1 ⟨rfl, hr, hg⟩
  have HS1 : Hid (Rd g a cap ns _ w1 ∧ w.grownBy w1 (some g) ∧ w1.heap[w.heap.size]? = some (.cells #[.int .i64 0, .int .i64 0, .int .i64 0, .int .i64 0] 27 (0, 0))) := ⟨hr, grw_more HS0.out.2.1 hg, (hg.block _ (Array.getElem?_eq_some_iff.1 HS0.out.2.2).1 (by simp; omega)).trans HS0.out.2.2⟩
  clear hr hg HS0
  go_wp2_with fail
  refine (want_yes _ _).mono ?_
  rintro e wq ⟨rfl, rfl⟩
  go_wp2_with fail
  refine Calls.mono (IH1.out _ HS1.out.1) ?_
  rintro e w2 ⟨rfl, hr, hg⟩
  have HS2 : Hid (Rd g a cap ns _ w2 ∧ w.grownBy w2 (some g) ∧ w2.heap[w.heap.size]? = some (.cells #[.int .i64 0, .int .i64 0, .int .i64 0, .int .i64 0] 27 (0, 0))) := ⟨hr, grw_more HS1.out.2.1 hg, (hg.block _ (Array.getElem?_eq_some_iff.1 HS1.out.2.2).1 (by simp; omega)).trans HS1.out.2.2⟩
  clear hr hg HS1
  go_wp2_with fail
  refine Calls.mono (IH2.out _ HS2.out.1) ?_
  rintro e w3 ⟨rfl, hr, hg⟩
  have HS3 : Hid (Rd g a cap ns _ w3 ∧ w.grownBy w3 (some g) ∧ w3.heap[w.heap.size]? = some (.cells #[.int .i64 0, .int .i64 0, .int .i64 0, .int .i64 0] 27 (0, 0))) := ⟨hr, grw_more HS2.out.2.1 hg, (hg.block _ (Array.getElem?_eq_some_iff.1 HS2.out.2.2).1 (by simp; omega)).trans HS2.out.2.2⟩
  clear hr hg HS2
  go_wp2_with fail
  refine Calls.mono (IH3.out _ HS3.out.1) ?_
  rintro e w4 ⟨rfl, hr, hg⟩
  have HS4 : Hid (Rd g a cap ns _ w4 ∧ w.grownBy w4 (some g) ∧ w4.heap[w.heap.size]? = some (.cells #[.int .i64 0, .int .i64 0, .int .i64 0, .int .i64 0] 27 (0, 0))) := ⟨hr, grw_more HS3.out.2.1 hg, (hg.block _ (Array.getElem?_eq_some_iff.1 HS3.out.2.2).1 (by simp; omega)).trans HS3.out.2.2⟩
  clear hr hg HS3
  go_wp2_with fail
  refine Calls.mono (IH4.out _ HS4.out.1) ?_
  rintro e w5 ⟨rfl, hr, hg⟩
  have HS5 : Hid (Rd g a cap ns _ w5 ∧ w.grownBy w5 (some g) ∧ w5.heap[w.heap.size]? = some (.cells #[.int .i64 0, .int .i64 0, .int .i64 0, .int .i64 0] 27 (0, 0))) := ⟨hr, grw_more HS4.out.2.1 hg, (hg.block _ (Array.getElem?_eq_some_iff.1 HS4.out.2.2).1 (by simp; omega)).trans HS4.out.2.2⟩
  clear hr hg HS4
  have hs5 : w.heap.size < w5.heap.size := (Array.getElem?_eq_some_iff.1 HS5.out.2.2).1
  have hb5 : Below w5.heap.size w5 (w5.alloc (.cells #[.int .i64 v1, .int .i64 v2, .int .i64 v3, .int .i64 v4] 27)) := (Below.refl _ _).alloc (Nat.le_refl _) _
  have HS6 : Hid (Rd g a cap ns k5 (w5.alloc (.cells #[.int .i64 v1, .int .i64 v2, .int .i64 v3, .int .i64 v4] 27)) ∧ w.grownBy (w5.alloc (.cells #[.int .i64 v1, .int .i64 v2, .int .i64 v3, .int .i64 v4] 27)) (some g) ∧ (w5.alloc (.cells #[.int .i64 v1, .int .i64 v2, .int .i64 v3, .int .i64 v4] 27)).heap[w.heap.size]? = some (.cells #[.int .i64 0, .int .i64 0, .int .i64 0, .int .i64 0] 27 (0, 0)) ∧ (w5.alloc (.cells #[.int .i64 v1, .int .i64 v2, .int .i64 v3, .int .i64 v4] 27)).heap[w5.heap.size]? = some (.cells #[.int .i64 v1, .int .i64 v2, .int .i64 v3, .int .i64 v4] 27 (0, 0))) := ⟨HS5.out.1.below hb5, grw_more HS5.out.2.1 (grw_below hb5), (hb5.block _ hs5).trans HS5.out.2.2, heap_alloc_new w5 _⟩
  clear HS5 hb5
  go_wp2_with fail
  generalize w5.alloc (.cells #[.int .i64 v1, .int .i64 v2, .int .i64 v3, .int .i64 v4] 27) = w6 at HS6 ⊢
  generalize w5.heap.size = B at HS6 hs5 ⊢
  have hBg : B ≠ g := by omega
  have hB6 : B < w6.heap.size := (Array.getElem?_eq_some_iff.1 HS6.out.2.2.2).1
  have c0 : w6.cell? ⟨B, 0, none⟩ = some (.int .i64 v1) := (cell_of_row _ _ 0 _ _ _ HS6.out.2.2.2).trans rfl
  have c1 : w6.cell? ⟨B, 1, none⟩ = some (.int .i64 v2) := (cell_of_row _ _ 1 _ _ _ HS6.out.2.2.2).trans rfl
  have c2 : w6.cell? ⟨B, 2, none⟩ = some (.int .i64 v3) := (cell_of_row _ _ 2 _ _ _ HS6.out.2.2.2).trans rfl
  have c3 : w6.cell? ⟨B, 3, none⟩ = some (.int .i64 v4) := (cell_of_row _ _ 3 _ _ _ HS6.out.2.2.2).trans rfl
  refine _root_.Go.wp_region_held (S := fun w' : World => w'.cell? ⟨B, 0, none⟩ = some (.int .i64 v1) ∧ w'.cell? ⟨B, 1, none⟩ = some (.int .i64 v2) ∧ w'.cell? ⟨B, 2, none⟩ = some (.int .i64 v3) ∧ w'.cell? ⟨B, 3, none⟩ = some (.int .i64 v4)) (by kernel_rfl) ?_
  have hS : (fun w' : World => w'.cell? ⟨B, 0, none⟩ = some (.int .i64 v1) ∧ w'.cell? ⟨B, 1, none⟩ = some (.int .i64 v2) ∧ w'.cell? ⟨B, 2, none⟩ = some (.int .i64 v3) ∧ w'.cell? ⟨B, 3, none⟩ = some (.int .i64 v4)) w6.drew := ⟨c0, c1, c2, c3⟩
  refine wpAnyH_take (i := 0) (v := ?_) rfl (by kernel_rfl) (by kernel_rfl) (by kernel_rfl) (fun _ _ _ h => h) (Or.inl ⟨by rfl, ?_⟩) hS ?_
  rotate_left
  · intro w hSw; obtain ⟨y0, y1, y2, y3⟩ := hSw; go_simp; try with_reducible rfl
  simp only [Act.put, List.getElem_toArray, List.getElem_cons_zero, List.setIfInBounds_toArray, List.set_cons_succ, List.set_cons_zero]
  refine wpAnyH_take (i := 1) (v := ?_) rfl (by kernel_rfl) (by kernel_rfl) (by kernel_rfl) (fun _ _ _ h => h) (Or.inl ⟨by rfl, ?_⟩) hS ?_
  rotate_left
  · intro w hSw; obtain ⟨y0, y1, y2, y3⟩ := hSw; go_simp; try with_reducible rfl
  simp only [Act.put, List.getElem_toArray, List.getElem_cons_succ, List.getElem_cons_zero, List.setIfInBounds_toArray, List.set_cons_succ, List.set_cons_zero]
  refine wpAnyH_take (i := 3) (v := ?_) rfl (by kernel_rfl) (by kernel_rfl) (by kernel_rfl) (fun _ _ _ h => h) (Or.inl ⟨by rfl, ?_⟩) hS ?_
  rotate_left
  · intro w hSw; obtain ⟨y0, y1, y2, y3⟩ := hSw; go_simp; try with_reducible rfl
  simp only [Act.put, List.getElem_toArray, List.getElem_cons_succ, List.getElem_cons_zero, List.setIfInBounds_toArray, List.set_cons_succ, List.set_cons_zero]
  refine wpAnyH_ready (rs := [2]) (by kernel_rfl) (by simp) ?_
  refine AllReadyH.cons rfl (fun K hK => ?_) AllReadyH.nil
  go_simp
  refine Calls.mono (IH5.out _ (HS6.out.1.below (Below.refl _ _).drew)) ?_
  rintro e w7 ⟨rfl, hg⟩
  exact And.intro rfl (And.intro rfl (grw_more HS6.out.2.1 ⟨hg.os, hg.tape, hg.output, hg.size, hg.block⟩))
set_option maxHeartbeats 1600000 in
set_option maxRecDepth 20000 in
theorem pk_f7 (g : Nat) (a : Option Addr) (cap : Nat) (ns : List Nd) (k : Int) (k1 k2 k3 k4 k5 k6 v0 v1 v2 v3 v4 v5 : Int) (w : World) (hs : Rd g a cap ns k w)
    (H0 : ∀ wz, Rd g a cap ns k wz → Calls Try.prog 23 #[.pointer (some ⟨g, 0, none⟩)] wz (RdP g a cap ns (.int .i64 v0) k1 wz))
    (he : (v0 == 90) = true)
    (H1 : ∀ wz, Rd g a cap ns k1 wz → Calls Try.prog 23 #[.pointer (some ⟨g, 0, none⟩)] wz (RdP g a cap ns (.int .i64 v1) k2 wz))
    (H2 : ∀ wz, Rd g a cap ns k2 wz → Calls Try.prog 23 #[.pointer (some ⟨g, 0, none⟩)] wz (RdP g a cap ns (.int .i64 v2) k3 wz))
    (H3 : ∀ wz, Rd g a cap ns k3 wz → Calls Try.prog 23 #[.pointer (some ⟨g, 0, none⟩)] wz (RdP g a cap ns (.int .i64 v3) k4 wz))
    (H4 : ∀ wz, Rd g a cap ns k4 wz → Calls Try.prog 23 #[.pointer (some ⟨g, 0, none⟩)] wz (RdP g a cap ns (.int .i64 v4) k5 wz))
    (H5 : ∀ wz, Rd g a cap ns k5 wz → Calls Try.prog 23 #[.pointer (some ⟨g, 0, none⟩)] wz (RdP g a cap ns (.int .i64 v5) k6 wz))
    (hz : (v5 == pkW v1 v2 v3 v4) = false) :
    Calls Try.prog 16 #[.pointer (some ⟨g, 0, none⟩)] w (RdN g w) := by
  have hb0 : Below w.heap.size w (w.alloc (.cells #[.int .i64 0, .int .i64 0, .int .i64 0, .int .i64 0] 27)) := (Below.refl _ _).alloc (Nat.le_refl _) _
  have hlt := hs.lt
  have HS0 : Hid (Rd g a cap ns k (w.alloc (.cells #[.int .i64 0, .int .i64 0, .int .i64 0, .int .i64 0] 27)) ∧ w.grownBy (w.alloc (.cells #[.int .i64 0, .int .i64 0, .int .i64 0, .int .i64 0] 27)) (some g) ∧ (w.alloc (.cells #[.int .i64 0, .int .i64 0, .int .i64 0, .int .i64 0] 27)).heap[w.heap.size]? = some (.cells #[.int .i64 0, .int .i64 0, .int .i64 0, .int .i64 0] 27 (0, 0))) := ⟨hs.below hb0, grw_below hb0, heap_alloc_new w _⟩
  have IH0 : Hid (∀ wz, Rd g a cap ns k wz → Calls Try.prog 23 #[.pointer (some ⟨g, 0, none⟩)] wz (RdP g a cap ns (.int .i64 v0) k1 wz)) := H0
  clear H0
  have IH1 : Hid (∀ wz, Rd g a cap ns k1 wz → Calls Try.prog 23 #[.pointer (some ⟨g, 0, none⟩)] wz (RdP g a cap ns (.int .i64 v1) k2 wz)) := H1
  clear H1
  have IH2 : Hid (∀ wz, Rd g a cap ns k2 wz → Calls Try.prog 23 #[.pointer (some ⟨g, 0, none⟩)] wz (RdP g a cap ns (.int .i64 v2) k3 wz)) := H2
  clear H2
  have IH3 : Hid (∀ wz, Rd g a cap ns k3 wz → Calls Try.prog 23 #[.pointer (some ⟨g, 0, none⟩)] wz (RdP g a cap ns (.int .i64 v3) k4 wz)) := H3
  clear H3
  have IH4 : Hid (∀ wz, Rd g a cap ns k4 wz → Calls Try.prog 23 #[.pointer (some ⟨g, 0, none⟩)] wz (RdP g a cap ns (.int .i64 v4) k5 wz)) := H4
  clear H4
  have IH5 : Hid (∀ wz, Rd g a cap ns k5 wz → Calls Try.prog 23 #[.pointer (some ⟨g, 0, none⟩)] wz (RdP g a cap ns (.int .i64 v5) k6 wz)) := H5
  clear H5
  clear hs hb0
  go_enter Try.func16, Try.ntmps16
  go_wp2_with fail
  generalize w.alloc (.cells #[.int .i64 0, .int .i64 0, .int .i64 0, .int .i64 0] 27) = w0 at HS0 ⊢
  refine Calls.mono (IH0.out _ HS0.out.1) ?_
  rintro e w1 ⟨rfl, hr, hg⟩
  have HS1 : Hid (Rd g a cap ns _ w1 ∧ w.grownBy w1 (some g) ∧ w1.heap[w.heap.size]? = some (.cells #[.int .i64 0, .int .i64 0, .int .i64 0, .int .i64 0] 27 (0, 0))) := ⟨hr, grw_more HS0.out.2.1 hg, (hg.block _ (Array.getElem?_eq_some_iff.1 HS0.out.2.2).1 (by simp; omega)).trans HS0.out.2.2⟩
  clear hr hg HS0
  go_wp2_with fail
  refine (want_yes _ _).mono ?_
  rintro e wq ⟨rfl, rfl⟩
  go_wp2_with fail
  refine Calls.mono (IH1.out _ HS1.out.1) ?_
  rintro e w2 ⟨rfl, hr, hg⟩
  have HS2 : Hid (Rd g a cap ns _ w2 ∧ w.grownBy w2 (some g) ∧ w2.heap[w.heap.size]? = some (.cells #[.int .i64 0, .int .i64 0, .int .i64 0, .int .i64 0] 27 (0, 0))) := ⟨hr, grw_more HS1.out.2.1 hg, (hg.block _ (Array.getElem?_eq_some_iff.1 HS1.out.2.2).1 (by simp; omega)).trans HS1.out.2.2⟩
  clear hr hg HS1
  go_wp2_with fail
  refine Calls.mono (IH2.out _ HS2.out.1) ?_
  rintro e w3 ⟨rfl, hr, hg⟩
  have HS3 : Hid (Rd g a cap ns _ w3 ∧ w.grownBy w3 (some g) ∧ w3.heap[w.heap.size]? = some (.cells #[.int .i64 0, .int .i64 0, .int .i64 0, .int .i64 0] 27 (0, 0))) := ⟨hr, grw_more HS2.out.2.1 hg, (hg.block _ (Array.getElem?_eq_some_iff.1 HS2.out.2.2).1 (by simp; omega)).trans HS2.out.2.2⟩
  clear hr hg HS2
  go_wp2_with fail
  refine Calls.mono (IH3.out _ HS3.out.1) ?_
  rintro e w4 ⟨rfl, hr, hg⟩
  have HS4 : Hid (Rd g a cap ns _ w4 ∧ w.grownBy w4 (some g) ∧ w4.heap[w.heap.size]? = some (.cells #[.int .i64 0, .int .i64 0, .int .i64 0, .int .i64 0] 27 (0, 0))) := ⟨hr, grw_more HS3.out.2.1 hg, (hg.block _ (Array.getElem?_eq_some_iff.1 HS3.out.2.2).1 (by simp; omega)).trans HS3.out.2.2⟩
  clear hr hg HS3
  go_wp2_with fail
  refine Calls.mono (IH4.out _ HS4.out.1) ?_
  rintro e w5 ⟨rfl, hr, hg⟩
  have HS5 : Hid (Rd g a cap ns _ w5 ∧ w.grownBy w5 (some g) ∧ w5.heap[w.heap.size]? = some (.cells #[.int .i64 0, .int .i64 0, .int .i64 0, .int .i64 0] 27 (0, 0))) := ⟨hr, grw_more HS4.out.2.1 hg, (hg.block _ (Array.getElem?_eq_some_iff.1 HS4.out.2.2).1 (by simp; omega)).trans HS4.out.2.2⟩
  clear hr hg HS4
  have hs5 : w.heap.size < w5.heap.size := (Array.getElem?_eq_some_iff.1 HS5.out.2.2).1
  have hb5 : Below w5.heap.size w5 (w5.alloc (.cells #[.int .i64 v1, .int .i64 v2, .int .i64 v3, .int .i64 v4] 27)) := (Below.refl _ _).alloc (Nat.le_refl _) _
  have HS6 : Hid (Rd g a cap ns k5 (w5.alloc (.cells #[.int .i64 v1, .int .i64 v2, .int .i64 v3, .int .i64 v4] 27)) ∧ w.grownBy (w5.alloc (.cells #[.int .i64 v1, .int .i64 v2, .int .i64 v3, .int .i64 v4] 27)) (some g) ∧ (w5.alloc (.cells #[.int .i64 v1, .int .i64 v2, .int .i64 v3, .int .i64 v4] 27)).heap[w.heap.size]? = some (.cells #[.int .i64 0, .int .i64 0, .int .i64 0, .int .i64 0] 27 (0, 0)) ∧ (w5.alloc (.cells #[.int .i64 v1, .int .i64 v2, .int .i64 v3, .int .i64 v4] 27)).heap[w5.heap.size]? = some (.cells #[.int .i64 v1, .int .i64 v2, .int .i64 v3, .int .i64 v4] 27 (0, 0))) := ⟨HS5.out.1.below hb5, grw_more HS5.out.2.1 (grw_below hb5), (hb5.block _ hs5).trans HS5.out.2.2, heap_alloc_new w5 _⟩
  clear HS5 hb5
  go_wp2_with fail
  generalize w5.alloc (.cells #[.int .i64 v1, .int .i64 v2, .int .i64 v3, .int .i64 v4] 27) = w6 at HS6 ⊢
  generalize w5.heap.size = B at HS6 hs5 ⊢
  have hBg : B ≠ g := by omega
  have hB6 : B < w6.heap.size := (Array.getElem?_eq_some_iff.1 HS6.out.2.2.2).1
  have c0 : w6.cell? ⟨B, 0, none⟩ = some (.int .i64 v1) := (cell_of_row _ _ 0 _ _ _ HS6.out.2.2.2).trans rfl
  have c1 : w6.cell? ⟨B, 1, none⟩ = some (.int .i64 v2) := (cell_of_row _ _ 1 _ _ _ HS6.out.2.2.2).trans rfl
  have c2 : w6.cell? ⟨B, 2, none⟩ = some (.int .i64 v3) := (cell_of_row _ _ 2 _ _ _ HS6.out.2.2.2).trans rfl
  have c3 : w6.cell? ⟨B, 3, none⟩ = some (.int .i64 v4) := (cell_of_row _ _ 3 _ _ _ HS6.out.2.2.2).trans rfl
  refine _root_.Go.wp_region_held (S := fun w' : World => w'.cell? ⟨B, 0, none⟩ = some (.int .i64 v1) ∧ w'.cell? ⟨B, 1, none⟩ = some (.int .i64 v2) ∧ w'.cell? ⟨B, 2, none⟩ = some (.int .i64 v3) ∧ w'.cell? ⟨B, 3, none⟩ = some (.int .i64 v4)) (by kernel_rfl) ?_
  have hS : (fun w' : World => w'.cell? ⟨B, 0, none⟩ = some (.int .i64 v1) ∧ w'.cell? ⟨B, 1, none⟩ = some (.int .i64 v2) ∧ w'.cell? ⟨B, 2, none⟩ = some (.int .i64 v3) ∧ w'.cell? ⟨B, 3, none⟩ = some (.int .i64 v4)) w6.drew := ⟨c0, c1, c2, c3⟩
  refine wpAnyH_take (i := 0) (v := ?_) rfl (by kernel_rfl) (by kernel_rfl) (by kernel_rfl) (fun _ _ _ h => h) (Or.inl ⟨by rfl, ?_⟩) hS ?_
  rotate_left
  · intro w hSw; obtain ⟨y0, y1, y2, y3⟩ := hSw; go_simp; try with_reducible rfl
  simp only [Act.put, List.getElem_toArray, List.getElem_cons_zero, List.setIfInBounds_toArray, List.set_cons_succ, List.set_cons_zero]
  refine wpAnyH_take (i := 1) (v := ?_) rfl (by kernel_rfl) (by kernel_rfl) (by kernel_rfl) (fun _ _ _ h => h) (Or.inl ⟨by rfl, ?_⟩) hS ?_
  rotate_left
  · intro w hSw; obtain ⟨y0, y1, y2, y3⟩ := hSw; go_simp; try with_reducible rfl
  simp only [Act.put, List.getElem_toArray, List.getElem_cons_succ, List.getElem_cons_zero, List.setIfInBounds_toArray, List.set_cons_succ, List.set_cons_zero]
  refine wpAnyH_take (i := 3) (v := ?_) rfl (by kernel_rfl) (by kernel_rfl) (by kernel_rfl) (fun _ _ _ h => h) (Or.inl ⟨by rfl, ?_⟩) hS ?_
  rotate_left
  · intro w hSw; obtain ⟨y0, y1, y2, y3⟩ := hSw; go_simp; try with_reducible rfl
  simp only [Act.put, List.getElem_toArray, List.getElem_cons_succ, List.getElem_cons_zero, List.setIfInBounds_toArray, List.set_cons_succ, List.set_cons_zero]
  refine wpAnyH_ready (rs := [2]) (by kernel_rfl) (by simp) ?_
  refine AllReadyH.cons rfl (fun K hK => ?_) AllReadyH.nil
  go_simp
  refine Calls.mono (IH5.out _ (HS6.out.1.below (Below.refl _ _).drew)) ?_
  rintro e w7 ⟨rfl, hr, hg⟩
  have hB7 : w7.heap[B]? = some (.cells #[.int .i64 v1, .int .i64 v2, .int .i64 v3, .int .i64 v4] 27 (0, 0)) := (hg.block B hB6 (by simpa using hBg)).trans HS6.out.2.2.2
  have HS7 : Hid (Rd g a cap ns k6 w7 ∧ w.grownBy w7 (some g) ∧ w7.heap[w.heap.size]? = some (.cells #[.int .i64 0, .int .i64 0, .int .i64 0, .int .i64 0] 27 (0, 0)) ∧ w7.heap[B]? = some (.cells #[.int .i64 v1, .int .i64 v2, .int .i64 v3, .int .i64 v4] 27 (0, 0))) := ⟨hr, grw_more HS6.out.2.1 ⟨hg.os, hg.tape, hg.output, hg.size, hg.block⟩, (hg.block _ (Array.getElem?_eq_some_iff.1 HS6.out.2.2.1).1 (by simp; omega)).trans HS6.out.2.2.1, hB7⟩
  refine hK.out _ _ ⟨(cell_of_row _ _ 0 _ _ _ hB7).trans rfl, (cell_of_row _ _ 1 _ _ _ hB7).trans rfl, (cell_of_row _ _ 2 _ _ _ hB7).trans rfl, (cell_of_row _ _ 3 _ _ _ hB7).trans rfl⟩ (fun hS => ?_)
  clear hK K hg hr hB7 HS6 c0 c1 c2 c3
  refine wpAnyH_ready (rs := [4]) (by kernel_rfl) (by simp) ?_
  refine AllReadyH.cons rfl (fun K hK => ?_) AllReadyH.nil
  go_simp
  refine Calls.mono (pkSumW_any v1 v2 v3 v4 w7) ?_
  rintro e w8 ⟨rfl, hb⟩
  have HS8 : Hid (Rd g a cap ns k6 w8 ∧ w.grownBy w8 (some g) ∧ w8.heap[w.heap.size]? = some (.cells #[.int .i64 0, .int .i64 0, .int .i64 0, .int .i64 0] 27 (0, 0)) ∧ w8.heap[B]? = some (.cells #[.int .i64 v1, .int .i64 v2, .int .i64 v3, .int .i64 v4] 27 (0, 0))) := ⟨HS7.out.1.below hb, grw_more HS7.out.2.1 (grw_below hb), (hb.block _ (Array.getElem?_eq_some_iff.1 HS7.out.2.2.1).1).trans HS7.out.2.2.1, (hb.block _ (Array.getElem?_eq_some_iff.1 HS7.out.2.2.2).1).trans HS7.out.2.2.2⟩
  refine hK.out _ _ ⟨(cell_of_row _ _ 0 _ _ _ HS8.out.2.2.2).trans rfl, (cell_of_row _ _ 1 _ _ _ HS8.out.2.2.2).trans rfl, (cell_of_row _ _ 2 _ _ _ HS8.out.2.2.2).trans rfl, (cell_of_row _ _ 3 _ _ _ HS8.out.2.2.2).trans rfl⟩ (fun hS => ?_)
  clear hK K hb HS7
  refine wpAnyH_take (i := 5) (v := ?_) rfl (by kernel_rfl) (by kernel_rfl) (by kernel_rfl) (fun _ _ _ h => h) (Or.inl ⟨by rfl, ?_⟩) hS ?_
  rotate_left
  · intro w hSw; obtain ⟨y0, y1, y2, y3⟩ := hSw; go_simp; try with_reducible rfl
  simp only [Act.put, List.getElem_toArray, List.getElem_cons_succ, List.getElem_cons_zero, List.setIfInBounds_toArray, List.set_cons_succ, List.set_cons_zero]
  try simp only [hz]
  refine wpAnyH_take (i := 6) (v := ?_) rfl (by kernel_rfl) (by kernel_rfl) (by kernel_rfl) (fun _ _ _ h => h) (Or.inl ⟨by rfl, ?_⟩) hS ?_
  rotate_left
  · intro w hSw; obtain ⟨y0, y1, y2, y3⟩ := hSw; go_simp; try with_reducible rfl
  simp only [Act.put, List.getElem_toArray, List.getElem_cons_succ, List.getElem_cons_zero, List.setIfInBounds_toArray, List.set_cons_succ, List.set_cons_zero]
  refine wpAnyH_take (i := 7) (v := undef) rfl (by kernel_rfl) (by kernel_rfl) (by kernel_rfl) (fun _ _ _ h => h) (Or.inr ⟨by rfl, rfl⟩) hS ?_
  simp only [Act.put, List.getElem_toArray, List.getElem_cons_succ, List.getElem_cons_zero, List.setIfInBounds_toArray, List.set_cons_succ, List.set_cons_zero]
  refine wpAnyH_take (i := 8) (v := undef) rfl (by kernel_rfl) (by kernel_rfl) (by kernel_rfl) (fun _ _ _ h => h) (Or.inr ⟨by rfl, rfl⟩) hS ?_
  simp only [Act.put, List.getElem_toArray, List.getElem_cons_succ, List.getElem_cons_zero, List.setIfInBounds_toArray, List.set_cons_succ, List.set_cons_zero]
  refine wpAnyH_take (i := 9) (v := ?_) rfl (by kernel_rfl) (by kernel_rfl) (by kernel_rfl) (fun _ _ _ h => h) (Or.inl ⟨by rfl, ?_⟩) hS ?_
  rotate_left
  · intro w hSw; obtain ⟨y0, y1, y2, y3⟩ := hSw; go_simp; try with_reducible rfl
  simp only [Act.put, List.getElem_toArray, List.getElem_cons_succ, List.getElem_cons_zero, List.setIfInBounds_toArray, List.set_cons_succ, List.set_cons_zero]
  refine wpAnyH_ready (rs := [10]) (by kernel_rfl) (by simp) ?_
  refine AllReadyH.cons rfl (fun K hK => ?_) AllReadyH.nil
  go_simp
  refine (want_no _ _).mono ?_
  rintro e wq ⟨rfl, rfl⟩
  exact And.intro rfl (And.intro rfl HS8.out.2.1)
set_option maxHeartbeats 1600000 in
set_option maxRecDepth 20000 in
theorem pk_f8 (g : Nat) (a : Option Addr) (cap : Nat) (ns : List Nd) (k : Int) (k1 k2 k3 k4 k5 k6 v0 v1 v2 v3 v4 v5 : Int) (w : World) (hs : Rd g a cap ns k w)
    (H0 : ∀ wz, Rd g a cap ns k wz → Calls Try.prog 23 #[.pointer (some ⟨g, 0, none⟩)] wz (RdP g a cap ns (.int .i64 v0) k1 wz))
    (he : (v0 == 90) = true)
    (H1 : ∀ wz, Rd g a cap ns k1 wz → Calls Try.prog 23 #[.pointer (some ⟨g, 0, none⟩)] wz (RdP g a cap ns (.int .i64 v1) k2 wz))
    (H2 : ∀ wz, Rd g a cap ns k2 wz → Calls Try.prog 23 #[.pointer (some ⟨g, 0, none⟩)] wz (RdP g a cap ns (.int .i64 v2) k3 wz))
    (H3 : ∀ wz, Rd g a cap ns k3 wz → Calls Try.prog 23 #[.pointer (some ⟨g, 0, none⟩)] wz (RdP g a cap ns (.int .i64 v3) k4 wz))
    (H4 : ∀ wz, Rd g a cap ns k4 wz → Calls Try.prog 23 #[.pointer (some ⟨g, 0, none⟩)] wz (RdP g a cap ns (.int .i64 v4) k5 wz))
    (H5 : ∀ wz, Rd g a cap ns k5 wz → Calls Try.prog 23 #[.pointer (some ⟨g, 0, none⟩)] wz (RdP g a cap ns (.int .i64 v5) k6 wz))
    (hfit : (⟨v1, v2, v3, v4⟩ : Nd).Fits)
    (hz : (v5 == pkW v1 v2 v3 v4) = true)
    (ho : pkOk ⟨v1, v2, v3, v4⟩ = false) :
    Calls Try.prog 16 #[.pointer (some ⟨g, 0, none⟩)] w (RdN g w) := by
  have hb0 : Below w.heap.size w (w.alloc (.cells #[.int .i64 0, .int .i64 0, .int .i64 0, .int .i64 0] 27)) := (Below.refl _ _).alloc (Nat.le_refl _) _
  have hlt := hs.lt
  have HS0 : Hid (Rd g a cap ns k (w.alloc (.cells #[.int .i64 0, .int .i64 0, .int .i64 0, .int .i64 0] 27)) ∧ w.grownBy (w.alloc (.cells #[.int .i64 0, .int .i64 0, .int .i64 0, .int .i64 0] 27)) (some g) ∧ (w.alloc (.cells #[.int .i64 0, .int .i64 0, .int .i64 0, .int .i64 0] 27)).heap[w.heap.size]? = some (.cells #[.int .i64 0, .int .i64 0, .int .i64 0, .int .i64 0] 27 (0, 0))) := ⟨hs.below hb0, grw_below hb0, heap_alloc_new w _⟩
  have IH0 : Hid (∀ wz, Rd g a cap ns k wz → Calls Try.prog 23 #[.pointer (some ⟨g, 0, none⟩)] wz (RdP g a cap ns (.int .i64 v0) k1 wz)) := H0
  clear H0
  have IH1 : Hid (∀ wz, Rd g a cap ns k1 wz → Calls Try.prog 23 #[.pointer (some ⟨g, 0, none⟩)] wz (RdP g a cap ns (.int .i64 v1) k2 wz)) := H1
  clear H1
  have IH2 : Hid (∀ wz, Rd g a cap ns k2 wz → Calls Try.prog 23 #[.pointer (some ⟨g, 0, none⟩)] wz (RdP g a cap ns (.int .i64 v2) k3 wz)) := H2
  clear H2
  have IH3 : Hid (∀ wz, Rd g a cap ns k3 wz → Calls Try.prog 23 #[.pointer (some ⟨g, 0, none⟩)] wz (RdP g a cap ns (.int .i64 v3) k4 wz)) := H3
  clear H3
  have IH4 : Hid (∀ wz, Rd g a cap ns k4 wz → Calls Try.prog 23 #[.pointer (some ⟨g, 0, none⟩)] wz (RdP g a cap ns (.int .i64 v4) k5 wz)) := H4
  clear H4
  have IH5 : Hid (∀ wz, Rd g a cap ns k5 wz → Calls Try.prog 23 #[.pointer (some ⟨g, 0, none⟩)] wz (RdP g a cap ns (.int .i64 v5) k6 wz)) := H5
  clear H5
  clear hs hb0
  go_enter Try.func16, Try.ntmps16
  go_wp2_with fail
  generalize w.alloc (.cells #[.int .i64 0, .int .i64 0, .int .i64 0, .int .i64 0] 27) = w0 at HS0 ⊢
  refine Calls.mono (IH0.out _ HS0.out.1) ?_
  rintro e w1 ⟨rfl, hr, hg⟩
  have HS1 : Hid (Rd g a cap ns _ w1 ∧ w.grownBy w1 (some g) ∧ w1.heap[w.heap.size]? = some (.cells #[.int .i64 0, .int .i64 0, .int .i64 0, .int .i64 0] 27 (0, 0))) := ⟨hr, grw_more HS0.out.2.1 hg, (hg.block _ (Array.getElem?_eq_some_iff.1 HS0.out.2.2).1 (by simp; omega)).trans HS0.out.2.2⟩
  clear hr hg HS0
  go_wp2_with fail
  refine (want_yes _ _).mono ?_
  rintro e wq ⟨rfl, rfl⟩
  go_wp2_with fail
  refine Calls.mono (IH1.out _ HS1.out.1) ?_
  rintro e w2 ⟨rfl, hr, hg⟩
  have HS2 : Hid (Rd g a cap ns _ w2 ∧ w.grownBy w2 (some g) ∧ w2.heap[w.heap.size]? = some (.cells #[.int .i64 0, .int .i64 0, .int .i64 0, .int .i64 0] 27 (0, 0))) := ⟨hr, grw_more HS1.out.2.1 hg, (hg.block _ (Array.getElem?_eq_some_iff.1 HS1.out.2.2).1 (by simp; omega)).trans HS1.out.2.2⟩
  clear hr hg HS1
  go_wp2_with fail
  refine Calls.mono (IH2.out _ HS2.out.1) ?_
  rintro e w3 ⟨rfl, hr, hg⟩
  have HS3 : Hid (Rd g a cap ns _ w3 ∧ w.grownBy w3 (some g) ∧ w3.heap[w.heap.size]? = some (.cells #[.int .i64 0, .int .i64 0, .int .i64 0, .int .i64 0] 27 (0, 0))) := ⟨hr, grw_more HS2.out.2.1 hg, (hg.block _ (Array.getElem?_eq_some_iff.1 HS2.out.2.2).1 (by simp; omega)).trans HS2.out.2.2⟩
  clear hr hg HS2
  go_wp2_with fail
  refine Calls.mono (IH3.out _ HS3.out.1) ?_
  rintro e w4 ⟨rfl, hr, hg⟩
  have HS4 : Hid (Rd g a cap ns _ w4 ∧ w.grownBy w4 (some g) ∧ w4.heap[w.heap.size]? = some (.cells #[.int .i64 0, .int .i64 0, .int .i64 0, .int .i64 0] 27 (0, 0))) := ⟨hr, grw_more HS3.out.2.1 hg, (hg.block _ (Array.getElem?_eq_some_iff.1 HS3.out.2.2).1 (by simp; omega)).trans HS3.out.2.2⟩
  clear hr hg HS3
  go_wp2_with fail
  refine Calls.mono (IH4.out _ HS4.out.1) ?_
  rintro e w5 ⟨rfl, hr, hg⟩
  have HS5 : Hid (Rd g a cap ns _ w5 ∧ w.grownBy w5 (some g) ∧ w5.heap[w.heap.size]? = some (.cells #[.int .i64 0, .int .i64 0, .int .i64 0, .int .i64 0] 27 (0, 0))) := ⟨hr, grw_more HS4.out.2.1 hg, (hg.block _ (Array.getElem?_eq_some_iff.1 HS4.out.2.2).1 (by simp; omega)).trans HS4.out.2.2⟩
  clear hr hg HS4
  have hs5 : w.heap.size < w5.heap.size := (Array.getElem?_eq_some_iff.1 HS5.out.2.2).1
  have hb5 : Below w5.heap.size w5 (w5.alloc (.cells #[.int .i64 v1, .int .i64 v2, .int .i64 v3, .int .i64 v4] 27)) := (Below.refl _ _).alloc (Nat.le_refl _) _
  have HS6 : Hid (Rd g a cap ns k5 (w5.alloc (.cells #[.int .i64 v1, .int .i64 v2, .int .i64 v3, .int .i64 v4] 27)) ∧ w.grownBy (w5.alloc (.cells #[.int .i64 v1, .int .i64 v2, .int .i64 v3, .int .i64 v4] 27)) (some g) ∧ (w5.alloc (.cells #[.int .i64 v1, .int .i64 v2, .int .i64 v3, .int .i64 v4] 27)).heap[w.heap.size]? = some (.cells #[.int .i64 0, .int .i64 0, .int .i64 0, .int .i64 0] 27 (0, 0)) ∧ (w5.alloc (.cells #[.int .i64 v1, .int .i64 v2, .int .i64 v3, .int .i64 v4] 27)).heap[w5.heap.size]? = some (.cells #[.int .i64 v1, .int .i64 v2, .int .i64 v3, .int .i64 v4] 27 (0, 0))) := ⟨HS5.out.1.below hb5, grw_more HS5.out.2.1 (grw_below hb5), (hb5.block _ hs5).trans HS5.out.2.2, heap_alloc_new w5 _⟩
  clear HS5 hb5
  go_wp2_with fail
  generalize w5.alloc (.cells #[.int .i64 v1, .int .i64 v2, .int .i64 v3, .int .i64 v4] 27) = w6 at HS6 ⊢
  generalize w5.heap.size = B at HS6 hs5 ⊢
  have hBg : B ≠ g := by omega
  have hB6 : B < w6.heap.size := (Array.getElem?_eq_some_iff.1 HS6.out.2.2.2).1
  have c0 : w6.cell? ⟨B, 0, none⟩ = some (.int .i64 v1) := (cell_of_row _ _ 0 _ _ _ HS6.out.2.2.2).trans rfl
  have c1 : w6.cell? ⟨B, 1, none⟩ = some (.int .i64 v2) := (cell_of_row _ _ 1 _ _ _ HS6.out.2.2.2).trans rfl
  have c2 : w6.cell? ⟨B, 2, none⟩ = some (.int .i64 v3) := (cell_of_row _ _ 2 _ _ _ HS6.out.2.2.2).trans rfl
  have c3 : w6.cell? ⟨B, 3, none⟩ = some (.int .i64 v4) := (cell_of_row _ _ 3 _ _ _ HS6.out.2.2.2).trans rfl
  refine _root_.Go.wp_region_held (S := fun w' : World => w'.cell? ⟨B, 0, none⟩ = some (.int .i64 v1) ∧ w'.cell? ⟨B, 1, none⟩ = some (.int .i64 v2) ∧ w'.cell? ⟨B, 2, none⟩ = some (.int .i64 v3) ∧ w'.cell? ⟨B, 3, none⟩ = some (.int .i64 v4)) (by kernel_rfl) ?_
  have hS : (fun w' : World => w'.cell? ⟨B, 0, none⟩ = some (.int .i64 v1) ∧ w'.cell? ⟨B, 1, none⟩ = some (.int .i64 v2) ∧ w'.cell? ⟨B, 2, none⟩ = some (.int .i64 v3) ∧ w'.cell? ⟨B, 3, none⟩ = some (.int .i64 v4)) w6.drew := ⟨c0, c1, c2, c3⟩
  refine wpAnyH_take (i := 0) (v := ?_) rfl (by kernel_rfl) (by kernel_rfl) (by kernel_rfl) (fun _ _ _ h => h) (Or.inl ⟨by rfl, ?_⟩) hS ?_
  rotate_left
  · intro w hSw; obtain ⟨y0, y1, y2, y3⟩ := hSw; go_simp; try with_reducible rfl
  simp only [Act.put, List.getElem_toArray, List.getElem_cons_zero, List.setIfInBounds_toArray, List.set_cons_succ, List.set_cons_zero]
  refine wpAnyH_take (i := 1) (v := ?_) rfl (by kernel_rfl) (by kernel_rfl) (by kernel_rfl) (fun _ _ _ h => h) (Or.inl ⟨by rfl, ?_⟩) hS ?_
  rotate_left
  · intro w hSw; obtain ⟨y0, y1, y2, y3⟩ := hSw; go_simp; try with_reducible rfl
  simp only [Act.put, List.getElem_toArray, List.getElem_cons_succ, List.getElem_cons_zero, List.setIfInBounds_toArray, List.set_cons_succ, List.set_cons_zero]
  refine wpAnyH_take (i := 3) (v := ?_) rfl (by kernel_rfl) (by kernel_rfl) (by kernel_rfl) (fun _ _ _ h => h) (Or.inl ⟨by rfl, ?_⟩) hS ?_
  rotate_left
  · intro w hSw; obtain ⟨y0, y1, y2, y3⟩ := hSw; go_simp; try with_reducible rfl
  simp only [Act.put, List.getElem_toArray, List.getElem_cons_succ, List.getElem_cons_zero, List.setIfInBounds_toArray, List.set_cons_succ, List.set_cons_zero]
  refine wpAnyH_ready (rs := [2]) (by kernel_rfl) (by simp) ?_
  refine AllReadyH.cons rfl (fun K hK => ?_) AllReadyH.nil
  go_simp
  refine Calls.mono (IH5.out _ (HS6.out.1.below (Below.refl _ _).drew)) ?_
  rintro e w7 ⟨rfl, hr, hg⟩
  have hB7 : w7.heap[B]? = some (.cells #[.int .i64 v1, .int .i64 v2, .int .i64 v3, .int .i64 v4] 27 (0, 0)) := (hg.block B hB6 (by simpa using hBg)).trans HS6.out.2.2.2
  have HS7 : Hid (Rd g a cap ns k6 w7 ∧ w.grownBy w7 (some g) ∧ w7.heap[w.heap.size]? = some (.cells #[.int .i64 0, .int .i64 0, .int .i64 0, .int .i64 0] 27 (0, 0)) ∧ w7.heap[B]? = some (.cells #[.int .i64 v1, .int .i64 v2, .int .i64 v3, .int .i64 v4] 27 (0, 0))) := ⟨hr, grw_more HS6.out.2.1 ⟨hg.os, hg.tape, hg.output, hg.size, hg.block⟩, (hg.block _ (Array.getElem?_eq_some_iff.1 HS6.out.2.2.1).1 (by simp; omega)).trans HS6.out.2.2.1, hB7⟩
  refine hK.out _ _ ⟨(cell_of_row _ _ 0 _ _ _ hB7).trans rfl, (cell_of_row _ _ 1 _ _ _ hB7).trans rfl, (cell_of_row _ _ 2 _ _ _ hB7).trans rfl, (cell_of_row _ _ 3 _ _ _ hB7).trans rfl⟩ (fun hS => ?_)
  clear hK K hg hr hB7 HS6 c0 c1 c2 c3
  refine wpAnyH_ready (rs := [4]) (by kernel_rfl) (by simp) ?_
  refine AllReadyH.cons rfl (fun K hK => ?_) AllReadyH.nil
  go_simp
  refine Calls.mono (pkSumW_any v1 v2 v3 v4 w7) ?_
  rintro e w8 ⟨rfl, hb⟩
  have HS8 : Hid (Rd g a cap ns k6 w8 ∧ w.grownBy w8 (some g) ∧ w8.heap[w.heap.size]? = some (.cells #[.int .i64 0, .int .i64 0, .int .i64 0, .int .i64 0] 27 (0, 0)) ∧ w8.heap[B]? = some (.cells #[.int .i64 v1, .int .i64 v2, .int .i64 v3, .int .i64 v4] 27 (0, 0))) := ⟨HS7.out.1.below hb, grw_more HS7.out.2.1 (grw_below hb), (hb.block _ (Array.getElem?_eq_some_iff.1 HS7.out.2.2.1).1).trans HS7.out.2.2.1, (hb.block _ (Array.getElem?_eq_some_iff.1 HS7.out.2.2.2).1).trans HS7.out.2.2.2⟩
  refine hK.out _ _ ⟨(cell_of_row _ _ 0 _ _ _ HS8.out.2.2.2).trans rfl, (cell_of_row _ _ 1 _ _ _ HS8.out.2.2.2).trans rfl, (cell_of_row _ _ 2 _ _ _ HS8.out.2.2.2).trans rfl, (cell_of_row _ _ 3 _ _ _ HS8.out.2.2.2).trans rfl⟩ (fun hS => ?_)
  clear hK K hb HS7
  refine wpAnyH_take (i := 5) (v := ?_) rfl (by kernel_rfl) (by kernel_rfl) (by kernel_rfl) (fun _ _ _ h => h) (Or.inl ⟨by rfl, ?_⟩) hS ?_
  rotate_left
  · intro w hSw; obtain ⟨y0, y1, y2, y3⟩ := hSw; go_simp; try with_reducible rfl
  simp only [Act.put, List.getElem_toArray, List.getElem_cons_succ, List.getElem_cons_zero, List.setIfInBounds_toArray, List.set_cons_succ, List.set_cons_zero]
  try simp only [hz]
  refine wpAnyH_take (i := 6) (v := ?_) rfl (by kernel_rfl) (by kernel_rfl) (by kernel_rfl) (fun _ _ _ h => h) (Or.inl ⟨by rfl, ?_⟩) hS ?_
  rotate_left
  · intro w hSw; obtain ⟨y0, y1, y2, y3⟩ := hSw; go_simp; try with_reducible rfl
  simp only [Act.put, List.getElem_toArray, List.getElem_cons_succ, List.getElem_cons_zero, List.setIfInBounds_toArray, List.set_cons_succ, List.set_cons_zero]
  refine wpAnyH_take (i := 7) (v := ?_) rfl (by kernel_rfl) (by kernel_rfl) (by kernel_rfl) (fun _ _ _ h => h) (Or.inl ⟨by rfl, ?_⟩) hS ?_
  rotate_left
  · intro w hSw; obtain ⟨y0, y1, y2, y3⟩ := hSw; go_simp; try with_reducible rfl
  simp only [Act.put, List.getElem_toArray, List.getElem_cons_succ, List.getElem_cons_zero, List.setIfInBounds_toArray, List.set_cons_succ, List.set_cons_zero]
  refine wpAnyH_ready (rs := [8]) (by kernel_rfl) (by simp) ?_
  refine AllReadyH.cons rfl (fun K hK => ?_) AllReadyH.nil
  go_simp
  refine Calls.mono (implPkOk_any ⟨v1, v2, v3, v4⟩ w8 hfit) ?_
  rintro e w9 ⟨rfl, hb⟩
  have HS9 : Hid (Rd g a cap ns k6 w9 ∧ w.grownBy w9 (some g) ∧ w9.heap[w.heap.size]? = some (.cells #[.int .i64 0, .int .i64 0, .int .i64 0, .int .i64 0] 27 (0, 0)) ∧ w9.heap[B]? = some (.cells #[.int .i64 v1, .int .i64 v2, .int .i64 v3, .int .i64 v4] 27 (0, 0))) := ⟨HS8.out.1.below hb, grw_more HS8.out.2.1 (grw_below hb), (hb.block _ (Array.getElem?_eq_some_iff.1 HS8.out.2.2.1).1).trans HS8.out.2.2.1, (hb.block _ (Array.getElem?_eq_some_iff.1 HS8.out.2.2.2).1).trans HS8.out.2.2.2⟩
  refine hK.out _ _ ⟨(cell_of_row _ _ 0 _ _ _ HS9.out.2.2.2).trans rfl, (cell_of_row _ _ 1 _ _ _ HS9.out.2.2.2).trans rfl, (cell_of_row _ _ 2 _ _ _ HS9.out.2.2.2).trans rfl, (cell_of_row _ _ 3 _ _ _ HS9.out.2.2.2).trans rfl⟩ (fun hS => ?_)
  clear hK K hb HS8
  try simp only [ho]
  refine wpAnyH_take (i := 9) (v := ?_) rfl (by kernel_rfl) (by kernel_rfl) (by kernel_rfl) (fun _ _ _ h => h) (Or.inl ⟨by rfl, ?_⟩) hS ?_
  rotate_left
  · intro w hSw; obtain ⟨y0, y1, y2, y3⟩ := hSw; go_simp; try with_reducible rfl
  simp only [Act.put, List.getElem_toArray, List.getElem_cons_succ, List.getElem_cons_zero, List.setIfInBounds_toArray, List.set_cons_succ, List.set_cons_zero]
  refine wpAnyH_ready (rs := [10]) (by kernel_rfl) (by simp) ?_
  refine AllReadyH.cons rfl (fun K hK => ?_) AllReadyH.nil
  go_simp
  refine (want_no _ _).mono ?_
  rintro e wq ⟨rfl, rfl⟩
  exact And.intro rfl (And.intro rfl HS9.out.2.1)
set_option maxHeartbeats 1600000 in
set_option maxRecDepth 20000 in
theorem pk_f9 (g : Nat) (a : Option Addr) (cap : Nat) (ns : List Nd) (k : Int) (k1 k2 k3 k4 k5 k6 v0 v1 v2 v3 v4 v5 : Int) (w : World) (hs : Rd g a cap ns k w)
    (H0 : ∀ wz, Rd g a cap ns k wz → Calls Try.prog 23 #[.pointer (some ⟨g, 0, none⟩)] wz (RdP g a cap ns (.int .i64 v0) k1 wz))
    (he : (v0 == 90) = true)
    (H1 : ∀ wz, Rd g a cap ns k1 wz → Calls Try.prog 23 #[.pointer (some ⟨g, 0, none⟩)] wz (RdP g a cap ns (.int .i64 v1) k2 wz))
    (H2 : ∀ wz, Rd g a cap ns k2 wz → Calls Try.prog 23 #[.pointer (some ⟨g, 0, none⟩)] wz (RdP g a cap ns (.int .i64 v2) k3 wz))
    (H3 : ∀ wz, Rd g a cap ns k3 wz → Calls Try.prog 23 #[.pointer (some ⟨g, 0, none⟩)] wz (RdP g a cap ns (.int .i64 v3) k4 wz))
    (H4 : ∀ wz, Rd g a cap ns k4 wz → Calls Try.prog 23 #[.pointer (some ⟨g, 0, none⟩)] wz (RdP g a cap ns (.int .i64 v4) k5 wz))
    (H5 : ∀ wz, Rd g a cap ns k5 wz → Calls Try.prog 23 #[.pointer (some ⟨g, 0, none⟩)] wz (RdP g a cap ns (.int .i64 v5) k6 wz))
    (hfit : (⟨v1, v2, v3, v4⟩ : Nd).Fits)
    (hz : (v5 == pkW v1 v2 v3 v4) = true)
    (ho : pkOk ⟨v1, v2, v3, v4⟩ = true)
    (H6 : ∀ wz, Rd g a cap ns k6 wz → Calls Try.prog 26 #[.pointer (some ⟨g, 0, none⟩)] wz (RdN g wz)) :
    Calls Try.prog 16 #[.pointer (some ⟨g, 0, none⟩)] w (RdN g w) := by
  have hb0 : Below w.heap.size w (w.alloc (.cells #[.int .i64 0, .int .i64 0, .int .i64 0, .int .i64 0] 27)) := (Below.refl _ _).alloc (Nat.le_refl _) _
  have hlt := hs.lt
  have HS0 : Hid (Rd g a cap ns k (w.alloc (.cells #[.int .i64 0, .int .i64 0, .int .i64 0, .int .i64 0] 27)) ∧ w.grownBy (w.alloc (.cells #[.int .i64 0, .int .i64 0, .int .i64 0, .int .i64 0] 27)) (some g) ∧ (w.alloc (.cells #[.int .i64 0, .int .i64 0, .int .i64 0, .int .i64 0] 27)).heap[w.heap.size]? = some (.cells #[.int .i64 0, .int .i64 0, .int .i64 0, .int .i64 0] 27 (0, 0))) := ⟨hs.below hb0, grw_below hb0, heap_alloc_new w _⟩
  have IH0 : Hid (∀ wz, Rd g a cap ns k wz → Calls Try.prog 23 #[.pointer (some ⟨g, 0, none⟩)] wz (RdP g a cap ns (.int .i64 v0) k1 wz)) := H0
  clear H0
  have IH1 : Hid (∀ wz, Rd g a cap ns k1 wz → Calls Try.prog 23 #[.pointer (some ⟨g, 0, none⟩)] wz (RdP g a cap ns (.int .i64 v1) k2 wz)) := H1
  clear H1
  have IH2 : Hid (∀ wz, Rd g a cap ns k2 wz → Calls Try.prog 23 #[.pointer (some ⟨g, 0, none⟩)] wz (RdP g a cap ns (.int .i64 v2) k3 wz)) := H2
  clear H2
  have IH3 : Hid (∀ wz, Rd g a cap ns k3 wz → Calls Try.prog 23 #[.pointer (some ⟨g, 0, none⟩)] wz (RdP g a cap ns (.int .i64 v3) k4 wz)) := H3
  clear H3
  have IH4 : Hid (∀ wz, Rd g a cap ns k4 wz → Calls Try.prog 23 #[.pointer (some ⟨g, 0, none⟩)] wz (RdP g a cap ns (.int .i64 v4) k5 wz)) := H4
  clear H4
  have IH5 : Hid (∀ wz, Rd g a cap ns k5 wz → Calls Try.prog 23 #[.pointer (some ⟨g, 0, none⟩)] wz (RdP g a cap ns (.int .i64 v5) k6 wz)) := H5
  clear H5
  have IH6 : Hid (∀ wz, Rd g a cap ns k6 wz → Calls Try.prog 26 #[.pointer (some ⟨g, 0, none⟩)] wz (RdN g wz)) := H6
  clear H6
  clear hs hb0
  go_enter Try.func16, Try.ntmps16
  go_wp2_with fail
  generalize w.alloc (.cells #[.int .i64 0, .int .i64 0, .int .i64 0, .int .i64 0] 27) = w0 at HS0 ⊢
  refine Calls.mono (IH0.out _ HS0.out.1) ?_
  rintro e w1 ⟨rfl, hr, hg⟩
  have HS1 : Hid (Rd g a cap ns _ w1 ∧ w.grownBy w1 (some g) ∧ w1.heap[w.heap.size]? = some (.cells #[.int .i64 0, .int .i64 0, .int .i64 0, .int .i64 0] 27 (0, 0))) := ⟨hr, grw_more HS0.out.2.1 hg, (hg.block _ (Array.getElem?_eq_some_iff.1 HS0.out.2.2).1 (by simp; omega)).trans HS0.out.2.2⟩
  clear hr hg HS0
  go_wp2_with fail
  refine (want_yes _ _).mono ?_
  rintro e wq ⟨rfl, rfl⟩
  go_wp2_with fail
  refine Calls.mono (IH1.out _ HS1.out.1) ?_
  rintro e w2 ⟨rfl, hr, hg⟩
  have HS2 : Hid (Rd g a cap ns _ w2 ∧ w.grownBy w2 (some g) ∧ w2.heap[w.heap.size]? = some (.cells #[.int .i64 0, .int .i64 0, .int .i64 0, .int .i64 0] 27 (0, 0))) := ⟨hr, grw_more HS1.out.2.1 hg, (hg.block _ (Array.getElem?_eq_some_iff.1 HS1.out.2.2).1 (by simp; omega)).trans HS1.out.2.2⟩
  clear hr hg HS1
  go_wp2_with fail
  refine Calls.mono (IH2.out _ HS2.out.1) ?_
  rintro e w3 ⟨rfl, hr, hg⟩
  have HS3 : Hid (Rd g a cap ns _ w3 ∧ w.grownBy w3 (some g) ∧ w3.heap[w.heap.size]? = some (.cells #[.int .i64 0, .int .i64 0, .int .i64 0, .int .i64 0] 27 (0, 0))) := ⟨hr, grw_more HS2.out.2.1 hg, (hg.block _ (Array.getElem?_eq_some_iff.1 HS2.out.2.2).1 (by simp; omega)).trans HS2.out.2.2⟩
  clear hr hg HS2
  go_wp2_with fail
  refine Calls.mono (IH3.out _ HS3.out.1) ?_
  rintro e w4 ⟨rfl, hr, hg⟩
  have HS4 : Hid (Rd g a cap ns _ w4 ∧ w.grownBy w4 (some g) ∧ w4.heap[w.heap.size]? = some (.cells #[.int .i64 0, .int .i64 0, .int .i64 0, .int .i64 0] 27 (0, 0))) := ⟨hr, grw_more HS3.out.2.1 hg, (hg.block _ (Array.getElem?_eq_some_iff.1 HS3.out.2.2).1 (by simp; omega)).trans HS3.out.2.2⟩
  clear hr hg HS3
  go_wp2_with fail
  refine Calls.mono (IH4.out _ HS4.out.1) ?_
  rintro e w5 ⟨rfl, hr, hg⟩
  have HS5 : Hid (Rd g a cap ns _ w5 ∧ w.grownBy w5 (some g) ∧ w5.heap[w.heap.size]? = some (.cells #[.int .i64 0, .int .i64 0, .int .i64 0, .int .i64 0] 27 (0, 0))) := ⟨hr, grw_more HS4.out.2.1 hg, (hg.block _ (Array.getElem?_eq_some_iff.1 HS4.out.2.2).1 (by simp; omega)).trans HS4.out.2.2⟩
  clear hr hg HS4
  have hs5 : w.heap.size < w5.heap.size := (Array.getElem?_eq_some_iff.1 HS5.out.2.2).1
  have hb5 : Below w5.heap.size w5 (w5.alloc (.cells #[.int .i64 v1, .int .i64 v2, .int .i64 v3, .int .i64 v4] 27)) := (Below.refl _ _).alloc (Nat.le_refl _) _
  have HS6 : Hid (Rd g a cap ns k5 (w5.alloc (.cells #[.int .i64 v1, .int .i64 v2, .int .i64 v3, .int .i64 v4] 27)) ∧ w.grownBy (w5.alloc (.cells #[.int .i64 v1, .int .i64 v2, .int .i64 v3, .int .i64 v4] 27)) (some g) ∧ (w5.alloc (.cells #[.int .i64 v1, .int .i64 v2, .int .i64 v3, .int .i64 v4] 27)).heap[w.heap.size]? = some (.cells #[.int .i64 0, .int .i64 0, .int .i64 0, .int .i64 0] 27 (0, 0)) ∧ (w5.alloc (.cells #[.int .i64 v1, .int .i64 v2, .int .i64 v3, .int .i64 v4] 27)).heap[w5.heap.size]? = some (.cells #[.int .i64 v1, .int .i64 v2, .int .i64 v3, .int .i64 v4] 27 (0, 0))) := ⟨HS5.out.1.below hb5, grw_more HS5.out.2.1 (grw_below hb5), (hb5.block _ hs5).trans HS5.out.2.2, heap_alloc_new w5 _⟩
  clear HS5 hb5
  go_wp2_with fail
  generalize w5.alloc (.cells #[.int .i64 v1, .int .i64 v2, .int .i64 v3, .int .i64 v4] 27) = w6 at HS6 ⊢
  generalize w5.heap.size = B at HS6 hs5 ⊢
  have hBg : B ≠ g := by omega
  have hB6 : B < w6.heap.size := (Array.getElem?_eq_some_iff.1 HS6.out.2.2.2).1
  have c0 : w6.cell? ⟨B, 0, none⟩ = some (.int .i64 v1) := (cell_of_row _ _ 0 _ _ _ HS6.out.2.2.2).trans rfl
  have c1 : w6.cell? ⟨B, 1, none⟩ = some (.int .i64 v2) := (cell_of_row _ _ 1 _ _ _ HS6.out.2.2.2).trans rfl
  have c2 : w6.cell? ⟨B, 2, none⟩ = some (.int .i64 v3) := (cell_of_row _ _ 2 _ _ _ HS6.out.2.2.2).trans rfl
  have c3 : w6.cell? ⟨B, 3, none⟩ = some (.int .i64 v4) := (cell_of_row _ _ 3 _ _ _ HS6.out.2.2.2).trans rfl
  refine _root_.Go.wp_region_held (S := fun w' : World => w'.cell? ⟨B, 0, none⟩ = some (.int .i64 v1) ∧ w'.cell? ⟨B, 1, none⟩ = some (.int .i64 v2) ∧ w'.cell? ⟨B, 2, none⟩ = some (.int .i64 v3) ∧ w'.cell? ⟨B, 3, none⟩ = some (.int .i64 v4)) (by kernel_rfl) ?_
  have hS : (fun w' : World => w'.cell? ⟨B, 0, none⟩ = some (.int .i64 v1) ∧ w'.cell? ⟨B, 1, none⟩ = some (.int .i64 v2) ∧ w'.cell? ⟨B, 2, none⟩ = some (.int .i64 v3) ∧ w'.cell? ⟨B, 3, none⟩ = some (.int .i64 v4)) w6.drew := ⟨c0, c1, c2, c3⟩
  refine wpAnyH_take (i := 0) (v := ?_) rfl (by kernel_rfl) (by kernel_rfl) (by kernel_rfl) (fun _ _ _ h => h) (Or.inl ⟨by rfl, ?_⟩) hS ?_
  rotate_left
  · intro w hSw; obtain ⟨y0, y1, y2, y3⟩ := hSw; go_simp; try with_reducible rfl
  simp only [Act.put, List.getElem_toArray, List.getElem_cons_zero, List.setIfInBounds_toArray, List.set_cons_succ, List.set_cons_zero]
  refine wpAnyH_take (i := 1) (v := ?_) rfl (by kernel_rfl) (by kernel_rfl) (by kernel_rfl) (fun _ _ _ h => h) (Or.inl ⟨by rfl, ?_⟩) hS ?_
  rotate_left
  · intro w hSw; obtain ⟨y0, y1, y2, y3⟩ := hSw; go_simp; try with_reducible rfl
  simp only [Act.put, List.getElem_toArray, List.getElem_cons_succ, List.getElem_cons_zero, List.setIfInBounds_toArray, List.set_cons_succ, List.set_cons_zero]
  refine wpAnyH_take (i := 3) (v := ?_) rfl (by kernel_rfl) (by kernel_rfl) (by kernel_rfl) (fun _ _ _ h => h) (Or.inl ⟨by rfl, ?_⟩) hS ?_
  rotate_left
  · intro w hSw; obtain ⟨y0, y1, y2, y3⟩ := hSw; go_simp; try with_reducible rfl
  simp only [Act.put, List.getElem_toArray, List.getElem_cons_succ, List.getElem_cons_zero, List.setIfInBounds_toArray, List.set_cons_succ, List.set_cons_zero]
  refine wpAnyH_ready (rs := [2]) (by kernel_rfl) (by simp) ?_
  refine AllReadyH.cons rfl (fun K hK => ?_) AllReadyH.nil
  go_simp
  refine Calls.mono (IH5.out _ (HS6.out.1.below (Below.refl _ _).drew)) ?_
  rintro e w7 ⟨rfl, hr, hg⟩
  have hB7 : w7.heap[B]? = some (.cells #[.int .i64 v1, .int .i64 v2, .int .i64 v3, .int .i64 v4] 27 (0, 0)) := (hg.block B hB6 (by simpa using hBg)).trans HS6.out.2.2.2
  have HS7 : Hid (Rd g a cap ns k6 w7 ∧ w.grownBy w7 (some g) ∧ w7.heap[w.heap.size]? = some (.cells #[.int .i64 0, .int .i64 0, .int .i64 0, .int .i64 0] 27 (0, 0)) ∧ w7.heap[B]? = some (.cells #[.int .i64 v1, .int .i64 v2, .int .i64 v3, .int .i64 v4] 27 (0, 0))) := ⟨hr, grw_more HS6.out.2.1 ⟨hg.os, hg.tape, hg.output, hg.size, hg.block⟩, (hg.block _ (Array.getElem?_eq_some_iff.1 HS6.out.2.2.1).1 (by simp; omega)).trans HS6.out.2.2.1, hB7⟩
  refine hK.out _ _ ⟨(cell_of_row _ _ 0 _ _ _ hB7).trans rfl, (cell_of_row _ _ 1 _ _ _ hB7).trans rfl, (cell_of_row _ _ 2 _ _ _ hB7).trans rfl, (cell_of_row _ _ 3 _ _ _ hB7).trans rfl⟩ (fun hS => ?_)
  clear hK K hg hr hB7 HS6 c0 c1 c2 c3
  refine wpAnyH_ready (rs := [4]) (by kernel_rfl) (by simp) ?_
  refine AllReadyH.cons rfl (fun K hK => ?_) AllReadyH.nil
  go_simp
  refine Calls.mono (pkSumW_any v1 v2 v3 v4 w7) ?_
  rintro e w8 ⟨rfl, hb⟩
  have HS8 : Hid (Rd g a cap ns k6 w8 ∧ w.grownBy w8 (some g) ∧ w8.heap[w.heap.size]? = some (.cells #[.int .i64 0, .int .i64 0, .int .i64 0, .int .i64 0] 27 (0, 0)) ∧ w8.heap[B]? = some (.cells #[.int .i64 v1, .int .i64 v2, .int .i64 v3, .int .i64 v4] 27 (0, 0))) := ⟨HS7.out.1.below hb, grw_more HS7.out.2.1 (grw_below hb), (hb.block _ (Array.getElem?_eq_some_iff.1 HS7.out.2.2.1).1).trans HS7.out.2.2.1, (hb.block _ (Array.getElem?_eq_some_iff.1 HS7.out.2.2.2).1).trans HS7.out.2.2.2⟩
  refine hK.out _ _ ⟨(cell_of_row _ _ 0 _ _ _ HS8.out.2.2.2).trans rfl, (cell_of_row _ _ 1 _ _ _ HS8.out.2.2.2).trans rfl, (cell_of_row _ _ 2 _ _ _ HS8.out.2.2.2).trans rfl, (cell_of_row _ _ 3 _ _ _ HS8.out.2.2.2).trans rfl⟩ (fun hS => ?_)
  clear hK K hb HS7
  refine wpAnyH_take (i := 5) (v := ?_) rfl (by kernel_rfl) (by kernel_rfl) (by kernel_rfl) (fun _ _ _ h => h) (Or.inl ⟨by rfl, ?_⟩) hS ?_
  rotate_left
  · intro w hSw; obtain ⟨y0, y1, y2, y3⟩ := hSw; go_simp; try with_reducible rfl
  simp only [Act.put, List.getElem_toArray, List.getElem_cons_succ, List.getElem_cons_zero, List.setIfInBounds_toArray, List.set_cons_succ, List.set_cons_zero]
  try simp only [hz]
  refine wpAnyH_take (i := 6) (v := ?_) rfl (by kernel_rfl) (by kernel_rfl) (by kernel_rfl) (fun _ _ _ h => h) (Or.inl ⟨by rfl, ?_⟩) hS ?_
  rotate_left
  · intro w hSw; obtain ⟨y0, y1, y2, y3⟩ := hSw; go_simp; try with_reducible rfl
  simp only [Act.put, List.getElem_toArray, List.getElem_cons_succ, List.getElem_cons_zero, List.setIfInBounds_toArray, List.set_cons_succ, List.set_cons_zero]
  refine wpAnyH_take (i := 7) (v := ?_) rfl (by kernel_rfl) (by kernel_rfl) (by kernel_rfl) (fun _ _ _ h => h) (Or.inl ⟨by rfl, ?_⟩) hS ?_
  rotate_left
  · intro w hSw; obtain ⟨y0, y1, y2, y3⟩ := hSw; go_simp; try with_reducible rfl
  simp only [Act.put, List.getElem_toArray, List.getElem_cons_succ, List.getElem_cons_zero, List.setIfInBounds_toArray, List.set_cons_succ, List.set_cons_zero]
  refine wpAnyH_ready (rs := [8]) (by kernel_rfl) (by simp) ?_
  refine AllReadyH.cons rfl (fun K hK => ?_) AllReadyH.nil
  go_simp
  refine Calls.mono (implPkOk_any ⟨v1, v2, v3, v4⟩ w8 hfit) ?_
  rintro e w9 ⟨rfl, hb⟩
  have HS9 : Hid (Rd g a cap ns k6 w9 ∧ w.grownBy w9 (some g) ∧ w9.heap[w.heap.size]? = some (.cells #[.int .i64 0, .int .i64 0, .int .i64 0, .int .i64 0] 27 (0, 0)) ∧ w9.heap[B]? = some (.cells #[.int .i64 v1, .int .i64 v2, .int .i64 v3, .int .i64 v4] 27 (0, 0))) := ⟨HS8.out.1.below hb, grw_more HS8.out.2.1 (grw_below hb), (hb.block _ (Array.getElem?_eq_some_iff.1 HS8.out.2.2.1).1).trans HS8.out.2.2.1, (hb.block _ (Array.getElem?_eq_some_iff.1 HS8.out.2.2.2).1).trans HS8.out.2.2.2⟩
  refine hK.out _ _ ⟨(cell_of_row _ _ 0 _ _ _ HS9.out.2.2.2).trans rfl, (cell_of_row _ _ 1 _ _ _ HS9.out.2.2.2).trans rfl, (cell_of_row _ _ 2 _ _ _ HS9.out.2.2.2).trans rfl, (cell_of_row _ _ 3 _ _ _ HS9.out.2.2.2).trans rfl⟩ (fun hS => ?_)
  clear hK K hb HS8
  try simp only [ho]
  refine wpAnyH_take (i := 9) (v := ?_) rfl (by kernel_rfl) (by kernel_rfl) (by kernel_rfl) (fun _ _ _ h => h) (Or.inl ⟨by rfl, ?_⟩) hS ?_
  rotate_left
  · intro w hSw; obtain ⟨y0, y1, y2, y3⟩ := hSw; go_simp; try with_reducible rfl
  simp only [Act.put, List.getElem_toArray, List.getElem_cons_succ, List.getElem_cons_zero, List.setIfInBounds_toArray, List.set_cons_succ, List.set_cons_zero]
  refine wpAnyH_ready (rs := [10]) (by kernel_rfl) (by simp) ?_
  refine AllReadyH.cons rfl (fun K hK => ?_) AllReadyH.nil
  go_simp
  refine (want_yes _ _).mono ?_
  rintro e wq ⟨rfl, rfl⟩
  refine hK.out _ _ hS (fun hS => ?_)
  clear hK K hS
  refine wpAnyH_done (by kernel_rfl) ?_ _
  go_wp2_with fail
  refine Calls.mono (IH6.out _ HS9.out.1) ?_
  rintro e w10 ⟨rfl, hg⟩
  have HE : Hid (w.grownBy w10 (some g)) := grw_more HS9.out.2.1 hg
  clear hg HS9
  go_wp2
  exact ⟨rfl, rfl, HE.out⟩
set_option maxHeartbeats 1600000 in
set_option maxRecDepth 20000 in
theorem pk_ok (g : Nat) (a : Option Addr) (cap : Nat) (ns : List Nd) (k : Int) (k1 k2 k3 k4 k5 k6 v0 v1 v2 v3 v4 v5 : Int) (w : World) (hs : Rd g a cap ns k w)
    (H0 : ∀ wz, Rd g a cap ns k wz → Calls Try.prog 23 #[.pointer (some ⟨g, 0, none⟩)] wz (RdP g a cap ns (.int .i64 v0) k1 wz))
    (he : (v0 == 90) = true)
    (H1 : ∀ wz, Rd g a cap ns k1 wz → Calls Try.prog 23 #[.pointer (some ⟨g, 0, none⟩)] wz (RdP g a cap ns (.int .i64 v1) k2 wz))
    (H2 : ∀ wz, Rd g a cap ns k2 wz → Calls Try.prog 23 #[.pointer (some ⟨g, 0, none⟩)] wz (RdP g a cap ns (.int .i64 v2) k3 wz))
    (H3 : ∀ wz, Rd g a cap ns k3 wz → Calls Try.prog 23 #[.pointer (some ⟨g, 0, none⟩)] wz (RdP g a cap ns (.int .i64 v3) k4 wz))
    (H4 : ∀ wz, Rd g a cap ns k4 wz → Calls Try.prog 23 #[.pointer (some ⟨g, 0, none⟩)] wz (RdP g a cap ns (.int .i64 v4) k5 wz))
    (H5 : ∀ wz, Rd g a cap ns k5 wz → Calls Try.prog 23 #[.pointer (some ⟨g, 0, none⟩)] wz (RdP g a cap ns (.int .i64 v5) k6 wz))
    (hfit : (⟨v1, v2, v3, v4⟩ : Nd).Fits)
    (hz : (v5 == pkW v1 v2 v3 v4) = true)
    (ho : pkOk ⟨v1, v2, v3, v4⟩ = true)
    (H6 : ∀ wz, Rd g a cap ns k6 wz → Calls Try.prog 26 #[.pointer (some ⟨g, 0, none⟩)] wz (RdP g a cap ns (.tuple #[]) k6 wz)) :
    Calls Try.prog 16 #[.pointer (some ⟨g, 0, none⟩)] w (RdP g a cap ns (.agg #[.int .i64 v1, .int .i64 v2, .int .i64 v3, .int .i64 v4]) k6 w) := by
  have hb0 : Below w.heap.size w (w.alloc (.cells #[.int .i64 0, .int .i64 0, .int .i64 0, .int .i64 0] 27)) := (Below.refl _ _).alloc (Nat.le_refl _) _
  have hlt := hs.lt
  have HS0 : Hid (Rd g a cap ns k (w.alloc (.cells #[.int .i64 0, .int .i64 0, .int .i64 0, .int .i64 0] 27)) ∧ w.grownBy (w.alloc (.cells #[.int .i64 0, .int .i64 0, .int .i64 0, .int .i64 0] 27)) (some g) ∧ (w.alloc (.cells #[.int .i64 0, .int .i64 0, .int .i64 0, .int .i64 0] 27)).heap[w.heap.size]? = some (.cells #[.int .i64 0, .int .i64 0, .int .i64 0, .int .i64 0] 27 (0, 0))) := ⟨hs.below hb0, grw_below hb0, heap_alloc_new w _⟩
  have IH0 : Hid (∀ wz, Rd g a cap ns k wz → Calls Try.prog 23 #[.pointer (some ⟨g, 0, none⟩)] wz (RdP g a cap ns (.int .i64 v0) k1 wz)) := H0
  clear H0
  have IH1 : Hid (∀ wz, Rd g a cap ns k1 wz → Calls Try.prog 23 #[.pointer (some ⟨g, 0, none⟩)] wz (RdP g a cap ns (.int .i64 v1) k2 wz)) := H1
  clear H1
  have IH2 : Hid (∀ wz, Rd g a cap ns k2 wz → Calls Try.prog 23 #[.pointer (some ⟨g, 0, none⟩)] wz (RdP g a cap ns (.int .i64 v2) k3 wz)) := H2
  clear H2
  have IH3 : Hid (∀ wz, Rd g a cap ns k3 wz → Calls Try.prog 23 #[.pointer (some ⟨g, 0, none⟩)] wz (RdP g a cap ns (.int .i64 v3) k4 wz)) := H3
  clear H3
  have IH4 : Hid (∀ wz, Rd g a cap ns k4 wz → Calls Try.prog 23 #[.pointer (some ⟨g, 0, none⟩)] wz (RdP g a cap ns (.int .i64 v4) k5 wz)) := H4
  clear H4
  have IH5 : Hid (∀ wz, Rd g a cap ns k5 wz → Calls Try.prog 23 #[.pointer (some ⟨g, 0, none⟩)] wz (RdP g a cap ns (.int .i64 v5) k6 wz)) := H5
  clear H5
  have IH6 : Hid (∀ wz, Rd g a cap ns k6 wz → Calls Try.prog 26 #[.pointer (some ⟨g, 0, none⟩)] wz (RdP g a cap ns (.tuple #[]) k6 wz)) := H6
  clear H6
  clear hs hb0
  go_enter Try.func16, Try.ntmps16
  go_wp2_with fail
  generalize w.alloc (.cells #[.int .i64 0, .int .i64 0, .int .i64 0, .int .i64 0] 27) = w0 at HS0 ⊢
  refine Calls.mono (IH0.out _ HS0.out.1) ?_
  rintro e w1 ⟨rfl, hr, hg⟩
  have HS1 : Hid (Rd g a cap ns _ w1 ∧ w.grownBy w1 (some g) ∧ w1.heap[w.heap.size]? = some (.cells #[.int .i64 0, .int .i64 0, .int .i64 0, .int .i64 0] 27 (0, 0))) := ⟨hr, grw_more HS0.out.2.1 hg, (hg.block _ (Array.getElem?_eq_some_iff.1 HS0.out.2.2).1 (by simp; omega)).trans HS0.out.2.2⟩
  clear hr hg HS0
  go_wp2_with fail
  refine (want_yes _ _).mono ?_
  rintro e wq ⟨rfl, rfl⟩
  go_wp2_with fail
  refine Calls.mono (IH1.out _ HS1.out.1) ?_
  rintro e w2 ⟨rfl, hr, hg⟩
  have HS2 : Hid (Rd g a cap ns _ w2 ∧ w.grownBy w2 (some g) ∧ w2.heap[w.heap.size]? = some (.cells #[.int .i64 0, .int .i64 0, .int .i64 0, .int .i64 0] 27 (0, 0))) := ⟨hr, grw_more HS1.out.2.1 hg, (hg.block _ (Array.getElem?_eq_some_iff.1 HS1.out.2.2).1 (by simp; omega)).trans HS1.out.2.2⟩
  clear hr hg HS1
  go_wp2_with fail
  refine Calls.mono (IH2.out _ HS2.out.1) ?_
  rintro e w3 ⟨rfl, hr, hg⟩
  have HS3 : Hid (Rd g a cap ns _ w3 ∧ w.grownBy w3 (some g) ∧ w3.heap[w.heap.size]? = some (.cells #[.int .i64 0, .int .i64 0, .int .i64 0, .int .i64 0] 27 (0, 0))) := ⟨hr, grw_more HS2.out.2.1 hg, (hg.block _ (Array.getElem?_eq_some_iff.1 HS2.out.2.2).1 (by simp; omega)).trans HS2.out.2.2⟩
  clear hr hg HS2
  go_wp2_with fail
  refine Calls.mono (IH3.out _ HS3.out.1) ?_
  rintro e w4 ⟨rfl, hr, hg⟩
  have HS4 : Hid (Rd g a cap ns _ w4 ∧ w.grownBy w4 (some g) ∧ w4.heap[w.heap.size]? = some (.cells #[.int .i64 0, .int .i64 0, .int .i64 0, .int .i64 0] 27 (0, 0))) := ⟨hr, grw_more HS3.out.2.1 hg, (hg.block _ (Array.getElem?_eq_some_iff.1 HS3.out.2.2).1 (by simp; omega)).trans HS3.out.2.2⟩
  clear hr hg HS3
  go_wp2_with fail
  refine Calls.mono (IH4.out _ HS4.out.1) ?_
  rintro e w5 ⟨rfl, hr, hg⟩
  have HS5 : Hid (Rd g a cap ns _ w5 ∧ w.grownBy w5 (some g) ∧ w5.heap[w.heap.size]? = some (.cells #[.int .i64 0, .int .i64 0, .int .i64 0, .int .i64 0] 27 (0, 0))) := ⟨hr, grw_more HS4.out.2.1 hg, (hg.block _ (Array.getElem?_eq_some_iff.1 HS4.out.2.2).1 (by simp; omega)).trans HS4.out.2.2⟩
  clear hr hg HS4
  have hs5 : w.heap.size < w5.heap.size := (Array.getElem?_eq_some_iff.1 HS5.out.2.2).1
  have hb5 : Below w5.heap.size w5 (w5.alloc (.cells #[.int .i64 v1, .int .i64 v2, .int .i64 v3, .int .i64 v4] 27)) := (Below.refl _ _).alloc (Nat.le_refl _) _
  have HS6 : Hid (Rd g a cap ns k5 (w5.alloc (.cells #[.int .i64 v1, .int .i64 v2, .int .i64 v3, .int .i64 v4] 27)) ∧ w.grownBy (w5.alloc (.cells #[.int .i64 v1, .int .i64 v2, .int .i64 v3, .int .i64 v4] 27)) (some g) ∧ (w5.alloc (.cells #[.int .i64 v1, .int .i64 v2, .int .i64 v3, .int .i64 v4] 27)).heap[w.heap.size]? = some (.cells #[.int .i64 0, .int .i64 0, .int .i64 0, .int .i64 0] 27 (0, 0)) ∧ (w5.alloc (.cells #[.int .i64 v1, .int .i64 v2, .int .i64 v3, .int .i64 v4] 27)).heap[w5.heap.size]? = some (.cells #[.int .i64 v1, .int .i64 v2, .int .i64 v3, .int .i64 v4] 27 (0, 0))) := ⟨HS5.out.1.below hb5, grw_more HS5.out.2.1 (grw_below hb5), (hb5.block _ hs5).trans HS5.out.2.2, heap_alloc_new w5 _⟩
  clear HS5 hb5
  go_wp2_with fail
  generalize w5.alloc (.cells #[.int .i64 v1, .int .i64 v2, .int .i64 v3, .int .i64 v4] 27) = w6 at HS6 ⊢
  generalize w5.heap.size = B at HS6 hs5 ⊢
  have hBg : B ≠ g := by omega
  have hB6 : B < w6.heap.size := (Array.getElem?_eq_some_iff.1 HS6.out.2.2.2).1
  have c0 : w6.cell? ⟨B, 0, none⟩ = some (.int .i64 v1) := (cell_of_row _ _ 0 _ _ _ HS6.out.2.2.2).trans rfl
  have c1 : w6.cell? ⟨B, 1, none⟩ = some (.int .i64 v2) := (cell_of_row _ _ 1 _ _ _ HS6.out.2.2.2).trans rfl
  have c2 : w6.cell? ⟨B, 2, none⟩ = some (.int .i64 v3) := (cell_of_row _ _ 2 _ _ _ HS6.out.2.2.2).trans rfl
  have c3 : w6.cell? ⟨B, 3, none⟩ = some (.int .i64 v4) := (cell_of_row _ _ 3 _ _ _ HS6.out.2.2.2).trans rfl
  refine _root_.Go.wp_region_held (S := fun w' : World => w'.cell? ⟨B, 0, none⟩ = some (.int .i64 v1) ∧ w'.cell? ⟨B, 1, none⟩ = some (.int .i64 v2) ∧ w'.cell? ⟨B, 2, none⟩ = some (.int .i64 v3) ∧ w'.cell? ⟨B, 3, none⟩ = some (.int .i64 v4)) (by kernel_rfl) ?_
  have hS : (fun w' : World => w'.cell? ⟨B, 0, none⟩ = some (.int .i64 v1) ∧ w'.cell? ⟨B, 1, none⟩ = some (.int .i64 v2) ∧ w'.cell? ⟨B, 2, none⟩ = some (.int .i64 v3) ∧ w'.cell? ⟨B, 3, none⟩ = some (.int .i64 v4)) w6.drew := ⟨c0, c1, c2, c3⟩
  refine wpAnyH_take (i := 0) (v := ?_) rfl (by kernel_rfl) (by kernel_rfl) (by kernel_rfl) (fun _ _ _ h => h) (Or.inl ⟨by rfl, ?_⟩) hS ?_
  rotate_left
  · intro w hSw; obtain ⟨y0, y1, y2, y3⟩ := hSw; go_simp; try with_reducible rfl
  simp only [Act.put, List.getElem_toArray, List.getElem_cons_zero, List.setIfInBounds_toArray, List.set_cons_succ, List.set_cons_zero]
  refine wpAnyH_take (i := 1) (v := ?_) rfl (by kernel_rfl) (by kernel_rfl) (by kernel_rfl) (fun _ _ _ h => h) (Or.inl ⟨by rfl, ?_⟩) hS ?_
  rotate_left
  · intro w hSw; obtain ⟨y0, y1, y2, y3⟩ := hSw; go_simp; try with_reducible rfl
  simp only [Act.put, List.getElem_toArray, List.getElem_cons_succ, List.getElem_cons_zero, List.setIfInBounds_toArray, List.set_cons_succ, List.set_cons_zero]
  refine wpAnyH_take (i := 3) (v := ?_) rfl (by kernel_rfl) (by kernel_rfl) (by kernel_rfl) (fun _ _ _ h => h) (Or.inl ⟨by rfl, ?_⟩) hS ?_
  rotate_left
  · intro w hSw; obtain ⟨y0, y1, y2, y3⟩ := hSw; go_simp; try with_reducible rfl
  simp only [Act.put, List.getElem_toArray, List.getElem_cons_succ, List.getElem_cons_zero, List.setIfInBounds_toArray, List.set_cons_succ, List.set_cons_zero]
  refine wpAnyH_ready (rs := [2]) (by kernel_rfl) (by simp) ?_
  refine AllReadyH.cons rfl (fun K hK => ?_) AllReadyH.nil
  go_simp
  refine Calls.mono (IH5.out _ (HS6.out.1.below (Below.refl _ _).drew)) ?_
  rintro e w7 ⟨rfl, hr, hg⟩
  have hB7 : w7.heap[B]? = some (.cells #[.int .i64 v1, .int .i64 v2, .int .i64 v3, .int .i64 v4] 27 (0, 0)) := (hg.block B hB6 (by simpa using hBg)).trans HS6.out.2.2.2
  have HS7 : Hid (Rd g a cap ns k6 w7 ∧ w.grownBy w7 (some g) ∧ w7.heap[w.heap.size]? = some (.cells #[.int .i64 0, .int .i64 0, .int .i64 0, .int .i64 0] 27 (0, 0)) ∧ w7.heap[B]? = some (.cells #[.int .i64 v1, .int .i64 v2, .int .i64 v3, .int .i64 v4] 27 (0, 0))) := ⟨hr, grw_more HS6.out.2.1 ⟨hg.os, hg.tape, hg.output, hg.size, hg.block⟩, (hg.block _ (Array.getElem?_eq_some_iff.1 HS6.out.2.2.1).1 (by simp; omega)).trans HS6.out.2.2.1, hB7⟩
  refine hK.out _ _ ⟨(cell_of_row _ _ 0 _ _ _ hB7).trans rfl, (cell_of_row _ _ 1 _ _ _ hB7).trans rfl, (cell_of_row _ _ 2 _ _ _ hB7).trans rfl, (cell_of_row _ _ 3 _ _ _ hB7).trans rfl⟩ (fun hS => ?_)
  clear hK K hg hr hB7 HS6 c0 c1 c2 c3
  refine wpAnyH_ready (rs := [4]) (by kernel_rfl) (by simp) ?_
  refine AllReadyH.cons rfl (fun K hK => ?_) AllReadyH.nil
  go_simp
  refine Calls.mono (pkSumW_any v1 v2 v3 v4 w7) ?_
  rintro e w8 ⟨rfl, hb⟩
  have HS8 : Hid (Rd g a cap ns k6 w8 ∧ w.grownBy w8 (some g) ∧ w8.heap[w.heap.size]? = some (.cells #[.int .i64 0, .int .i64 0, .int .i64 0, .int .i64 0] 27 (0, 0)) ∧ w8.heap[B]? = some (.cells #[.int .i64 v1, .int .i64 v2, .int .i64 v3, .int .i64 v4] 27 (0, 0))) := ⟨HS7.out.1.below hb, grw_more HS7.out.2.1 (grw_below hb), (hb.block _ (Array.getElem?_eq_some_iff.1 HS7.out.2.2.1).1).trans HS7.out.2.2.1, (hb.block _ (Array.getElem?_eq_some_iff.1 HS7.out.2.2.2).1).trans HS7.out.2.2.2⟩
  refine hK.out _ _ ⟨(cell_of_row _ _ 0 _ _ _ HS8.out.2.2.2).trans rfl, (cell_of_row _ _ 1 _ _ _ HS8.out.2.2.2).trans rfl, (cell_of_row _ _ 2 _ _ _ HS8.out.2.2.2).trans rfl, (cell_of_row _ _ 3 _ _ _ HS8.out.2.2.2).trans rfl⟩ (fun hS => ?_)
  clear hK K hb HS7
  refine wpAnyH_take (i := 5) (v := ?_) rfl (by kernel_rfl) (by kernel_rfl) (by kernel_rfl) (fun _ _ _ h => h) (Or.inl ⟨by rfl, ?_⟩) hS ?_
  rotate_left
  · intro w hSw; obtain ⟨y0, y1, y2, y3⟩ := hSw; go_simp; try with_reducible rfl
  simp only [Act.put, List.getElem_toArray, List.getElem_cons_succ, List.getElem_cons_zero, List.setIfInBounds_toArray, List.set_cons_succ, List.set_cons_zero]
  try simp only [hz]
  refine wpAnyH_take (i := 6) (v := ?_) rfl (by kernel_rfl) (by kernel_rfl) (by kernel_rfl) (fun _ _ _ h => h) (Or.inl ⟨by rfl, ?_⟩) hS ?_
  rotate_left
  · intro w hSw; obtain ⟨y0, y1, y2, y3⟩ := hSw; go_simp; try with_reducible rfl
  simp only [Act.put, List.getElem_toArray, List.getElem_cons_succ, List.getElem_cons_zero, List.setIfInBounds_toArray, List.set_cons_succ, List.set_cons_zero]
  refine wpAnyH_take (i := 7) (v := ?_) rfl (by kernel_rfl) (by kernel_rfl) (by kernel_rfl) (fun _ _ _ h => h) (Or.inl ⟨by rfl, ?_⟩) hS ?_
  rotate_left
  · intro w hSw; obtain ⟨y0, y1, y2, y3⟩ := hSw; go_simp; try with_reducible rfl
  simp only [Act.put, List.getElem_toArray, List.getElem_cons_succ, List.getElem_cons_zero, List.setIfInBounds_toArray, List.set_cons_succ, List.set_cons_zero]
  refine wpAnyH_ready (rs := [8]) (by kernel_rfl) (by simp) ?_
  refine AllReadyH.cons rfl (fun K hK => ?_) AllReadyH.nil
  go_simp
  refine Calls.mono (implPkOk_any ⟨v1, v2, v3, v4⟩ w8 hfit) ?_
  rintro e w9 ⟨rfl, hb⟩
  have HS9 : Hid (Rd g a cap ns k6 w9 ∧ w.grownBy w9 (some g) ∧ w9.heap[w.heap.size]? = some (.cells #[.int .i64 0, .int .i64 0, .int .i64 0, .int .i64 0] 27 (0, 0)) ∧ w9.heap[B]? = some (.cells #[.int .i64 v1, .int .i64 v2, .int .i64 v3, .int .i64 v4] 27 (0, 0))) := ⟨HS8.out.1.below hb, grw_more HS8.out.2.1 (grw_below hb), (hb.block _ (Array.getElem?_eq_some_iff.1 HS8.out.2.2.1).1).trans HS8.out.2.2.1, (hb.block _ (Array.getElem?_eq_some_iff.1 HS8.out.2.2.2).1).trans HS8.out.2.2.2⟩
  refine hK.out _ _ ⟨(cell_of_row _ _ 0 _ _ _ HS9.out.2.2.2).trans rfl, (cell_of_row _ _ 1 _ _ _ HS9.out.2.2.2).trans rfl, (cell_of_row _ _ 2 _ _ _ HS9.out.2.2.2).trans rfl, (cell_of_row _ _ 3 _ _ _ HS9.out.2.2.2).trans rfl⟩ (fun hS => ?_)
  clear hK K hb HS8
  try simp only [ho]
  refine wpAnyH_take (i := 9) (v := ?_) rfl (by kernel_rfl) (by kernel_rfl) (by kernel_rfl) (fun _ _ _ h => h) (Or.inl ⟨by rfl, ?_⟩) hS ?_
  rotate_left
  · intro w hSw; obtain ⟨y0, y1, y2, y3⟩ := hSw; go_simp; try with_reducible rfl
  simp only [Act.put, List.getElem_toArray, List.getElem_cons_succ, List.getElem_cons_zero, List.setIfInBounds_toArray, List.set_cons_succ, List.set_cons_zero]
  refine wpAnyH_ready (rs := [10]) (by kernel_rfl) (by simp) ?_
  refine AllReadyH.cons rfl (fun K hK => ?_) AllReadyH.nil
  go_simp
  refine (want_yes _ _).mono ?_
  rintro e wq ⟨rfl, rfl⟩
  refine hK.out _ _ hS (fun hS => ?_)
  clear hK K hS
  refine wpAnyH_done (by kernel_rfl) ?_ _
  go_wp2_with fail
  refine Calls.mono (IH6.out _ HS9.out.1) ?_
  rintro e w10 ⟨rfl, hr, hg⟩
  have hz10 := (hg.block _ (Array.getElem?_eq_some_iff.1 HS9.out.2.2.1).1 (by simp; omega)).trans HS9.out.2.2.1
  have hB10 := (hg.block _ (Array.getElem?_eq_some_iff.1 HS9.out.2.2.2).1 (by simpa using hBg)).trans HS9.out.2.2.2
  have hG10 : w.grownBy w10 (some g) := grw_more HS9.out.2.1 hg
  have e0 : w10.cell? ⟨w.heap.size, 0, none⟩ = some (.int .i64 0) := (cell_of_row _ _ 0 _ _ _ hz10).trans rfl
  have f0 : w10.frozen? ⟨w.heap.size, 0, none⟩ = false := frozen_of_row _ _ 0 _ _ hz10
  have b0 : w10.cell? ⟨B, 0, none⟩ = some (.int .i64 v1) := (cell_of_row _ _ 0 _ _ _ hB10).trans rfl
  have e1 : w10.cell? ⟨w.heap.size, 1, none⟩ = some (.int .i64 0) := (cell_of_row _ _ 1 _ _ _ hz10).trans rfl
  have f1 : w10.frozen? ⟨w.heap.size, 1, none⟩ = false := frozen_of_row _ _ 1 _ _ hz10
  have b1 : w10.cell? ⟨B, 1, none⟩ = some (.int .i64 v2) := (cell_of_row _ _ 1 _ _ _ hB10).trans rfl
  have e2 : w10.cell? ⟨w.heap.size, 2, none⟩ = some (.int .i64 0) := (cell_of_row _ _ 2 _ _ _ hz10).trans rfl
  have f2 : w10.frozen? ⟨w.heap.size, 2, none⟩ = false := frozen_of_row _ _ 2 _ _ hz10
  have b2 : w10.cell? ⟨B, 2, none⟩ = some (.int .i64 v3) := (cell_of_row _ _ 2 _ _ _ hB10).trans rfl
  have e3 : w10.cell? ⟨w.heap.size, 3, none⟩ = some (.int .i64 0) := (cell_of_row _ _ 3 _ _ _ hz10).trans rfl
  have f3 : w10.frozen? ⟨w.heap.size, 3, none⟩ = false := frozen_of_row _ _ 3 _ _ hz10
  have b3 : w10.cell? ⟨B, 3, none⟩ = some (.int .i64 v4) := (cell_of_row _ _ 3 _ _ _ hB10).trans rfl
  have HF : Hid _ := fin4p hr hG10 hlt hz10 (.int .i64 v1) (.int .i64 v2) (.int .i64 v3) (.int .i64 v4)
  clear HS9 hr hg hz10 hB10 hG10
  go_wp2
  refine bodyPost_ret (results_cell_row rfl _ _ w.heap.size 27 #[.int .i64 v1, .int .i64 v2, .int .i64 v3, .int .i64 v4] (0, 0) _ rfl ?_ Try.underlying27 rfl pkSize16) rfl ?_
  · exact HF.out.1
  · exact ⟨rfl, HF.out.2.1, HF.out.2.2⟩
end Go.Proofs.Ytagjdhiicpglaaa
