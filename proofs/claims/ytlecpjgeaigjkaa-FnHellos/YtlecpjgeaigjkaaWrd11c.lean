/- Chapter 11's reader of words (the program's): the server's words and the client's, read. -/
import Derived.Test.YtlecpjgeaigjkaaWrd11b
namespace Go.Proofs.Ytlecpjgeaigjkaa
open Go.RowKit
set_option linter.unusedVariables false
theorem svSize11 : (Try.prog.info? 80).map (·.size) = some 2 := by kernel_rfl
theorem hlSize11 : (Try.prog.info? 34).map (·.size) = some 4 := by kernel_rfl
theorem fin2 {g : Nat} {a : Option Addr} {cap : Nat} {ns : List Nd} {k : Int} {w w5 : World} (hr : Rd g a cap ns k w5) (hg : w.grownBy w5 (some g)) (hlt : g < w.heap.size) (hz : w5.heap[w.heap.size]? = some (.cells #[.int .i64 0, .int .i64 0] 80 (0, 0))) (v0 v1 : Value) :
    ((w5.setCell ⟨w.heap.size, 0, none⟩ v0).setCell ⟨w.heap.size, 1, none⟩ v1).heap[w.heap.size]? = some (.cells #[v0, v1] 80 (0, 0)) ∧ Rd g a cap ns k ((w5.setCell ⟨w.heap.size, 0, none⟩ v0).setCell ⟨w.heap.size, 1, none⟩ v1) ∧ w.grownBy ((w5.setCell ⟨w.heap.size, 0, none⟩ v0).setCell ⟨w.heap.size, 1, none⟩ v1) (some g) := by
  have a0 := heap_setCell_same w5 w.heap.size 0 _ _ v0 hz
  have a1 := heap_setCell_same (w5.setCell ⟨w.heap.size, 0, none⟩ v0) w.heap.size 1 _ _ v1 a0
  have hk : ∀ k, k ≠ w.heap.size → ((w5.setCell ⟨w.heap.size, 0, none⟩ v0).setCell ⟨w.heap.size, 1, none⟩ v1).heap[k]? = w5.heap[k]? := fun k hk => (Below.heap_setCell _ _ _ _ hk).trans (Below.heap_setCell _ _ _ _ hk)
  have hB : Below w.heap.size w5 ((w5.setCell ⟨w.heap.size, 0, none⟩ v0).setCell ⟨w.heap.size, 1, none⟩ v1) := ((Below.refl _ w5).setCell (show w.heap.size ≤ (⟨w.heap.size, 0, none⟩ : Addr).block from Nat.le_refl _) _).setCell (show w.heap.size ≤ (⟨w.heap.size, 1, none⟩ : Addr).block from Nat.le_refl _) _
  refine ⟨a1.trans rfl, ⟨(hk g (by omega)).trans hr.1, hr.2.later (hB.mono (by omega))⟩, hB.os.trans hg.os, hB.tape.trans hg.tape, hB.output.trans hg.output, Nat.le_trans hg.size (by simp), fun k hk1 hk2 => (hk k (by omega)).trans (hg.block k hk1 hk2)⟩
theorem fin4 {g : Nat} {a : Option Addr} {cap : Nat} {ns : List Nd} {k : Int} {w w5 : World} (hr : Rd g a cap ns k w5) (hg : w.grownBy w5 (some g)) (hlt : g < w.heap.size) (hz : w5.heap[w.heap.size]? = some (.cells #[.int .i64 0, .int .i64 0, .int .i64 0, .int .i64 0] 34 (0, 0))) (v0 v1 v2 v3 : Value) :
    ((((w5.setCell ⟨w.heap.size, 0, none⟩ v0).setCell ⟨w.heap.size, 1, none⟩ v1).setCell ⟨w.heap.size, 2, none⟩ v2).setCell ⟨w.heap.size, 3, none⟩ v3).heap[w.heap.size]? = some (.cells #[v0, v1, v2, v3] 34 (0, 0)) ∧ Rd g a cap ns k ((((w5.setCell ⟨w.heap.size, 0, none⟩ v0).setCell ⟨w.heap.size, 1, none⟩ v1).setCell ⟨w.heap.size, 2, none⟩ v2).setCell ⟨w.heap.size, 3, none⟩ v3) ∧ w.grownBy ((((w5.setCell ⟨w.heap.size, 0, none⟩ v0).setCell ⟨w.heap.size, 1, none⟩ v1).setCell ⟨w.heap.size, 2, none⟩ v2).setCell ⟨w.heap.size, 3, none⟩ v3) (some g) := by
  have a0 := heap_setCell_same w5 w.heap.size 0 _ _ v0 hz
  have a1 := heap_setCell_same (w5.setCell ⟨w.heap.size, 0, none⟩ v0) w.heap.size 1 _ _ v1 a0
  have a2 := heap_setCell_same ((w5.setCell ⟨w.heap.size, 0, none⟩ v0).setCell ⟨w.heap.size, 1, none⟩ v1) w.heap.size 2 _ _ v2 a1
  have a3 := heap_setCell_same (((w5.setCell ⟨w.heap.size, 0, none⟩ v0).setCell ⟨w.heap.size, 1, none⟩ v1).setCell ⟨w.heap.size, 2, none⟩ v2) w.heap.size 3 _ _ v3 a2
  have hk : ∀ k, k ≠ w.heap.size → ((((w5.setCell ⟨w.heap.size, 0, none⟩ v0).setCell ⟨w.heap.size, 1, none⟩ v1).setCell ⟨w.heap.size, 2, none⟩ v2).setCell ⟨w.heap.size, 3, none⟩ v3).heap[k]? = w5.heap[k]? := fun k hk => (Below.heap_setCell _ _ _ _ hk).trans ((Below.heap_setCell _ _ _ _ hk).trans ((Below.heap_setCell _ _ _ _ hk).trans (Below.heap_setCell _ _ _ _ hk)))
  have hB : Below w.heap.size w5 ((((w5.setCell ⟨w.heap.size, 0, none⟩ v0).setCell ⟨w.heap.size, 1, none⟩ v1).setCell ⟨w.heap.size, 2, none⟩ v2).setCell ⟨w.heap.size, 3, none⟩ v3) := ((((Below.refl _ w5).setCell (show w.heap.size ≤ (⟨w.heap.size, 0, none⟩ : Addr).block from Nat.le_refl _) _).setCell (show w.heap.size ≤ (⟨w.heap.size, 1, none⟩ : Addr).block from Nat.le_refl _) _).setCell (show w.heap.size ≤ (⟨w.heap.size, 2, none⟩ : Addr).block from Nat.le_refl _) _).setCell (show w.heap.size ≤ (⟨w.heap.size, 3, none⟩ : Addr).block from Nat.le_refl _) _
  refine ⟨a3.trans rfl, ⟨(hk g (by omega)).trans hr.1, hr.2.later (hB.mono (by omega))⟩, hB.os.trans hg.os, hB.tape.trans hg.tape, hB.output.trans hg.output, Nat.le_trans hg.size (by simp), fun k hk1 hk2 => (hk k (by omega)).trans (hg.block k hk1 hk2)⟩
set_option maxHeartbeats 1600000 in
set_option maxRecDepth 20000 in
theorem sv_ok (g : Nat) (a : Option Addr) (cap : Nat) (ns : List Nd) (k : Int) (k1 k2 k3 v0 x1 x2 : Int) (w : World) (hs : Rd g a cap ns k w)
    (H0 : ∀ wz, Rd g a cap ns k wz → Calls Try.prog 93 #[.pointer (some ⟨g, 0, none⟩)] wz (RdP g a cap ns (.int .i64 v0) k1 wz))
    (he : (v0 == 62) = true)
    (H1 : ∀ wz, Rd g a cap ns k1 wz → Calls Try.prog 96 #[.pointer (some ⟨g, 0, none⟩)] wz (RdP g a cap ns (.int .i64 x1) k2 wz))
    (H2 : ∀ wz, Rd g a cap ns k2 wz → Calls Try.prog 97 #[.pointer (some ⟨g, 0, none⟩)] wz (RdP g a cap ns (.int .i64 x2) k3 wz))
    (H3 : ∀ wz, Rd g a cap ns k3 wz → Calls Try.prog 98 #[.pointer (some ⟨g, 0, none⟩)] wz (RdP g a cap ns (.tuple #[]) k3 wz)) :
    Calls Try.prog 67 #[.pointer (some ⟨g, 0, none⟩)] w (RdP g a cap ns (.agg #[.int .i64 x1, .int .i64 x2]) k3 w) := by
  have hb0 : Below w.heap.size w (w.alloc (.cells #[.int .i64 0, .int .i64 0] 80)) := (Below.refl _ _).alloc (Nat.le_refl _) _
  have hlt := hs.lt
  have HS0 : Hid (Rd g a cap ns k (w.alloc (.cells #[.int .i64 0, .int .i64 0] 80)) ∧ w.grownBy (w.alloc (.cells #[.int .i64 0, .int .i64 0] 80)) (some g) ∧ (w.alloc (.cells #[.int .i64 0, .int .i64 0] 80)).heap[w.heap.size]? = some (.cells #[.int .i64 0, .int .i64 0] 80 (0, 0))) := ⟨hs.below hb0, grw_below hb0, heap_alloc_new w _⟩
  have IH0 : Hid (∀ wz, Rd g a cap ns k wz → Calls Try.prog 93 #[.pointer (some ⟨g, 0, none⟩)] wz (RdP g a cap ns (.int .i64 v0) k1 wz)) := H0
  clear H0
  have IH1 : Hid (∀ wz, Rd g a cap ns k1 wz → Calls Try.prog 96 #[.pointer (some ⟨g, 0, none⟩)] wz (RdP g a cap ns (.int .i64 x1) k2 wz)) := H1
  clear H1
  have IH2 : Hid (∀ wz, Rd g a cap ns k2 wz → Calls Try.prog 97 #[.pointer (some ⟨g, 0, none⟩)] wz (RdP g a cap ns (.int .i64 x2) k3 wz)) := H2
  clear H2
  have IH3 : Hid (∀ wz, Rd g a cap ns k3 wz → Calls Try.prog 98 #[.pointer (some ⟨g, 0, none⟩)] wz (RdP g a cap ns (.tuple #[]) k3 wz)) := H3
  clear H3
  clear hs hb0
  go_enter Try.func67, Try.ntmps67
  go_wp2_with fail
  generalize w.alloc (.cells #[.int .i64 0, .int .i64 0] 80) = w0 at HS0 ⊢
  refine Calls.mono (IH0.out _ HS0.out.1) ?_
  rintro e w1 ⟨rfl, hr, hg⟩
  have HS1 : Hid (Rd g a cap ns _ w1 ∧ w.grownBy w1 (some g) ∧ w1.heap[w.heap.size]? = some (.cells #[.int .i64 0, .int .i64 0] 80 (0, 0))) := ⟨hr, grw_more HS0.out.2.1 hg, (hg.block _ (Array.getElem?_eq_some_iff.1 HS0.out.2.2).1 (by simp; omega)).trans HS0.out.2.2⟩
  clear hr hg HS0
  go_wp2_with fail
  refine (want_yes _ _).mono ?_
  rintro e wq ⟨rfl, rfl⟩
  go_wp2_with fail
  refine Calls.mono (IH1.out _ HS1.out.1) ?_
  rintro e w2 ⟨rfl, hr, hg⟩
  have HS2 : Hid (Rd g a cap ns _ w2 ∧ w.grownBy w2 (some g) ∧ w2.heap[w.heap.size]? = some (.cells #[.int .i64 0, .int .i64 0] 80 (0, 0))) := ⟨hr, grw_more HS1.out.2.1 hg, (hg.block _ (Array.getElem?_eq_some_iff.1 HS1.out.2.2).1 (by simp; omega)).trans HS1.out.2.2⟩
  clear hr hg HS1
  go_wp2_with fail
  refine Calls.mono (IH2.out _ HS2.out.1) ?_
  rintro e w3 ⟨rfl, hr, hg⟩
  have HS3 : Hid (Rd g a cap ns _ w3 ∧ w.grownBy w3 (some g) ∧ w3.heap[w.heap.size]? = some (.cells #[.int .i64 0, .int .i64 0] 80 (0, 0))) := ⟨hr, grw_more HS2.out.2.1 hg, (hg.block _ (Array.getElem?_eq_some_iff.1 HS2.out.2.2).1 (by simp; omega)).trans HS2.out.2.2⟩
  clear hr hg HS2
  go_wp2_with fail
  refine Calls.mono (IH3.out _ HS3.out.1) ?_
  rintro e w4 ⟨rfl, hr, hg⟩
  have HS4 : Hid (Rd g a cap ns _ w4 ∧ w.grownBy w4 (some g) ∧ w4.heap[w.heap.size]? = some (.cells #[.int .i64 0, .int .i64 0] 80 (0, 0))) := ⟨hr, grw_more HS3.out.2.1 hg, (hg.block _ (Array.getElem?_eq_some_iff.1 HS3.out.2.2).1 (by simp; omega)).trans HS3.out.2.2⟩
  clear hr hg HS3
  have e0 : w4.cell? ⟨w.heap.size, 0, none⟩ = some (.int .i64 0) := (cell_of_row _ _ 0 _ _ _ HS4.out.2.2).trans rfl
  have e1 : w4.cell? ⟨w.heap.size, 1, none⟩ = some (.int .i64 0) := (cell_of_row _ _ 1 _ _ _ HS4.out.2.2).trans rfl
  have f0 : w4.frozen? ⟨w.heap.size, 0, none⟩ = false := frozen_of_row _ _ 0 _ _ HS4.out.2.2
  have f1 : w4.frozen? ⟨w.heap.size, 1, none⟩ = false := frozen_of_row _ _ 1 _ _ HS4.out.2.2
  have HF : Hid _ := fin2 HS4.out.1 HS4.out.2.1 hlt HS4.out.2.2 (.int .i64 x1) (.int .i64 x2)
  clear HS4
  go_wp2
  refine bodyPost_ret (results_cell_row rfl _ _ w.heap.size 80 #[.int .i64 x1, .int .i64 x2] (0, 0) _ rfl ?_ Try.underlying80 rfl svSize11) rfl ?_
  · exact HF.out.1
  · exact ⟨rfl, HF.out.2.1, HF.out.2.2⟩
set_option maxHeartbeats 1600000 in
set_option maxRecDepth 20000 in
theorem sv_f0 (g : Nat) (a : Option Addr) (cap : Nat) (ns : List Nd) (k : Int) (k1 k2 k3 v0 x1 x2 : Int) (w : World) (hs : Rd g a cap ns k w)
    (H0 : ∀ wz, Rd g a cap ns k wz → Calls Try.prog 93 #[.pointer (some ⟨g, 0, none⟩)] wz (RdN g wz)) :
    Calls Try.prog 67 #[.pointer (some ⟨g, 0, none⟩)] w (RdN g w) := by
  have hb0 : Below w.heap.size w (w.alloc (.cells #[.int .i64 0, .int .i64 0] 80)) := (Below.refl _ _).alloc (Nat.le_refl _) _
  have hlt := hs.lt
  have HS0 : Hid (Rd g a cap ns k (w.alloc (.cells #[.int .i64 0, .int .i64 0] 80)) ∧ w.grownBy (w.alloc (.cells #[.int .i64 0, .int .i64 0] 80)) (some g) ∧ (w.alloc (.cells #[.int .i64 0, .int .i64 0] 80)).heap[w.heap.size]? = some (.cells #[.int .i64 0, .int .i64 0] 80 (0, 0))) := ⟨hs.below hb0, grw_below hb0, heap_alloc_new w _⟩
  have IH0 : Hid (∀ wz, Rd g a cap ns k wz → Calls Try.prog 93 #[.pointer (some ⟨g, 0, none⟩)] wz (RdN g wz)) := H0
  clear H0
  clear hs hb0
  go_enter Try.func67, Try.ntmps67
  go_wp2_with fail
  generalize w.alloc (.cells #[.int .i64 0, .int .i64 0] 80) = w0 at HS0 ⊢
  refine Calls.mono (IH0.out _ HS0.out.1) ?_
  rintro e w1 ⟨rfl, hg⟩
  have HE : Hid (w.grownBy w1 (some g)) := grw_more HS0.out.2.1 hg
  clear hg HS0
  go_wp2
  exact ⟨rfl, rfl, HE.out⟩
set_option maxHeartbeats 1600000 in
set_option maxRecDepth 20000 in
theorem sv_f1 (g : Nat) (a : Option Addr) (cap : Nat) (ns : List Nd) (k : Int) (k1 k2 k3 v0 x1 x2 : Int) (w : World) (hs : Rd g a cap ns k w)
    (H0 : ∀ wz, Rd g a cap ns k wz → Calls Try.prog 93 #[.pointer (some ⟨g, 0, none⟩)] wz (RdP g a cap ns (.int .i64 v0) k1 wz))
    (he : (v0 == 62) = false) :
    Calls Try.prog 67 #[.pointer (some ⟨g, 0, none⟩)] w (RdN g w) := by
  have hb0 : Below w.heap.size w (w.alloc (.cells #[.int .i64 0, .int .i64 0] 80)) := (Below.refl _ _).alloc (Nat.le_refl _) _
  have hlt := hs.lt
  have HS0 : Hid (Rd g a cap ns k (w.alloc (.cells #[.int .i64 0, .int .i64 0] 80)) ∧ w.grownBy (w.alloc (.cells #[.int .i64 0, .int .i64 0] 80)) (some g) ∧ (w.alloc (.cells #[.int .i64 0, .int .i64 0] 80)).heap[w.heap.size]? = some (.cells #[.int .i64 0, .int .i64 0] 80 (0, 0))) := ⟨hs.below hb0, grw_below hb0, heap_alloc_new w _⟩
  have IH0 : Hid (∀ wz, Rd g a cap ns k wz → Calls Try.prog 93 #[.pointer (some ⟨g, 0, none⟩)] wz (RdP g a cap ns (.int .i64 v0) k1 wz)) := H0
  clear H0
  clear hs hb0
  go_enter Try.func67, Try.ntmps67
  go_wp2_with fail
  generalize w.alloc (.cells #[.int .i64 0, .int .i64 0] 80) = w0 at HS0 ⊢
  refine Calls.mono (IH0.out _ HS0.out.1) ?_
  rintro e w1 ⟨rfl, hr, hg⟩
  have HS1 : Hid (Rd g a cap ns _ w1 ∧ w.grownBy w1 (some g) ∧ w1.heap[w.heap.size]? = some (.cells #[.int .i64 0, .int .i64 0] 80 (0, 0))) := ⟨hr, grw_more HS0.out.2.1 hg, (hg.block _ (Array.getElem?_eq_some_iff.1 HS0.out.2.2).1 (by simp; omega)).trans HS0.out.2.2⟩
  clear hr hg HS0
  go_wp2_with fail
  refine (want_no _ _).mono ?_
  rintro e wq ⟨rfl, rfl⟩
  go_wp2
  exact ⟨rfl, rfl, HS1.out.2.1⟩
set_option maxHeartbeats 1600000 in
set_option maxRecDepth 20000 in
theorem sv_f2 (g : Nat) (a : Option Addr) (cap : Nat) (ns : List Nd) (k : Int) (k1 k2 k3 v0 x1 x2 : Int) (w : World) (hs : Rd g a cap ns k w)
    (H0 : ∀ wz, Rd g a cap ns k wz → Calls Try.prog 93 #[.pointer (some ⟨g, 0, none⟩)] wz (RdP g a cap ns (.int .i64 v0) k1 wz))
    (he : (v0 == 62) = true)
    (H1 : ∀ wz, Rd g a cap ns k1 wz → Calls Try.prog 96 #[.pointer (some ⟨g, 0, none⟩)] wz (RdN g wz)) :
    Calls Try.prog 67 #[.pointer (some ⟨g, 0, none⟩)] w (RdN g w) := by
  have hb0 : Below w.heap.size w (w.alloc (.cells #[.int .i64 0, .int .i64 0] 80)) := (Below.refl _ _).alloc (Nat.le_refl _) _
  have hlt := hs.lt
  have HS0 : Hid (Rd g a cap ns k (w.alloc (.cells #[.int .i64 0, .int .i64 0] 80)) ∧ w.grownBy (w.alloc (.cells #[.int .i64 0, .int .i64 0] 80)) (some g) ∧ (w.alloc (.cells #[.int .i64 0, .int .i64 0] 80)).heap[w.heap.size]? = some (.cells #[.int .i64 0, .int .i64 0] 80 (0, 0))) := ⟨hs.below hb0, grw_below hb0, heap_alloc_new w _⟩
  have IH0 : Hid (∀ wz, Rd g a cap ns k wz → Calls Try.prog 93 #[.pointer (some ⟨g, 0, none⟩)] wz (RdP g a cap ns (.int .i64 v0) k1 wz)) := H0
  clear H0
  have IH1 : Hid (∀ wz, Rd g a cap ns k1 wz → Calls Try.prog 96 #[.pointer (some ⟨g, 0, none⟩)] wz (RdN g wz)) := H1
  clear H1
  clear hs hb0
  go_enter Try.func67, Try.ntmps67
  go_wp2_with fail
  generalize w.alloc (.cells #[.int .i64 0, .int .i64 0] 80) = w0 at HS0 ⊢
  refine Calls.mono (IH0.out _ HS0.out.1) ?_
  rintro e w1 ⟨rfl, hr, hg⟩
  have HS1 : Hid (Rd g a cap ns _ w1 ∧ w.grownBy w1 (some g) ∧ w1.heap[w.heap.size]? = some (.cells #[.int .i64 0, .int .i64 0] 80 (0, 0))) := ⟨hr, grw_more HS0.out.2.1 hg, (hg.block _ (Array.getElem?_eq_some_iff.1 HS0.out.2.2).1 (by simp; omega)).trans HS0.out.2.2⟩
  clear hr hg HS0
  go_wp2_with fail
  refine (want_yes _ _).mono ?_
  rintro e wq ⟨rfl, rfl⟩
  go_wp2_with fail
  refine Calls.mono (IH1.out _ HS1.out.1) ?_
  rintro e w2 ⟨rfl, hg⟩
  have HE : Hid (w.grownBy w2 (some g)) := grw_more HS1.out.2.1 hg
  clear hg HS1
  go_wp2
  exact ⟨rfl, rfl, HE.out⟩
set_option maxHeartbeats 1600000 in
set_option maxRecDepth 20000 in
theorem sv_f3 (g : Nat) (a : Option Addr) (cap : Nat) (ns : List Nd) (k : Int) (k1 k2 k3 v0 x1 x2 : Int) (w : World) (hs : Rd g a cap ns k w)
    (H0 : ∀ wz, Rd g a cap ns k wz → Calls Try.prog 93 #[.pointer (some ⟨g, 0, none⟩)] wz (RdP g a cap ns (.int .i64 v0) k1 wz))
    (he : (v0 == 62) = true)
    (H1 : ∀ wz, Rd g a cap ns k1 wz → Calls Try.prog 96 #[.pointer (some ⟨g, 0, none⟩)] wz (RdP g a cap ns (.int .i64 x1) k2 wz))
    (H2 : ∀ wz, Rd g a cap ns k2 wz → Calls Try.prog 97 #[.pointer (some ⟨g, 0, none⟩)] wz (RdN g wz)) :
    Calls Try.prog 67 #[.pointer (some ⟨g, 0, none⟩)] w (RdN g w) := by
  have hb0 : Below w.heap.size w (w.alloc (.cells #[.int .i64 0, .int .i64 0] 80)) := (Below.refl _ _).alloc (Nat.le_refl _) _
  have hlt := hs.lt
  have HS0 : Hid (Rd g a cap ns k (w.alloc (.cells #[.int .i64 0, .int .i64 0] 80)) ∧ w.grownBy (w.alloc (.cells #[.int .i64 0, .int .i64 0] 80)) (some g) ∧ (w.alloc (.cells #[.int .i64 0, .int .i64 0] 80)).heap[w.heap.size]? = some (.cells #[.int .i64 0, .int .i64 0] 80 (0, 0))) := ⟨hs.below hb0, grw_below hb0, heap_alloc_new w _⟩
  have IH0 : Hid (∀ wz, Rd g a cap ns k wz → Calls Try.prog 93 #[.pointer (some ⟨g, 0, none⟩)] wz (RdP g a cap ns (.int .i64 v0) k1 wz)) := H0
  clear H0
  have IH1 : Hid (∀ wz, Rd g a cap ns k1 wz → Calls Try.prog 96 #[.pointer (some ⟨g, 0, none⟩)] wz (RdP g a cap ns (.int .i64 x1) k2 wz)) := H1
  clear H1
  have IH2 : Hid (∀ wz, Rd g a cap ns k2 wz → Calls Try.prog 97 #[.pointer (some ⟨g, 0, none⟩)] wz (RdN g wz)) := H2
  clear H2
  clear hs hb0
  go_enter Try.func67, Try.ntmps67
  go_wp2_with fail
  generalize w.alloc (.cells #[.int .i64 0, .int .i64 0] 80) = w0 at HS0 ⊢
  refine Calls.mono (IH0.out _ HS0.out.1) ?_
  rintro e w1 ⟨rfl, hr, hg⟩
  have HS1 : Hid (Rd g a cap ns _ w1 ∧ w.grownBy w1 (some g) ∧ w1.heap[w.heap.size]? = some (.cells #[.int .i64 0, .int .i64 0] 80 (0, 0))) := ⟨hr, grw_more HS0.out.2.1 hg, (hg.block _ (Array.getElem?_eq_some_iff.1 HS0.out.2.2).1 (by simp; omega)).trans HS0.out.2.2⟩
  clear hr hg HS0
  go_wp2_with fail
  refine (want_yes _ _).mono ?_
  rintro e wq ⟨rfl, rfl⟩
  go_wp2_with fail
  refine Calls.mono (IH1.out _ HS1.out.1) ?_
  rintro e w2 ⟨rfl, hr, hg⟩
  have HS2 : Hid (Rd g a cap ns _ w2 ∧ w.grownBy w2 (some g) ∧ w2.heap[w.heap.size]? = some (.cells #[.int .i64 0, .int .i64 0] 80 (0, 0))) := ⟨hr, grw_more HS1.out.2.1 hg, (hg.block _ (Array.getElem?_eq_some_iff.1 HS1.out.2.2).1 (by simp; omega)).trans HS1.out.2.2⟩
  clear hr hg HS1
  go_wp2_with fail
  refine Calls.mono (IH2.out _ HS2.out.1) ?_
  rintro e w3 ⟨rfl, hg⟩
  have HE : Hid (w.grownBy w3 (some g)) := grw_more HS2.out.2.1 hg
  clear hg HS2
  go_wp2
  exact ⟨rfl, rfl, HE.out⟩
set_option maxHeartbeats 1600000 in
set_option maxRecDepth 20000 in
theorem sv_f4 (g : Nat) (a : Option Addr) (cap : Nat) (ns : List Nd) (k : Int) (k1 k2 k3 v0 x1 x2 : Int) (w : World) (hs : Rd g a cap ns k w)
    (H0 : ∀ wz, Rd g a cap ns k wz → Calls Try.prog 93 #[.pointer (some ⟨g, 0, none⟩)] wz (RdP g a cap ns (.int .i64 v0) k1 wz))
    (he : (v0 == 62) = true)
    (H1 : ∀ wz, Rd g a cap ns k1 wz → Calls Try.prog 96 #[.pointer (some ⟨g, 0, none⟩)] wz (RdP g a cap ns (.int .i64 x1) k2 wz))
    (H2 : ∀ wz, Rd g a cap ns k2 wz → Calls Try.prog 97 #[.pointer (some ⟨g, 0, none⟩)] wz (RdP g a cap ns (.int .i64 x2) k3 wz))
    (H3 : ∀ wz, Rd g a cap ns k3 wz → Calls Try.prog 98 #[.pointer (some ⟨g, 0, none⟩)] wz (RdN g wz)) :
    Calls Try.prog 67 #[.pointer (some ⟨g, 0, none⟩)] w (RdN g w) := by
  have hb0 : Below w.heap.size w (w.alloc (.cells #[.int .i64 0, .int .i64 0] 80)) := (Below.refl _ _).alloc (Nat.le_refl _) _
  have hlt := hs.lt
  have HS0 : Hid (Rd g a cap ns k (w.alloc (.cells #[.int .i64 0, .int .i64 0] 80)) ∧ w.grownBy (w.alloc (.cells #[.int .i64 0, .int .i64 0] 80)) (some g) ∧ (w.alloc (.cells #[.int .i64 0, .int .i64 0] 80)).heap[w.heap.size]? = some (.cells #[.int .i64 0, .int .i64 0] 80 (0, 0))) := ⟨hs.below hb0, grw_below hb0, heap_alloc_new w _⟩
  have IH0 : Hid (∀ wz, Rd g a cap ns k wz → Calls Try.prog 93 #[.pointer (some ⟨g, 0, none⟩)] wz (RdP g a cap ns (.int .i64 v0) k1 wz)) := H0
  clear H0
  have IH1 : Hid (∀ wz, Rd g a cap ns k1 wz → Calls Try.prog 96 #[.pointer (some ⟨g, 0, none⟩)] wz (RdP g a cap ns (.int .i64 x1) k2 wz)) := H1
  clear H1
  have IH2 : Hid (∀ wz, Rd g a cap ns k2 wz → Calls Try.prog 97 #[.pointer (some ⟨g, 0, none⟩)] wz (RdP g a cap ns (.int .i64 x2) k3 wz)) := H2
  clear H2
  have IH3 : Hid (∀ wz, Rd g a cap ns k3 wz → Calls Try.prog 98 #[.pointer (some ⟨g, 0, none⟩)] wz (RdN g wz)) := H3
  clear H3
  clear hs hb0
  go_enter Try.func67, Try.ntmps67
  go_wp2_with fail
  generalize w.alloc (.cells #[.int .i64 0, .int .i64 0] 80) = w0 at HS0 ⊢
  refine Calls.mono (IH0.out _ HS0.out.1) ?_
  rintro e w1 ⟨rfl, hr, hg⟩
  have HS1 : Hid (Rd g a cap ns _ w1 ∧ w.grownBy w1 (some g) ∧ w1.heap[w.heap.size]? = some (.cells #[.int .i64 0, .int .i64 0] 80 (0, 0))) := ⟨hr, grw_more HS0.out.2.1 hg, (hg.block _ (Array.getElem?_eq_some_iff.1 HS0.out.2.2).1 (by simp; omega)).trans HS0.out.2.2⟩
  clear hr hg HS0
  go_wp2_with fail
  refine (want_yes _ _).mono ?_
  rintro e wq ⟨rfl, rfl⟩
  go_wp2_with fail
  refine Calls.mono (IH1.out _ HS1.out.1) ?_
  rintro e w2 ⟨rfl, hr, hg⟩
  have HS2 : Hid (Rd g a cap ns _ w2 ∧ w.grownBy w2 (some g) ∧ w2.heap[w.heap.size]? = some (.cells #[.int .i64 0, .int .i64 0] 80 (0, 0))) := ⟨hr, grw_more HS1.out.2.1 hg, (hg.block _ (Array.getElem?_eq_some_iff.1 HS1.out.2.2).1 (by simp; omega)).trans HS1.out.2.2⟩
  clear hr hg HS1
  go_wp2_with fail
  refine Calls.mono (IH2.out _ HS2.out.1) ?_
  rintro e w3 ⟨rfl, hr, hg⟩
  have HS3 : Hid (Rd g a cap ns _ w3 ∧ w.grownBy w3 (some g) ∧ w3.heap[w.heap.size]? = some (.cells #[.int .i64 0, .int .i64 0] 80 (0, 0))) := ⟨hr, grw_more HS2.out.2.1 hg, (hg.block _ (Array.getElem?_eq_some_iff.1 HS2.out.2.2).1 (by simp; omega)).trans HS2.out.2.2⟩
  clear hr hg HS2
  go_wp2_with fail
  refine Calls.mono (IH3.out _ HS3.out.1) ?_
  rintro e w4 ⟨rfl, hg⟩
  have HE : Hid (w.grownBy w4 (some g)) := grw_more HS3.out.2.1 hg
  clear hg HS3
  go_wp2
  exact ⟨rfl, rfl, HE.out⟩
theorem isMode_any (x : Int) (w : World) : Calls Try.prog 94 #[.int .i64 x] w fun e w' => e = .returned (.bool (inB x 1 2)) ∧ Below w.heap.size w w' := by
  have hin : inB x 1 2 = ((x == 1) || (x == 2)) := by unfold inB; rw [Bool.eq_iff_iff]; simp; omega
  rw [hin]
  clear hin
  go_enter Try.func94, Try.ntmps94
  cases h1 : (x == 1) with
  | true =>
    go_wp2
    go_ret
    exact ⟨by first | rfl | simp, Below.refl _ _⟩
  | false =>
    go_wp2
    go_ret
    exact ⟨by first | rfl | simp, Below.refl _ _⟩
set_option maxHeartbeats 1600000 in
set_option maxRecDepth 20000 in
theorem hl_ok (g : Nat) (a : Option Addr) (cap : Nat) (ns : List Nd) (k : Int) (k1 k2 k3 k4 k5 v0 v1 v2 x1 x2 : Int) (w : World) (hs : Rd g a cap ns k w)
    (H0 : ∀ wz, Rd g a cap ns k wz → Calls Try.prog 93 #[.pointer (some ⟨g, 0, none⟩)] wz (RdP g a cap ns (.int .i64 v0) k1 wz))
    (he : (v0 == 61) = true)
    (H1 : ∀ wz, Rd g a cap ns k1 wz → Calls Try.prog 93 #[.pointer (some ⟨g, 0, none⟩)] wz (RdP g a cap ns (.int .i64 v1) k2 wz))
    (H2 : ∀ wz, Rd g a cap ns k2 wz → Calls Try.prog 93 #[.pointer (some ⟨g, 0, none⟩)] wz (RdP g a cap ns (.int .i64 v2) k3 wz))
    (hw : (Lit.int .i64 v2).wf = true)
    (hm : inB v1 1 2 = true)
    (hn : nmB v2 = true)
    (H3 : ∀ wz, Rd g a cap ns k3 wz → Calls Try.prog 96 #[.pointer (some ⟨g, 0, none⟩)] wz (RdP g a cap ns (.int .i64 x1) k4 wz))
    (H4 : ∀ wz, Rd g a cap ns k4 wz → Calls Try.prog 97 #[.pointer (some ⟨g, 0, none⟩)] wz (RdP g a cap ns (.int .i64 x2) k5 wz))
    (H5 : ∀ wz, Rd g a cap ns k5 wz → Calls Try.prog 98 #[.pointer (some ⟨g, 0, none⟩)] wz (RdP g a cap ns (.tuple #[]) k5 wz)) :
    Calls Try.prog 59 #[.pointer (some ⟨g, 0, none⟩)] w (RdP g a cap ns (.agg #[.int .i64 v1, .int .i64 v2, .int .i64 x1, .int .i64 x2]) k5 w) := by
  have hb0 : Below w.heap.size w (w.alloc (.cells #[.int .i64 0, .int .i64 0, .int .i64 0, .int .i64 0] 34)) := (Below.refl _ _).alloc (Nat.le_refl _) _
  have hlt := hs.lt
  have HS0 : Hid (Rd g a cap ns k (w.alloc (.cells #[.int .i64 0, .int .i64 0, .int .i64 0, .int .i64 0] 34)) ∧ w.grownBy (w.alloc (.cells #[.int .i64 0, .int .i64 0, .int .i64 0, .int .i64 0] 34)) (some g) ∧ (w.alloc (.cells #[.int .i64 0, .int .i64 0, .int .i64 0, .int .i64 0] 34)).heap[w.heap.size]? = some (.cells #[.int .i64 0, .int .i64 0, .int .i64 0, .int .i64 0] 34 (0, 0))) := ⟨hs.below hb0, grw_below hb0, heap_alloc_new w _⟩
  have IH0 : Hid (∀ wz, Rd g a cap ns k wz → Calls Try.prog 93 #[.pointer (some ⟨g, 0, none⟩)] wz (RdP g a cap ns (.int .i64 v0) k1 wz)) := H0
  clear H0
  have IH1 : Hid (∀ wz, Rd g a cap ns k1 wz → Calls Try.prog 93 #[.pointer (some ⟨g, 0, none⟩)] wz (RdP g a cap ns (.int .i64 v1) k2 wz)) := H1
  clear H1
  have IH2 : Hid (∀ wz, Rd g a cap ns k2 wz → Calls Try.prog 93 #[.pointer (some ⟨g, 0, none⟩)] wz (RdP g a cap ns (.int .i64 v2) k3 wz)) := H2
  clear H2
  have IH3 : Hid (∀ wz, Rd g a cap ns k3 wz → Calls Try.prog 96 #[.pointer (some ⟨g, 0, none⟩)] wz (RdP g a cap ns (.int .i64 x1) k4 wz)) := H3
  clear H3
  have IH4 : Hid (∀ wz, Rd g a cap ns k4 wz → Calls Try.prog 97 #[.pointer (some ⟨g, 0, none⟩)] wz (RdP g a cap ns (.int .i64 x2) k5 wz)) := H4
  clear H4
  have IH5 : Hid (∀ wz, Rd g a cap ns k5 wz → Calls Try.prog 98 #[.pointer (some ⟨g, 0, none⟩)] wz (RdP g a cap ns (.tuple #[]) k5 wz)) := H5
  clear H5
  clear hs hb0
  go_enter Try.func59, Try.ntmps59
  go_wp2_with fail
  generalize w.alloc (.cells #[.int .i64 0, .int .i64 0, .int .i64 0, .int .i64 0] 34) = w0 at HS0 ⊢
  refine Calls.mono (IH0.out _ HS0.out.1) ?_
  rintro e w1 ⟨rfl, hr, hg⟩
  have HS1 : Hid (Rd g a cap ns _ w1 ∧ w.grownBy w1 (some g) ∧ w1.heap[w.heap.size]? = some (.cells #[.int .i64 0, .int .i64 0, .int .i64 0, .int .i64 0] 34 (0, 0))) := ⟨hr, grw_more HS0.out.2.1 hg, (hg.block _ (Array.getElem?_eq_some_iff.1 HS0.out.2.2).1 (by simp; omega)).trans HS0.out.2.2⟩
  clear hr hg HS0
  go_wp2_with fail
  refine (want_yes _ _).mono ?_
  rintro e wq ⟨rfl, rfl⟩
  go_wp2_with fail
  refine Calls.mono (IH1.out _ HS1.out.1) ?_
  rintro e w2 ⟨rfl, hr, hg⟩
  have HS2 : Hid (Rd g a cap ns _ w2 ∧ w.grownBy w2 (some g) ∧ w2.heap[w.heap.size]? = some (.cells #[.int .i64 0, .int .i64 0, .int .i64 0, .int .i64 0] 34 (0, 0))) := ⟨hr, grw_more HS1.out.2.1 hg, (hg.block _ (Array.getElem?_eq_some_iff.1 HS1.out.2.2).1 (by simp; omega)).trans HS1.out.2.2⟩
  clear hr hg HS1
  go_wp2_with fail
  refine Calls.mono (IH2.out _ HS2.out.1) ?_
  rintro e w3 ⟨rfl, hr, hg⟩
  have HS3 : Hid (Rd g a cap ns _ w3 ∧ w.grownBy w3 (some g) ∧ w3.heap[w.heap.size]? = some (.cells #[.int .i64 0, .int .i64 0, .int .i64 0, .int .i64 0] 34 (0, 0))) := ⟨hr, grw_more HS2.out.2.1 hg, (hg.block _ (Array.getElem?_eq_some_iff.1 HS2.out.2.2).1 (by simp; omega)).trans HS2.out.2.2⟩
  clear hr hg HS2
  go_wp2_with fail
  refine Calls.mono (isMode_any v1 _) ?_
  rintro e w4 ⟨rfl, hb⟩
  have HS4 : Hid (Rd g a cap ns _ w4 ∧ w.grownBy w4 (some g) ∧ w4.heap[w.heap.size]? = some (.cells #[.int .i64 0, .int .i64 0, .int .i64 0, .int .i64 0] 34 (0, 0))) := ⟨HS3.out.1.below hb, grw_more HS3.out.2.1 (grw_below hb), (hb.block _ (Array.getElem?_eq_some_iff.1 HS3.out.2.2).1).trans HS3.out.2.2⟩
  clear hb HS3
  rw [hm]
  go_wp2_with fail
  refine Calls.mono (isName_any v2 _ hw) ?_
  rintro e w5 ⟨rfl, hb⟩
  have HS5 : Hid (Rd g a cap ns _ w5 ∧ w.grownBy w5 (some g) ∧ w5.heap[w.heap.size]? = some (.cells #[.int .i64 0, .int .i64 0, .int .i64 0, .int .i64 0] 34 (0, 0))) := ⟨HS4.out.1.below hb, grw_more HS4.out.2.1 (grw_below hb), (hb.block _ (Array.getElem?_eq_some_iff.1 HS4.out.2.2).1).trans HS4.out.2.2⟩
  clear hb HS4
  rw [hn]
  go_wp2_with fail
  refine (want_yes _ _).mono ?_
  rintro e wq ⟨rfl, rfl⟩
  go_wp2_with fail
  refine Calls.mono (IH3.out _ HS5.out.1) ?_
  rintro e w6 ⟨rfl, hr, hg⟩
  have HS6 : Hid (Rd g a cap ns _ w6 ∧ w.grownBy w6 (some g) ∧ w6.heap[w.heap.size]? = some (.cells #[.int .i64 0, .int .i64 0, .int .i64 0, .int .i64 0] 34 (0, 0))) := ⟨hr, grw_more HS5.out.2.1 hg, (hg.block _ (Array.getElem?_eq_some_iff.1 HS5.out.2.2).1 (by simp; omega)).trans HS5.out.2.2⟩
  clear hr hg HS5
  go_wp2_with fail
  refine Calls.mono (IH4.out _ HS6.out.1) ?_
  rintro e w7 ⟨rfl, hr, hg⟩
  have HS7 : Hid (Rd g a cap ns _ w7 ∧ w.grownBy w7 (some g) ∧ w7.heap[w.heap.size]? = some (.cells #[.int .i64 0, .int .i64 0, .int .i64 0, .int .i64 0] 34 (0, 0))) := ⟨hr, grw_more HS6.out.2.1 hg, (hg.block _ (Array.getElem?_eq_some_iff.1 HS6.out.2.2).1 (by simp; omega)).trans HS6.out.2.2⟩
  clear hr hg HS6
  go_wp2_with fail
  refine Calls.mono (IH5.out _ HS7.out.1) ?_
  rintro e w8 ⟨rfl, hr, hg⟩
  have HS8 : Hid (Rd g a cap ns _ w8 ∧ w.grownBy w8 (some g) ∧ w8.heap[w.heap.size]? = some (.cells #[.int .i64 0, .int .i64 0, .int .i64 0, .int .i64 0] 34 (0, 0))) := ⟨hr, grw_more HS7.out.2.1 hg, (hg.block _ (Array.getElem?_eq_some_iff.1 HS7.out.2.2).1 (by simp; omega)).trans HS7.out.2.2⟩
  clear hr hg HS7
  have e0 : w8.cell? ⟨w.heap.size, 0, none⟩ = some (.int .i64 0) := (cell_of_row _ _ 0 _ _ _ HS8.out.2.2).trans rfl
  have e1 : w8.cell? ⟨w.heap.size, 1, none⟩ = some (.int .i64 0) := (cell_of_row _ _ 1 _ _ _ HS8.out.2.2).trans rfl
  have e2 : w8.cell? ⟨w.heap.size, 2, none⟩ = some (.int .i64 0) := (cell_of_row _ _ 2 _ _ _ HS8.out.2.2).trans rfl
  have e3 : w8.cell? ⟨w.heap.size, 3, none⟩ = some (.int .i64 0) := (cell_of_row _ _ 3 _ _ _ HS8.out.2.2).trans rfl
  have f0 : w8.frozen? ⟨w.heap.size, 0, none⟩ = false := frozen_of_row _ _ 0 _ _ HS8.out.2.2
  have f1 : w8.frozen? ⟨w.heap.size, 1, none⟩ = false := frozen_of_row _ _ 1 _ _ HS8.out.2.2
  have f2 : w8.frozen? ⟨w.heap.size, 2, none⟩ = false := frozen_of_row _ _ 2 _ _ HS8.out.2.2
  have f3 : w8.frozen? ⟨w.heap.size, 3, none⟩ = false := frozen_of_row _ _ 3 _ _ HS8.out.2.2
  have HF : Hid _ := fin4 HS8.out.1 HS8.out.2.1 hlt HS8.out.2.2 (.int .i64 v1) (.int .i64 v2) (.int .i64 x1) (.int .i64 x2)
  clear HS8
  go_wp2
  refine bodyPost_ret (results_cell_row rfl _ _ w.heap.size 34 #[.int .i64 v1, .int .i64 v2, .int .i64 x1, .int .i64 x2] (0, 0) _ rfl ?_ Try.underlying34 rfl hlSize11) rfl ?_
  · exact HF.out.1
  · exact ⟨rfl, HF.out.2.1, HF.out.2.2⟩
set_option maxHeartbeats 1600000 in
set_option maxRecDepth 20000 in
theorem hl_f0 (g : Nat) (a : Option Addr) (cap : Nat) (ns : List Nd) (k : Int) (k1 k2 k3 k4 k5 v0 v1 v2 x1 x2 : Int) (w : World) (hs : Rd g a cap ns k w)
    (H0 : ∀ wz, Rd g a cap ns k wz → Calls Try.prog 93 #[.pointer (some ⟨g, 0, none⟩)] wz (RdN g wz)) :
    Calls Try.prog 59 #[.pointer (some ⟨g, 0, none⟩)] w (RdN g w) := by
  have hb0 : Below w.heap.size w (w.alloc (.cells #[.int .i64 0, .int .i64 0, .int .i64 0, .int .i64 0] 34)) := (Below.refl _ _).alloc (Nat.le_refl _) _
  have hlt := hs.lt
  have HS0 : Hid (Rd g a cap ns k (w.alloc (.cells #[.int .i64 0, .int .i64 0, .int .i64 0, .int .i64 0] 34)) ∧ w.grownBy (w.alloc (.cells #[.int .i64 0, .int .i64 0, .int .i64 0, .int .i64 0] 34)) (some g) ∧ (w.alloc (.cells #[.int .i64 0, .int .i64 0, .int .i64 0, .int .i64 0] 34)).heap[w.heap.size]? = some (.cells #[.int .i64 0, .int .i64 0, .int .i64 0, .int .i64 0] 34 (0, 0))) := ⟨hs.below hb0, grw_below hb0, heap_alloc_new w _⟩
  have IH0 : Hid (∀ wz, Rd g a cap ns k wz → Calls Try.prog 93 #[.pointer (some ⟨g, 0, none⟩)] wz (RdN g wz)) := H0
  clear H0
  clear hs hb0
  go_enter Try.func59, Try.ntmps59
  go_wp2_with fail
  generalize w.alloc (.cells #[.int .i64 0, .int .i64 0, .int .i64 0, .int .i64 0] 34) = w0 at HS0 ⊢
  refine Calls.mono (IH0.out _ HS0.out.1) ?_
  rintro e w1 ⟨rfl, hg⟩
  have HE : Hid (w.grownBy w1 (some g)) := grw_more HS0.out.2.1 hg
  clear hg HS0
  go_wp2
  exact ⟨rfl, rfl, HE.out⟩
set_option maxHeartbeats 1600000 in
set_option maxRecDepth 20000 in
theorem hl_f1 (g : Nat) (a : Option Addr) (cap : Nat) (ns : List Nd) (k : Int) (k1 k2 k3 k4 k5 v0 v1 v2 x1 x2 : Int) (w : World) (hs : Rd g a cap ns k w)
    (H0 : ∀ wz, Rd g a cap ns k wz → Calls Try.prog 93 #[.pointer (some ⟨g, 0, none⟩)] wz (RdP g a cap ns (.int .i64 v0) k1 wz))
    (he : (v0 == 61) = false) :
    Calls Try.prog 59 #[.pointer (some ⟨g, 0, none⟩)] w (RdN g w) := by
  have hb0 : Below w.heap.size w (w.alloc (.cells #[.int .i64 0, .int .i64 0, .int .i64 0, .int .i64 0] 34)) := (Below.refl _ _).alloc (Nat.le_refl _) _
  have hlt := hs.lt
  have HS0 : Hid (Rd g a cap ns k (w.alloc (.cells #[.int .i64 0, .int .i64 0, .int .i64 0, .int .i64 0] 34)) ∧ w.grownBy (w.alloc (.cells #[.int .i64 0, .int .i64 0, .int .i64 0, .int .i64 0] 34)) (some g) ∧ (w.alloc (.cells #[.int .i64 0, .int .i64 0, .int .i64 0, .int .i64 0] 34)).heap[w.heap.size]? = some (.cells #[.int .i64 0, .int .i64 0, .int .i64 0, .int .i64 0] 34 (0, 0))) := ⟨hs.below hb0, grw_below hb0, heap_alloc_new w _⟩
  have IH0 : Hid (∀ wz, Rd g a cap ns k wz → Calls Try.prog 93 #[.pointer (some ⟨g, 0, none⟩)] wz (RdP g a cap ns (.int .i64 v0) k1 wz)) := H0
  clear H0
  clear hs hb0
  go_enter Try.func59, Try.ntmps59
  go_wp2_with fail
  generalize w.alloc (.cells #[.int .i64 0, .int .i64 0, .int .i64 0, .int .i64 0] 34) = w0 at HS0 ⊢
  refine Calls.mono (IH0.out _ HS0.out.1) ?_
  rintro e w1 ⟨rfl, hr, hg⟩
  have HS1 : Hid (Rd g a cap ns _ w1 ∧ w.grownBy w1 (some g) ∧ w1.heap[w.heap.size]? = some (.cells #[.int .i64 0, .int .i64 0, .int .i64 0, .int .i64 0] 34 (0, 0))) := ⟨hr, grw_more HS0.out.2.1 hg, (hg.block _ (Array.getElem?_eq_some_iff.1 HS0.out.2.2).1 (by simp; omega)).trans HS0.out.2.2⟩
  clear hr hg HS0
  go_wp2_with fail
  refine (want_no _ _).mono ?_
  rintro e wq ⟨rfl, rfl⟩
  go_wp2
  exact ⟨rfl, rfl, HS1.out.2.1⟩
set_option maxHeartbeats 1600000 in
set_option maxRecDepth 20000 in
theorem hl_f2 (g : Nat) (a : Option Addr) (cap : Nat) (ns : List Nd) (k : Int) (k1 k2 k3 k4 k5 v0 v1 v2 x1 x2 : Int) (w : World) (hs : Rd g a cap ns k w)
    (H0 : ∀ wz, Rd g a cap ns k wz → Calls Try.prog 93 #[.pointer (some ⟨g, 0, none⟩)] wz (RdP g a cap ns (.int .i64 v0) k1 wz))
    (he : (v0 == 61) = true)
    (H1 : ∀ wz, Rd g a cap ns k1 wz → Calls Try.prog 93 #[.pointer (some ⟨g, 0, none⟩)] wz (RdN g wz)) :
    Calls Try.prog 59 #[.pointer (some ⟨g, 0, none⟩)] w (RdN g w) := by
  have hb0 : Below w.heap.size w (w.alloc (.cells #[.int .i64 0, .int .i64 0, .int .i64 0, .int .i64 0] 34)) := (Below.refl _ _).alloc (Nat.le_refl _) _
  have hlt := hs.lt
  have HS0 : Hid (Rd g a cap ns k (w.alloc (.cells #[.int .i64 0, .int .i64 0, .int .i64 0, .int .i64 0] 34)) ∧ w.grownBy (w.alloc (.cells #[.int .i64 0, .int .i64 0, .int .i64 0, .int .i64 0] 34)) (some g) ∧ (w.alloc (.cells #[.int .i64 0, .int .i64 0, .int .i64 0, .int .i64 0] 34)).heap[w.heap.size]? = some (.cells #[.int .i64 0, .int .i64 0, .int .i64 0, .int .i64 0] 34 (0, 0))) := ⟨hs.below hb0, grw_below hb0, heap_alloc_new w _⟩
  have IH0 : Hid (∀ wz, Rd g a cap ns k wz → Calls Try.prog 93 #[.pointer (some ⟨g, 0, none⟩)] wz (RdP g a cap ns (.int .i64 v0) k1 wz)) := H0
  clear H0
  have IH1 : Hid (∀ wz, Rd g a cap ns k1 wz → Calls Try.prog 93 #[.pointer (some ⟨g, 0, none⟩)] wz (RdN g wz)) := H1
  clear H1
  clear hs hb0
  go_enter Try.func59, Try.ntmps59
  go_wp2_with fail
  generalize w.alloc (.cells #[.int .i64 0, .int .i64 0, .int .i64 0, .int .i64 0] 34) = w0 at HS0 ⊢
  refine Calls.mono (IH0.out _ HS0.out.1) ?_
  rintro e w1 ⟨rfl, hr, hg⟩
  have HS1 : Hid (Rd g a cap ns _ w1 ∧ w.grownBy w1 (some g) ∧ w1.heap[w.heap.size]? = some (.cells #[.int .i64 0, .int .i64 0, .int .i64 0, .int .i64 0] 34 (0, 0))) := ⟨hr, grw_more HS0.out.2.1 hg, (hg.block _ (Array.getElem?_eq_some_iff.1 HS0.out.2.2).1 (by simp; omega)).trans HS0.out.2.2⟩
  clear hr hg HS0
  go_wp2_with fail
  refine (want_yes _ _).mono ?_
  rintro e wq ⟨rfl, rfl⟩
  go_wp2_with fail
  refine Calls.mono (IH1.out _ HS1.out.1) ?_
  rintro e w2 ⟨rfl, hg⟩
  have HE : Hid (w.grownBy w2 (some g)) := grw_more HS1.out.2.1 hg
  clear hg HS1
  go_wp2
  exact ⟨rfl, rfl, HE.out⟩
set_option maxHeartbeats 1600000 in
set_option maxRecDepth 20000 in
theorem hl_f3 (g : Nat) (a : Option Addr) (cap : Nat) (ns : List Nd) (k : Int) (k1 k2 k3 k4 k5 v0 v1 v2 x1 x2 : Int) (w : World) (hs : Rd g a cap ns k w)
    (H0 : ∀ wz, Rd g a cap ns k wz → Calls Try.prog 93 #[.pointer (some ⟨g, 0, none⟩)] wz (RdP g a cap ns (.int .i64 v0) k1 wz))
    (he : (v0 == 61) = true)
    (H1 : ∀ wz, Rd g a cap ns k1 wz → Calls Try.prog 93 #[.pointer (some ⟨g, 0, none⟩)] wz (RdP g a cap ns (.int .i64 v1) k2 wz))
    (H2 : ∀ wz, Rd g a cap ns k2 wz → Calls Try.prog 93 #[.pointer (some ⟨g, 0, none⟩)] wz (RdN g wz)) :
    Calls Try.prog 59 #[.pointer (some ⟨g, 0, none⟩)] w (RdN g w) := by
  have hb0 : Below w.heap.size w (w.alloc (.cells #[.int .i64 0, .int .i64 0, .int .i64 0, .int .i64 0] 34)) := (Below.refl _ _).alloc (Nat.le_refl _) _
  have hlt := hs.lt
  have HS0 : Hid (Rd g a cap ns k (w.alloc (.cells #[.int .i64 0, .int .i64 0, .int .i64 0, .int .i64 0] 34)) ∧ w.grownBy (w.alloc (.cells #[.int .i64 0, .int .i64 0, .int .i64 0, .int .i64 0] 34)) (some g) ∧ (w.alloc (.cells #[.int .i64 0, .int .i64 0, .int .i64 0, .int .i64 0] 34)).heap[w.heap.size]? = some (.cells #[.int .i64 0, .int .i64 0, .int .i64 0, .int .i64 0] 34 (0, 0))) := ⟨hs.below hb0, grw_below hb0, heap_alloc_new w _⟩
  have IH0 : Hid (∀ wz, Rd g a cap ns k wz → Calls Try.prog 93 #[.pointer (some ⟨g, 0, none⟩)] wz (RdP g a cap ns (.int .i64 v0) k1 wz)) := H0
  clear H0
  have IH1 : Hid (∀ wz, Rd g a cap ns k1 wz → Calls Try.prog 93 #[.pointer (some ⟨g, 0, none⟩)] wz (RdP g a cap ns (.int .i64 v1) k2 wz)) := H1
  clear H1
  have IH2 : Hid (∀ wz, Rd g a cap ns k2 wz → Calls Try.prog 93 #[.pointer (some ⟨g, 0, none⟩)] wz (RdN g wz)) := H2
  clear H2
  clear hs hb0
  go_enter Try.func59, Try.ntmps59
  go_wp2_with fail
  generalize w.alloc (.cells #[.int .i64 0, .int .i64 0, .int .i64 0, .int .i64 0] 34) = w0 at HS0 ⊢
  refine Calls.mono (IH0.out _ HS0.out.1) ?_
  rintro e w1 ⟨rfl, hr, hg⟩
  have HS1 : Hid (Rd g a cap ns _ w1 ∧ w.grownBy w1 (some g) ∧ w1.heap[w.heap.size]? = some (.cells #[.int .i64 0, .int .i64 0, .int .i64 0, .int .i64 0] 34 (0, 0))) := ⟨hr, grw_more HS0.out.2.1 hg, (hg.block _ (Array.getElem?_eq_some_iff.1 HS0.out.2.2).1 (by simp; omega)).trans HS0.out.2.2⟩
  clear hr hg HS0
  go_wp2_with fail
  refine (want_yes _ _).mono ?_
  rintro e wq ⟨rfl, rfl⟩
  go_wp2_with fail
  refine Calls.mono (IH1.out _ HS1.out.1) ?_
  rintro e w2 ⟨rfl, hr, hg⟩
  have HS2 : Hid (Rd g a cap ns _ w2 ∧ w.grownBy w2 (some g) ∧ w2.heap[w.heap.size]? = some (.cells #[.int .i64 0, .int .i64 0, .int .i64 0, .int .i64 0] 34 (0, 0))) := ⟨hr, grw_more HS1.out.2.1 hg, (hg.block _ (Array.getElem?_eq_some_iff.1 HS1.out.2.2).1 (by simp; omega)).trans HS1.out.2.2⟩
  clear hr hg HS1
  go_wp2_with fail
  refine Calls.mono (IH2.out _ HS2.out.1) ?_
  rintro e w3 ⟨rfl, hg⟩
  have HE : Hid (w.grownBy w3 (some g)) := grw_more HS2.out.2.1 hg
  clear hg HS2
  go_wp2
  exact ⟨rfl, rfl, HE.out⟩
set_option maxHeartbeats 1600000 in
set_option maxRecDepth 20000 in
theorem hl_f4 (g : Nat) (a : Option Addr) (cap : Nat) (ns : List Nd) (k : Int) (k1 k2 k3 k4 k5 v0 v1 v2 x1 x2 : Int) (w : World) (hs : Rd g a cap ns k w)
    (H0 : ∀ wz, Rd g a cap ns k wz → Calls Try.prog 93 #[.pointer (some ⟨g, 0, none⟩)] wz (RdP g a cap ns (.int .i64 v0) k1 wz))
    (he : (v0 == 61) = true)
    (H1 : ∀ wz, Rd g a cap ns k1 wz → Calls Try.prog 93 #[.pointer (some ⟨g, 0, none⟩)] wz (RdP g a cap ns (.int .i64 v1) k2 wz))
    (H2 : ∀ wz, Rd g a cap ns k2 wz → Calls Try.prog 93 #[.pointer (some ⟨g, 0, none⟩)] wz (RdP g a cap ns (.int .i64 v2) k3 wz))
    (hw : (Lit.int .i64 v2).wf = true)
    (hm : inB v1 1 2 = false) :
    Calls Try.prog 59 #[.pointer (some ⟨g, 0, none⟩)] w (RdN g w) := by
  have hb0 : Below w.heap.size w (w.alloc (.cells #[.int .i64 0, .int .i64 0, .int .i64 0, .int .i64 0] 34)) := (Below.refl _ _).alloc (Nat.le_refl _) _
  have hlt := hs.lt
  have HS0 : Hid (Rd g a cap ns k (w.alloc (.cells #[.int .i64 0, .int .i64 0, .int .i64 0, .int .i64 0] 34)) ∧ w.grownBy (w.alloc (.cells #[.int .i64 0, .int .i64 0, .int .i64 0, .int .i64 0] 34)) (some g) ∧ (w.alloc (.cells #[.int .i64 0, .int .i64 0, .int .i64 0, .int .i64 0] 34)).heap[w.heap.size]? = some (.cells #[.int .i64 0, .int .i64 0, .int .i64 0, .int .i64 0] 34 (0, 0))) := ⟨hs.below hb0, grw_below hb0, heap_alloc_new w _⟩
  have IH0 : Hid (∀ wz, Rd g a cap ns k wz → Calls Try.prog 93 #[.pointer (some ⟨g, 0, none⟩)] wz (RdP g a cap ns (.int .i64 v0) k1 wz)) := H0
  clear H0
  have IH1 : Hid (∀ wz, Rd g a cap ns k1 wz → Calls Try.prog 93 #[.pointer (some ⟨g, 0, none⟩)] wz (RdP g a cap ns (.int .i64 v1) k2 wz)) := H1
  clear H1
  have IH2 : Hid (∀ wz, Rd g a cap ns k2 wz → Calls Try.prog 93 #[.pointer (some ⟨g, 0, none⟩)] wz (RdP g a cap ns (.int .i64 v2) k3 wz)) := H2
  clear H2
  clear hs hb0
  go_enter Try.func59, Try.ntmps59
  go_wp2_with fail
  generalize w.alloc (.cells #[.int .i64 0, .int .i64 0, .int .i64 0, .int .i64 0] 34) = w0 at HS0 ⊢
  refine Calls.mono (IH0.out _ HS0.out.1) ?_
  rintro e w1 ⟨rfl, hr, hg⟩
  have HS1 : Hid (Rd g a cap ns _ w1 ∧ w.grownBy w1 (some g) ∧ w1.heap[w.heap.size]? = some (.cells #[.int .i64 0, .int .i64 0, .int .i64 0, .int .i64 0] 34 (0, 0))) := ⟨hr, grw_more HS0.out.2.1 hg, (hg.block _ (Array.getElem?_eq_some_iff.1 HS0.out.2.2).1 (by simp; omega)).trans HS0.out.2.2⟩
  clear hr hg HS0
  go_wp2_with fail
  refine (want_yes _ _).mono ?_
  rintro e wq ⟨rfl, rfl⟩
  go_wp2_with fail
  refine Calls.mono (IH1.out _ HS1.out.1) ?_
  rintro e w2 ⟨rfl, hr, hg⟩
  have HS2 : Hid (Rd g a cap ns _ w2 ∧ w.grownBy w2 (some g) ∧ w2.heap[w.heap.size]? = some (.cells #[.int .i64 0, .int .i64 0, .int .i64 0, .int .i64 0] 34 (0, 0))) := ⟨hr, grw_more HS1.out.2.1 hg, (hg.block _ (Array.getElem?_eq_some_iff.1 HS1.out.2.2).1 (by simp; omega)).trans HS1.out.2.2⟩
  clear hr hg HS1
  go_wp2_with fail
  refine Calls.mono (IH2.out _ HS2.out.1) ?_
  rintro e w3 ⟨rfl, hr, hg⟩
  have HS3 : Hid (Rd g a cap ns _ w3 ∧ w.grownBy w3 (some g) ∧ w3.heap[w.heap.size]? = some (.cells #[.int .i64 0, .int .i64 0, .int .i64 0, .int .i64 0] 34 (0, 0))) := ⟨hr, grw_more HS2.out.2.1 hg, (hg.block _ (Array.getElem?_eq_some_iff.1 HS2.out.2.2).1 (by simp; omega)).trans HS2.out.2.2⟩
  clear hr hg HS2
  go_wp2_with fail
  refine Calls.mono (isMode_any v1 _) ?_
  rintro e w4 ⟨rfl, hb⟩
  have HS4 : Hid (Rd g a cap ns _ w4 ∧ w.grownBy w4 (some g) ∧ w4.heap[w.heap.size]? = some (.cells #[.int .i64 0, .int .i64 0, .int .i64 0, .int .i64 0] 34 (0, 0))) := ⟨HS3.out.1.below hb, grw_more HS3.out.2.1 (grw_below hb), (hb.block _ (Array.getElem?_eq_some_iff.1 HS3.out.2.2).1).trans HS3.out.2.2⟩
  clear hb HS3
  rw [hm]
  go_wp2_with fail
  refine (want_no _ _).mono ?_
  rintro e wq ⟨rfl, rfl⟩
  go_wp2
  exact ⟨rfl, rfl, HS4.out.2.1⟩
set_option maxHeartbeats 1600000 in
set_option maxRecDepth 20000 in
theorem hl_f5 (g : Nat) (a : Option Addr) (cap : Nat) (ns : List Nd) (k : Int) (k1 k2 k3 k4 k5 v0 v1 v2 x1 x2 : Int) (w : World) (hs : Rd g a cap ns k w)
    (H0 : ∀ wz, Rd g a cap ns k wz → Calls Try.prog 93 #[.pointer (some ⟨g, 0, none⟩)] wz (RdP g a cap ns (.int .i64 v0) k1 wz))
    (he : (v0 == 61) = true)
    (H1 : ∀ wz, Rd g a cap ns k1 wz → Calls Try.prog 93 #[.pointer (some ⟨g, 0, none⟩)] wz (RdP g a cap ns (.int .i64 v1) k2 wz))
    (H2 : ∀ wz, Rd g a cap ns k2 wz → Calls Try.prog 93 #[.pointer (some ⟨g, 0, none⟩)] wz (RdP g a cap ns (.int .i64 v2) k3 wz))
    (hw : (Lit.int .i64 v2).wf = true)
    (hm : inB v1 1 2 = true)
    (hn : nmB v2 = false) :
    Calls Try.prog 59 #[.pointer (some ⟨g, 0, none⟩)] w (RdN g w) := by
  have hb0 : Below w.heap.size w (w.alloc (.cells #[.int .i64 0, .int .i64 0, .int .i64 0, .int .i64 0] 34)) := (Below.refl _ _).alloc (Nat.le_refl _) _
  have hlt := hs.lt
  have HS0 : Hid (Rd g a cap ns k (w.alloc (.cells #[.int .i64 0, .int .i64 0, .int .i64 0, .int .i64 0] 34)) ∧ w.grownBy (w.alloc (.cells #[.int .i64 0, .int .i64 0, .int .i64 0, .int .i64 0] 34)) (some g) ∧ (w.alloc (.cells #[.int .i64 0, .int .i64 0, .int .i64 0, .int .i64 0] 34)).heap[w.heap.size]? = some (.cells #[.int .i64 0, .int .i64 0, .int .i64 0, .int .i64 0] 34 (0, 0))) := ⟨hs.below hb0, grw_below hb0, heap_alloc_new w _⟩
  have IH0 : Hid (∀ wz, Rd g a cap ns k wz → Calls Try.prog 93 #[.pointer (some ⟨g, 0, none⟩)] wz (RdP g a cap ns (.int .i64 v0) k1 wz)) := H0
  clear H0
  have IH1 : Hid (∀ wz, Rd g a cap ns k1 wz → Calls Try.prog 93 #[.pointer (some ⟨g, 0, none⟩)] wz (RdP g a cap ns (.int .i64 v1) k2 wz)) := H1
  clear H1
  have IH2 : Hid (∀ wz, Rd g a cap ns k2 wz → Calls Try.prog 93 #[.pointer (some ⟨g, 0, none⟩)] wz (RdP g a cap ns (.int .i64 v2) k3 wz)) := H2
  clear H2
  clear hs hb0
  go_enter Try.func59, Try.ntmps59
  go_wp2_with fail
  generalize w.alloc (.cells #[.int .i64 0, .int .i64 0, .int .i64 0, .int .i64 0] 34) = w0 at HS0 ⊢
  refine Calls.mono (IH0.out _ HS0.out.1) ?_
  rintro e w1 ⟨rfl, hr, hg⟩
  have HS1 : Hid (Rd g a cap ns _ w1 ∧ w.grownBy w1 (some g) ∧ w1.heap[w.heap.size]? = some (.cells #[.int .i64 0, .int .i64 0, .int .i64 0, .int .i64 0] 34 (0, 0))) := ⟨hr, grw_more HS0.out.2.1 hg, (hg.block _ (Array.getElem?_eq_some_iff.1 HS0.out.2.2).1 (by simp; omega)).trans HS0.out.2.2⟩
  clear hr hg HS0
  go_wp2_with fail
  refine (want_yes _ _).mono ?_
  rintro e wq ⟨rfl, rfl⟩
  go_wp2_with fail
  refine Calls.mono (IH1.out _ HS1.out.1) ?_
  rintro e w2 ⟨rfl, hr, hg⟩
  have HS2 : Hid (Rd g a cap ns _ w2 ∧ w.grownBy w2 (some g) ∧ w2.heap[w.heap.size]? = some (.cells #[.int .i64 0, .int .i64 0, .int .i64 0, .int .i64 0] 34 (0, 0))) := ⟨hr, grw_more HS1.out.2.1 hg, (hg.block _ (Array.getElem?_eq_some_iff.1 HS1.out.2.2).1 (by simp; omega)).trans HS1.out.2.2⟩
  clear hr hg HS1
  go_wp2_with fail
  refine Calls.mono (IH2.out _ HS2.out.1) ?_
  rintro e w3 ⟨rfl, hr, hg⟩
  have HS3 : Hid (Rd g a cap ns _ w3 ∧ w.grownBy w3 (some g) ∧ w3.heap[w.heap.size]? = some (.cells #[.int .i64 0, .int .i64 0, .int .i64 0, .int .i64 0] 34 (0, 0))) := ⟨hr, grw_more HS2.out.2.1 hg, (hg.block _ (Array.getElem?_eq_some_iff.1 HS2.out.2.2).1 (by simp; omega)).trans HS2.out.2.2⟩
  clear hr hg HS2
  go_wp2_with fail
  refine Calls.mono (isMode_any v1 _) ?_
  rintro e w4 ⟨rfl, hb⟩
  have HS4 : Hid (Rd g a cap ns _ w4 ∧ w.grownBy w4 (some g) ∧ w4.heap[w.heap.size]? = some (.cells #[.int .i64 0, .int .i64 0, .int .i64 0, .int .i64 0] 34 (0, 0))) := ⟨HS3.out.1.below hb, grw_more HS3.out.2.1 (grw_below hb), (hb.block _ (Array.getElem?_eq_some_iff.1 HS3.out.2.2).1).trans HS3.out.2.2⟩
  clear hb HS3
  rw [hm]
  go_wp2_with fail
  refine Calls.mono (isName_any v2 _ hw) ?_
  rintro e w5 ⟨rfl, hb⟩
  have HS5 : Hid (Rd g a cap ns _ w5 ∧ w.grownBy w5 (some g) ∧ w5.heap[w.heap.size]? = some (.cells #[.int .i64 0, .int .i64 0, .int .i64 0, .int .i64 0] 34 (0, 0))) := ⟨HS4.out.1.below hb, grw_more HS4.out.2.1 (grw_below hb), (hb.block _ (Array.getElem?_eq_some_iff.1 HS4.out.2.2).1).trans HS4.out.2.2⟩
  clear hb HS4
  rw [hn]
  go_wp2_with fail
  refine (want_no _ _).mono ?_
  rintro e wq ⟨rfl, rfl⟩
  go_wp2
  exact ⟨rfl, rfl, HS5.out.2.1⟩
set_option maxHeartbeats 1600000 in
set_option maxRecDepth 20000 in
theorem hl_f6 (g : Nat) (a : Option Addr) (cap : Nat) (ns : List Nd) (k : Int) (k1 k2 k3 k4 k5 v0 v1 v2 x1 x2 : Int) (w : World) (hs : Rd g a cap ns k w)
    (H0 : ∀ wz, Rd g a cap ns k wz → Calls Try.prog 93 #[.pointer (some ⟨g, 0, none⟩)] wz (RdP g a cap ns (.int .i64 v0) k1 wz))
    (he : (v0 == 61) = true)
    (H1 : ∀ wz, Rd g a cap ns k1 wz → Calls Try.prog 93 #[.pointer (some ⟨g, 0, none⟩)] wz (RdP g a cap ns (.int .i64 v1) k2 wz))
    (H2 : ∀ wz, Rd g a cap ns k2 wz → Calls Try.prog 93 #[.pointer (some ⟨g, 0, none⟩)] wz (RdP g a cap ns (.int .i64 v2) k3 wz))
    (hw : (Lit.int .i64 v2).wf = true)
    (hm : inB v1 1 2 = true)
    (hn : nmB v2 = true)
    (H3 : ∀ wz, Rd g a cap ns k3 wz → Calls Try.prog 96 #[.pointer (some ⟨g, 0, none⟩)] wz (RdN g wz)) :
    Calls Try.prog 59 #[.pointer (some ⟨g, 0, none⟩)] w (RdN g w) := by
  have hb0 : Below w.heap.size w (w.alloc (.cells #[.int .i64 0, .int .i64 0, .int .i64 0, .int .i64 0] 34)) := (Below.refl _ _).alloc (Nat.le_refl _) _
  have hlt := hs.lt
  have HS0 : Hid (Rd g a cap ns k (w.alloc (.cells #[.int .i64 0, .int .i64 0, .int .i64 0, .int .i64 0] 34)) ∧ w.grownBy (w.alloc (.cells #[.int .i64 0, .int .i64 0, .int .i64 0, .int .i64 0] 34)) (some g) ∧ (w.alloc (.cells #[.int .i64 0, .int .i64 0, .int .i64 0, .int .i64 0] 34)).heap[w.heap.size]? = some (.cells #[.int .i64 0, .int .i64 0, .int .i64 0, .int .i64 0] 34 (0, 0))) := ⟨hs.below hb0, grw_below hb0, heap_alloc_new w _⟩
  have IH0 : Hid (∀ wz, Rd g a cap ns k wz → Calls Try.prog 93 #[.pointer (some ⟨g, 0, none⟩)] wz (RdP g a cap ns (.int .i64 v0) k1 wz)) := H0
  clear H0
  have IH1 : Hid (∀ wz, Rd g a cap ns k1 wz → Calls Try.prog 93 #[.pointer (some ⟨g, 0, none⟩)] wz (RdP g a cap ns (.int .i64 v1) k2 wz)) := H1
  clear H1
  have IH2 : Hid (∀ wz, Rd g a cap ns k2 wz → Calls Try.prog 93 #[.pointer (some ⟨g, 0, none⟩)] wz (RdP g a cap ns (.int .i64 v2) k3 wz)) := H2
  clear H2
  have IH3 : Hid (∀ wz, Rd g a cap ns k3 wz → Calls Try.prog 96 #[.pointer (some ⟨g, 0, none⟩)] wz (RdN g wz)) := H3
  clear H3
  clear hs hb0
  go_enter Try.func59, Try.ntmps59
  go_wp2_with fail
  generalize w.alloc (.cells #[.int .i64 0, .int .i64 0, .int .i64 0, .int .i64 0] 34) = w0 at HS0 ⊢
  refine Calls.mono (IH0.out _ HS0.out.1) ?_
  rintro e w1 ⟨rfl, hr, hg⟩
  have HS1 : Hid (Rd g a cap ns _ w1 ∧ w.grownBy w1 (some g) ∧ w1.heap[w.heap.size]? = some (.cells #[.int .i64 0, .int .i64 0, .int .i64 0, .int .i64 0] 34 (0, 0))) := ⟨hr, grw_more HS0.out.2.1 hg, (hg.block _ (Array.getElem?_eq_some_iff.1 HS0.out.2.2).1 (by simp; omega)).trans HS0.out.2.2⟩
  clear hr hg HS0
  go_wp2_with fail
  refine (want_yes _ _).mono ?_
  rintro e wq ⟨rfl, rfl⟩
  go_wp2_with fail
  refine Calls.mono (IH1.out _ HS1.out.1) ?_
  rintro e w2 ⟨rfl, hr, hg⟩
  have HS2 : Hid (Rd g a cap ns _ w2 ∧ w.grownBy w2 (some g) ∧ w2.heap[w.heap.size]? = some (.cells #[.int .i64 0, .int .i64 0, .int .i64 0, .int .i64 0] 34 (0, 0))) := ⟨hr, grw_more HS1.out.2.1 hg, (hg.block _ (Array.getElem?_eq_some_iff.1 HS1.out.2.2).1 (by simp; omega)).trans HS1.out.2.2⟩
  clear hr hg HS1
  go_wp2_with fail
  refine Calls.mono (IH2.out _ HS2.out.1) ?_
  rintro e w3 ⟨rfl, hr, hg⟩
  have HS3 : Hid (Rd g a cap ns _ w3 ∧ w.grownBy w3 (some g) ∧ w3.heap[w.heap.size]? = some (.cells #[.int .i64 0, .int .i64 0, .int .i64 0, .int .i64 0] 34 (0, 0))) := ⟨hr, grw_more HS2.out.2.1 hg, (hg.block _ (Array.getElem?_eq_some_iff.1 HS2.out.2.2).1 (by simp; omega)).trans HS2.out.2.2⟩
  clear hr hg HS2
  go_wp2_with fail
  refine Calls.mono (isMode_any v1 _) ?_
  rintro e w4 ⟨rfl, hb⟩
  have HS4 : Hid (Rd g a cap ns _ w4 ∧ w.grownBy w4 (some g) ∧ w4.heap[w.heap.size]? = some (.cells #[.int .i64 0, .int .i64 0, .int .i64 0, .int .i64 0] 34 (0, 0))) := ⟨HS3.out.1.below hb, grw_more HS3.out.2.1 (grw_below hb), (hb.block _ (Array.getElem?_eq_some_iff.1 HS3.out.2.2).1).trans HS3.out.2.2⟩
  clear hb HS3
  rw [hm]
  go_wp2_with fail
  refine Calls.mono (isName_any v2 _ hw) ?_
  rintro e w5 ⟨rfl, hb⟩
  have HS5 : Hid (Rd g a cap ns _ w5 ∧ w.grownBy w5 (some g) ∧ w5.heap[w.heap.size]? = some (.cells #[.int .i64 0, .int .i64 0, .int .i64 0, .int .i64 0] 34 (0, 0))) := ⟨HS4.out.1.below hb, grw_more HS4.out.2.1 (grw_below hb), (hb.block _ (Array.getElem?_eq_some_iff.1 HS4.out.2.2).1).trans HS4.out.2.2⟩
  clear hb HS4
  rw [hn]
  go_wp2_with fail
  refine (want_yes _ _).mono ?_
  rintro e wq ⟨rfl, rfl⟩
  go_wp2_with fail
  refine Calls.mono (IH3.out _ HS5.out.1) ?_
  rintro e w6 ⟨rfl, hg⟩
  have HE : Hid (w.grownBy w6 (some g)) := grw_more HS5.out.2.1 hg
  clear hg HS5
  go_wp2
  exact ⟨rfl, rfl, HE.out⟩
set_option maxHeartbeats 1600000 in
set_option maxRecDepth 20000 in
theorem hl_f7 (g : Nat) (a : Option Addr) (cap : Nat) (ns : List Nd) (k : Int) (k1 k2 k3 k4 k5 v0 v1 v2 x1 x2 : Int) (w : World) (hs : Rd g a cap ns k w)
    (H0 : ∀ wz, Rd g a cap ns k wz → Calls Try.prog 93 #[.pointer (some ⟨g, 0, none⟩)] wz (RdP g a cap ns (.int .i64 v0) k1 wz))
    (he : (v0 == 61) = true)
    (H1 : ∀ wz, Rd g a cap ns k1 wz → Calls Try.prog 93 #[.pointer (some ⟨g, 0, none⟩)] wz (RdP g a cap ns (.int .i64 v1) k2 wz))
    (H2 : ∀ wz, Rd g a cap ns k2 wz → Calls Try.prog 93 #[.pointer (some ⟨g, 0, none⟩)] wz (RdP g a cap ns (.int .i64 v2) k3 wz))
    (hw : (Lit.int .i64 v2).wf = true)
    (hm : inB v1 1 2 = true)
    (hn : nmB v2 = true)
    (H3 : ∀ wz, Rd g a cap ns k3 wz → Calls Try.prog 96 #[.pointer (some ⟨g, 0, none⟩)] wz (RdP g a cap ns (.int .i64 x1) k4 wz))
    (H4 : ∀ wz, Rd g a cap ns k4 wz → Calls Try.prog 97 #[.pointer (some ⟨g, 0, none⟩)] wz (RdN g wz)) :
    Calls Try.prog 59 #[.pointer (some ⟨g, 0, none⟩)] w (RdN g w) := by
  have hb0 : Below w.heap.size w (w.alloc (.cells #[.int .i64 0, .int .i64 0, .int .i64 0, .int .i64 0] 34)) := (Below.refl _ _).alloc (Nat.le_refl _) _
  have hlt := hs.lt
  have HS0 : Hid (Rd g a cap ns k (w.alloc (.cells #[.int .i64 0, .int .i64 0, .int .i64 0, .int .i64 0] 34)) ∧ w.grownBy (w.alloc (.cells #[.int .i64 0, .int .i64 0, .int .i64 0, .int .i64 0] 34)) (some g) ∧ (w.alloc (.cells #[.int .i64 0, .int .i64 0, .int .i64 0, .int .i64 0] 34)).heap[w.heap.size]? = some (.cells #[.int .i64 0, .int .i64 0, .int .i64 0, .int .i64 0] 34 (0, 0))) := ⟨hs.below hb0, grw_below hb0, heap_alloc_new w _⟩
  have IH0 : Hid (∀ wz, Rd g a cap ns k wz → Calls Try.prog 93 #[.pointer (some ⟨g, 0, none⟩)] wz (RdP g a cap ns (.int .i64 v0) k1 wz)) := H0
  clear H0
  have IH1 : Hid (∀ wz, Rd g a cap ns k1 wz → Calls Try.prog 93 #[.pointer (some ⟨g, 0, none⟩)] wz (RdP g a cap ns (.int .i64 v1) k2 wz)) := H1
  clear H1
  have IH2 : Hid (∀ wz, Rd g a cap ns k2 wz → Calls Try.prog 93 #[.pointer (some ⟨g, 0, none⟩)] wz (RdP g a cap ns (.int .i64 v2) k3 wz)) := H2
  clear H2
  have IH3 : Hid (∀ wz, Rd g a cap ns k3 wz → Calls Try.prog 96 #[.pointer (some ⟨g, 0, none⟩)] wz (RdP g a cap ns (.int .i64 x1) k4 wz)) := H3
  clear H3
  have IH4 : Hid (∀ wz, Rd g a cap ns k4 wz → Calls Try.prog 97 #[.pointer (some ⟨g, 0, none⟩)] wz (RdN g wz)) := H4
  clear H4
  clear hs hb0
  go_enter Try.func59, Try.ntmps59
  go_wp2_with fail
  generalize w.alloc (.cells #[.int .i64 0, .int .i64 0, .int .i64 0, .int .i64 0] 34) = w0 at HS0 ⊢
  refine Calls.mono (IH0.out _ HS0.out.1) ?_
  rintro e w1 ⟨rfl, hr, hg⟩
  have HS1 : Hid (Rd g a cap ns _ w1 ∧ w.grownBy w1 (some g) ∧ w1.heap[w.heap.size]? = some (.cells #[.int .i64 0, .int .i64 0, .int .i64 0, .int .i64 0] 34 (0, 0))) := ⟨hr, grw_more HS0.out.2.1 hg, (hg.block _ (Array.getElem?_eq_some_iff.1 HS0.out.2.2).1 (by simp; omega)).trans HS0.out.2.2⟩
  clear hr hg HS0
  go_wp2_with fail
  refine (want_yes _ _).mono ?_
  rintro e wq ⟨rfl, rfl⟩
  go_wp2_with fail
  refine Calls.mono (IH1.out _ HS1.out.1) ?_
  rintro e w2 ⟨rfl, hr, hg⟩
  have HS2 : Hid (Rd g a cap ns _ w2 ∧ w.grownBy w2 (some g) ∧ w2.heap[w.heap.size]? = some (.cells #[.int .i64 0, .int .i64 0, .int .i64 0, .int .i64 0] 34 (0, 0))) := ⟨hr, grw_more HS1.out.2.1 hg, (hg.block _ (Array.getElem?_eq_some_iff.1 HS1.out.2.2).1 (by simp; omega)).trans HS1.out.2.2⟩
  clear hr hg HS1
  go_wp2_with fail
  refine Calls.mono (IH2.out _ HS2.out.1) ?_
  rintro e w3 ⟨rfl, hr, hg⟩
  have HS3 : Hid (Rd g a cap ns _ w3 ∧ w.grownBy w3 (some g) ∧ w3.heap[w.heap.size]? = some (.cells #[.int .i64 0, .int .i64 0, .int .i64 0, .int .i64 0] 34 (0, 0))) := ⟨hr, grw_more HS2.out.2.1 hg, (hg.block _ (Array.getElem?_eq_some_iff.1 HS2.out.2.2).1 (by simp; omega)).trans HS2.out.2.2⟩
  clear hr hg HS2
  go_wp2_with fail
  refine Calls.mono (isMode_any v1 _) ?_
  rintro e w4 ⟨rfl, hb⟩
  have HS4 : Hid (Rd g a cap ns _ w4 ∧ w.grownBy w4 (some g) ∧ w4.heap[w.heap.size]? = some (.cells #[.int .i64 0, .int .i64 0, .int .i64 0, .int .i64 0] 34 (0, 0))) := ⟨HS3.out.1.below hb, grw_more HS3.out.2.1 (grw_below hb), (hb.block _ (Array.getElem?_eq_some_iff.1 HS3.out.2.2).1).trans HS3.out.2.2⟩
  clear hb HS3
  rw [hm]
  go_wp2_with fail
  refine Calls.mono (isName_any v2 _ hw) ?_
  rintro e w5 ⟨rfl, hb⟩
  have HS5 : Hid (Rd g a cap ns _ w5 ∧ w.grownBy w5 (some g) ∧ w5.heap[w.heap.size]? = some (.cells #[.int .i64 0, .int .i64 0, .int .i64 0, .int .i64 0] 34 (0, 0))) := ⟨HS4.out.1.below hb, grw_more HS4.out.2.1 (grw_below hb), (hb.block _ (Array.getElem?_eq_some_iff.1 HS4.out.2.2).1).trans HS4.out.2.2⟩
  clear hb HS4
  rw [hn]
  go_wp2_with fail
  refine (want_yes _ _).mono ?_
  rintro e wq ⟨rfl, rfl⟩
  go_wp2_with fail
  refine Calls.mono (IH3.out _ HS5.out.1) ?_
  rintro e w6 ⟨rfl, hr, hg⟩
  have HS6 : Hid (Rd g a cap ns _ w6 ∧ w.grownBy w6 (some g) ∧ w6.heap[w.heap.size]? = some (.cells #[.int .i64 0, .int .i64 0, .int .i64 0, .int .i64 0] 34 (0, 0))) := ⟨hr, grw_more HS5.out.2.1 hg, (hg.block _ (Array.getElem?_eq_some_iff.1 HS5.out.2.2).1 (by simp; omega)).trans HS5.out.2.2⟩
  clear hr hg HS5
  go_wp2_with fail
  refine Calls.mono (IH4.out _ HS6.out.1) ?_
  rintro e w7 ⟨rfl, hg⟩
  have HE : Hid (w.grownBy w7 (some g)) := grw_more HS6.out.2.1 hg
  clear hg HS6
  go_wp2
  exact ⟨rfl, rfl, HE.out⟩
set_option maxHeartbeats 1600000 in
set_option maxRecDepth 20000 in
theorem hl_f8 (g : Nat) (a : Option Addr) (cap : Nat) (ns : List Nd) (k : Int) (k1 k2 k3 k4 k5 v0 v1 v2 x1 x2 : Int) (w : World) (hs : Rd g a cap ns k w)
    (H0 : ∀ wz, Rd g a cap ns k wz → Calls Try.prog 93 #[.pointer (some ⟨g, 0, none⟩)] wz (RdP g a cap ns (.int .i64 v0) k1 wz))
    (he : (v0 == 61) = true)
    (H1 : ∀ wz, Rd g a cap ns k1 wz → Calls Try.prog 93 #[.pointer (some ⟨g, 0, none⟩)] wz (RdP g a cap ns (.int .i64 v1) k2 wz))
    (H2 : ∀ wz, Rd g a cap ns k2 wz → Calls Try.prog 93 #[.pointer (some ⟨g, 0, none⟩)] wz (RdP g a cap ns (.int .i64 v2) k3 wz))
    (hw : (Lit.int .i64 v2).wf = true)
    (hm : inB v1 1 2 = true)
    (hn : nmB v2 = true)
    (H3 : ∀ wz, Rd g a cap ns k3 wz → Calls Try.prog 96 #[.pointer (some ⟨g, 0, none⟩)] wz (RdP g a cap ns (.int .i64 x1) k4 wz))
    (H4 : ∀ wz, Rd g a cap ns k4 wz → Calls Try.prog 97 #[.pointer (some ⟨g, 0, none⟩)] wz (RdP g a cap ns (.int .i64 x2) k5 wz))
    (H5 : ∀ wz, Rd g a cap ns k5 wz → Calls Try.prog 98 #[.pointer (some ⟨g, 0, none⟩)] wz (RdN g wz)) :
    Calls Try.prog 59 #[.pointer (some ⟨g, 0, none⟩)] w (RdN g w) := by
  have hb0 : Below w.heap.size w (w.alloc (.cells #[.int .i64 0, .int .i64 0, .int .i64 0, .int .i64 0] 34)) := (Below.refl _ _).alloc (Nat.le_refl _) _
  have hlt := hs.lt
  have HS0 : Hid (Rd g a cap ns k (w.alloc (.cells #[.int .i64 0, .int .i64 0, .int .i64 0, .int .i64 0] 34)) ∧ w.grownBy (w.alloc (.cells #[.int .i64 0, .int .i64 0, .int .i64 0, .int .i64 0] 34)) (some g) ∧ (w.alloc (.cells #[.int .i64 0, .int .i64 0, .int .i64 0, .int .i64 0] 34)).heap[w.heap.size]? = some (.cells #[.int .i64 0, .int .i64 0, .int .i64 0, .int .i64 0] 34 (0, 0))) := ⟨hs.below hb0, grw_below hb0, heap_alloc_new w _⟩
  have IH0 : Hid (∀ wz, Rd g a cap ns k wz → Calls Try.prog 93 #[.pointer (some ⟨g, 0, none⟩)] wz (RdP g a cap ns (.int .i64 v0) k1 wz)) := H0
  clear H0
  have IH1 : Hid (∀ wz, Rd g a cap ns k1 wz → Calls Try.prog 93 #[.pointer (some ⟨g, 0, none⟩)] wz (RdP g a cap ns (.int .i64 v1) k2 wz)) := H1
  clear H1
  have IH2 : Hid (∀ wz, Rd g a cap ns k2 wz → Calls Try.prog 93 #[.pointer (some ⟨g, 0, none⟩)] wz (RdP g a cap ns (.int .i64 v2) k3 wz)) := H2
  clear H2
  have IH3 : Hid (∀ wz, Rd g a cap ns k3 wz → Calls Try.prog 96 #[.pointer (some ⟨g, 0, none⟩)] wz (RdP g a cap ns (.int .i64 x1) k4 wz)) := H3
  clear H3
  have IH4 : Hid (∀ wz, Rd g a cap ns k4 wz → Calls Try.prog 97 #[.pointer (some ⟨g, 0, none⟩)] wz (RdP g a cap ns (.int .i64 x2) k5 wz)) := H4
  clear H4
  have IH5 : Hid (∀ wz, Rd g a cap ns k5 wz → Calls Try.prog 98 #[.pointer (some ⟨g, 0, none⟩)] wz (RdN g wz)) := H5
  clear H5
  clear hs hb0
  go_enter Try.func59, Try.ntmps59
  go_wp2_with fail
  generalize w.alloc (.cells #[.int .i64 0, .int .i64 0, .int .i64 0, .int .i64 0] 34) = w0 at HS0 ⊢
  refine Calls.mono (IH0.out _ HS0.out.1) ?_
  rintro e w1 ⟨rfl, hr, hg⟩
  have HS1 : Hid (Rd g a cap ns _ w1 ∧ w.grownBy w1 (some g) ∧ w1.heap[w.heap.size]? = some (.cells #[.int .i64 0, .int .i64 0, .int .i64 0, .int .i64 0] 34 (0, 0))) := ⟨hr, grw_more HS0.out.2.1 hg, (hg.block _ (Array.getElem?_eq_some_iff.1 HS0.out.2.2).1 (by simp; omega)).trans HS0.out.2.2⟩
  clear hr hg HS0
  go_wp2_with fail
  refine (want_yes _ _).mono ?_
  rintro e wq ⟨rfl, rfl⟩
  go_wp2_with fail
  refine Calls.mono (IH1.out _ HS1.out.1) ?_
  rintro e w2 ⟨rfl, hr, hg⟩
  have HS2 : Hid (Rd g a cap ns _ w2 ∧ w.grownBy w2 (some g) ∧ w2.heap[w.heap.size]? = some (.cells #[.int .i64 0, .int .i64 0, .int .i64 0, .int .i64 0] 34 (0, 0))) := ⟨hr, grw_more HS1.out.2.1 hg, (hg.block _ (Array.getElem?_eq_some_iff.1 HS1.out.2.2).1 (by simp; omega)).trans HS1.out.2.2⟩
  clear hr hg HS1
  go_wp2_with fail
  refine Calls.mono (IH2.out _ HS2.out.1) ?_
  rintro e w3 ⟨rfl, hr, hg⟩
  have HS3 : Hid (Rd g a cap ns _ w3 ∧ w.grownBy w3 (some g) ∧ w3.heap[w.heap.size]? = some (.cells #[.int .i64 0, .int .i64 0, .int .i64 0, .int .i64 0] 34 (0, 0))) := ⟨hr, grw_more HS2.out.2.1 hg, (hg.block _ (Array.getElem?_eq_some_iff.1 HS2.out.2.2).1 (by simp; omega)).trans HS2.out.2.2⟩
  clear hr hg HS2
  go_wp2_with fail
  refine Calls.mono (isMode_any v1 _) ?_
  rintro e w4 ⟨rfl, hb⟩
  have HS4 : Hid (Rd g a cap ns _ w4 ∧ w.grownBy w4 (some g) ∧ w4.heap[w.heap.size]? = some (.cells #[.int .i64 0, .int .i64 0, .int .i64 0, .int .i64 0] 34 (0, 0))) := ⟨HS3.out.1.below hb, grw_more HS3.out.2.1 (grw_below hb), (hb.block _ (Array.getElem?_eq_some_iff.1 HS3.out.2.2).1).trans HS3.out.2.2⟩
  clear hb HS3
  rw [hm]
  go_wp2_with fail
  refine Calls.mono (isName_any v2 _ hw) ?_
  rintro e w5 ⟨rfl, hb⟩
  have HS5 : Hid (Rd g a cap ns _ w5 ∧ w.grownBy w5 (some g) ∧ w5.heap[w.heap.size]? = some (.cells #[.int .i64 0, .int .i64 0, .int .i64 0, .int .i64 0] 34 (0, 0))) := ⟨HS4.out.1.below hb, grw_more HS4.out.2.1 (grw_below hb), (hb.block _ (Array.getElem?_eq_some_iff.1 HS4.out.2.2).1).trans HS4.out.2.2⟩
  clear hb HS4
  rw [hn]
  go_wp2_with fail
  refine (want_yes _ _).mono ?_
  rintro e wq ⟨rfl, rfl⟩
  go_wp2_with fail
  refine Calls.mono (IH3.out _ HS5.out.1) ?_
  rintro e w6 ⟨rfl, hr, hg⟩
  have HS6 : Hid (Rd g a cap ns _ w6 ∧ w.grownBy w6 (some g) ∧ w6.heap[w.heap.size]? = some (.cells #[.int .i64 0, .int .i64 0, .int .i64 0, .int .i64 0] 34 (0, 0))) := ⟨hr, grw_more HS5.out.2.1 hg, (hg.block _ (Array.getElem?_eq_some_iff.1 HS5.out.2.2).1 (by simp; omega)).trans HS5.out.2.2⟩
  clear hr hg HS5
  go_wp2_with fail
  refine Calls.mono (IH4.out _ HS6.out.1) ?_
  rintro e w7 ⟨rfl, hr, hg⟩
  have HS7 : Hid (Rd g a cap ns _ w7 ∧ w.grownBy w7 (some g) ∧ w7.heap[w.heap.size]? = some (.cells #[.int .i64 0, .int .i64 0, .int .i64 0, .int .i64 0] 34 (0, 0))) := ⟨hr, grw_more HS6.out.2.1 hg, (hg.block _ (Array.getElem?_eq_some_iff.1 HS6.out.2.2).1 (by simp; omega)).trans HS6.out.2.2⟩
  clear hr hg HS6
  go_wp2_with fail
  refine Calls.mono (IH5.out _ HS7.out.1) ?_
  rintro e w8 ⟨rfl, hg⟩
  have HE : Hid (w.grownBy w8 (some g)) := grw_more HS7.out.2.1 hg
  clear hg HS7
  go_wp2
  exact ⟨rfl, rfl, HE.out⟩
end Go.Proofs.Ytlecpjgeaigjkaa
