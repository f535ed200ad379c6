/- A part read from a text (chapter 30): ReadPart, the specification's. -/
import Derived.Test.YtiojbefgafekaaaRp30
import Derived.WalkKit
import Derived.WalkLawsBesides
import Derived.WalkSpells
import Derived.OwnWalk
import Derived.PlainAid
import Derived.Deep.Cut
import Derived.Laws.Rows
namespace Go.Proofs.Ytiojbefgafekaaa
open Go.RowKit Go.PlainAid
set_option maxRecDepth 20000
set_option linter.unusedVariables false
theorem pt_reads {t : ByteArray} {n a b : Int} {k1 k2 k3 k4 j : Nat} (r1 : RV t 0 = some (n, k1)) (r2 : RV t (k1 : Int) = some (a, k2)) (r3 : RV t (k2 : Int) = some (b, k3)) (r4 : RS t (k3 : Int) = some (k4, j)) : ptIn t = ⟨n, a, b, t.extract k4 j⟩ := by
  have f1 := rv_some r1
  have f2 := rv_some r2
  have f3 := rv_some r3
  unfold ptIn
  rw [f1]
  simp only []
  rw [f2]
  simp only []
  rw [f3]
  simp only []
  unfold rs
  rw [r4]
set_option maxHeartbeats 1600000 in
theorem specReadPart_n1 (t : ByteArray) (w : World) (hs : t.size ≤ 1048576) (r1 : RV t 0 = none) :
    Calls Try.prog 14 #[.string t] w fun e w' => e = .returned (.tuple #[.agg #[.int .i64 zPt.n, .int .i64 zPt.a, .int .i64 zPt.b, .string zPt.t], .bool false]) ∧ Below w.heap.size w w' := by
  have H1 : Hid (∀ wz, _) := fun wz => specRead_none t 0 wz hs r1
  clear r1
  have hA : (w.alloc (.cells #[.int .i64 0, .int .i64 0, .int .i64 0, .string ⟨#[]⟩] 26)).heap[w.heap.size]? = some (.cells #[.int .i64 0, .int .i64 0, .int .i64 0, .string ⟨#[]⟩] 26 (0, 0)) := heap_alloc_new w _
  have hB : Below w.heap.size w (w.alloc (.cells #[.int .i64 0, .int .i64 0, .int .i64 0, .string ⟨#[]⟩] 26)) := (Below.refl _ _).alloc (Nat.le_refl _) _
  go_enter Try.func14, Try.ntmps14
  go_wp2_with fail
  generalize (w.alloc (.cells #[.int .i64 0, .int .i64 0, .int .i64 0, .string ⟨#[]⟩] 26)) = w0 at hA hB ⊢
  have hlt : w.heap.size < w0.heap.size := (Array.getElem?_eq_some_iff.1 hA).1
  refine Calls.mono (H1.out _) ?_
  rintro e w1 ⟨rfl, hb⟩
  replace hA := (hb.block _ hlt).trans hA
  replace hB := hB.trans (hb.mono hB.size)
  replace hlt := (Array.getElem?_eq_some_iff.1 hA).1
  clear hb
  have n0 : w1.cell? ⟨w.heap.size, 0, none⟩ = some (.int .i64 0) := (cell_of_row w1 _ 0 _ _ _ hA).trans rfl
  have m0 : w1.frozen? ⟨w.heap.size, 0, none⟩ = false := frozen_of_row w1 _ 0 _ _ hA
  have n1 : w1.cell? ⟨w.heap.size, 1, none⟩ = some (.int .i64 0) := (cell_of_row w1 _ 1 _ _ _ hA).trans rfl
  have m1 : w1.frozen? ⟨w.heap.size, 1, none⟩ = false := frozen_of_row w1 _ 1 _ _ hA
  have n2 : w1.cell? ⟨w.heap.size, 2, none⟩ = some (.int .i64 0) := (cell_of_row w1 _ 2 _ _ _ hA).trans rfl
  have m2 : w1.frozen? ⟨w.heap.size, 2, none⟩ = false := frozen_of_row w1 _ 2 _ _ hA
  have n3 : w1.cell? ⟨w.heap.size, 3, none⟩ = some (.string ⟨#[]⟩) := (cell_of_row w1 _ 3 _ _ _ hA).trans rfl
  have m3 : w1.frozen? ⟨w.heap.size, 3, none⟩ = false := frozen_of_row w1 _ 3 _ _ hA
  have HBL : Hid _ := store4t hA (.int .i64 0) (.int .i64 0) (.int .i64 0) (.string ⟨#[]⟩)
  have HB : Hid _ := below4t (g := w.heap.size) hB (Nat.le_refl _) (.int .i64 0) (.int .i64 0) (.int .i64 0) (.string ⟨#[]⟩)
  clear hA hB hlt
  go_wp2
  refine bodyPost_ret (res_ct rfl _ _ w.heap.size 26 #[.int .i64 0, .int .i64 0, .int .i64 0, .string ⟨#[]⟩] (0, 0) _ rfl ?_ Try.underlying26 rfl partSizeR) rfl ?_
  · exact HBL.out
  · exact ⟨rfl, HB.out⟩
set_option maxHeartbeats 1600000 in
theorem specReadPart_n2 (t : ByteArray) (w : World) (hs : t.size ≤ 1048576) (n : Int) (k1 : Nat) (r1 : RV t 0 = some (n, k1)) (r2 : RV t (k1 : Int) = none) :
    Calls Try.prog 14 #[.string t] w fun e w' => e = .returned (.tuple #[.agg #[.int .i64 zPt.n, .int .i64 zPt.a, .int .i64 zPt.b, .string zPt.t], .bool false]) ∧ Below w.heap.size w w' := by
  have H1 : Hid (∀ wz, _) := fun wz => specRead_some t 0 wz hs n k1 r1
  have H2 : Hid (∀ wz, _) := fun wz => specRead_none t (k1 : Int) wz hs r2
  clear r1 r2
  have hA : (w.alloc (.cells #[.int .i64 0, .int .i64 0, .int .i64 0, .string ⟨#[]⟩] 26)).heap[w.heap.size]? = some (.cells #[.int .i64 0, .int .i64 0, .int .i64 0, .string ⟨#[]⟩] 26 (0, 0)) := heap_alloc_new w _
  have hB : Below w.heap.size w (w.alloc (.cells #[.int .i64 0, .int .i64 0, .int .i64 0, .string ⟨#[]⟩] 26)) := (Below.refl _ _).alloc (Nat.le_refl _) _
  go_enter Try.func14, Try.ntmps14
  go_wp2_with fail
  generalize (w.alloc (.cells #[.int .i64 0, .int .i64 0, .int .i64 0, .string ⟨#[]⟩] 26)) = w0 at hA hB ⊢
  have hlt : w.heap.size < w0.heap.size := (Array.getElem?_eq_some_iff.1 hA).1
  refine Calls.mono (H1.out _) ?_
  rintro e w1 ⟨rfl, hb⟩
  replace hA := (hb.block _ hlt).trans hA
  replace hB := hB.trans (hb.mono hB.size)
  replace hlt := (Array.getElem?_eq_some_iff.1 hA).1
  clear hb
  go_wp2_with fail
  refine Calls.mono (H2.out _) ?_
  rintro e w2 ⟨rfl, hb⟩
  replace hA := (hb.block _ hlt).trans hA
  replace hB := hB.trans (hb.mono hB.size)
  replace hlt := (Array.getElem?_eq_some_iff.1 hA).1
  clear hb
  have n0 : w2.cell? ⟨w.heap.size, 0, none⟩ = some (.int .i64 0) := (cell_of_row w2 _ 0 _ _ _ hA).trans rfl
  have m0 : w2.frozen? ⟨w.heap.size, 0, none⟩ = false := frozen_of_row w2 _ 0 _ _ hA
  have n1 : w2.cell? ⟨w.heap.size, 1, none⟩ = some (.int .i64 0) := (cell_of_row w2 _ 1 _ _ _ hA).trans rfl
  have m1 : w2.frozen? ⟨w.heap.size, 1, none⟩ = false := frozen_of_row w2 _ 1 _ _ hA
  have n2 : w2.cell? ⟨w.heap.size, 2, none⟩ = some (.int .i64 0) := (cell_of_row w2 _ 2 _ _ _ hA).trans rfl
  have m2 : w2.frozen? ⟨w.heap.size, 2, none⟩ = false := frozen_of_row w2 _ 2 _ _ hA
  have n3 : w2.cell? ⟨w.heap.size, 3, none⟩ = some (.string ⟨#[]⟩) := (cell_of_row w2 _ 3 _ _ _ hA).trans rfl
  have m3 : w2.frozen? ⟨w.heap.size, 3, none⟩ = false := frozen_of_row w2 _ 3 _ _ hA
  have HBL : Hid _ := store4t hA (.int .i64 0) (.int .i64 0) (.int .i64 0) (.string ⟨#[]⟩)
  have HB : Hid _ := below4t (g := w.heap.size) hB (Nat.le_refl _) (.int .i64 0) (.int .i64 0) (.int .i64 0) (.string ⟨#[]⟩)
  clear hA hB hlt
  go_wp2
  refine bodyPost_ret (res_ct rfl _ _ w.heap.size 26 #[.int .i64 0, .int .i64 0, .int .i64 0, .string ⟨#[]⟩] (0, 0) _ rfl ?_ Try.underlying26 rfl partSizeR) rfl ?_
  · exact HBL.out
  · exact ⟨rfl, HB.out⟩
set_option maxHeartbeats 1600000 in
theorem specReadPart_n3 (t : ByteArray) (w : World) (hs : t.size ≤ 1048576) (n a : Int) (k1 k2 : Nat) (r1 : RV t 0 = some (n, k1)) (r2 : RV t (k1 : Int) = some (a, k2)) (r3 : RV t (k2 : Int) = none) :
    Calls Try.prog 14 #[.string t] w fun e w' => e = .returned (.tuple #[.agg #[.int .i64 zPt.n, .int .i64 zPt.a, .int .i64 zPt.b, .string zPt.t], .bool false]) ∧ Below w.heap.size w w' := by
  have H1 : Hid (∀ wz, _) := fun wz => specRead_some t 0 wz hs n k1 r1
  have H2 : Hid (∀ wz, _) := fun wz => specRead_some t (k1 : Int) wz hs a k2 r2
  have H3 : Hid (∀ wz, _) := fun wz => specRead_none t (k2 : Int) wz hs r3
  clear r1 r2 r3
  have hA : (w.alloc (.cells #[.int .i64 0, .int .i64 0, .int .i64 0, .string ⟨#[]⟩] 26)).heap[w.heap.size]? = some (.cells #[.int .i64 0, .int .i64 0, .int .i64 0, .string ⟨#[]⟩] 26 (0, 0)) := heap_alloc_new w _
  have hB : Below w.heap.size w (w.alloc (.cells #[.int .i64 0, .int .i64 0, .int .i64 0, .string ⟨#[]⟩] 26)) := (Below.refl _ _).alloc (Nat.le_refl _) _
  go_enter Try.func14, Try.ntmps14
  go_wp2_with fail
  generalize (w.alloc (.cells #[.int .i64 0, .int .i64 0, .int .i64 0, .string ⟨#[]⟩] 26)) = w0 at hA hB ⊢
  have hlt : w.heap.size < w0.heap.size := (Array.getElem?_eq_some_iff.1 hA).1
  refine Calls.mono (H1.out _) ?_
  rintro e w1 ⟨rfl, hb⟩
  replace hA := (hb.block _ hlt).trans hA
  replace hB := hB.trans (hb.mono hB.size)
  replace hlt := (Array.getElem?_eq_some_iff.1 hA).1
  clear hb
  go_wp2_with fail
  refine Calls.mono (H2.out _) ?_
  rintro e w2 ⟨rfl, hb⟩
  replace hA := (hb.block _ hlt).trans hA
  replace hB := hB.trans (hb.mono hB.size)
  replace hlt := (Array.getElem?_eq_some_iff.1 hA).1
  clear hb
  go_wp2_with fail
  refine Calls.mono (H3.out _) ?_
  rintro e w3 ⟨rfl, hb⟩
  replace hA := (hb.block _ hlt).trans hA
  replace hB := hB.trans (hb.mono hB.size)
  replace hlt := (Array.getElem?_eq_some_iff.1 hA).1
  clear hb
  have n0 : w3.cell? ⟨w.heap.size, 0, none⟩ = some (.int .i64 0) := (cell_of_row w3 _ 0 _ _ _ hA).trans rfl
  have m0 : w3.frozen? ⟨w.heap.size, 0, none⟩ = false := frozen_of_row w3 _ 0 _ _ hA
  have n1 : w3.cell? ⟨w.heap.size, 1, none⟩ = some (.int .i64 0) := (cell_of_row w3 _ 1 _ _ _ hA).trans rfl
  have m1 : w3.frozen? ⟨w.heap.size, 1, none⟩ = false := frozen_of_row w3 _ 1 _ _ hA
  have n2 : w3.cell? ⟨w.heap.size, 2, none⟩ = some (.int .i64 0) := (cell_of_row w3 _ 2 _ _ _ hA).trans rfl
  have m2 : w3.frozen? ⟨w.heap.size, 2, none⟩ = false := frozen_of_row w3 _ 2 _ _ hA
  have n3 : w3.cell? ⟨w.heap.size, 3, none⟩ = some (.string ⟨#[]⟩) := (cell_of_row w3 _ 3 _ _ _ hA).trans rfl
  have m3 : w3.frozen? ⟨w.heap.size, 3, none⟩ = false := frozen_of_row w3 _ 3 _ _ hA
  have HBL : Hid _ := store4t hA (.int .i64 0) (.int .i64 0) (.int .i64 0) (.string ⟨#[]⟩)
  have HB : Hid _ := below4t (g := w.heap.size) hB (Nat.le_refl _) (.int .i64 0) (.int .i64 0) (.int .i64 0) (.string ⟨#[]⟩)
  clear hA hB hlt
  go_wp2
  refine bodyPost_ret (res_ct rfl _ _ w.heap.size 26 #[.int .i64 0, .int .i64 0, .int .i64 0, .string ⟨#[]⟩] (0, 0) _ rfl ?_ Try.underlying26 rfl partSizeR) rfl ?_
  · exact HBL.out
  · exact ⟨rfl, HB.out⟩
set_option maxHeartbeats 1600000 in
theorem specReadPart_n4 (t : ByteArray) (w : World) (hs : t.size ≤ 1048576) (n a b : Int) (k1 k2 k3 : Nat) (r1 : RV t 0 = some (n, k1)) (r2 : RV t (k1 : Int) = some (a, k2)) (r3 : RV t (k2 : Int) = some (b, k3)) (r4 : RS t (k3 : Int) = none) :
    Calls Try.prog 14 #[.string t] w fun e w' => e = .returned (.tuple #[.agg #[.int .i64 zPt.n, .int .i64 zPt.a, .int .i64 zPt.b, .string zPt.t], .bool false]) ∧ Below w.heap.size w w' := by
  have H1 : Hid (∀ wz, _) := fun wz => specRead_some t 0 wz hs n k1 r1
  have H2 : Hid (∀ wz, _) := fun wz => specRead_some t (k1 : Int) wz hs a k2 r2
  have H3 : Hid (∀ wz, _) := fun wz => specRead_some t (k2 : Int) wz hs b k3 r3
  have H4 : Hid (∀ wz, _) := fun wz => specRS_none t (k3 : Int) wz hs r4
  clear r1 r2 r3 r4
  generalize hs0 : (ByteArray.empty : ByteArray) = s at H4
  have HT : Hid (∀ wz, _) := fun wz => specPtx_any ⟨n, a, b, s⟩ wz (by rw [← hs0]; exact Nat.zero_le _)
  simp only [] at HT
  clear hs0
  generalize ptT ⟨n, a, b, s⟩ = T at HT
  generalize ptOk ⟨n, a, b, s⟩ = K at HT
  have hA : (w.alloc (.cells #[.int .i64 0, .int .i64 0, .int .i64 0, .string ⟨#[]⟩] 26)).heap[w.heap.size]? = some (.cells #[.int .i64 0, .int .i64 0, .int .i64 0, .string ⟨#[]⟩] 26 (0, 0)) := heap_alloc_new w _
  have hB : Below w.heap.size w (w.alloc (.cells #[.int .i64 0, .int .i64 0, .int .i64 0, .string ⟨#[]⟩] 26)) := (Below.refl _ _).alloc (Nat.le_refl _) _
  go_enter Try.func14, Try.ntmps14
  go_wp2_with fail
  generalize (w.alloc (.cells #[.int .i64 0, .int .i64 0, .int .i64 0, .string ⟨#[]⟩] 26)) = w0 at hA hB ⊢
  have hlt : w.heap.size < w0.heap.size := (Array.getElem?_eq_some_iff.1 hA).1
  refine Calls.mono (H1.out _) ?_
  rintro e w1 ⟨rfl, hb⟩
  replace hA := (hb.block _ hlt).trans hA
  replace hB := hB.trans (hb.mono hB.size)
  replace hlt := (Array.getElem?_eq_some_iff.1 hA).1
  clear hb
  go_wp2_with fail
  refine Calls.mono (H2.out _) ?_
  rintro e w2 ⟨rfl, hb⟩
  replace hA := (hb.block _ hlt).trans hA
  replace hB := hB.trans (hb.mono hB.size)
  replace hlt := (Array.getElem?_eq_some_iff.1 hA).1
  clear hb
  go_wp2_with fail
  refine Calls.mono (H3.out _) ?_
  rintro e w3 ⟨rfl, hb⟩
  replace hA := (hb.block _ hlt).trans hA
  replace hB := hB.trans (hb.mono hB.size)
  replace hlt := (Array.getElem?_eq_some_iff.1 hA).1
  clear hb
  go_wp2_with fail
  refine Calls.mono (H4.out _) ?_
  rintro e w4 ⟨rfl, hb⟩
  replace hA := (hb.block _ hlt).trans hA
  replace hB := hB.trans (hb.mono hB.size)
  replace hlt := (Array.getElem?_eq_some_iff.1 hA).1
  clear hb
  have hG : (w4.alloc (.cells #[.int .i64 n, .int .i64 a, .int .i64 b, .string s] 26)).heap[w4.heap.size]? = some (.cells #[.int .i64 n, .int .i64 a, .int .i64 b, .string s] 26 (0, 0)) := heap_alloc_new w4 _
  go_wp2_with fail
  replace hA := (heap_alloc_old w4 (.cells #[.int .i64 n, .int .i64 a, .int .i64 b, .string s] 26) hlt).trans hA
  replace hB := hB.alloc (Nat.le_of_lt hlt) (.cells #[.int .i64 n, .int .i64 a, .int .i64 b, .string s] 26)
  generalize (w4.alloc (.cells #[.int .i64 n, .int .i64 a, .int .i64 b, .string s] 26)) = w5 at hA hB hG ⊢
  replace hlt := (Array.getElem?_eq_some_iff.1 hA).1
  have hltG := (Array.getElem?_eq_some_iff.1 hG).1
  refine Calls.mono (HT.out _) ?_
  rintro e w6 ⟨rfl, hb⟩
  replace hG := (hb.block _ hltG).trans hG
  clear hltG
  replace hA := (hb.block _ hlt).trans hA
  replace hB := hB.trans (hb.mono hB.size)
  replace hlt := (Array.getElem?_eq_some_iff.1 hA).1
  clear hb
  clear hG
  have n0 : w6.cell? ⟨w.heap.size, 0, none⟩ = some (.int .i64 0) := (cell_of_row w6 _ 0 _ _ _ hA).trans rfl
  have m0 : w6.frozen? ⟨w.heap.size, 0, none⟩ = false := frozen_of_row w6 _ 0 _ _ hA
  have n1 : w6.cell? ⟨w.heap.size, 1, none⟩ = some (.int .i64 0) := (cell_of_row w6 _ 1 _ _ _ hA).trans rfl
  have m1 : w6.frozen? ⟨w.heap.size, 1, none⟩ = false := frozen_of_row w6 _ 1 _ _ hA
  have n2 : w6.cell? ⟨w.heap.size, 2, none⟩ = some (.int .i64 0) := (cell_of_row w6 _ 2 _ _ _ hA).trans rfl
  have m2 : w6.frozen? ⟨w.heap.size, 2, none⟩ = false := frozen_of_row w6 _ 2 _ _ hA
  have n3 : w6.cell? ⟨w.heap.size, 3, none⟩ = some (.string ⟨#[]⟩) := (cell_of_row w6 _ 3 _ _ _ hA).trans rfl
  have m3 : w6.frozen? ⟨w.heap.size, 3, none⟩ = false := frozen_of_row w6 _ 3 _ _ hA
  have HBL : Hid _ := store4t hA (.int .i64 0) (.int .i64 0) (.int .i64 0) (.string ⟨#[]⟩)
  have HB : Hid _ := below4t (g := w.heap.size) hB (Nat.le_refl _) (.int .i64 0) (.int .i64 0) (.int .i64 0) (.string ⟨#[]⟩)
  clear hA hB hlt
  go_wp2
  refine bodyPost_ret (res_ct rfl _ _ w.heap.size 26 #[.int .i64 0, .int .i64 0, .int .i64 0, .string ⟨#[]⟩] (0, 0) _ rfl ?_ Try.underlying26 rfl partSizeR) rfl ?_
  · exact HBL.out
  · exact ⟨rfl, HB.out⟩
set_option maxHeartbeats 1600000 in
theorem specReadPart_n5 (t : ByteArray) (w : World) (hs : t.size ≤ 1048576) (n a b : Int) (k1 k2 k3 : Nat) (r1 : RV t 0 = some (n, k1)) (r2 : RV t (k1 : Int) = some (a, k2)) (r3 : RV t (k2 : Int) = some (b, k3)) (k4 j : Nat) (r4 : RS t (k3 : Int) = some (k4, j)) (hj : j ≠ t.size) :
    Calls Try.prog 14 #[.string t] w fun e w' => e = .returned (.tuple #[.agg #[.int .i64 zPt.n, .int .i64 zPt.a, .int .i64 zPt.b, .string zPt.t], .bool false]) ∧ Below w.heap.size w w' := by
  have H1 : Hid (∀ wz, _) := fun wz => specRead_some t 0 wz hs n k1 r1
  have H2 : Hid (∀ wz, _) := fun wz => specRead_some t (k1 : Int) wz hs a k2 r2
  have H3 : Hid (∀ wz, _) := fun wz => specRead_some t (k2 : Int) wz hs b k3 r3
  have H4 : Hid (∀ wz, _) := fun wz => specRS_some t (k3 : Int) wz hs k4 j r4
  have hsz := extract_le t k4 j (RS_le r4)
  clear r1 r2 r3 r4
  have HT : Hid (∀ wz, _) := fun wz => specPtx_any ⟨n, a, b, t.extract k4 j⟩ wz (Nat.le_trans hsz hs)
  clear hsz
  simp only [] at HT
  have hq : (((j : Nat) : Int) != ((t.size : Nat) : Int)) = true := by simp; omega
  generalize ptT ⟨n, a, b, t.extract k4 j⟩ = T at HT
  generalize ptOk ⟨n, a, b, t.extract k4 j⟩ = K at HT
  generalize t.extract k4 j = s at H4 HT
  clear hj
  have hA : (w.alloc (.cells #[.int .i64 0, .int .i64 0, .int .i64 0, .string ⟨#[]⟩] 26)).heap[w.heap.size]? = some (.cells #[.int .i64 0, .int .i64 0, .int .i64 0, .string ⟨#[]⟩] 26 (0, 0)) := heap_alloc_new w _
  have hB : Below w.heap.size w (w.alloc (.cells #[.int .i64 0, .int .i64 0, .int .i64 0, .string ⟨#[]⟩] 26)) := (Below.refl _ _).alloc (Nat.le_refl _) _
  go_enter Try.func14, Try.ntmps14
  go_wp2_with fail
  generalize (w.alloc (.cells #[.int .i64 0, .int .i64 0, .int .i64 0, .string ⟨#[]⟩] 26)) = w0 at hA hB ⊢
  have hlt : w.heap.size < w0.heap.size := (Array.getElem?_eq_some_iff.1 hA).1
  refine Calls.mono (H1.out _) ?_
  rintro e w1 ⟨rfl, hb⟩
  replace hA := (hb.block _ hlt).trans hA
  replace hB := hB.trans (hb.mono hB.size)
  replace hlt := (Array.getElem?_eq_some_iff.1 hA).1
  clear hb
  go_wp2_with fail
  refine Calls.mono (H2.out _) ?_
  rintro e w2 ⟨rfl, hb⟩
  replace hA := (hb.block _ hlt).trans hA
  replace hB := hB.trans (hb.mono hB.size)
  replace hlt := (Array.getElem?_eq_some_iff.1 hA).1
  clear hb
  go_wp2_with fail
  refine Calls.mono (H3.out _) ?_
  rintro e w3 ⟨rfl, hb⟩
  replace hA := (hb.block _ hlt).trans hA
  replace hB := hB.trans (hb.mono hB.size)
  replace hlt := (Array.getElem?_eq_some_iff.1 hA).1
  clear hb
  go_wp2_with fail
  refine Calls.mono (H4.out _) ?_
  rintro e w4 ⟨rfl, hb⟩
  replace hA := (hb.block _ hlt).trans hA
  replace hB := hB.trans (hb.mono hB.size)
  replace hlt := (Array.getElem?_eq_some_iff.1 hA).1
  clear hb
  have hG : (w4.alloc (.cells #[.int .i64 n, .int .i64 a, .int .i64 b, .string s] 26)).heap[w4.heap.size]? = some (.cells #[.int .i64 n, .int .i64 a, .int .i64 b, .string s] 26 (0, 0)) := heap_alloc_new w4 _
  go_wp2_with fail
  replace hA := (heap_alloc_old w4 (.cells #[.int .i64 n, .int .i64 a, .int .i64 b, .string s] 26) hlt).trans hA
  replace hB := hB.alloc (Nat.le_of_lt hlt) (.cells #[.int .i64 n, .int .i64 a, .int .i64 b, .string s] 26)
  generalize (w4.alloc (.cells #[.int .i64 n, .int .i64 a, .int .i64 b, .string s] 26)) = w5 at hA hB hG ⊢
  replace hlt := (Array.getElem?_eq_some_iff.1 hA).1
  have hltG := (Array.getElem?_eq_some_iff.1 hG).1
  refine Calls.mono (HT.out _) ?_
  rintro e w6 ⟨rfl, hb⟩
  replace hG := (hb.block _ hltG).trans hG
  clear hltG
  replace hA := (hb.block _ hlt).trans hA
  replace hB := hB.trans (hb.mono hB.size)
  replace hlt := (Array.getElem?_eq_some_iff.1 hA).1
  clear hb
  clear hG
  have n0 : w6.cell? ⟨w.heap.size, 0, none⟩ = some (.int .i64 0) := (cell_of_row w6 _ 0 _ _ _ hA).trans rfl
  have m0 : w6.frozen? ⟨w.heap.size, 0, none⟩ = false := frozen_of_row w6 _ 0 _ _ hA
  have n1 : w6.cell? ⟨w.heap.size, 1, none⟩ = some (.int .i64 0) := (cell_of_row w6 _ 1 _ _ _ hA).trans rfl
  have m1 : w6.frozen? ⟨w.heap.size, 1, none⟩ = false := frozen_of_row w6 _ 1 _ _ hA
  have n2 : w6.cell? ⟨w.heap.size, 2, none⟩ = some (.int .i64 0) := (cell_of_row w6 _ 2 _ _ _ hA).trans rfl
  have m2 : w6.frozen? ⟨w.heap.size, 2, none⟩ = false := frozen_of_row w6 _ 2 _ _ hA
  have n3 : w6.cell? ⟨w.heap.size, 3, none⟩ = some (.string ⟨#[]⟩) := (cell_of_row w6 _ 3 _ _ _ hA).trans rfl
  have m3 : w6.frozen? ⟨w.heap.size, 3, none⟩ = false := frozen_of_row w6 _ 3 _ _ hA
  have HBL : Hid _ := store4t hA (.int .i64 0) (.int .i64 0) (.int .i64 0) (.string ⟨#[]⟩)
  have HB : Hid _ := below4t (g := w.heap.size) hB (Nat.le_refl _) (.int .i64 0) (.int .i64 0) (.int .i64 0) (.string ⟨#[]⟩)
  clear hA hB hlt
  go_wp2
  refine bodyPost_ret (res_ct rfl _ _ w.heap.size 26 #[.int .i64 0, .int .i64 0, .int .i64 0, .string ⟨#[]⟩] (0, 0) _ rfl ?_ Try.underlying26 rfl partSizeR) rfl ?_
  · exact HBL.out
  · exact ⟨rfl, HB.out⟩
set_option maxHeartbeats 1600000 in
theorem specReadPart_n6 (t : ByteArray) (w : World) (hs : t.size ≤ 1048576) (n a b : Int) (k1 k2 k3 : Nat) (r1 : RV t 0 = some (n, k1)) (r2 : RV t (k1 : Int) = some (a, k2)) (r3 : RV t (k2 : Int) = some (b, k3)) (k4 : Nat) (r4 : RS t (k3 : Int) = some (k4, t.size)) (hk : ptOk ⟨n, a, b, t.extract k4 t.size⟩ = false) :
    Calls Try.prog 14 #[.string t] w fun e w' => e = .returned (.tuple #[.agg #[.int .i64 zPt.n, .int .i64 zPt.a, .int .i64 zPt.b, .string zPt.t], .bool false]) ∧ Below w.heap.size w w' := by
  have H1 : Hid (∀ wz, _) := fun wz => specRead_some t 0 wz hs n k1 r1
  have H2 : Hid (∀ wz, _) := fun wz => specRead_some t (k1 : Int) wz hs a k2 r2
  have H3 : Hid (∀ wz, _) := fun wz => specRead_some t (k2 : Int) wz hs b k3 r3
  have H4 : Hid (∀ wz, _) := fun wz => specRS_some t (k3 : Int) wz hs k4 t.size r4
  have hsz := extract_le t k4 t.size (RS_le r4)
  clear r1 r2 r3 r4
  have HT : Hid (∀ wz, _) := fun wz => specPtx_any ⟨n, a, b, t.extract k4 t.size⟩ wz (Nat.le_trans hsz hs)
  clear hsz
  simp only [] at HT
  rw [hk] at HT
  clear hk
  generalize ptT ⟨n, a, b, t.extract k4 t.size⟩ = T at HT
  generalize t.extract k4 t.size = s at H4 HT
  have hA : (w.alloc (.cells #[.int .i64 0, .int .i64 0, .int .i64 0, .string ⟨#[]⟩] 26)).heap[w.heap.size]? = some (.cells #[.int .i64 0, .int .i64 0, .int .i64 0, .string ⟨#[]⟩] 26 (0, 0)) := heap_alloc_new w _
  have hB : Below w.heap.size w (w.alloc (.cells #[.int .i64 0, .int .i64 0, .int .i64 0, .string ⟨#[]⟩] 26)) := (Below.refl _ _).alloc (Nat.le_refl _) _
  go_enter Try.func14, Try.ntmps14
  go_wp2_with fail
  generalize (w.alloc (.cells #[.int .i64 0, .int .i64 0, .int .i64 0, .string ⟨#[]⟩] 26)) = w0 at hA hB ⊢
  have hlt : w.heap.size < w0.heap.size := (Array.getElem?_eq_some_iff.1 hA).1
  refine Calls.mono (H1.out _) ?_
  rintro e w1 ⟨rfl, hb⟩
  replace hA := (hb.block _ hlt).trans hA
  replace hB := hB.trans (hb.mono hB.size)
  replace hlt := (Array.getElem?_eq_some_iff.1 hA).1
  clear hb
  go_wp2_with fail
  refine Calls.mono (H2.out _) ?_
  rintro e w2 ⟨rfl, hb⟩
  replace hA := (hb.block _ hlt).trans hA
  replace hB := hB.trans (hb.mono hB.size)
  replace hlt := (Array.getElem?_eq_some_iff.1 hA).1
  clear hb
  go_wp2_with fail
  refine Calls.mono (H3.out _) ?_
  rintro e w3 ⟨rfl, hb⟩
  replace hA := (hb.block _ hlt).trans hA
  replace hB := hB.trans (hb.mono hB.size)
  replace hlt := (Array.getElem?_eq_some_iff.1 hA).1
  clear hb
  go_wp2_with fail
  refine Calls.mono (H4.out _) ?_
  rintro e w4 ⟨rfl, hb⟩
  replace hA := (hb.block _ hlt).trans hA
  replace hB := hB.trans (hb.mono hB.size)
  replace hlt := (Array.getElem?_eq_some_iff.1 hA).1
  clear hb
  have hG : (w4.alloc (.cells #[.int .i64 n, .int .i64 a, .int .i64 b, .string s] 26)).heap[w4.heap.size]? = some (.cells #[.int .i64 n, .int .i64 a, .int .i64 b, .string s] 26 (0, 0)) := heap_alloc_new w4 _
  go_wp2_with fail
  replace hA := (heap_alloc_old w4 (.cells #[.int .i64 n, .int .i64 a, .int .i64 b, .string s] 26) hlt).trans hA
  replace hB := hB.alloc (Nat.le_of_lt hlt) (.cells #[.int .i64 n, .int .i64 a, .int .i64 b, .string s] 26)
  generalize (w4.alloc (.cells #[.int .i64 n, .int .i64 a, .int .i64 b, .string s] 26)) = w5 at hA hB hG ⊢
  replace hlt := (Array.getElem?_eq_some_iff.1 hA).1
  have hltG := (Array.getElem?_eq_some_iff.1 hG).1
  refine Calls.mono (HT.out _) ?_
  rintro e w6 ⟨rfl, hb⟩
  replace hG := (hb.block _ hltG).trans hG
  clear hltG
  replace hA := (hb.block _ hlt).trans hA
  replace hB := hB.trans (hb.mono hB.size)
  replace hlt := (Array.getElem?_eq_some_iff.1 hA).1
  clear hb
  clear hG
  have n0 : w6.cell? ⟨w.heap.size, 0, none⟩ = some (.int .i64 0) := (cell_of_row w6 _ 0 _ _ _ hA).trans rfl
  have m0 : w6.frozen? ⟨w.heap.size, 0, none⟩ = false := frozen_of_row w6 _ 0 _ _ hA
  have n1 : w6.cell? ⟨w.heap.size, 1, none⟩ = some (.int .i64 0) := (cell_of_row w6 _ 1 _ _ _ hA).trans rfl
  have m1 : w6.frozen? ⟨w.heap.size, 1, none⟩ = false := frozen_of_row w6 _ 1 _ _ hA
  have n2 : w6.cell? ⟨w.heap.size, 2, none⟩ = some (.int .i64 0) := (cell_of_row w6 _ 2 _ _ _ hA).trans rfl
  have m2 : w6.frozen? ⟨w.heap.size, 2, none⟩ = false := frozen_of_row w6 _ 2 _ _ hA
  have n3 : w6.cell? ⟨w.heap.size, 3, none⟩ = some (.string ⟨#[]⟩) := (cell_of_row w6 _ 3 _ _ _ hA).trans rfl
  have m3 : w6.frozen? ⟨w.heap.size, 3, none⟩ = false := frozen_of_row w6 _ 3 _ _ hA
  have HBL : Hid _ := store4t hA (.int .i64 0) (.int .i64 0) (.int .i64 0) (.string ⟨#[]⟩)
  have HB : Hid _ := below4t (g := w.heap.size) hB (Nat.le_refl _) (.int .i64 0) (.int .i64 0) (.int .i64 0) (.string ⟨#[]⟩)
  clear hA hB hlt
  go_wp2
  refine bodyPost_ret (res_ct rfl _ _ w.heap.size 26 #[.int .i64 0, .int .i64 0, .int .i64 0, .string ⟨#[]⟩] (0, 0) _ rfl ?_ Try.underlying26 rfl partSizeR) rfl ?_
  · exact HBL.out
  · exact ⟨rfl, HB.out⟩
set_option maxHeartbeats 1600000 in
theorem specReadPart_n7 (t : ByteArray) (w : World) (hs : t.size ≤ 1048576) (n a b : Int) (k1 k2 k3 : Nat) (r1 : RV t 0 = some (n, k1)) (r2 : RV t (k1 : Int) = some (a, k2)) (r3 : RV t (k2 : Int) = some (b, k3)) (k4 : Nat) (r4 : RS t (k3 : Int) = some (k4, t.size)) (hk : ptOk ⟨n, a, b, t.extract k4 t.size⟩ = true) (hT : ptT ⟨n, a, b, t.extract k4 t.size⟩ ≠ t) :
    Calls Try.prog 14 #[.string t] w fun e w' => e = .returned (.tuple #[.agg #[.int .i64 zPt.n, .int .i64 zPt.a, .int .i64 zPt.b, .string zPt.t], .bool false]) ∧ Below w.heap.size w w' := by
  have H1 : Hid (∀ wz, _) := fun wz => specRead_some t 0 wz hs n k1 r1
  have H2 : Hid (∀ wz, _) := fun wz => specRead_some t (k1 : Int) wz hs a k2 r2
  have H3 : Hid (∀ wz, _) := fun wz => specRead_some t (k2 : Int) wz hs b k3 r3
  have H4 : Hid (∀ wz, _) := fun wz => specRS_some t (k3 : Int) wz hs k4 t.size r4
  have hsz := extract_le t k4 t.size (RS_le r4)
  clear r1 r2 r3 r4
  have HT : Hid (∀ wz, _) := fun wz => specPtx_any ⟨n, a, b, t.extract k4 t.size⟩ wz (Nat.le_trans hsz hs)
  clear hsz
  simp only [] at HT
  rw [hk] at HT
  clear hk
  generalize ptT ⟨n, a, b, t.extract k4 t.size⟩ = T at HT hT
  have hq := list_ne hT
  clear hT
  generalize t.extract k4 t.size = s at H4 HT
  have hA : (w.alloc (.cells #[.int .i64 0, .int .i64 0, .int .i64 0, .string ⟨#[]⟩] 26)).heap[w.heap.size]? = some (.cells #[.int .i64 0, .int .i64 0, .int .i64 0, .string ⟨#[]⟩] 26 (0, 0)) := heap_alloc_new w _
  have hB : Below w.heap.size w (w.alloc (.cells #[.int .i64 0, .int .i64 0, .int .i64 0, .string ⟨#[]⟩] 26)) := (Below.refl _ _).alloc (Nat.le_refl _) _
  go_enter Try.func14, Try.ntmps14
  go_wp2_with fail
  generalize (w.alloc (.cells #[.int .i64 0, .int .i64 0, .int .i64 0, .string ⟨#[]⟩] 26)) = w0 at hA hB ⊢
  have hlt : w.heap.size < w0.heap.size := (Array.getElem?_eq_some_iff.1 hA).1
  refine Calls.mono (H1.out _) ?_
  rintro e w1 ⟨rfl, hb⟩
  replace hA := (hb.block _ hlt).trans hA
  replace hB := hB.trans (hb.mono hB.size)
  replace hlt := (Array.getElem?_eq_some_iff.1 hA).1
  clear hb
  go_wp2_with fail
  refine Calls.mono (H2.out _) ?_
  rintro e w2 ⟨rfl, hb⟩
  replace hA := (hb.block _ hlt).trans hA
  replace hB := hB.trans (hb.mono hB.size)
  replace hlt := (Array.getElem?_eq_some_iff.1 hA).1
  clear hb
  go_wp2_with fail
  refine Calls.mono (H3.out _) ?_
  rintro e w3 ⟨rfl, hb⟩
  replace hA := (hb.block _ hlt).trans hA
  replace hB := hB.trans (hb.mono hB.size)
  replace hlt := (Array.getElem?_eq_some_iff.1 hA).1
  clear hb
  go_wp2_with fail
  refine Calls.mono (H4.out _) ?_
  rintro e w4 ⟨rfl, hb⟩
  replace hA := (hb.block _ hlt).trans hA
  replace hB := hB.trans (hb.mono hB.size)
  replace hlt := (Array.getElem?_eq_some_iff.1 hA).1
  clear hb
  have hG : (w4.alloc (.cells #[.int .i64 n, .int .i64 a, .int .i64 b, .string s] 26)).heap[w4.heap.size]? = some (.cells #[.int .i64 n, .int .i64 a, .int .i64 b, .string s] 26 (0, 0)) := heap_alloc_new w4 _
  go_wp2_with fail
  replace hA := (heap_alloc_old w4 (.cells #[.int .i64 n, .int .i64 a, .int .i64 b, .string s] 26) hlt).trans hA
  replace hB := hB.alloc (Nat.le_of_lt hlt) (.cells #[.int .i64 n, .int .i64 a, .int .i64 b, .string s] 26)
  generalize (w4.alloc (.cells #[.int .i64 n, .int .i64 a, .int .i64 b, .string s] 26)) = w5 at hA hB hG ⊢
  replace hlt := (Array.getElem?_eq_some_iff.1 hA).1
  have hltG := (Array.getElem?_eq_some_iff.1 hG).1
  refine Calls.mono (HT.out _) ?_
  rintro e w6 ⟨rfl, hb⟩
  replace hG := (hb.block _ hltG).trans hG
  clear hltG
  replace hA := (hb.block _ hlt).trans hA
  replace hB := hB.trans (hb.mono hB.size)
  replace hlt := (Array.getElem?_eq_some_iff.1 hA).1
  clear hb
  clear hG
  have n0 : w6.cell? ⟨w.heap.size, 0, none⟩ = some (.int .i64 0) := (cell_of_row w6 _ 0 _ _ _ hA).trans rfl
  have m0 : w6.frozen? ⟨w.heap.size, 0, none⟩ = false := frozen_of_row w6 _ 0 _ _ hA
  have n1 : w6.cell? ⟨w.heap.size, 1, none⟩ = some (.int .i64 0) := (cell_of_row w6 _ 1 _ _ _ hA).trans rfl
  have m1 : w6.frozen? ⟨w.heap.size, 1, none⟩ = false := frozen_of_row w6 _ 1 _ _ hA
  have n2 : w6.cell? ⟨w.heap.size, 2, none⟩ = some (.int .i64 0) := (cell_of_row w6 _ 2 _ _ _ hA).trans rfl
  have m2 : w6.frozen? ⟨w.heap.size, 2, none⟩ = false := frozen_of_row w6 _ 2 _ _ hA
  have n3 : w6.cell? ⟨w.heap.size, 3, none⟩ = some (.string ⟨#[]⟩) := (cell_of_row w6 _ 3 _ _ _ hA).trans rfl
  have m3 : w6.frozen? ⟨w.heap.size, 3, none⟩ = false := frozen_of_row w6 _ 3 _ _ hA
  have HBL : Hid _ := store4t hA (.int .i64 0) (.int .i64 0) (.int .i64 0) (.string ⟨#[]⟩)
  have HB : Hid _ := below4t (g := w.heap.size) hB (Nat.le_refl _) (.int .i64 0) (.int .i64 0) (.int .i64 0) (.string ⟨#[]⟩)
  clear hA hB hlt
  go_wp2
  refine bodyPost_ret (res_ct rfl _ _ w.heap.size 26 #[.int .i64 0, .int .i64 0, .int .i64 0, .string ⟨#[]⟩] (0, 0) _ rfl ?_ Try.underlying26 rfl partSizeR) rfl ?_
  · exact HBL.out
  · exact ⟨rfl, HB.out⟩
set_option maxHeartbeats 1600000 in
theorem specReadPart_yes (t : ByteArray) (w : World) (hs : t.size ≤ 1048576) (n a b : Int) (k1 k2 k3 : Nat) (r1 : RV t 0 = some (n, k1)) (r2 : RV t (k1 : Int) = some (a, k2)) (r3 : RV t (k2 : Int) = some (b, k3)) (k4 : Nat) (r4 : RS t (k3 : Int) = some (k4, t.size)) (hk : ptOk ⟨n, a, b, t.extract k4 t.size⟩ = true) (hT : ptT ⟨n, a, b, t.extract k4 t.size⟩ = t) :
    Calls Try.prog 14 #[.string t] w fun e w' => e = .returned (.tuple #[.agg #[.int .i64 n, .int .i64 a, .int .i64 b, .string (t.extract k4 t.size)], .bool true]) ∧ Below w.heap.size w w' := by
  have H1 : Hid (∀ wz, _) := fun wz => specRead_some t 0 wz hs n k1 r1
  have H2 : Hid (∀ wz, _) := fun wz => specRead_some t (k1 : Int) wz hs a k2 r2
  have H3 : Hid (∀ wz, _) := fun wz => specRead_some t (k2 : Int) wz hs b k3 r3
  have H4 : Hid (∀ wz, _) := fun wz => specRS_some t (k3 : Int) wz hs k4 t.size r4
  have hsz := extract_le t k4 t.size (RS_le r4)
  clear r1 r2 r3 r4
  have HT : Hid (∀ wz, _) := fun wz => specPtx_any ⟨n, a, b, t.extract k4 t.size⟩ wz (Nat.le_trans hsz hs)
  clear hsz
  simp only [] at HT
  rw [hk, hT] at HT
  clear hk hT
  generalize t.extract k4 t.size = s at H4 HT ⊢
  have hA : (w.alloc (.cells #[.int .i64 0, .int .i64 0, .int .i64 0, .string ⟨#[]⟩] 26)).heap[w.heap.size]? = some (.cells #[.int .i64 0, .int .i64 0, .int .i64 0, .string ⟨#[]⟩] 26 (0, 0)) := heap_alloc_new w _
  have hB : Below w.heap.size w (w.alloc (.cells #[.int .i64 0, .int .i64 0, .int .i64 0, .string ⟨#[]⟩] 26)) := (Below.refl _ _).alloc (Nat.le_refl _) _
  go_enter Try.func14, Try.ntmps14
  go_wp2_with fail
  generalize (w.alloc (.cells #[.int .i64 0, .int .i64 0, .int .i64 0, .string ⟨#[]⟩] 26)) = w0 at hA hB ⊢
  have hlt : w.heap.size < w0.heap.size := (Array.getElem?_eq_some_iff.1 hA).1
  refine Calls.mono (H1.out _) ?_
  rintro e w1 ⟨rfl, hb⟩
  replace hA := (hb.block _ hlt).trans hA
  replace hB := hB.trans (hb.mono hB.size)
  replace hlt := (Array.getElem?_eq_some_iff.1 hA).1
  clear hb
  go_wp2_with fail
  refine Calls.mono (H2.out _) ?_
  rintro e w2 ⟨rfl, hb⟩
  replace hA := (hb.block _ hlt).trans hA
  replace hB := hB.trans (hb.mono hB.size)
  replace hlt := (Array.getElem?_eq_some_iff.1 hA).1
  clear hb
  go_wp2_with fail
  refine Calls.mono (H3.out _) ?_
  rintro e w3 ⟨rfl, hb⟩
  replace hA := (hb.block _ hlt).trans hA
  replace hB := hB.trans (hb.mono hB.size)
  replace hlt := (Array.getElem?_eq_some_iff.1 hA).1
  clear hb
  go_wp2_with fail
  refine Calls.mono (H4.out _) ?_
  rintro e w4 ⟨rfl, hb⟩
  replace hA := (hb.block _ hlt).trans hA
  replace hB := hB.trans (hb.mono hB.size)
  replace hlt := (Array.getElem?_eq_some_iff.1 hA).1
  clear hb
  have hG : (w4.alloc (.cells #[.int .i64 n, .int .i64 a, .int .i64 b, .string s] 26)).heap[w4.heap.size]? = some (.cells #[.int .i64 n, .int .i64 a, .int .i64 b, .string s] 26 (0, 0)) := heap_alloc_new w4 _
  go_wp2_with fail
  replace hA := (heap_alloc_old w4 (.cells #[.int .i64 n, .int .i64 a, .int .i64 b, .string s] 26) hlt).trans hA
  replace hB := hB.alloc (Nat.le_of_lt hlt) (.cells #[.int .i64 n, .int .i64 a, .int .i64 b, .string s] 26)
  generalize (w4.alloc (.cells #[.int .i64 n, .int .i64 a, .int .i64 b, .string s] 26)) = w5 at hA hB hG ⊢
  replace hlt := (Array.getElem?_eq_some_iff.1 hA).1
  have hltG := (Array.getElem?_eq_some_iff.1 hG).1
  refine Calls.mono (HT.out _) ?_
  rintro e w6 ⟨rfl, hb⟩
  replace hG := (hb.block _ hltG).trans hG
  clear hltG
  replace hA := (hb.block _ hlt).trans hA
  replace hB := hB.trans (hb.mono hB.size)
  replace hlt := (Array.getElem?_eq_some_iff.1 hA).1
  clear hb
  have c0 : w6.cell? ⟨w4.heap.size, 0, none⟩ = some (.int .i64 n) := (cell_of_row _ _ 0 _ _ _ hG).trans rfl
  have c1 : w6.cell? ⟨w4.heap.size, 1, none⟩ = some (.int .i64 a) := (cell_of_row _ _ 1 _ _ _ hG).trans rfl
  have c2 : w6.cell? ⟨w4.heap.size, 2, none⟩ = some (.int .i64 b) := (cell_of_row _ _ 2 _ _ _ hG).trans rfl
  have c3 : w6.cell? ⟨w4.heap.size, 3, none⟩ = some (.string s) := (cell_of_row _ _ 3 _ _ _ hG).trans rfl
  clear hG
  have n0 : w6.cell? ⟨w.heap.size, 0, none⟩ = some (.int .i64 0) := (cell_of_row w6 _ 0 _ _ _ hA).trans rfl
  have m0 : w6.frozen? ⟨w.heap.size, 0, none⟩ = false := frozen_of_row w6 _ 0 _ _ hA
  have n1 : w6.cell? ⟨w.heap.size, 1, none⟩ = some (.int .i64 0) := (cell_of_row w6 _ 1 _ _ _ hA).trans rfl
  have m1 : w6.frozen? ⟨w.heap.size, 1, none⟩ = false := frozen_of_row w6 _ 1 _ _ hA
  have n2 : w6.cell? ⟨w.heap.size, 2, none⟩ = some (.int .i64 0) := (cell_of_row w6 _ 2 _ _ _ hA).trans rfl
  have m2 : w6.frozen? ⟨w.heap.size, 2, none⟩ = false := frozen_of_row w6 _ 2 _ _ hA
  have n3 : w6.cell? ⟨w.heap.size, 3, none⟩ = some (.string ⟨#[]⟩) := (cell_of_row w6 _ 3 _ _ _ hA).trans rfl
  have m3 : w6.frozen? ⟨w.heap.size, 3, none⟩ = false := frozen_of_row w6 _ 3 _ _ hA
  have HBL : Hid _ := store4t hA (.int .i64 n) (.int .i64 a) (.int .i64 b) (.string s)
  have HB : Hid _ := below4t (g := w.heap.size) hB (Nat.le_refl _) (.int .i64 n) (.int .i64 a) (.int .i64 b) (.string s)
  clear hA hB hlt
  go_wp2
  refine bodyPost_ret (res_ct rfl _ _ w.heap.size 26 #[.int .i64 n, .int .i64 a, .int .i64 b, .string s] (0, 0) _ rfl ?_ Try.underlying26 rfl partSizeR) rfl ?_
  · exact HBL.out
  · exact ⟨rfl, HB.out⟩
theorem specReadPart_any (t : ByteArray) (w : World) (hs : t.size ≤ 1048576) :
    Calls Try.prog 14 #[.string t] w fun e w' => e = .returned (.tuple #[.agg #[.int .i64 (rpP t).n, .int .i64 (rpP t).a, .int .i64 (rpP t).b, .string (rpP t).t], .bool (rpOk t)]) ∧ Below w.heap.size w w' := by
  cases h : rpOk t with
  | true =>
    obtain ⟨hk, hT, n, a, b, k1, k2, k3, k4, r1, r2, r3, r4, he⟩ := rp_true h
    rw [show rpP t = ptIn t from by unfold rpP; rw [if_pos h]]
    rw [he] at hk hT ⊢
    exact specReadPart_yes t w hs n a b k1 k2 k3 r1 r2 r3 k4 r4 hk hT
  | false =>
    rw [show rpP t = zPt from by unfold rpP; rw [if_neg (by rw [h]; simp)]]
    cases r1 : RV t 0 with
    | none => exact specReadPart_n1 t w hs r1
    | some y1 =>
      obtain ⟨n, k1⟩ := y1
      cases r2 : RV t (k1 : Int) with
      | none => exact specReadPart_n2 t w hs n k1 r1 r2
      | some y2 =>
        obtain ⟨a, k2⟩ := y2
        cases r3 : RV t (k2 : Int) with
        | none => exact specReadPart_n3 t w hs n a k1 k2 r1 r2 r3
        | some y3 =>
          obtain ⟨b, k3⟩ := y3
          cases r4 : RS t (k3 : Int) with
          | none => exact specReadPart_n4 t w hs n a b k1 k2 k3 r1 r2 r3 r4
          | some y4 =>
            obtain ⟨k4, j⟩ := y4
            by_cases hj : j = t.size
            · subst hj
              have he : ptIn t = ⟨n, a, b, t.extract k4 t.size⟩ := pt_reads r1 r2 r3 r4
              rcases rp_false h with q1 | ⟨q1, q2⟩
              · rw [he] at q1
                exact specReadPart_n6 t w hs n a b k1 k2 k3 r1 r2 r3 k4 r4 q1
              · rw [he] at q1 q2
                exact specReadPart_n7 t w hs n a b k1 k2 k3 r1 r2 r3 k4 r4 q1 q2
            · exact specReadPart_n5 t w hs n a b k1 k2 k3 r1 r2 r3 k4 j r4 hj
end Go.Proofs.Ytiojbefgafekaaa
