/- The specification's numbers of a curve (chapter 27): FieldAdd, FieldSub, FieldMul, FieldInv. -/
import Derived.Test.YtjhglbdknjoeeaaSfl27
import Derived.Test.YtjhglbdknjoeeaaWho27
import Derived.Test.YtjhglbdknjoeeaaSinv27
import Derived.Test.YtjhglbdknjoeeaaFld27
import Derived.Laws.OwnMore
import Derived.Laws.MakeOwn
import Derived.Deep.QuietTactic
import Derived.BigQuiet
import Derived.WalkKit
import Derived.WalkLawsBesides
import Derived.WalkSpells
import Derived.BigRegion
import Derived.Laws.ShiftsVar
import Derived.Lib.Strings
import Derived.Below
import Derived.OwnWalk
import Derived.PlainAid
import Derived.Great.Walk
namespace Go.Proofs.Ytjhglbdknjoeeaa
open Go.RowKit Go.PlainAid
set_option maxRecDepth 20000
set_option linter.unusedVariables false
set_option linter.unusedSimpArgs false
theorem okF_lim {l : List Int} (h : okF l = true) : within (-LIM) LIM l := within_mono (okF_in h) (by decide) (by decide)
theorem okF_sg {l : List Int} (h : okF l = true) : within (-262144) 262144 l := within_mono (okF_in h) (by decide) (by decide)
theorem invF_len (l : List Int) : (invF l).length ≤ 2097152 := by
  unfold invF
  split
  · rw [canon_len]; omega
  · simp
theorem twoF_len (l m : List Int) (v : Int) : (twoF l m v).length ≤ 2097152 := by
  unfold twoF
  split
  · rw [canon_len]; omega
  · simp
theorem wsmall_lim {l : List Int} (h : within (-262144) 262144 l) : within (-LIM) LIM l := within_mono h (by decide) (by decide)
set_option maxHeartbeats 3200000 in
theorem specFieldAdd_any (a0 a1 : Option Addr) (c0 c1 : Nat) (n0 n1 : List Int) (w : World) (hr0 : RowI w.heap.size w a0 n0) (hr1 : RowI w.heap.size w a1 n1) (hm0 : n0.length ≤ 1048576) (hm1 : n1.length ≤ 1048576) :
    Calls Try.prog 29 #[.agg #[.slice a0 n0.length c0], .agg #[.slice a1 n1.length c1]] w fun e w' => ∃ v, e = .returned (.agg #[v]) ∧ OwnInt w.heap.size w' v (twoF n0 n1 (v16 n0 + v16 n1)) ∧ Below w.heap.size w w' := by
  have hA2 : (((w.alloc (.cells #[.slice a0 n0.length c0] 26)).alloc (.cells #[.slice a1 n1.length c1] 26)).alloc (.cells #[.slice none 0 0] 26)).heap[w.heap.size + 2]? = some (.cells #[.slice none 0 0] 26 (0, 0)) := by
    have := heap_alloc_new ((w.alloc (.cells #[.slice a0 n0.length c0] 26)).alloc (.cells #[.slice a1 n1.length c1] 26)) (.cells #[.slice none 0 0] 26)
    simpa using this
  have hA1 : (((w.alloc (.cells #[.slice a0 n0.length c0] 26)).alloc (.cells #[.slice a1 n1.length c1] 26)).alloc (.cells #[.slice none 0 0] 26)).heap[w.heap.size + 1]? = some (.cells #[.slice a1 n1.length c1] 26 (0, 0)) := by
    have := heap_alloc_new (w.alloc (.cells #[.slice a0 n0.length c0] 26)) (.cells #[.slice a1 n1.length c1] 26)
    exact (Lib.alloc_old _ _ _ (by simp)).trans (by simpa using this)
  have hA0 : (((w.alloc (.cells #[.slice a0 n0.length c0] 26)).alloc (.cells #[.slice a1 n1.length c1] 26)).alloc (.cells #[.slice none 0 0] 26)).heap[w.heap.size]? = some (.cells #[.slice a0 n0.length c0] 26 (0, 0)) := (Lib.alloc_old _ _ _ (by simp; omega)).trans <| (Lib.alloc_old _ _ _ (by simp)).trans (heap_alloc_new w _)
  have hB0 : Below w.heap.size w (((w.alloc (.cells #[.slice a0 n0.length c0] 26)).alloc (.cells #[.slice a1 n1.length c1] 26)).alloc (.cells #[.slice none 0 0] 26)) := (((Below.refl _ _).alloc (Nat.le_refl _) _).alloc (by simp) _).alloc (by simp; omega) _
  go_enter Try.func29, Try.ntmps29
  go_upto_region 1 with fail
  generalize (((w.alloc (.cells #[.slice a0 n0.length c0] 26)).alloc (.cells #[.slice a1 n1.length c1] 26)).alloc (.cells #[.slice none 0 0] 26)) = w0 at hA0 hA1 hA2 hB0 ⊢
  have R0 : Hid (RowI w0.heap.size w0 a0 n0) := hr0.grown hB0
  have R1 : Hid (RowI w0.heap.size w0 a1 n1) := hr1.grown hB0
  have HA : Hid (w0.heap[w.heap.size + 2]? = some (.cells #[.slice none 0 0] 26 (0, 0))) := hA2
  have H0 : Hid (w0.heap[w.heap.size]? = some (.cells #[.slice a0 n0.length c0] 26 (0, 0))) := hA0
  have H1 : Hid (w0.heap[w.heap.size + 1]? = some (.cells #[.slice a1 n1.length c1] 26 (0, 0))) := hA1
  have HB : Hid (Below w.heap.size w w0) := hB0
  clear hA0 hA1 hA2 hB0 hr0 hr1
  have HC : Hid _ := specFieldOk_any a0 c0 n0 w0 R0.out hm0
  have a0' : w0.cell? ⟨w.heap.size, 0, none⟩ = some (.slice a0 n0.length c0) := by rw [cell_of_row w0 _ 0 _ _ _ H0.out]; rfl
  have a1' : w0.cell? ⟨w.heap.size + 1, 0, none⟩ = some (.slice a1 n1.length c1) := by rw [cell_of_row w0 _ 0 _ _ _ H1.out]; rfl
  go_wp2_with fail
  refine Calls.mono HC.out ?_
  rintro e w1 ⟨rfl, hb⟩
  have Q0 : Hid (RowI w1.heap.size w1 a0 n0) := R0.out.grown hb
  have Q1 : Hid (RowI w1.heap.size w1 a1 n1) := R1.out.grown hb
  clear HC a0' a1' R0 R1
  have HB' : Hid (Below w.heap.size w w1) := HB.out.trans (hb.mono HB.out.size)
  have HA' : Hid (w1.heap[w.heap.size + 2]? = some (.cells #[.slice none 0 0] 26 (0, 0))) := (hb.block _ (Array.getElem?_eq_some_iff.1 HA.out).1).trans HA.out
  have H0' : Hid (w1.heap[w.heap.size]? = some (.cells #[.slice a0 n0.length c0] 26 (0, 0))) := (hb.block _ (Array.getElem?_eq_some_iff.1 H0.out).1).trans H0.out
  have H1' : Hid (w1.heap[w.heap.size + 1]? = some (.cells #[.slice a1 n1.length c1] 26 (0, 0))) := (hb.block _ (Array.getElem?_eq_some_iff.1 H1.out).1).trans H1.out
  clear hb HB HA H0 H1
  have HB := HB'
  have HA := HA'
  have H0 := H0'
  have H1 := H1'
  clear HB' HA' H0' H1'
  have a0' : w1.cell? ⟨w.heap.size, 0, none⟩ = some (.slice a0 n0.length c0) := by rw [cell_of_row w1 _ 0 _ _ _ H0.out]; rfl
  have a1' : w1.cell? ⟨w.heap.size + 1, 0, none⟩ = some (.slice a1 n1.length c1) := by rw [cell_of_row w1 _ 0 _ _ _ H1.out]; rfl
  cases h0 : okF n0
  · have HI : Hid ((twoF n0 n1 (v16 n0 + v16 n1)) = []) := by show _ = _; unfold twoF; rw [h0]; rfl
    have r0 : w1.cell? ⟨w.heap.size + 2, 0, none⟩ = some (.slice none 0 0) := by rw [cell_of_row w1 _ 0 _ _ _ HA.out]; rfl
    have r1 : w1.frozen? ⟨w.heap.size + 2, 0, none⟩ = false := frozen_of_row w1 _ 0 _ _ HA.out
    have HB5 : Hid (Below w.heap.size w (w1.setCell ⟨w.heap.size + 2, 0, none⟩ (.slice none 0 0))) := HB.out.setCell (show w.heap.size ≤ w.heap.size + 2 by omega) _
    have HR5 : Hid ((w1.setCell ⟨w.heap.size + 2, 0, none⟩ (.slice none 0 0)).heap[w.heap.size + 2]? = some (.cells #[.slice none 0 0] 26 (0, 0))) := by show _ = _; rw [heap_setCell_same w1 (w.heap.size + 2) 0 _ _ _ HA.out]; rfl
    go_wp2
    refine bodyPost_ret (results_cell_row rfl _ _ (w.heap.size + 2) 26 #[.slice none 0 0] (0, 0) _ rfl ?_ Try.underlying26 rfl (sizeField1 _)) rfl ?_
    · exact HR5.out
    · refine ⟨_, rfl, ?_, HB5.out⟩
      rw [HI.out]
      exact ⟨rfl, .inl ⟨rfl, rfl⟩⟩
  · have HC : Hid _ := specFieldOk_any a1 c1 n1 w1 Q1.out hm1
    go_wp2_with fail
    refine Calls.mono HC.out ?_
    rintro e w2 ⟨rfl, hb⟩
    have P0 : Hid (RowI w2.heap.size w2 a0 n0) := Q0.out.grown hb
    have P1 : Hid (RowI w2.heap.size w2 a1 n1) := Q1.out.grown hb
    clear HC a0' a1' Q0 Q1
    have HB' : Hid (Below w.heap.size w w2) := HB.out.trans (hb.mono HB.out.size)
    have HA' : Hid (w2.heap[w.heap.size + 2]? = some (.cells #[.slice none 0 0] 26 (0, 0))) := (hb.block _ (Array.getElem?_eq_some_iff.1 HA.out).1).trans HA.out
    have H0' : Hid (w2.heap[w.heap.size]? = some (.cells #[.slice a0 n0.length c0] 26 (0, 0))) := (hb.block _ (Array.getElem?_eq_some_iff.1 H0.out).1).trans H0.out
    have H1' : Hid (w2.heap[w.heap.size + 1]? = some (.cells #[.slice a1 n1.length c1] 26 (0, 0))) := (hb.block _ (Array.getElem?_eq_some_iff.1 H1.out).1).trans H1.out
    clear hb HB HA H0 H1
    have HB := HB'
    have HA := HA'
    have H0 := H0'
    have H1 := H1'
    clear HB' HA' H0' H1'
    have a0' : w2.cell? ⟨w.heap.size, 0, none⟩ = some (.slice a0 n0.length c0) := by rw [cell_of_row w2 _ 0 _ _ _ H0.out]; rfl
    have a1' : w2.cell? ⟨w.heap.size + 1, 0, none⟩ = some (.slice a1 n1.length c1) := by rw [cell_of_row w2 _ 0 _ _ _ H1.out]; rfl
    cases h1 : okF n1
    · have HI : Hid ((twoF n0 n1 (v16 n0 + v16 n1)) = []) := by show _ = _; unfold twoF; rw [h0, h1]; rfl
      have r0 : w2.cell? ⟨w.heap.size + 2, 0, none⟩ = some (.slice none 0 0) := by rw [cell_of_row w2 _ 0 _ _ _ HA.out]; rfl
      have r1 : w2.frozen? ⟨w.heap.size + 2, 0, none⟩ = false := frozen_of_row w2 _ 0 _ _ HA.out
      have HB5 : Hid (Below w.heap.size w (w2.setCell ⟨w.heap.size + 2, 0, none⟩ (.slice none 0 0))) := HB.out.setCell (show w.heap.size ≤ w.heap.size + 2 by omega) _
      have HR5 : Hid ((w2.setCell ⟨w.heap.size + 2, 0, none⟩ (.slice none 0 0)).heap[w.heap.size + 2]? = some (.cells #[.slice none 0 0] 26 (0, 0))) := by show _ = _; rw [heap_setCell_same w2 (w.heap.size + 2) 0 _ _ _ HA.out]; rfl
      go_wp2
      refine bodyPost_ret (results_cell_row rfl _ _ (w.heap.size + 2) 26 #[.slice none 0 0] (0, 0) _ rfl ?_ Try.underlying26 rfl (sizeField1 _)) rfl ?_
      · exact HR5.out
      · refine ⟨_, rfl, ?_, HB5.out⟩
        rw [HI.out]
        exact ⟨rfl, .inl ⟨rfl, rfl⟩⟩
    · have hl0 := okF_len h0
      have hl1 := okF_len h1
      have HI : Hid ((twoF n0 n1 (v16 n0 + v16 n1)) = canon (v16 n0 + v16 n1)) := by show _ = _; unfold twoF; rw [h0, h1]; rfl
      have HC : Hid _ := sl27Sum_any a0 a1 c0 c1 n0 n1 w2 hl0 hl1 P0.out P1.out (okF_lim h0) (okF_lim h1)
      have HW : Hid (within (-LIM) LIM (zipA (fun x y => 1 * x + 1 * y) n0 n1)) := within_zip (by omega) (okF_in h0) (okF_in h1) (fun x y h1 h2 h3 h4 => ⟨by show _ ≤ 1 * x + 1 * y; unfold LIM; omega, by show 1 * x + 1 * y ≤ _; unfold LIM; omega⟩)
      have HV : Hid (canon (v16 (zipA (fun x y => 1 * x + 1 * y) n0 n1)) = canon (v16 n0 + v16 n1)) := by show _ = _; rw [v16_lin 1 1 (by omega)]; congr 1; omega
      clear h0 h1
      have HL0 : Hid (n0.length = 16) := hl0
      have HL1 : Hid (n1.length = 16) := hl1
      rw [hl0] at a0' ⊢
      rw [hl1] at a1' ⊢
      clear hl0 hl1
      go_wp2_with fail
      refine Calls.mono HC.out ?_
      rintro e w3 ⟨g, cap, rfl, hr3, hb⟩
      have HD : Hid _ := swhole_any (some ⟨g, 0, none⟩) cap _ w3 hr3.len hr3.row HW.out
      have HB3 : Hid (Below w.heap.size w w3) := HB.out.trans (hb.mono HB.out.size)
      have HA3 : Hid (w3.heap[w.heap.size + 2]? = some (.cells #[.slice none 0 0] 26 (0, 0))) := (hb.block _ (Array.getElem?_eq_some_iff.1 HA.out).1).trans HA.out
      rw [HV.out] at HD
      clear HC hb hr3 HB HA H0 a0' H1 a1'
      go_wp2_with fail
      refine Calls.mono HD.out ?_
      rintro e w4 ⟨v, rfl, ho, hb⟩
      obtain ⟨x, y, rfl, -, -⟩ := ho.row
      have hs3 := (Array.getElem?_eq_some_iff.1 HA3.out).1
      have hA4 := (hb.block _ hs3).trans HA3.out
      have r0 : w4.cell? ⟨w.heap.size + 2, 0, none⟩ = some (.slice none 0 0) := by rw [cell_of_row w4 _ 0 _ _ _ hA4]; rfl
      have r1 : w4.frozen? ⟨w.heap.size + 2, 0, none⟩ = false := frozen_of_row w4 _ 0 _ _ hA4
      rw [canon_len] at ho ⊢
      have HB7 : Hid (Below w.heap.size w (w4.setCell ⟨w.heap.size + 2, 0, none⟩ (.slice x 16 y))) := (HB3.out.trans (hb.mono HB3.out.size)).setCell (show w.heap.size ≤ w.heap.size + 2 by omega) _
      have HO7 : Hid (OwnInt w.heap.size (w4.setCell ⟨w.heap.size + 2, 0, none⟩ (.slice x 16 y)) (.slice x 16 y) (canon (v16 n0 + v16 n1))) := OwnInt.base (ownsRow_setCell_below ho hs3 _) HB3.out.size
      have HR7 : Hid ((w4.setCell ⟨w.heap.size + 2, 0, none⟩ (.slice x 16 y)).heap[w.heap.size + 2]? = some (.cells #[.slice x 16 y] 26 (0, 0))) := by show _ = _; rw [heap_setCell_same w4 (w.heap.size + 2) 0 _ _ _ hA4]; rfl
      clear ho hb hA4 HB3 HA3 HD
      go_wp2
      refine bodyPost_ret (results_cell_row rfl _ _ (w.heap.size + 2) 26 #[.slice x 16 y] (0, 0) _ rfl ?_ Try.underlying26 rfl (sizeField1 _)) rfl ?_
      · exact HR7.out
      · exact ⟨_, rfl, by rw [HI.out]; exact HO7.out, HB7.out⟩
set_option maxHeartbeats 3200000 in
theorem specFieldSub_any (a0 a1 : Option Addr) (c0 c1 : Nat) (n0 n1 : List Int) (w : World) (hr0 : RowI w.heap.size w a0 n0) (hr1 : RowI w.heap.size w a1 n1) (hm0 : n0.length ≤ 1048576) (hm1 : n1.length ≤ 1048576) :
    Calls Try.prog 30 #[.agg #[.slice a0 n0.length c0], .agg #[.slice a1 n1.length c1]] w fun e w' => ∃ v, e = .returned (.agg #[v]) ∧ OwnInt w.heap.size w' v (twoF n0 n1 (v16 n0 - v16 n1)) ∧ Below w.heap.size w w' := by
  have hA2 : (((w.alloc (.cells #[.slice a0 n0.length c0] 26)).alloc (.cells #[.slice a1 n1.length c1] 26)).alloc (.cells #[.slice none 0 0] 26)).heap[w.heap.size + 2]? = some (.cells #[.slice none 0 0] 26 (0, 0)) := by
    have := heap_alloc_new ((w.alloc (.cells #[.slice a0 n0.length c0] 26)).alloc (.cells #[.slice a1 n1.length c1] 26)) (.cells #[.slice none 0 0] 26)
    simpa using this
  have hA1 : (((w.alloc (.cells #[.slice a0 n0.length c0] 26)).alloc (.cells #[.slice a1 n1.length c1] 26)).alloc (.cells #[.slice none 0 0] 26)).heap[w.heap.size + 1]? = some (.cells #[.slice a1 n1.length c1] 26 (0, 0)) := by
    have := heap_alloc_new (w.alloc (.cells #[.slice a0 n0.length c0] 26)) (.cells #[.slice a1 n1.length c1] 26)
    exact (Lib.alloc_old _ _ _ (by simp)).trans (by simpa using this)
  have hA0 : (((w.alloc (.cells #[.slice a0 n0.length c0] 26)).alloc (.cells #[.slice a1 n1.length c1] 26)).alloc (.cells #[.slice none 0 0] 26)).heap[w.heap.size]? = some (.cells #[.slice a0 n0.length c0] 26 (0, 0)) := (Lib.alloc_old _ _ _ (by simp; omega)).trans <| (Lib.alloc_old _ _ _ (by simp)).trans (heap_alloc_new w _)
  have hB0 : Below w.heap.size w (((w.alloc (.cells #[.slice a0 n0.length c0] 26)).alloc (.cells #[.slice a1 n1.length c1] 26)).alloc (.cells #[.slice none 0 0] 26)) := (((Below.refl _ _).alloc (Nat.le_refl _) _).alloc (by simp) _).alloc (by simp; omega) _
  go_enter Try.func30, Try.ntmps30
  go_upto_region 1 with fail
  generalize (((w.alloc (.cells #[.slice a0 n0.length c0] 26)).alloc (.cells #[.slice a1 n1.length c1] 26)).alloc (.cells #[.slice none 0 0] 26)) = w0 at hA0 hA1 hA2 hB0 ⊢
  have R0 : Hid (RowI w0.heap.size w0 a0 n0) := hr0.grown hB0
  have R1 : Hid (RowI w0.heap.size w0 a1 n1) := hr1.grown hB0
  have HA : Hid (w0.heap[w.heap.size + 2]? = some (.cells #[.slice none 0 0] 26 (0, 0))) := hA2
  have H0 : Hid (w0.heap[w.heap.size]? = some (.cells #[.slice a0 n0.length c0] 26 (0, 0))) := hA0
  have H1 : Hid (w0.heap[w.heap.size + 1]? = some (.cells #[.slice a1 n1.length c1] 26 (0, 0))) := hA1
  have HB : Hid (Below w.heap.size w w0) := hB0
  clear hA0 hA1 hA2 hB0 hr0 hr1
  have HC : Hid _ := specFieldOk_any a0 c0 n0 w0 R0.out hm0
  have a0' : w0.cell? ⟨w.heap.size, 0, none⟩ = some (.slice a0 n0.length c0) := by rw [cell_of_row w0 _ 0 _ _ _ H0.out]; rfl
  have a1' : w0.cell? ⟨w.heap.size + 1, 0, none⟩ = some (.slice a1 n1.length c1) := by rw [cell_of_row w0 _ 0 _ _ _ H1.out]; rfl
  go_wp2_with fail
  refine Calls.mono HC.out ?_
  rintro e w1 ⟨rfl, hb⟩
  have Q0 : Hid (RowI w1.heap.size w1 a0 n0) := R0.out.grown hb
  have Q1 : Hid (RowI w1.heap.size w1 a1 n1) := R1.out.grown hb
  clear HC a0' a1' R0 R1
  have HB' : Hid (Below w.heap.size w w1) := HB.out.trans (hb.mono HB.out.size)
  have HA' : Hid (w1.heap[w.heap.size + 2]? = some (.cells #[.slice none 0 0] 26 (0, 0))) := (hb.block _ (Array.getElem?_eq_some_iff.1 HA.out).1).trans HA.out
  have H0' : Hid (w1.heap[w.heap.size]? = some (.cells #[.slice a0 n0.length c0] 26 (0, 0))) := (hb.block _ (Array.getElem?_eq_some_iff.1 H0.out).1).trans H0.out
  have H1' : Hid (w1.heap[w.heap.size + 1]? = some (.cells #[.slice a1 n1.length c1] 26 (0, 0))) := (hb.block _ (Array.getElem?_eq_some_iff.1 H1.out).1).trans H1.out
  clear hb HB HA H0 H1
  have HB := HB'
  have HA := HA'
  have H0 := H0'
  have H1 := H1'
  clear HB' HA' H0' H1'
  have a0' : w1.cell? ⟨w.heap.size, 0, none⟩ = some (.slice a0 n0.length c0) := by rw [cell_of_row w1 _ 0 _ _ _ H0.out]; rfl
  have a1' : w1.cell? ⟨w.heap.size + 1, 0, none⟩ = some (.slice a1 n1.length c1) := by rw [cell_of_row w1 _ 0 _ _ _ H1.out]; rfl
  cases h0 : okF n0
  · have HI : Hid ((twoF n0 n1 (v16 n0 - v16 n1)) = []) := by show _ = _; unfold twoF; rw [h0]; rfl
    have r0 : w1.cell? ⟨w.heap.size + 2, 0, none⟩ = some (.slice none 0 0) := by rw [cell_of_row w1 _ 0 _ _ _ HA.out]; rfl
    have r1 : w1.frozen? ⟨w.heap.size + 2, 0, none⟩ = false := frozen_of_row w1 _ 0 _ _ HA.out
    have HB5 : Hid (Below w.heap.size w (w1.setCell ⟨w.heap.size + 2, 0, none⟩ (.slice none 0 0))) := HB.out.setCell (show w.heap.size ≤ w.heap.size + 2 by omega) _
    have HR5 : Hid ((w1.setCell ⟨w.heap.size + 2, 0, none⟩ (.slice none 0 0)).heap[w.heap.size + 2]? = some (.cells #[.slice none 0 0] 26 (0, 0))) := by show _ = _; rw [heap_setCell_same w1 (w.heap.size + 2) 0 _ _ _ HA.out]; rfl
    go_wp2
    refine bodyPost_ret (results_cell_row rfl _ _ (w.heap.size + 2) 26 #[.slice none 0 0] (0, 0) _ rfl ?_ Try.underlying26 rfl (sizeField1 _)) rfl ?_
    · exact HR5.out
    · refine ⟨_, rfl, ?_, HB5.out⟩
      rw [HI.out]
      exact ⟨rfl, .inl ⟨rfl, rfl⟩⟩
  · have HC : Hid _ := specFieldOk_any a1 c1 n1 w1 Q1.out hm1
    go_wp2_with fail
    refine Calls.mono HC.out ?_
    rintro e w2 ⟨rfl, hb⟩
    have P0 : Hid (RowI w2.heap.size w2 a0 n0) := Q0.out.grown hb
    have P1 : Hid (RowI w2.heap.size w2 a1 n1) := Q1.out.grown hb
    clear HC a0' a1' Q0 Q1
    have HB' : Hid (Below w.heap.size w w2) := HB.out.trans (hb.mono HB.out.size)
    have HA' : Hid (w2.heap[w.heap.size + 2]? = some (.cells #[.slice none 0 0] 26 (0, 0))) := (hb.block _ (Array.getElem?_eq_some_iff.1 HA.out).1).trans HA.out
    have H0' : Hid (w2.heap[w.heap.size]? = some (.cells #[.slice a0 n0.length c0] 26 (0, 0))) := (hb.block _ (Array.getElem?_eq_some_iff.1 H0.out).1).trans H0.out
    have H1' : Hid (w2.heap[w.heap.size + 1]? = some (.cells #[.slice a1 n1.length c1] 26 (0, 0))) := (hb.block _ (Array.getElem?_eq_some_iff.1 H1.out).1).trans H1.out
    clear hb HB HA H0 H1
    have HB := HB'
    have HA := HA'
    have H0 := H0'
    have H1 := H1'
    clear HB' HA' H0' H1'
    have a0' : w2.cell? ⟨w.heap.size, 0, none⟩ = some (.slice a0 n0.length c0) := by rw [cell_of_row w2 _ 0 _ _ _ H0.out]; rfl
    have a1' : w2.cell? ⟨w.heap.size + 1, 0, none⟩ = some (.slice a1 n1.length c1) := by rw [cell_of_row w2 _ 0 _ _ _ H1.out]; rfl
    cases h1 : okF n1
    · have HI : Hid ((twoF n0 n1 (v16 n0 - v16 n1)) = []) := by show _ = _; unfold twoF; rw [h0, h1]; rfl
      have r0 : w2.cell? ⟨w.heap.size + 2, 0, none⟩ = some (.slice none 0 0) := by rw [cell_of_row w2 _ 0 _ _ _ HA.out]; rfl
      have r1 : w2.frozen? ⟨w.heap.size + 2, 0, none⟩ = false := frozen_of_row w2 _ 0 _ _ HA.out
      have HB5 : Hid (Below w.heap.size w (w2.setCell ⟨w.heap.size + 2, 0, none⟩ (.slice none 0 0))) := HB.out.setCell (show w.heap.size ≤ w.heap.size + 2 by omega) _
      have HR5 : Hid ((w2.setCell ⟨w.heap.size + 2, 0, none⟩ (.slice none 0 0)).heap[w.heap.size + 2]? = some (.cells #[.slice none 0 0] 26 (0, 0))) := by show _ = _; rw [heap_setCell_same w2 (w.heap.size + 2) 0 _ _ _ HA.out]; rfl
      go_wp2
      refine bodyPost_ret (results_cell_row rfl _ _ (w.heap.size + 2) 26 #[.slice none 0 0] (0, 0) _ rfl ?_ Try.underlying26 rfl (sizeField1 _)) rfl ?_
      · exact HR5.out
      · refine ⟨_, rfl, ?_, HB5.out⟩
        rw [HI.out]
        exact ⟨rfl, .inl ⟨rfl, rfl⟩⟩
    · have hl0 := okF_len h0
      have hl1 := okF_len h1
      have HI : Hid ((twoF n0 n1 (v16 n0 - v16 n1)) = canon (v16 n0 - v16 n1)) := by show _ = _; unfold twoF; rw [h0, h1]; rfl
      have HC : Hid _ := sl27Diff_any a0 a1 c0 c1 n0 n1 w2 hl0 hl1 P0.out P1.out (okF_lim h0) (okF_lim h1)
      have HW : Hid (within (-LIM) LIM (zipA (fun x y => 1 * x + (-1) * y) n0 n1)) := within_zip (by omega) (okF_in h0) (okF_in h1) (fun x y h1 h2 h3 h4 => ⟨by show _ ≤ 1 * x + (-1) * y; unfold LIM; omega, by show 1 * x + (-1) * y ≤ _; unfold LIM; omega⟩)
      have HV : Hid (canon (v16 (zipA (fun x y => 1 * x + (-1) * y) n0 n1)) = canon (v16 n0 - v16 n1)) := by show _ = _; rw [v16_lin 1 (-1) (by omega)]; congr 1; omega
      clear h0 h1
      have HL0 : Hid (n0.length = 16) := hl0
      have HL1 : Hid (n1.length = 16) := hl1
      rw [hl0] at a0' ⊢
      rw [hl1] at a1' ⊢
      clear hl0 hl1
      go_wp2_with fail
      refine Calls.mono HC.out ?_
      rintro e w3 ⟨g, cap, rfl, hr3, hb⟩
      have HD : Hid _ := swhole_any (some ⟨g, 0, none⟩) cap _ w3 hr3.len hr3.row HW.out
      have HB3 : Hid (Below w.heap.size w w3) := HB.out.trans (hb.mono HB.out.size)
      have HA3 : Hid (w3.heap[w.heap.size + 2]? = some (.cells #[.slice none 0 0] 26 (0, 0))) := (hb.block _ (Array.getElem?_eq_some_iff.1 HA.out).1).trans HA.out
      rw [HV.out] at HD
      clear HC hb hr3 HB HA H0 a0' H1 a1'
      go_wp2_with fail
      refine Calls.mono HD.out ?_
      rintro e w4 ⟨v, rfl, ho, hb⟩
      obtain ⟨x, y, rfl, -, -⟩ := ho.row
      have hs3 := (Array.getElem?_eq_some_iff.1 HA3.out).1
      have hA4 := (hb.block _ hs3).trans HA3.out
      have r0 : w4.cell? ⟨w.heap.size + 2, 0, none⟩ = some (.slice none 0 0) := by rw [cell_of_row w4 _ 0 _ _ _ hA4]; rfl
      have r1 : w4.frozen? ⟨w.heap.size + 2, 0, none⟩ = false := frozen_of_row w4 _ 0 _ _ hA4
      rw [canon_len] at ho ⊢
      have HB7 : Hid (Below w.heap.size w (w4.setCell ⟨w.heap.size + 2, 0, none⟩ (.slice x 16 y))) := (HB3.out.trans (hb.mono HB3.out.size)).setCell (show w.heap.size ≤ w.heap.size + 2 by omega) _
      have HO7 : Hid (OwnInt w.heap.size (w4.setCell ⟨w.heap.size + 2, 0, none⟩ (.slice x 16 y)) (.slice x 16 y) (canon (v16 n0 - v16 n1))) := OwnInt.base (ownsRow_setCell_below ho hs3 _) HB3.out.size
      have HR7 : Hid ((w4.setCell ⟨w.heap.size + 2, 0, none⟩ (.slice x 16 y)).heap[w.heap.size + 2]? = some (.cells #[.slice x 16 y] 26 (0, 0))) := by show _ = _; rw [heap_setCell_same w4 (w.heap.size + 2) 0 _ _ _ hA4]; rfl
      clear ho hb hA4 HB3 HA3 HD
      go_wp2
      refine bodyPost_ret (results_cell_row rfl _ _ (w.heap.size + 2) 26 #[.slice x 16 y] (0, 0) _ rfl ?_ Try.underlying26 rfl (sizeField1 _)) rfl ?_
      · exact HR7.out
      · exact ⟨_, rfl, by rw [HI.out]; exact HO7.out, HB7.out⟩
set_option maxHeartbeats 3200000 in
theorem specFieldMul_any (a0 a1 : Option Addr) (c0 c1 : Nat) (n0 n1 : List Int) (w : World) (hr0 : RowI w.heap.size w a0 n0) (hr1 : RowI w.heap.size w a1 n1) (hm0 : n0.length ≤ 1048576) (hm1 : n1.length ≤ 1048576) :
    Calls Try.prog 31 #[.agg #[.slice a0 n0.length c0], .agg #[.slice a1 n1.length c1]] w fun e w' => ∃ v, e = .returned (.agg #[v]) ∧ OwnInt w.heap.size w' v (twoF n0 n1 (v16 n0 * v16 n1)) ∧ Below w.heap.size w w' := by
  have hA2 : (((w.alloc (.cells #[.slice a0 n0.length c0] 26)).alloc (.cells #[.slice a1 n1.length c1] 26)).alloc (.cells #[.slice none 0 0] 26)).heap[w.heap.size + 2]? = some (.cells #[.slice none 0 0] 26 (0, 0)) := by
    have := heap_alloc_new ((w.alloc (.cells #[.slice a0 n0.length c0] 26)).alloc (.cells #[.slice a1 n1.length c1] 26)) (.cells #[.slice none 0 0] 26)
    simpa using this
  have hA1 : (((w.alloc (.cells #[.slice a0 n0.length c0] 26)).alloc (.cells #[.slice a1 n1.length c1] 26)).alloc (.cells #[.slice none 0 0] 26)).heap[w.heap.size + 1]? = some (.cells #[.slice a1 n1.length c1] 26 (0, 0)) := by
    have := heap_alloc_new (w.alloc (.cells #[.slice a0 n0.length c0] 26)) (.cells #[.slice a1 n1.length c1] 26)
    exact (Lib.alloc_old _ _ _ (by simp)).trans (by simpa using this)
  have hA0 : (((w.alloc (.cells #[.slice a0 n0.length c0] 26)).alloc (.cells #[.slice a1 n1.length c1] 26)).alloc (.cells #[.slice none 0 0] 26)).heap[w.heap.size]? = some (.cells #[.slice a0 n0.length c0] 26 (0, 0)) := (Lib.alloc_old _ _ _ (by simp; omega)).trans <| (Lib.alloc_old _ _ _ (by simp)).trans (heap_alloc_new w _)
  have hB0 : Below w.heap.size w (((w.alloc (.cells #[.slice a0 n0.length c0] 26)).alloc (.cells #[.slice a1 n1.length c1] 26)).alloc (.cells #[.slice none 0 0] 26)) := (((Below.refl _ _).alloc (Nat.le_refl _) _).alloc (by simp) _).alloc (by simp; omega) _
  go_enter Try.func31, Try.ntmps31
  go_upto_region 1 with fail
  generalize (((w.alloc (.cells #[.slice a0 n0.length c0] 26)).alloc (.cells #[.slice a1 n1.length c1] 26)).alloc (.cells #[.slice none 0 0] 26)) = w0 at hA0 hA1 hA2 hB0 ⊢
  have R0 : Hid (RowI w0.heap.size w0 a0 n0) := hr0.grown hB0
  have R1 : Hid (RowI w0.heap.size w0 a1 n1) := hr1.grown hB0
  have HA : Hid (w0.heap[w.heap.size + 2]? = some (.cells #[.slice none 0 0] 26 (0, 0))) := hA2
  have H0 : Hid (w0.heap[w.heap.size]? = some (.cells #[.slice a0 n0.length c0] 26 (0, 0))) := hA0
  have H1 : Hid (w0.heap[w.heap.size + 1]? = some (.cells #[.slice a1 n1.length c1] 26 (0, 0))) := hA1
  have HB : Hid (Below w.heap.size w w0) := hB0
  clear hA0 hA1 hA2 hB0 hr0 hr1
  have HC : Hid _ := specFieldOk_any a0 c0 n0 w0 R0.out hm0
  have a0' : w0.cell? ⟨w.heap.size, 0, none⟩ = some (.slice a0 n0.length c0) := by rw [cell_of_row w0 _ 0 _ _ _ H0.out]; rfl
  have a1' : w0.cell? ⟨w.heap.size + 1, 0, none⟩ = some (.slice a1 n1.length c1) := by rw [cell_of_row w0 _ 0 _ _ _ H1.out]; rfl
  go_wp2_with fail
  refine Calls.mono HC.out ?_
  rintro e w1 ⟨rfl, hb⟩
  have Q0 : Hid (RowI w1.heap.size w1 a0 n0) := R0.out.grown hb
  have Q1 : Hid (RowI w1.heap.size w1 a1 n1) := R1.out.grown hb
  clear HC a0' a1' R0 R1
  have HB' : Hid (Below w.heap.size w w1) := HB.out.trans (hb.mono HB.out.size)
  have HA' : Hid (w1.heap[w.heap.size + 2]? = some (.cells #[.slice none 0 0] 26 (0, 0))) := (hb.block _ (Array.getElem?_eq_some_iff.1 HA.out).1).trans HA.out
  have H0' : Hid (w1.heap[w.heap.size]? = some (.cells #[.slice a0 n0.length c0] 26 (0, 0))) := (hb.block _ (Array.getElem?_eq_some_iff.1 H0.out).1).trans H0.out
  have H1' : Hid (w1.heap[w.heap.size + 1]? = some (.cells #[.slice a1 n1.length c1] 26 (0, 0))) := (hb.block _ (Array.getElem?_eq_some_iff.1 H1.out).1).trans H1.out
  clear hb HB HA H0 H1
  have HB := HB'
  have HA := HA'
  have H0 := H0'
  have H1 := H1'
  clear HB' HA' H0' H1'
  have a0' : w1.cell? ⟨w.heap.size, 0, none⟩ = some (.slice a0 n0.length c0) := by rw [cell_of_row w1 _ 0 _ _ _ H0.out]; rfl
  have a1' : w1.cell? ⟨w.heap.size + 1, 0, none⟩ = some (.slice a1 n1.length c1) := by rw [cell_of_row w1 _ 0 _ _ _ H1.out]; rfl
  cases h0 : okF n0
  · have HI : Hid ((twoF n0 n1 (v16 n0 * v16 n1)) = []) := by show _ = _; unfold twoF; rw [h0]; rfl
    have r0 : w1.cell? ⟨w.heap.size + 2, 0, none⟩ = some (.slice none 0 0) := by rw [cell_of_row w1 _ 0 _ _ _ HA.out]; rfl
    have r1 : w1.frozen? ⟨w.heap.size + 2, 0, none⟩ = false := frozen_of_row w1 _ 0 _ _ HA.out
    have HB5 : Hid (Below w.heap.size w (w1.setCell ⟨w.heap.size + 2, 0, none⟩ (.slice none 0 0))) := HB.out.setCell (show w.heap.size ≤ w.heap.size + 2 by omega) _
    have HR5 : Hid ((w1.setCell ⟨w.heap.size + 2, 0, none⟩ (.slice none 0 0)).heap[w.heap.size + 2]? = some (.cells #[.slice none 0 0] 26 (0, 0))) := by show _ = _; rw [heap_setCell_same w1 (w.heap.size + 2) 0 _ _ _ HA.out]; rfl
    go_wp2
    refine bodyPost_ret (results_cell_row rfl _ _ (w.heap.size + 2) 26 #[.slice none 0 0] (0, 0) _ rfl ?_ Try.underlying26 rfl (sizeField1 _)) rfl ?_
    · exact HR5.out
    · refine ⟨_, rfl, ?_, HB5.out⟩
      rw [HI.out]
      exact ⟨rfl, .inl ⟨rfl, rfl⟩⟩
  · have HC : Hid _ := specFieldOk_any a1 c1 n1 w1 Q1.out hm1
    go_wp2_with fail
    refine Calls.mono HC.out ?_
    rintro e w2 ⟨rfl, hb⟩
    have P0 : Hid (RowI w2.heap.size w2 a0 n0) := Q0.out.grown hb
    have P1 : Hid (RowI w2.heap.size w2 a1 n1) := Q1.out.grown hb
    clear HC a0' a1' Q0 Q1
    have HB' : Hid (Below w.heap.size w w2) := HB.out.trans (hb.mono HB.out.size)
    have HA' : Hid (w2.heap[w.heap.size + 2]? = some (.cells #[.slice none 0 0] 26 (0, 0))) := (hb.block _ (Array.getElem?_eq_some_iff.1 HA.out).1).trans HA.out
    have H0' : Hid (w2.heap[w.heap.size]? = some (.cells #[.slice a0 n0.length c0] 26 (0, 0))) := (hb.block _ (Array.getElem?_eq_some_iff.1 H0.out).1).trans H0.out
    have H1' : Hid (w2.heap[w.heap.size + 1]? = some (.cells #[.slice a1 n1.length c1] 26 (0, 0))) := (hb.block _ (Array.getElem?_eq_some_iff.1 H1.out).1).trans H1.out
    clear hb HB HA H0 H1
    have HB := HB'
    have HA := HA'
    have H0 := H0'
    have H1 := H1'
    clear HB' HA' H0' H1'
    have a0' : w2.cell? ⟨w.heap.size, 0, none⟩ = some (.slice a0 n0.length c0) := by rw [cell_of_row w2 _ 0 _ _ _ H0.out]; rfl
    have a1' : w2.cell? ⟨w.heap.size + 1, 0, none⟩ = some (.slice a1 n1.length c1) := by rw [cell_of_row w2 _ 0 _ _ _ H1.out]; rfl
    cases h1 : okF n1
    · have HI : Hid ((twoF n0 n1 (v16 n0 * v16 n1)) = []) := by show _ = _; unfold twoF; rw [h0, h1]; rfl
      have r0 : w2.cell? ⟨w.heap.size + 2, 0, none⟩ = some (.slice none 0 0) := by rw [cell_of_row w2 _ 0 _ _ _ HA.out]; rfl
      have r1 : w2.frozen? ⟨w.heap.size + 2, 0, none⟩ = false := frozen_of_row w2 _ 0 _ _ HA.out
      have HB5 : Hid (Below w.heap.size w (w2.setCell ⟨w.heap.size + 2, 0, none⟩ (.slice none 0 0))) := HB.out.setCell (show w.heap.size ≤ w.heap.size + 2 by omega) _
      have HR5 : Hid ((w2.setCell ⟨w.heap.size + 2, 0, none⟩ (.slice none 0 0)).heap[w.heap.size + 2]? = some (.cells #[.slice none 0 0] 26 (0, 0))) := by show _ = _; rw [heap_setCell_same w2 (w.heap.size + 2) 0 _ _ _ HA.out]; rfl
      go_wp2
      refine bodyPost_ret (results_cell_row rfl _ _ (w.heap.size + 2) 26 #[.slice none 0 0] (0, 0) _ rfl ?_ Try.underlying26 rfl (sizeField1 _)) rfl ?_
      · exact HR5.out
      · refine ⟨_, rfl, ?_, HB5.out⟩
        rw [HI.out]
        exact ⟨rfl, .inl ⟨rfl, rfl⟩⟩
    · have hl0 := okF_len h0
      have hl1 := okF_len h1
      have HI : Hid ((twoF n0 n1 (v16 n0 * v16 n1)) = canon (v16 n0 * v16 n1)) := by show _ = _; unfold twoF; rw [h0, h1]; rfl
      have HC : Hid _ := smul_any a0 a1 c0 c1 n0 n1 w2 hl0 hl1 P0.out P1.out (okF_sg h0) (okF_sg h1)
      clear h0 h1
      rw [hl0] at a0' ⊢
      rw [hl1] at a1' ⊢
      clear hl0 hl1
      go_wp2_with fail
      refine Calls.mono HC.out ?_
      rintro e w3 ⟨g, cap, r, rfl, hr3, hw3, hv3, hb⟩
      have HV : Hid (canon (v16 r) = canon (v16 n0 * v16 n1)) := canon_mod hv3
      have HD : Hid _ := swhole_any (some ⟨g, 0, none⟩) cap r w3 hr3.len hr3.row (wsmall_lim (within_mono hw3 (by decide) (by decide)))
      have HB3 : Hid (Below w.heap.size w w3) := HB.out.trans (hb.mono HB.out.size)
      have HA3 : Hid (w3.heap[w.heap.size + 2]? = some (.cells #[.slice none 0 0] 26 (0, 0))) := (hb.block _ (Array.getElem?_eq_some_iff.1 HA.out).1).trans HA.out
      rw [HV.out] at HD
      clear HC hb hr3 HB HA H0 a0' H1 a1'
      go_wp2_with fail
      refine Calls.mono HD.out ?_
      rintro e w4 ⟨v, rfl, ho, hb⟩
      obtain ⟨x, y, rfl, -, -⟩ := ho.row
      have hs3 := (Array.getElem?_eq_some_iff.1 HA3.out).1
      have hA4 := (hb.block _ hs3).trans HA3.out
      have r0 : w4.cell? ⟨w.heap.size + 2, 0, none⟩ = some (.slice none 0 0) := by rw [cell_of_row w4 _ 0 _ _ _ hA4]; rfl
      have r1 : w4.frozen? ⟨w.heap.size + 2, 0, none⟩ = false := frozen_of_row w4 _ 0 _ _ hA4
      rw [canon_len] at ho ⊢
      have HB7 : Hid (Below w.heap.size w (w4.setCell ⟨w.heap.size + 2, 0, none⟩ (.slice x 16 y))) := (HB3.out.trans (hb.mono HB3.out.size)).setCell (show w.heap.size ≤ w.heap.size + 2 by omega) _
      have HO7 : Hid (OwnInt w.heap.size (w4.setCell ⟨w.heap.size + 2, 0, none⟩ (.slice x 16 y)) (.slice x 16 y) (canon (v16 n0 * v16 n1))) := OwnInt.base (ownsRow_setCell_below ho hs3 _) HB3.out.size
      have HR7 : Hid ((w4.setCell ⟨w.heap.size + 2, 0, none⟩ (.slice x 16 y)).heap[w.heap.size + 2]? = some (.cells #[.slice x 16 y] 26 (0, 0))) := by show _ = _; rw [heap_setCell_same w4 (w.heap.size + 2) 0 _ _ _ hA4]; rfl
      clear ho hb hA4 HB3 HA3 HD
      go_wp2
      refine bodyPost_ret (results_cell_row rfl _ _ (w.heap.size + 2) 26 #[.slice x 16 y] (0, 0) _ rfl ?_ Try.underlying26 rfl (sizeField1 _)) rfl ?_
      · exact HR7.out
      · exact ⟨_, rfl, by rw [HI.out]; exact HO7.out, HB7.out⟩
set_option maxHeartbeats 3200000 in
theorem specFieldInv_any (a0 : Option Addr) (c0 : Nat) (n0 : List Int) (w : World) (hr0 : RowI w.heap.size w a0 n0) (hm0 : n0.length ≤ 1048576) :
    Calls Try.prog 32 #[.agg #[.slice a0 n0.length c0]] w fun e w' => ∃ v, e = .returned (.agg #[v]) ∧ OwnInt w.heap.size w' v (invF n0) ∧ Below w.heap.size w w' := by
  have hA2 : ((w.alloc (.cells #[.slice a0 n0.length c0] 26)).alloc (.cells #[.slice none 0 0] 26)).heap[w.heap.size + 1]? = some (.cells #[.slice none 0 0] 26 (0, 0)) := by
    have := heap_alloc_new (w.alloc (.cells #[.slice a0 n0.length c0] 26)) (.cells #[.slice none 0 0] 26)
    simpa using this
  have hA0 : ((w.alloc (.cells #[.slice a0 n0.length c0] 26)).alloc (.cells #[.slice none 0 0] 26)).heap[w.heap.size]? = some (.cells #[.slice a0 n0.length c0] 26 (0, 0)) := (Lib.alloc_old _ _ _ (by simp)).trans (heap_alloc_new w _)
  have hB0 : Below w.heap.size w ((w.alloc (.cells #[.slice a0 n0.length c0] 26)).alloc (.cells #[.slice none 0 0] 26)) := ((Below.refl _ _).alloc (Nat.le_refl _) _).alloc (by simp) _
  go_enter Try.func32, Try.ntmps32
  go_upto_region 1 with fail
  generalize ((w.alloc (.cells #[.slice a0 n0.length c0] 26)).alloc (.cells #[.slice none 0 0] 26)) = w0 at hA0 hA2 hB0 ⊢
  have R0 : Hid (RowI w0.heap.size w0 a0 n0) := hr0.grown hB0
  have HA : Hid (w0.heap[w.heap.size + 1]? = some (.cells #[.slice none 0 0] 26 (0, 0))) := hA2
  have H0 : Hid (w0.heap[w.heap.size]? = some (.cells #[.slice a0 n0.length c0] 26 (0, 0))) := hA0
  have HB : Hid (Below w.heap.size w w0) := hB0
  clear hA0 hA2 hB0 hr0
  have HC : Hid _ := specFieldOk_any a0 c0 n0 w0 R0.out hm0
  have a0' : w0.cell? ⟨w.heap.size, 0, none⟩ = some (.slice a0 n0.length c0) := by rw [cell_of_row w0 _ 0 _ _ _ H0.out]; rfl
  go_wp2_with fail
  refine Calls.mono HC.out ?_
  rintro e w1 ⟨rfl, hb⟩
  have Q0 : Hid (RowI w1.heap.size w1 a0 n0) := R0.out.grown hb
  clear HC a0' R0
  have HB' : Hid (Below w.heap.size w w1) := HB.out.trans (hb.mono HB.out.size)
  have HA' : Hid (w1.heap[w.heap.size + 1]? = some (.cells #[.slice none 0 0] 26 (0, 0))) := (hb.block _ (Array.getElem?_eq_some_iff.1 HA.out).1).trans HA.out
  have H0' : Hid (w1.heap[w.heap.size]? = some (.cells #[.slice a0 n0.length c0] 26 (0, 0))) := (hb.block _ (Array.getElem?_eq_some_iff.1 H0.out).1).trans H0.out
  clear hb HB HA H0
  have HB := HB'
  have HA := HA'
  have H0 := H0'
  clear HB' HA' H0'
  have a0' : w1.cell? ⟨w.heap.size, 0, none⟩ = some (.slice a0 n0.length c0) := by rw [cell_of_row w1 _ 0 _ _ _ H0.out]; rfl
  cases h0 : okF n0
  · have HI : Hid ((invF n0) = []) := by show _ = _; unfold invF; rw [h0]; rfl
    have r0 : w1.cell? ⟨w.heap.size + 1, 0, none⟩ = some (.slice none 0 0) := by rw [cell_of_row w1 _ 0 _ _ _ HA.out]; rfl
    have r1 : w1.frozen? ⟨w.heap.size + 1, 0, none⟩ = false := frozen_of_row w1 _ 0 _ _ HA.out
    have HB5 : Hid (Below w.heap.size w (w1.setCell ⟨w.heap.size + 1, 0, none⟩ (.slice none 0 0))) := HB.out.setCell (show w.heap.size ≤ w.heap.size + 1 by omega) _
    have HR5 : Hid ((w1.setCell ⟨w.heap.size + 1, 0, none⟩ (.slice none 0 0)).heap[w.heap.size + 1]? = some (.cells #[.slice none 0 0] 26 (0, 0))) := by show _ = _; rw [heap_setCell_same w1 (w.heap.size + 1) 0 _ _ _ HA.out]; rfl
    go_wp2
    refine bodyPost_ret (results_cell_row rfl _ _ (w.heap.size + 1) 26 #[.slice none 0 0] (0, 0) _ rfl ?_ Try.underlying26 rfl (sizeField1 _)) rfl ?_
    · exact HR5.out
    · refine ⟨_, rfl, ?_, HB5.out⟩
      rw [HI.out]
      exact ⟨rfl, .inl ⟨rfl, rfl⟩⟩
  · have hl0 := okF_len h0
    have HI : Hid ((invF n0) = canon (ivp (v16 n0) 255)) := by show _ = _; unfold invF; rw [h0]; rfl
    have HC : Hid _ := sinv_any a0 c0 n0 w1 hl0 Q0.out (okF_sg h0)
    clear h0
    rw [hl0] at a0' ⊢
    clear hl0
    go_wp2_with fail
    refine Calls.mono HC.out ?_
    rintro e w3 ⟨g, cap, r, rfl, hr3, hw3, hv3, hb⟩
    have HV : Hid (canon (v16 r) = canon (ivp (v16 n0) 255)) := canon_mod hv3
    have HD : Hid _ := swhole_any (some ⟨g, 0, none⟩) cap r w3 hr3.len hr3.row (wsmall_lim hw3)
    have HB3 : Hid (Below w.heap.size w w3) := HB.out.trans (hb.mono HB.out.size)
    have HA3 : Hid (w3.heap[w.heap.size + 1]? = some (.cells #[.slice none 0 0] 26 (0, 0))) := (hb.block _ (Array.getElem?_eq_some_iff.1 HA.out).1).trans HA.out
    rw [HV.out] at HD
    clear HC hb hr3 HB HA H0 a0' 
    go_wp2_with fail
    refine Calls.mono HD.out ?_
    rintro e w4 ⟨v, rfl, ho, hb⟩
    obtain ⟨x, y, rfl, -, -⟩ := ho.row
    have hs3 := (Array.getElem?_eq_some_iff.1 HA3.out).1
    have hA4 := (hb.block _ hs3).trans HA3.out
    have r0 : w4.cell? ⟨w.heap.size + 1, 0, none⟩ = some (.slice none 0 0) := by rw [cell_of_row w4 _ 0 _ _ _ hA4]; rfl
    have r1 : w4.frozen? ⟨w.heap.size + 1, 0, none⟩ = false := frozen_of_row w4 _ 0 _ _ hA4
    rw [canon_len] at ho ⊢
    have HB7 : Hid (Below w.heap.size w (w4.setCell ⟨w.heap.size + 1, 0, none⟩ (.slice x 16 y))) := (HB3.out.trans (hb.mono HB3.out.size)).setCell (show w.heap.size ≤ w.heap.size + 1 by omega) _
    have HO7 : Hid (OwnInt w.heap.size (w4.setCell ⟨w.heap.size + 1, 0, none⟩ (.slice x 16 y)) (.slice x 16 y) (canon (ivp (v16 n0) 255))) := OwnInt.base (ownsRow_setCell_below ho hs3 _) HB3.out.size
    have HR7 : Hid ((w4.setCell ⟨w.heap.size + 1, 0, none⟩ (.slice x 16 y)).heap[w.heap.size + 1]? = some (.cells #[.slice x 16 y] 26 (0, 0))) := by show _ = _; rw [heap_setCell_same w4 (w.heap.size + 1) 0 _ _ _ hA4]; rfl
    clear ho hb hA4 HB3 HA3 HD
    go_wp2
    refine bodyPost_ret (results_cell_row rfl _ _ (w.heap.size + 1) 26 #[.slice x 16 y] (0, 0) _ rfl ?_ Try.underlying26 rfl (sizeField1 _)) rfl ?_
    · exact HR7.out
    · exact ⟨_, rfl, by rw [HI.out]; exact HO7.out, HB7.out⟩
end Go.Proofs.Ytjhglbdknjoeeaa
