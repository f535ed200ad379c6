/- The program's numbers of a curve (chapter 27): plus, minus. -/
import Derived.Test.YtjhglbdknjoeeaaRed27
import Derived.Test.YtjhglbdknjoeeaaMulP
import Derived.Test.YtjhglbdknjoeeaaArrE
import Derived.WalkKit
import Derived.WalkLawsBesides
import Derived.WalkSpells
import Derived.BigRegion
import Derived.Laws.ShiftsVar
import Derived.Lib.Strings
import Derived.Below
import Derived.OwnWalk
import Derived.PlainAid
import Derived.Great.Walk
namespace Go.Proofs.Ytjhglbdknjoeeaa
open Go.RowKit Go.PlainAid
set_option maxRecDepth 20000
set_option linter.unusedVariables false
set_option linter.unusedSimpArgs false
set_option maxHeartbeats 1600000 in
theorem plus_any (f g : List Int) (w : World) (hf : f.length = 16) (hg : g.length = 16) (bf : within 0 262143 f) (bg : within 0 262143 g) :
    Calls Try.prog 59 #[.agg (rowL .i64 f), .agg (rowL .i64 g)] w fun e w' => e = .returned (.agg (rowL .i64 (canon (v16 f + v16 g)))) ∧ Below w.heap.size w w' := by
  go_enter Try.func59, Try.ntmps59
  go_upto_region 1 with fail
  have hAr : (((w.alloc (.cells (rowL .i64 f) 63)).alloc (.cells (rowL .i64 g) 63)).alloc (.cells (rowL .i64 (List.replicate 16 0)) 63)).heap[w.heap.size + 2]? = some (.cells (rowL .i64 (List.replicate 16 0)) 63 (0, 0)) := by
    have := heap_alloc_new ((w.alloc (.cells (rowL .i64 f) 63)).alloc (.cells (rowL .i64 g) 63)) (.cells (rowL .i64 (List.replicate 16 0)) 63)
    simpa using this
  have hAg : (((w.alloc (.cells (rowL .i64 f) 63)).alloc (.cells (rowL .i64 g) 63)).alloc (.cells (rowL .i64 (List.replicate 16 0)) 63)).heap[w.heap.size + 1]? = some (.cells (rowL .i64 g) 63 (0, 0)) := by
    have := heap_alloc_new (w.alloc (.cells (rowL .i64 f) 63)) (.cells (rowL .i64 g) 63)
    exact (Lib.alloc_old _ _ _ (by simp)).trans (by simpa using this)
  have hAf : (((w.alloc (.cells (rowL .i64 f) 63)).alloc (.cells (rowL .i64 g) 63)).alloc (.cells (rowL .i64 (List.replicate 16 0)) 63)).heap[w.heap.size]? = some (.cells (rowL .i64 f) 63 (0, 0)) := (Lib.alloc_old _ _ _ (by simp; omega)).trans <| (Lib.alloc_old _ _ _ (by simp)).trans (heap_alloc_new w _)
  have hB0 : Below w.heap.size w (((w.alloc (.cells (rowL .i64 f) 63)).alloc (.cells (rowL .i64 g) 63)).alloc (.cells (rowL .i64 (List.replicate 16 0)) 63)) := (((Below.refl _ _).alloc (Nat.le_refl _) _).alloc (by simp) _).alloc (by simp; omega) _
  rw [← zeroFn] at hAr hAg hAf hB0
  generalize (((w.alloc (.cells (rowL .i64 f) 63)).alloc (.cells (rowL .i64 g) 63)).alloc (.cells #[.int .i64 0, .int .i64 0, .int .i64 0, .int .i64 0, .int .i64 0, .int .i64 0, .int .i64 0, .int .i64 0, .int .i64 0, .int .i64 0, .int .i64 0, .int .i64 0, .int .i64 0, .int .i64 0, .int .i64 0, .int .i64 0] 63)) = w0 at hAr hAg hAf hB0 ⊢
  rw [zeroFn] at hAr
  have HR : Hid (RowZ w0 (w.heap.size + 2) 63 .i64 (List.replicate 16 0)) := hAr
  have HG : Hid (RowZ w0 (w.heap.size + 1) 63 .i64 g) := hAg
  have HF : Hid (RowZ w0 w.heap.size 63 .i64 f) := hAf
  have HB : Hid (Below w.heap.size w w0) := hB0
  clear hAr hAg hAf hB0
  go_wp2
  go_loopw [6] (fun i wr => ∃ k : Nat, k ≤ 16 ∧ i = .int .i64 (k : Int) ∧ Hid (Below w.heap.size w wr) ∧ Hid (RowZ wr w.heap.size 63 .i64 (zipTo (fun x y => 1 * x + 1 * y) f g k)) ∧ Hid (RowZ wr (w.heap.size + 1) 63 .i64 g) ∧ Hid (RowZ wr (w.heap.size + 2) 63 .i64 (List.replicate 16 0)))
    (fun i _ => 16 - (intOf i).toNat)
  case atStart => exact ⟨0, Nat.zero_le _, rfl, HB, HF, HG, HR⟩
  case round =>
    clear HB HF HG HR
    obtain ⟨k, hk, rfl, HB, HF, HG, HR⟩ := hrel
    have hfg : f.length = g.length := by omega
    by_cases hlt : k < 16
    · have hi0 : (0 : Int) ≤ (k : Int) := by omega
      have hi1 : (k : Int) < 16 := by omega
      have c1 := HF.out.cell (i := k) (by rw [zipTo_len _ hfg (by omega)]; omega)
      rw [zipTo_at _ hfg (by omega)] at c1
      have z1 := HF.out.froz k
      have c2 := HG.out.cell (i := k) (by omega)
      have b1 := bf k (by omega)
      have b2 := bg k (by omega)
      have HN := zipTo_next (fun x y => 1 * x + 1 * y) hfg (k := k) (by omega)
      have HE : Hid (1 * f.getD k 0 + 1 * g.getD k 0 = f.getD k 0 + g.getD k 0) := by show _ = _; omega
      rw [HE.out] at HN
      have hw : IntKind.i64.wrap (f.getD k 0 + g.getD k 0) = f.getD k 0 + g.getD k 0 := by rw [w64_wrap]; exact w64_id (by omega) (by omega)
      have HF2 : Hid (RowZ (wr.setCell ⟨w.heap.size, k, none⟩ (.int .i64 (f.getD k 0 + g.getD k 0))) w.heap.size 63 .i64 (zipTo (fun x y => 1 * x + 1 * y) f g (k + 1))) := by rw [← HN]; exact HF.out.set k _
      have HG2 : Hid (RowZ (wr.setCell ⟨w.heap.size, k, none⟩ (.int .i64 (f.getD k 0 + g.getD k 0))) (w.heap.size + 1) 63 .i64 g) := HG.out.other _ (by omega)
      have HR2 : Hid (RowZ (wr.setCell ⟨w.heap.size, k, none⟩ (.int .i64 (f.getD k 0 + g.getD k 0))) (w.heap.size + 2) 63 .i64 (List.replicate 16 0)) := HR.out.other _ (by omega)
      have HB2 : Hid (Below w.heap.size w (wr.setCell ⟨w.heap.size, k, none⟩ (.int .i64 (f.getD k 0 + g.getD k 0)))) := HB.out.setCell (Nat.le_refl _) _
      clear HN HE b1 b2 HF HG HR HB
      generalize f.getD k 0 = x at c1 hw HF2 HG2 HR2 HB2
      generalize g.getD k 0 = y at c2 hw HF2 HG2 HR2 HB2
      go_wp2
      go_region
      all_goals
        go_wp2
        go_roundw
        case rel => exact ⟨k + 1, by omega, by go_num, HB2.out.drew, RowZ.drew HF2.out, RowZ.drew HG2.out, RowZ.drew HR2.out⟩
        case measure => simp [intOf]; omega
    · obtain rfl : k = 16 := by omega
      have hX : (zipA (fun x y => 1 * x + 1 * y) f g).length = 16 := by rw [zipA_len _ hfg, hf]
      have hz : zipTo (fun x y => 1 * x + 1 * y) f g 16 = zipA (fun x y => 1 * x + 1 * y) f g := by have h := zipTo_all (fun x y => 1 * x + 1 * y) hfg; rw [hf] at h; exact h
      rw [hz] at HF
      have hsm : small (zipA (fun x y => 1 * x + 1 * y) f g) := within_small (lo := 0) (hi := 524286) (within_zip hfg bf bg (fun x y h1 h2 h3 h4 => ⟨by show _ ≤ 1 * x + 1 * y; omega, by show 1 * x + 1 * y ≤ _; omega⟩)) (by decide) (by decide)
      have hval : canon (lval fb (zipA (fun x y => 1 * x + 1 * y) f g)) = canon (v16 f + v16 g) := by rw [v16_fb hX, v16_lin 1 1 hfg]; congr 1; omega
      clear hz bf bg
      generalize zipA (fun x y => 1 * x + 1 * y) f g = X at HF hX hsm hval
      go_upto_region 6 with fail
      refine wp_region_lit ?_
      refine wpl_load rfl _ _ rfl _ rfl w.heap.size (rowL .i64 X) rfl 63 (0, 0) HF.out _ Try.underlying63 rfl (sizeFnL hX) ?_
      try simp only [Act.put, List.getElem_toArray, List.getElem_cons_succ, List.getElem_cons_zero, List.setIfInBounds_toArray, List.set_cons_succ, List.set_cons_zero]
      go_wp2_with fail
      refine Calls.mono (reduced_any X _ hX) ?_
      rintro e wq ⟨r, rfl, hr, hb⟩
      rename_i hq
      refine hq _ _ ?_
      clear hq
      try simp only [Act.put, List.getElem_toArray, List.getElem_cons_succ, List.getElem_cons_zero, List.setIfInBounds_toArray, List.set_cons_succ, List.set_cons_zero]
      have hrv : r = canon (v16 f + v16 g) := (hr.2 hsm).trans (hval)
      have hrl : r.length = 16 := by rw [hrv]; exact canon_len _
      have hres := HR.out.next hb
      have hBq := HB.out.trans (hb.mono HB.out.size)
      refine wpList_store_rowTo rfl _ _ _ rfl rfl (w.heap.size + 2) (rowL .i64 r) rfl rfl 63 (rowL .i64 (List.replicate 16 0)) hres (sizeFnL hrl) (by rw [rowL_size, rowL_size, hrl]; rfl) (rowL_one _ _) ?_
      try simp only [Act.put, List.getElem_toArray, List.getElem_cons_succ, List.getElem_cons_zero, List.setIfInBounds_toArray, List.set_cons_succ, List.set_cons_zero]
      have hR : (wq.setRow (w.heap.size + 2) (rowL .i64 r)).heap[w.heap.size + 2]? = some (.cells (rowL .i64 r) 63 (0, 0)) := setRow_heap _ _ _ _ _ _ hres
      have hBB := below_setRow hBq (show w.heap.size ≤ w.heap.size + 2 by omega) (rowL .i64 r)
      generalize wq.setRow (w.heap.size + 2) (rowL .i64 r) = wz at hR hBB ⊢
      go_wp2
      refine bodyPost_ret (results_cell_row rfl _ _ (w.heap.size + 2) 63 (rowL .i64 r) (0, 0) _ rfl ?_ Try.underlying63 rfl (sizeFnL hrl)) rfl ?_
      · exact hR
      · exact ⟨by rw [hrv], hBB⟩
set_option maxHeartbeats 1600000 in
theorem minus_any (f g : List Int) (w : World) (hf : f.length = 16) (hg : g.length = 16) (bf : within 0 262143 f) (bg : within 0 262143 g) :
    Calls Try.prog 57 #[.agg (rowL .i64 f), .agg (rowL .i64 g)] w fun e w' => e = .returned (.agg (rowL .i64 (canon (v16 f - v16 g)))) ∧ Below w.heap.size w w' := by
  go_enter Try.func57, Try.ntmps57
  go_upto_region 1 with fail
  have hAr : (((w.alloc (.cells (rowL .i64 f) 63)).alloc (.cells (rowL .i64 g) 63)).alloc (.cells (rowL .i64 (List.replicate 16 0)) 63)).heap[w.heap.size + 2]? = some (.cells (rowL .i64 (List.replicate 16 0)) 63 (0, 0)) := by
    have := heap_alloc_new ((w.alloc (.cells (rowL .i64 f) 63)).alloc (.cells (rowL .i64 g) 63)) (.cells (rowL .i64 (List.replicate 16 0)) 63)
    simpa using this
  have hAg : (((w.alloc (.cells (rowL .i64 f) 63)).alloc (.cells (rowL .i64 g) 63)).alloc (.cells (rowL .i64 (List.replicate 16 0)) 63)).heap[w.heap.size + 1]? = some (.cells (rowL .i64 g) 63 (0, 0)) := by
    have := heap_alloc_new (w.alloc (.cells (rowL .i64 f) 63)) (.cells (rowL .i64 g) 63)
    exact (Lib.alloc_old _ _ _ (by simp)).trans (by simpa using this)
  have hAf : (((w.alloc (.cells (rowL .i64 f) 63)).alloc (.cells (rowL .i64 g) 63)).alloc (.cells (rowL .i64 (List.replicate 16 0)) 63)).heap[w.heap.size]? = some (.cells (rowL .i64 f) 63 (0, 0)) := (Lib.alloc_old _ _ _ (by simp; omega)).trans <| (Lib.alloc_old _ _ _ (by simp)).trans (heap_alloc_new w _)
  have hB0 : Below w.heap.size w (((w.alloc (.cells (rowL .i64 f) 63)).alloc (.cells (rowL .i64 g) 63)).alloc (.cells (rowL .i64 (List.replicate 16 0)) 63)) := (((Below.refl _ _).alloc (Nat.le_refl _) _).alloc (by simp) _).alloc (by simp; omega) _
  rw [← zeroFn] at hAr hAg hAf hB0
  generalize (((w.alloc (.cells (rowL .i64 f) 63)).alloc (.cells (rowL .i64 g) 63)).alloc (.cells #[.int .i64 0, .int .i64 0, .int .i64 0, .int .i64 0, .int .i64 0, .int .i64 0, .int .i64 0, .int .i64 0, .int .i64 0, .int .i64 0, .int .i64 0, .int .i64 0, .int .i64 0, .int .i64 0, .int .i64 0, .int .i64 0] 63)) = w0 at hAr hAg hAf hB0 ⊢
  rw [zeroFn] at hAr
  have HR : Hid (RowZ w0 (w.heap.size + 2) 63 .i64 (List.replicate 16 0)) := hAr
  have HG : Hid (RowZ w0 (w.heap.size + 1) 63 .i64 g) := hAg
  have HF : Hid (RowZ w0 w.heap.size 63 .i64 f) := hAf
  have HB : Hid (Below w.heap.size w w0) := hB0
  clear hAr hAg hAf hB0
  go_wp2
  go_loopw [6] (fun i wr => ∃ k : Nat, k ≤ 16 ∧ i = .int .i64 (k : Int) ∧ Hid (Below w.heap.size w wr) ∧ Hid (RowZ wr w.heap.size 63 .i64 (zipTo (fun x y => 1 * x + (-1) * y) f g k)) ∧ Hid (RowZ wr (w.heap.size + 1) 63 .i64 g) ∧ Hid (RowZ wr (w.heap.size + 2) 63 .i64 (List.replicate 16 0)))
    (fun i _ => 16 - (intOf i).toNat)
  case atStart => exact ⟨0, Nat.zero_le _, rfl, HB, HF, HG, HR⟩
  case round =>
    clear HB HF HG HR
    obtain ⟨k, hk, rfl, HB, HF, HG, HR⟩ := hrel
    have hfg : f.length = g.length := by omega
    by_cases hlt : k < 16
    · have hi0 : (0 : Int) ≤ (k : Int) := by omega
      have hi1 : (k : Int) < 16 := by omega
      have c1 := HF.out.cell (i := k) (by rw [zipTo_len _ hfg (by omega)]; omega)
      rw [zipTo_at _ hfg (by omega)] at c1
      have z1 := HF.out.froz k
      have c2 := HG.out.cell (i := k) (by omega)
      have b1 := bf k (by omega)
      have b2 := bg k (by omega)
      have HN := zipTo_next (fun x y => 1 * x + (-1) * y) hfg (k := k) (by omega)
      have HE : Hid (1 * f.getD k 0 + (-1) * g.getD k 0 = f.getD k 0 - g.getD k 0) := by show _ = _; omega
      rw [HE.out] at HN
      have hw : IntKind.i64.wrap (f.getD k 0 - g.getD k 0) = f.getD k 0 - g.getD k 0 := by rw [w64_wrap]; exact w64_id (by omega) (by omega)
      have HF2 : Hid (RowZ (wr.setCell ⟨w.heap.size, k, none⟩ (.int .i64 (f.getD k 0 - g.getD k 0))) w.heap.size 63 .i64 (zipTo (fun x y => 1 * x + (-1) * y) f g (k + 1))) := by rw [← HN]; exact HF.out.set k _
      have HG2 : Hid (RowZ (wr.setCell ⟨w.heap.size, k, none⟩ (.int .i64 (f.getD k 0 - g.getD k 0))) (w.heap.size + 1) 63 .i64 g) := HG.out.other _ (by omega)
      have HR2 : Hid (RowZ (wr.setCell ⟨w.heap.size, k, none⟩ (.int .i64 (f.getD k 0 - g.getD k 0))) (w.heap.size + 2) 63 .i64 (List.replicate 16 0)) := HR.out.other _ (by omega)
      have HB2 : Hid (Below w.heap.size w (wr.setCell ⟨w.heap.size, k, none⟩ (.int .i64 (f.getD k 0 - g.getD k 0)))) := HB.out.setCell (Nat.le_refl _) _
      clear HN HE b1 b2 HF HG HR HB
      generalize f.getD k 0 = x at c1 hw HF2 HG2 HR2 HB2
      generalize g.getD k 0 = y at c2 hw HF2 HG2 HR2 HB2
      go_wp2
      go_region
      all_goals
        go_wp2
        go_roundw
        case rel => exact ⟨k + 1, by omega, by go_num, HB2.out.drew, RowZ.drew HF2.out, RowZ.drew HG2.out, RowZ.drew HR2.out⟩
        case measure => simp [intOf]; omega
    · obtain rfl : k = 16 := by omega
      have hX : (zipA (fun x y => 1 * x + (-1) * y) f g).length = 16 := by rw [zipA_len _ hfg, hf]
      have hz : zipTo (fun x y => 1 * x + (-1) * y) f g 16 = zipA (fun x y => 1 * x + (-1) * y) f g := by have h := zipTo_all (fun x y => 1 * x + (-1) * y) hfg; rw [hf] at h; exact h
      rw [hz] at HF
      have hsm : small (zipA (fun x y => 1 * x + (-1) * y) f g) := within_small (lo := -262143) (hi := 262143) (within_zip hfg bf bg (fun x y h1 h2 h3 h4 => ⟨by show _ ≤ 1 * x + (-1) * y; omega, by show 1 * x + (-1) * y ≤ _; omega⟩)) (by decide) (by decide)
      have hval : canon (lval fb (zipA (fun x y => 1 * x + (-1) * y) f g)) = canon (v16 f - v16 g) := by rw [v16_fb hX, v16_lin 1 (-1) hfg]; congr 1; omega
      clear hz bf bg
      generalize zipA (fun x y => 1 * x + (-1) * y) f g = X at HF hX hsm hval
      go_upto_region 6 with fail
      refine wp_region_lit ?_
      refine wpl_load rfl _ _ rfl _ rfl w.heap.size (rowL .i64 X) rfl 63 (0, 0) HF.out _ Try.underlying63 rfl (sizeFnL hX) ?_
      try simp only [Act.put, List.getElem_toArray, List.getElem_cons_succ, List.getElem_cons_zero, List.setIfInBounds_toArray, List.set_cons_succ, List.set_cons_zero]
      go_wp2_with fail
      refine Calls.mono (reduced_any X _ hX) ?_
      rintro e wq ⟨r, rfl, hr, hb⟩
      rename_i hq
      refine hq _ _ ?_
      clear hq
      try simp only [Act.put, List.getElem_toArray, List.getElem_cons_succ, List.getElem_cons_zero, List.setIfInBounds_toArray, List.set_cons_succ, List.set_cons_zero]
      have hrv : r = canon (v16 f - v16 g) := (hr.2 hsm).trans (hval)
      have hrl : r.length = 16 := by rw [hrv]; exact canon_len _
      have hres := HR.out.next hb
      have hBq := HB.out.trans (hb.mono HB.out.size)
      refine wpList_store_rowTo rfl _ _ _ rfl rfl (w.heap.size + 2) (rowL .i64 r) rfl rfl 63 (rowL .i64 (List.replicate 16 0)) hres (sizeFnL hrl) (by rw [rowL_size, rowL_size, hrl]; rfl) (rowL_one _ _) ?_
      try simp only [Act.put, List.getElem_toArray, List.getElem_cons_succ, List.getElem_cons_zero, List.setIfInBounds_toArray, List.set_cons_succ, List.set_cons_zero]
      have hR : (wq.setRow (w.heap.size + 2) (rowL .i64 r)).heap[w.heap.size + 2]? = some (.cells (rowL .i64 r) 63 (0, 0)) := setRow_heap _ _ _ _ _ _ hres
      have hBB := below_setRow hBq (show w.heap.size ≤ w.heap.size + 2 by omega) (rowL .i64 r)
      generalize wq.setRow (w.heap.size + 2) (rowL .i64 r) = wz at hR hBB ⊢
      go_wp2
      refine bodyPost_ret (results_cell_row rfl _ _ (w.heap.size + 2) 63 (rowL .i64 r) (0, 0) _ rfl ?_ Try.underlying63 rfl (sizeFnL hrl)) rfl ?_
      · exact hR
      · exact ⟨by rw [hrv], hBB⟩
end Go.Proofs.Ytjhglbdknjoeeaa
