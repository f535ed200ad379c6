/- The program's numbers of a tag (chapter 25): times. -/
import Derived.Test.YtopdjfgomclffaaMulQ
import Derived.Test.YtopdjfgomclffaaRed25
import Derived.WalkKit
import Derived.WalkLawsBesides
import Derived.WalkSpells
import Derived.BigRegion
import Derived.Laws.ShiftsVar
import Derived.Below
import Derived.OwnWalk
import Derived.PlainAid
import Derived.Great.Walk
import Derived.Test.YtopdjfgomclffaaAsl25
namespace Go.Proofs.Ytopdjfgomclffaa
open Go.RowKit Go.PlainAid
set_option maxRecDepth 20000
set_option linter.unusedVariables false
set_option linter.unusedSimpArgs false
set_option maxHeartbeats 3200000 in
theorem timesV_any (f g : List Int) (V : Int) (w : World) (hf : lok pb f) (hg : lok pb g) (hV : V = lval pb f * lval pb g) :
    Calls Try.prog 27 #[.agg (rowL .u64 f), .agg (rowL .u64 g)] w fun e w' => e = .returned (.agg (rowL .u64 (canonP V))) ∧ Below w.heap.size w w' := by
  have hf5 : f.length = 5 := lok_len hf
  have hg5 : g.length = 5 := lok_len hg
  have HVAL : Hid (canonP (lval pb (mulTo f g 5)) = canonP V) := by show _ = _; rw [hV]; exact mul_canon hf5 hg5
  have HBD : Hid (bdP (mulTo f g 5)) := bdM_bd (by omega) (mulTo_bd hf hg 5 (Nat.le_refl _))
  have HLF : Hid (lok pb f) := hf
  have HLG : Hid (lok pb g) := hg
  have HIF : Hid (∀ k : Nat, k < 5 → ∀ wz : World, (Instr.index 50 (.agg (rowL .u64 f)) (.int .i64 (k : Int))).run Try.prog wz = .ok (.int .u64 (f.getD k 0)) wz) := fun k hk wz => index_pn f hf5 hk wz
  have HIG : Hid (∀ k : Nat, k < 5 → ∀ wz : World, (Instr.index 50 (.agg (rowL .u64 g)) (.int .i64 (k : Int))).run Try.prog wz = .ok (.int .u64 (g.getD k 0)) wz) := fun k hk wz => index_pn g hg5 hk wz
  clear hf hg hV
  go_enter Try.func27, Try.ntmps27
  go_upto_region 1 with fail
  have hAr : (((w.alloc (.cells (rowL .u64 f) 52)).alloc (.cells (rowL .u64 g) 52)).alloc (.cells (rowL .u64 z5) 52)).heap[w.heap.size + 2]? = some (.cells (rowL .u64 z5) 52 (0, 0)) := by
    have := heap_alloc_new ((w.alloc (.cells (rowL .u64 f) 52)).alloc (.cells (rowL .u64 g) 52)) (.cells (rowL .u64 z5) 52)
    simpa using this
  have hAg : (((w.alloc (.cells (rowL .u64 f) 52)).alloc (.cells (rowL .u64 g) 52)).alloc (.cells (rowL .u64 z5) 52)).heap[w.heap.size + 1]? = some (.cells (rowL .u64 g) 52 (0, 0)) := by
    have := heap_alloc_new (w.alloc (.cells (rowL .u64 f) 52)) (.cells (rowL .u64 g) 52)
    exact (Lib.alloc_old _ _ _ (by simp)).trans (by simpa using this)
  have hAf : (((w.alloc (.cells (rowL .u64 f) 52)).alloc (.cells (rowL .u64 g) 52)).alloc (.cells (rowL .u64 z5) 52)).heap[w.heap.size]? = some (.cells (rowL .u64 f) 52 (0, 0)) := (Lib.alloc_old _ _ _ (by simp; omega)).trans <| (Lib.alloc_old _ _ _ (by simp)).trans (heap_alloc_new w _)
  have hB0 : Below w.heap.size w (((w.alloc (.cells (rowL .u64 f) 52)).alloc (.cells (rowL .u64 g) 52)).alloc (.cells (rowL .u64 z5) 52)) := (((Below.refl _ _).alloc (Nat.le_refl _) _).alloc (by simp) _).alloc (by simp; omega) _
  rw [← zeroPn] at hAr hAg hAf hB0
  generalize (((w.alloc (.cells (rowL .u64 f) 52)).alloc (.cells (rowL .u64 g) 52)).alloc (.cells #[.int .u64 0, .int .u64 0, .int .u64 0, .int .u64 0, .int .u64 0] 52)) = w0 at hAr hAg hAf hB0 ⊢
  rw [zeroPn] at hAr
  have HR : Hid (RowZ w0 (w.heap.size + 2) 52 .u64 z5) := hAr
  have HG : Hid (RowZ w0 (w.heap.size + 1) 52 .u64 g) := hAg
  have HF : Hid (RowZ w0 w.heap.size 52 .u64 f) := hAf
  have HB : Hid (Below w.heap.size w w0) := hB0
  clear hAr hAg hAf hB0
  have hs0 : w.heap.size + 2 < w0.heap.size := HR.out.lt
  go_upto_region 2 with fail
  have HX1 : Hid (RowZ (w0.alloc (.cells #[.int .u64 0, .int .u64 0, .int .u64 0, .int .u64 0, .int .u64 0] 52)) w0.heap.size 52 .u64 z5) := heap_alloc_new w0 _
  have HF1 : Hid (RowZ (w0.alloc (.cells #[.int .u64 0, .int .u64 0, .int .u64 0, .int .u64 0, .int .u64 0] 52)) w.heap.size 52 .u64 f) := (Lib.alloc_old _ _ _ (by omega)).trans HF.out
  have HG1 : Hid (RowZ (w0.alloc (.cells #[.int .u64 0, .int .u64 0, .int .u64 0, .int .u64 0, .int .u64 0] 52)) (w.heap.size + 1) 52 .u64 g) := (Lib.alloc_old _ _ _ (by omega)).trans HG.out
  have HR1 : Hid (RowZ (w0.alloc (.cells #[.int .u64 0, .int .u64 0, .int .u64 0, .int .u64 0, .int .u64 0] 52)) (w.heap.size + 2) 52 .u64 z5) := (Lib.alloc_old _ _ _ (by omega)).trans HR.out
  have HB1 : Hid (Below w.heap.size w (w0.alloc (.cells #[.int .u64 0, .int .u64 0, .int .u64 0, .int .u64 0, .int .u64 0] 52))) := HB.out.alloc HB.out.size _
  generalize w0.alloc (.cells #[.int .u64 0, .int .u64 0, .int .u64 0, .int .u64 0, .int .u64 0] 52) = w1 at HX1 HF1 HG1 HR1 HB1 ⊢
  generalize w0.heap.size = g5 at hs0 HX1 ⊢
  clear HF HG HR HB
  refine wp_region_lit ?_
  refine Go.Great.wpList_runTo rfl _ rfl (.pointer (some ⟨w.heap.size, 0, none⟩)) w1 (by unfold execOp; go_simp) ?_
  try simp only [Act.put, List.getElem_toArray, List.getElem_cons_succ, List.getElem_cons_zero, List.setIfInBounds_toArray, List.set_cons_succ, List.set_cons_zero]
  have hsz : (Try.prog.info? 50).map (·.size) = some f.length := by rw [hf5]; exact size5
  refine wpl_load rfl _ _ rfl _ rfl w.heap.size (rowL .u64 f) rfl 52 (0, 0) HF1.out _ Try.underlying50 rfl (by rw [rowL_size]; exact hsz) ?_
  try simp only [Act.put, List.getElem_toArray, List.getElem_cons_succ, List.getElem_cons_zero, List.setIfInBounds_toArray, List.set_cons_succ, List.set_cons_zero]
  clear hsz
  refine Go.Great.wpList_runTo rfl _ rfl (.int .i64 0) w1 (by unfold execOp; go_simp) ?_
  try simp only [Act.put, List.getElem_toArray, List.getElem_cons_succ, List.getElem_cons_zero, List.setIfInBounds_toArray, List.set_cons_succ, List.set_cons_zero]
  go_wp2
  go_loopw [12] (fun i wr => ∃ k : Nat, k ≤ 5 ∧ i = .int .i64 (k : Int) ∧ Hid (Below w.heap.size w wr) ∧ Hid (RowZ wr w.heap.size 52 .u64 f) ∧ Hid (RowZ wr (w.heap.size + 1) 52 .u64 g) ∧ Hid (RowZ wr (w.heap.size + 2) 52 .u64 z5) ∧ Hid (RowZ wr g5 52 .u64 (mulTo f g k)))
    (fun i _ => 5 - (intOf i).toNat)
  case atStart => exact ⟨0, Nat.zero_le _, rfl, HB1, HF1, HG1, HR1, HX1⟩
  case round =>
    clear HB1 HF1 HG1 HR1 HX1
    obtain ⟨k, hk, rfl, HB, HF, HG, HR, HX⟩ := hrel
    by_cases hlt : k < 5
    · have hi0 : (0 : Int) ≤ (k : Int) := by omega
      have hi1 : (k : Int) < 5 := by omega
      have hix := HIF.out k hlt wr
      have HM : Hid (bdM (5 * k) (mulTo f g k)) := mulTo_bd HLF.out HLG.out k hk
      have HFX : Hid (mulTo f g (k + 1) = rowTo (mulTo f g k) f g k 5) := rfl
      have hml : (mulTo f g k).length = 5 := mulTo_len f g k
      generalize mulTo f g k = m at HX HM HFX hml
      have bx := lok_at HLF.out hlt
      obtain ⟨x, hx⟩ : ∃ x, f.getD k 0 = x := ⟨_, rfl⟩
      rw [hx] at hix bx
      have HXV : Hid (f.getD k 0 = x) := hx
      clear hx
      go_upto_region 5 with fail
      refine wp_region_lit ?_
      refine Go.Great.wpList_runTo rfl _ rfl (.pointer (some ⟨w.heap.size + 1, 0, none⟩)) wr (by unfold execOp; go_simp) ?_
      try simp only [Act.put, List.getElem_toArray, List.getElem_cons_succ, List.getElem_cons_zero, List.setIfInBounds_toArray, List.set_cons_succ, List.set_cons_zero]
      have hsz : (Try.prog.info? 50).map (·.size) = some g.length := by rw [hg5]; exact size5
      refine wpl_load rfl _ _ rfl _ rfl (w.heap.size + 1) (rowL .u64 g) rfl 52 (0, 0) HG.out _ Try.underlying50 rfl (by rw [rowL_size]; exact hsz) ?_
      try simp only [Act.put, List.getElem_toArray, List.getElem_cons_succ, List.getElem_cons_zero, List.setIfInBounds_toArray, List.set_cons_succ, List.set_cons_zero]
      clear hsz hix
      refine Go.Great.wpList_runTo rfl _ rfl (.int .i64 0) wr (by unfold execOp; go_simp) ?_
      try simp only [Act.put, List.getElem_toArray, List.getElem_cons_succ, List.getElem_cons_zero, List.setIfInBounds_toArray, List.set_cons_succ, List.set_cons_zero]
      go_wp2
      go_loopw [18] (fun i wr => ∃ j : Nat, j ≤ 5 ∧ i = .int .i64 (j : Int) ∧ Hid (Below w.heap.size w wr) ∧ Hid (RowZ wr w.heap.size 52 .u64 f) ∧ Hid (RowZ wr (w.heap.size + 1) 52 .u64 g) ∧ Hid (RowZ wr (w.heap.size + 2) 52 .u64 z5) ∧ Hid (RowZ wr g5 52 .u64 (rowTo m f g k j)))
        (fun i _ => 5 - (intOf i).toNat)
      case atStart => exact ⟨0, Nat.zero_le _, rfl, HB, HF, HG, HR, HX⟩
      case round =>
        clear HB HF HG HR HX
        obtain ⟨j, hj, rfl, HB, HF, HG, HR, HX⟩ := hrel
        by_cases hlj : j < 5
        · have hj0 : (0 : Int) ≤ (j : Int) := by omega
          have hj1 : (j : Int) < 5 := by omega
          have hiy := HIG.out j hlj wr
          have by1 := lok_at HLG.out hlj
          by_cases hc : k + j < 5
          · have hacc : rowTo m f g k (j + 1) = (rowTo m f g k j).set (k + j) ((rowTo m f g k j).getD (k + j) 0 + f.getD k 0 * g.getD j 0) := by
              show acc1 (rowTo m f g k j) f g k j = _
              unfold acc1
              rw [if_pos hc]
            rw [HXV.out] at hacc
            have hbt := (rowTo_bd HLF.out HLG.out hlt HM.out j hj).2 (k + j) (by omega)
            have hrl : (rowTo m f g k j).length = 5 := rowTo_len hml j
            have hbnd : ((5 * k + j : Nat) : Int) * 22517998136852480 ≤ 562949953421312000 := by omega
            have c1 := HX.out.cell (i := k + j) (by omega)
            have z1 := HX.out.froz (k + j)
            generalize (rowTo m f g k j).getD (k + j) 0 = v at c1 hacc hbt
            generalize g.getD j 0 = y at hiy by1 hacc
            have hp := prodP bx by1
            have hw0 : IntKind.i64.wrap ((k : Int) + (j : Int)) = (k : Int) + (j : Int) := by rw [IntKind.wrap_i64]; omega
            have hcI : (k : Int) + (j : Int) < 5 := by omega
            have hq0 : (0 : Int) ≤ (k : Int) + (j : Int) := by omega
            have hm5 : 5 * x * y = 5 * (x * y) := Int.mul_assoc _ _ _
            have hw1 : IntKind.u64.wrap (x * y) = x * y := by rw [IntKind.wrap_u64]; omega
            have hw2 : IntKind.u64.wrap (v + x * y) = (v + x * y) := by rw [IntKind.wrap_u64]; omega
            have HX2 : Hid (RowZ (wr.setCell ⟨g5, k + j, none⟩ (.int .u64 (v + x * y))) g5 52 .u64 (rowTo m f g k (j + 1))) := by rw [hacc]; exact HX.out.set (k + j) _
            have HF2 : Hid (RowZ (wr.setCell ⟨g5, k + j, none⟩ (.int .u64 (v + x * y))) w.heap.size 52 .u64 f) := HF.out.other _ (by omega)
            have HG2 : Hid (RowZ (wr.setCell ⟨g5, k + j, none⟩ (.int .u64 (v + x * y))) (w.heap.size + 1) 52 .u64 g) := HG.out.other _ (by omega)
            have HR2 : Hid (RowZ (wr.setCell ⟨g5, k + j, none⟩ (.int .u64 (v + x * y))) (w.heap.size + 2) 52 .u64 z5) := HR.out.other _ (by omega)
            have HB2 : Hid (Below w.heap.size w (wr.setCell ⟨g5, k + j, none⟩ (.int .u64 (v + x * y)))) := HB.out.setCell (show w.heap.size ≤ g5 by omega) _
            clear hacc hbt hbnd hp hm5 by1 HB HF HG HR HX hrl
            go_wp2
            go_roundw
            case rel => exact ⟨j + 1, by omega, by go_num, HB2, HF2, HG2, HR2, HX2⟩
            case measure => simp [intOf]; omega
          · have hacc : rowTo m f g k (j + 1) = (rowTo m f g k j).set (k + j - 5) ((rowTo m f g k j).getD (k + j - 5) 0 + 5 * f.getD k 0 * g.getD j 0) := by
              show acc1 (rowTo m f g k j) f g k j = _
              unfold acc1
              rw [if_neg hc]
            rw [HXV.out] at hacc
            have hbt := (rowTo_bd HLF.out HLG.out hlt HM.out j hj).2 (k + j - 5) (by omega)
            have hrl : (rowTo m f g k j).length = 5 := rowTo_len hml j
            have hbnd : ((5 * k + j : Nat) : Int) * 22517998136852480 ≤ 562949953421312000 := by omega
            have c1 := HX.out.cell (i := k + j - 5) (by omega)
            have z1 := HX.out.froz (k + j - 5)
            generalize (rowTo m f g k j).getD (k + j - 5) 0 = v at c1 hacc hbt
            generalize g.getD j 0 = y at hiy by1 hacc
            have hp := prodP bx by1
            obtain ⟨q, hq⟩ : ∃ q, k + j - 5 = q := ⟨_, rfl⟩
            rw [hq] at c1 z1 hacc
            have hqi : (k : Int) + (j : Int) - 5 = (q : Int) := by omega
            have hw0 : IntKind.i64.wrap ((k : Int) + (j : Int)) = (k : Int) + (j : Int) := by rw [IntKind.wrap_i64]; omega
            have hcI : ¬ (k : Int) + (j : Int) < 5 := by omega
            have hw9 : IntKind.i64.wrap ((k : Int) + (j : Int) - 5) = (q : Int) := by rw [IntKind.wrap_i64]; omega
            have hq0 : (0 : Int) ≤ (q : Int) := by omega
            have hq1 : (q : Int) < 5 := by omega
            have hm5 : 5 * x * y = 5 * (x * y) := Int.mul_assoc _ _ _
            have hw1 : IntKind.u64.wrap (5 * x) = 5 * x := by rw [IntKind.wrap_u64]; omega
            have hw3 : IntKind.u64.wrap (5 * x * y) = 5 * x * y := by rw [IntKind.wrap_u64, hm5]; omega
            have hw2 : IntKind.u64.wrap (v + 5 * x * y) = (v + 5 * x * y) := by rw [IntKind.wrap_u64]; omega
            have HX2 : Hid (RowZ (wr.setCell ⟨g5, q, none⟩ (.int .u64 (v + 5 * x * y))) g5 52 .u64 (rowTo m f g k (j + 1))) := by rw [hacc]; exact HX.out.set (q) _
            have HF2 : Hid (RowZ (wr.setCell ⟨g5, q, none⟩ (.int .u64 (v + 5 * x * y))) w.heap.size 52 .u64 f) := HF.out.other _ (by omega)
            have HG2 : Hid (RowZ (wr.setCell ⟨g5, q, none⟩ (.int .u64 (v + 5 * x * y))) (w.heap.size + 1) 52 .u64 g) := HG.out.other _ (by omega)
            have HR2 : Hid (RowZ (wr.setCell ⟨g5, q, none⟩ (.int .u64 (v + 5 * x * y))) (w.heap.size + 2) 52 .u64 z5) := HR.out.other _ (by omega)
            have HB2 : Hid (Below w.heap.size w (wr.setCell ⟨g5, q, none⟩ (.int .u64 (v + 5 * x * y)))) := HB.out.setCell (show w.heap.size ≤ g5 by omega) _
            clear hacc hbt hbnd hp hm5 hqi hq by1 HB HF HG HR HX hrl
            go_wp2
            go_roundw
            case rel => exact ⟨j + 1, by omega, by go_num, HB2, HF2, HG2, HR2, HX2⟩
            case measure => simp [intOf]; omega
        · obtain rfl : j = 5 := by omega
          go_wp2
          go_roundw
          case rel => exact ⟨k + 1, by omega, by go_num, HB, HF, HG, HR, by show RowZ _ _ _ _ _; rw [HFX.out]; exact HX.out⟩
          case measure => simp [intOf]; omega
    · obtain rfl : k = 5 := by omega
      have hs5 : (mulTo f g 5).length = 5 := mulTo_len f g 5
      go_upto_region 13 with fail
      refine wp_region_lit ?_
      refine wpl_load rfl _ _ rfl _ rfl g5 (rowL .u64 (mulTo f g 5)) rfl 52 (0, 0) HX.out _ Try.underlying52 rfl (sizePnL hs5) ?_
      try simp only [Act.put, List.getElem_toArray, List.getElem_cons_succ, List.getElem_cons_zero, List.setIfInBounds_toArray, List.set_cons_succ, List.set_cons_zero]
      go_wp2_with fail
      refine Calls.mono (reduced_any (mulTo f g 5) _ HBD.out) ?_
      rintro e wq ⟨rfl, hb⟩
      rename_i hq
      refine hq _ _ ?_
      clear hq
      try simp only [Act.put, List.getElem_toArray, List.getElem_cons_succ, List.getElem_cons_zero, List.setIfInBounds_toArray, List.set_cons_succ, List.set_cons_zero]
      rw [HVAL.out]
      have hres := HR.out.next hb
      have hBq := HB.out.trans (hb.mono HB.out.size)
      have hrl : (canonP V).length = 5 := canonP_len _
      generalize hr : canonP V = r at hrl
      have HRR : Hid (canonP V = r) := hr
      clear hr
      refine wpList_store_rowTo rfl _ _ _ rfl rfl (w.heap.size + 2) (rowL .u64 r) rfl rfl 52 (rowL .u64 z5) hres (sizePnL hrl) (by first | rfl | (simp only [rowL_size]; exact ((rfl : z5.length = 5)).trans (hrl).symm)) (rowL_one _ _) ?_
      try simp only [Act.put, List.getElem_toArray, List.getElem_cons_succ, List.getElem_cons_zero, List.setIfInBounds_toArray, List.set_cons_succ, List.set_cons_zero]
      have hR : (wq.setRow (w.heap.size + 2) (rowL .u64 r)).heap[w.heap.size + 2]? = some (.cells (rowL .u64 r) 52 (0, 0)) := setRow_heap _ _ _ _ _ _ hres
      have hBB := below_setRow hBq (show w.heap.size ≤ w.heap.size + 2 by omega) (rowL .u64 r)
      generalize wq.setRow (w.heap.size + 2) (rowL .u64 r) = wz at hR hBB ⊢
      go_wp2
      refine bodyPost_ret (results_cell_row rfl _ _ (w.heap.size + 2) 52 (rowL .u64 r) (0, 0) _ rfl ?_ Try.underlying52 rfl (sizePnL hrl)) rfl ?_
      · exact hR
      · exact ⟨by rw [HRR.out], hBB⟩
theorem times_any (f g : List Int) (w : World) (hf : lok pb f) (hg : lok pb g) :
    Calls Try.prog 27 #[.agg (rowL .u64 f), .agg (rowL .u64 g)] w fun e w' => e = .returned (.agg (rowL .u64 (canonP (lval pb f * lval pb g)))) ∧ Below w.heap.size w w' := timesV_any f g _ w hf hg rfl
end Go.Proofs.Ytopdjfgomclffaa
