/- The program's numbers of a tag (chapter 25): plus. -/
import Derived.Test.YtopdjfgomclffaaMulQ
import Derived.Test.YtopdjfgomclffaaRed25
import Derived.WalkKit
import Derived.WalkLawsBesides
import Derived.WalkSpells
import Derived.BigRegion
import Derived.Laws.ShiftsVar
import Derived.Below
import Derived.OwnWalk
import Derived.PlainAid
import Derived.Great.Walk
namespace Go.Proofs.Ytopdjfgomclffaa
open Go.RowKit Go.PlainAid
set_option maxRecDepth 20000
set_option linter.unusedVariables false
set_option linter.unusedSimpArgs false
set_option maxHeartbeats 1600000 in
theorem plusV_any (f g : List Int) (V : Int) (w : World) (hf : lok pb f) (hg : lok pb g) (hV : V = lval pb f + lval pb g) :
    Calls Try.prog 28 #[.agg (rowL .u64 f), .agg (rowL .u64 g)] w fun e w' => e = .returned (.agg (rowL .u64 (canonP V))) ∧ Below w.heap.size w w' := by
  have hf5 : f.length = 5 := lok_len hf
  have hg5 : g.length = 5 := lok_len hg
  have hval : canonP (lval pb (sumP f g)) = canonP V := by rw [hV, sumP_val hf5 hg5]
  have HVAL : Hid (canonP (lval pb (sumP f g)) = canonP V) := hval
  have HBD : Hid (bdP (sumP f g)) := sumP_bd hf hg
  have HLF : Hid (lok pb f) := hf
  have HLG : Hid (lok pb g) := hg
  clear hf hg hval hV
  go_enter Try.func28, Try.ntmps28
  go_upto_region 1 with fail
  have hAr : (((w.alloc (.cells (rowL .u64 f) 52)).alloc (.cells (rowL .u64 g) 52)).alloc (.cells (rowL .u64 z5) 52)).heap[w.heap.size + 2]? = some (.cells (rowL .u64 z5) 52 (0, 0)) := by
    have := heap_alloc_new ((w.alloc (.cells (rowL .u64 f) 52)).alloc (.cells (rowL .u64 g) 52)) (.cells (rowL .u64 z5) 52)
    simpa using this
  have hAg : (((w.alloc (.cells (rowL .u64 f) 52)).alloc (.cells (rowL .u64 g) 52)).alloc (.cells (rowL .u64 z5) 52)).heap[w.heap.size + 1]? = some (.cells (rowL .u64 g) 52 (0, 0)) := by
    have := heap_alloc_new (w.alloc (.cells (rowL .u64 f) 52)) (.cells (rowL .u64 g) 52)
    exact (Lib.alloc_old _ _ _ (by simp)).trans (by simpa using this)
  have hAf : (((w.alloc (.cells (rowL .u64 f) 52)).alloc (.cells (rowL .u64 g) 52)).alloc (.cells (rowL .u64 z5) 52)).heap[w.heap.size]? = some (.cells (rowL .u64 f) 52 (0, 0)) := (Lib.alloc_old _ _ _ (by simp; omega)).trans <| (Lib.alloc_old _ _ _ (by simp)).trans (heap_alloc_new w _)
  have hB0 : Below w.heap.size w (((w.alloc (.cells (rowL .u64 f) 52)).alloc (.cells (rowL .u64 g) 52)).alloc (.cells (rowL .u64 z5) 52)) := (((Below.refl _ _).alloc (Nat.le_refl _) _).alloc (by simp) _).alloc (by simp; omega) _
  rw [← zeroPn] at hAr hAg hAf hB0
  generalize (((w.alloc (.cells (rowL .u64 f) 52)).alloc (.cells (rowL .u64 g) 52)).alloc (.cells #[.int .u64 0, .int .u64 0, .int .u64 0, .int .u64 0, .int .u64 0] 52)) = w0 at hAr hAg hAf hB0 ⊢
  rw [zeroPn] at hAr
  have HR : Hid (RowZ w0 (w.heap.size + 2) 52 .u64 z5) := hAr
  have HG : Hid (RowZ w0 (w.heap.size + 1) 52 .u64 g) := hAg
  have HF : Hid (RowZ w0 w.heap.size 52 .u64 f) := hAf
  have HB : Hid (Below w.heap.size w w0) := hB0
  clear hAr hAg hAf hB0
  go_wp2
  go_loopw [6] (fun i wr => ∃ k : Nat, k ≤ 5 ∧ i = .int .i64 (k : Int) ∧ Hid (Below w.heap.size w wr) ∧ Hid (RowZ wr w.heap.size 52 .u64 (sumPT f g k)) ∧ Hid (RowZ wr (w.heap.size + 1) 52 .u64 g) ∧ Hid (RowZ wr (w.heap.size + 2) 52 .u64 z5))
    (fun i _ => 5 - (intOf i).toNat)
  case atStart => exact ⟨0, Nat.zero_le _, rfl, HB, by rw [sumPT_zero]; exact HF, HG, HR⟩
  case round =>
    clear HB HF HG HR
    obtain ⟨k, hk, rfl, HB, HF, HG, HR⟩ := hrel
    by_cases hlt : k < 5
    · have hi0 : (0 : Int) ≤ (k : Int) := by omega
      have hi1 : (k : Int) < 5 := by omega
      have c1 := HF.out.cell (i := k) (by rw [sumPT_len hf5 hg5 hk]; omega)
      rw [sumPT_at hf5 hg5 hlt] at c1
      have z1 := HF.out.froz k
      have c2 := HG.out.cell (i := k) (by omega)
      have b1 := lok_at HLF.out hlt
      have b2 := lok_at HLG.out hlt
      have HN := sumPT_next hf5 hg5 hlt
      generalize f.getD k 0 = x at c1 b1 HN
      generalize g.getD k 0 = y at c2 b2 HN
      have hw : IntKind.u64.wrap (x + y) = x + y := by rw [IntKind.wrap_u64]; omega
      have HF2 : Hid (RowZ (wr.setCell ⟨w.heap.size, k, none⟩ (.int .u64 (x + y))) w.heap.size 52 .u64 (sumPT f g (k + 1))) := by rw [← HN]; exact HF.out.set k _
      have HG2 : Hid (RowZ (wr.setCell ⟨w.heap.size, k, none⟩ (.int .u64 (x + y))) (w.heap.size + 1) 52 .u64 g) := HG.out.other _ (by omega)
      have HR2 : Hid (RowZ (wr.setCell ⟨w.heap.size, k, none⟩ (.int .u64 (x + y))) (w.heap.size + 2) 52 .u64 z5) := HR.out.other _ (by omega)
      have HB2 : Hid (Below w.heap.size w (wr.setCell ⟨w.heap.size, k, none⟩ (.int .u64 (x + y)))) := HB.out.setCell (Nat.le_refl _) _
      clear HN b1 b2 HF HG HR HB
      go_wp2
      go_region
      all_goals
        go_wp2
        go_roundw
        case rel => exact ⟨k + 1, by omega, by go_num, HB2.out.drew, HF2.out.drew, HG2.out.drew, HR2.out.drew⟩
        case measure => simp [intOf]; omega
    · obtain rfl : k = 5 := by omega
      have hs5 : (sumP f g).length = 5 := sumP_len hf5 hg5
      rw [sumPT_all hf5 hg5] at HF
      go_upto_region 6 with fail
      refine wp_region_lit ?_
      refine wpl_load rfl _ _ rfl _ rfl w.heap.size (rowL .u64 (sumP f g)) rfl 52 (0, 0) HF.out _ Try.underlying52 rfl (sizePnL hs5) ?_
      try simp only [Act.put, List.getElem_toArray, List.getElem_cons_succ, List.getElem_cons_zero, List.setIfInBounds_toArray, List.set_cons_succ, List.set_cons_zero]
      go_wp2_with fail
      refine Calls.mono (reduced_any (sumP f g) _ HBD.out) ?_
      rintro e wq ⟨rfl, hb⟩
      rename_i hq
      refine hq _ _ ?_
      clear hq
      try simp only [Act.put, List.getElem_toArray, List.getElem_cons_succ, List.getElem_cons_zero, List.setIfInBounds_toArray, List.set_cons_succ, List.set_cons_zero]
      rw [HVAL.out]
      have hres := HR.out.next hb
      have hBq := HB.out.trans (hb.mono HB.out.size)
      have hrl : (canonP V).length = 5 := canonP_len _
      generalize hr : canonP V = r at hrl
      have HRR : Hid (canonP V = r) := hr
      clear hr
      refine wpList_store_rowTo rfl _ _ _ rfl rfl (w.heap.size + 2) (rowL .u64 r) rfl rfl 52 (rowL .u64 z5) hres (sizePnL hrl) (by first | rfl | (simp only [rowL_size]; exact ((rfl : z5.length = 5)).trans (hrl).symm)) (rowL_one _ _) ?_
      try simp only [Act.put, List.getElem_toArray, List.getElem_cons_succ, List.getElem_cons_zero, List.setIfInBounds_toArray, List.set_cons_succ, List.set_cons_zero]
      have hR : (wq.setRow (w.heap.size + 2) (rowL .u64 r)).heap[w.heap.size + 2]? = some (.cells (rowL .u64 r) 52 (0, 0)) := setRow_heap _ _ _ _ _ _ hres
      have hBB := below_setRow hBq (show w.heap.size ≤ w.heap.size + 2 by omega) (rowL .u64 r)
      generalize wq.setRow (w.heap.size + 2) (rowL .u64 r) = wz at hR hBB ⊢
      go_wp2
      refine bodyPost_ret (results_cell_row rfl _ _ (w.heap.size + 2) 52 (rowL .u64 r) (0, 0) _ rfl ?_ Try.underlying52 rfl (sizePnL hrl)) rfl ?_
      · exact hR
      · exact ⟨by rw [HRR.out], hBB⟩
theorem plus_any (f g : List Int) (w : World) (hf : lok pb f) (hg : lok pb g) :
    Calls Try.prog 28 #[.agg (rowL .u64 f), .agg (rowL .u64 g)] w fun e w' => e = .returned (.agg (rowL .u64 (canonP (lval pb f + lval pb g)))) ∧ Below w.heap.size w w' := plusV_any f g _ w hf hg rfl
end Go.Proofs.Ytopdjfgomclffaa
