/- The program's numbers of a tag (chapter 25): LimbsText. -/
import Derived.Test.YtopdjfgomclffaaTxt25
import Derived.WalkKit
import Derived.WalkLawsBesides
import Derived.WalkSpells
import Derived.BigRegion
import Derived.Below
import Derived.OwnWalk
import Derived.PlainAid
import Derived.Great.Walk
namespace Go.Proofs.Ytopdjfgomclffaa
open Go.RowKit Go.PlainAid
set_option maxRecDepth 20000
set_option linter.unusedVariables false
set_option linter.unusedSimpArgs false
theorem txt_no {l : List Int} (h : okP l = false) : txtP l = ByteArray.empty := by unfold txtP; rw [h]; rfl
theorem txt_yes {l : List Int} (h : okP l = true) : txtP l = byT (lval pb l).toNat := by unfold txtP; rw [h]; rfl
set_option maxHeartbeats 1600000 in
theorem implLimbsText_any (a0 : Option Addr) (c0 : Nat) (n0 : List Int) (w : World) (hr0 : RowI w.heap.size w a0 n0) :
    Calls Try.prog 22 #[.agg #[.slice a0 n0.length c0]] w fun e w' => e = .returned (.string (txtP n0)) ∧ Below w.heap.size w w' := by
  go_enter Try.func22, Try.ntmps22
  go_upto_region 1 with fail
  have hA0 : (w.alloc (.cells #[.slice a0 n0.length c0] 26)).heap[w.heap.size]? = some (.cells #[.slice a0 n0.length c0] 26 (0, 0)) := heap_alloc_new w _
  have hB0 : Below w.heap.size w (w.alloc (.cells #[.slice a0 n0.length c0] 26)) := (Below.refl _ _).alloc (Nat.le_refl _) _
  generalize (w.alloc (.cells #[.slice a0 n0.length c0] 26)) = w0 at hA0 hB0 ⊢
  have hq0 := hr0.grown hB0
  clear hr0
  refine wp_region_lit ?_
  refine wpl_load rfl _ _ rfl _ rfl (w.heap.size) #[.slice a0 n0.length c0] rfl 26 (0, 0) hA0 _ Try.underlying26 rfl (sizeLimbs1 _) ?_
  try simp only [Act.put, List.getElem_toArray, List.getElem_cons_succ, List.getElem_cons_zero, List.setIfInBounds_toArray, List.set_cons_succ, List.set_cons_zero]
  go_wp2_with fail
  refine Calls.mono (number_any a0 c0 n0 w0 (hq0)) ?_
  rintro e w1 ⟨m, rfl, hlm, hem, hb⟩
  rename_i hq
  refine hq _ _ ?_
  clear hq
  try simp only [Act.put, List.getElem_toArray, List.getElem_cons_succ, List.getElem_cons_zero, List.setIfInBounds_toArray, List.set_cons_succ, List.set_cons_zero]
  refine Go.Great.wpList_runTo rfl _ rfl (.tuple #[.agg (rowL .u64 m), .bool (okP n0)]) w1 (by unfold execOp; go_simp) ?_
  try simp only [Act.put, List.getElem_toArray, List.getElem_cons_succ, List.getElem_cons_zero, List.setIfInBounds_toArray, List.set_cons_succ, List.set_cons_zero]
  refine Go.Great.wpList_runTo rfl _ rfl (.agg (rowL .u64 m)) w1 (by unfold execOp; go_simp) ?_
  try simp only [Act.put, List.getElem_toArray, List.getElem_cons_succ, List.getElem_cons_zero, List.setIfInBounds_toArray, List.set_cons_succ, List.set_cons_zero]
  refine Go.Great.wpList_runTo rfl _ rfl (.bool (okP n0)) w1 (by unfold execOp; go_simp) ?_
  try simp only [Act.put, List.getElem_toArray, List.getElem_cons_succ, List.getElem_cons_zero, List.setIfInBounds_toArray, List.set_cons_succ, List.set_cons_zero]
  have hB1 := hB0.trans (hb.mono hB0.size)
  clear hA0 hq0 hb hB0
  refine Go.Great.wpList_allocTo rfl _ rfl (.pointer (some ⟨w1.heap.size, 0, none⟩)) (.cells (rowL .u64 z5) 52) (by rw [← zeroPn]; unfold execOp; go_simp) ?_
  try simp only [Act.put, List.getElem_toArray, List.getElem_cons_succ, List.getElem_cons_zero, List.setIfInBounds_toArray, List.set_cons_succ, List.set_cons_zero]
  have hN := heap_alloc_new w1 (.cells (rowL .u64 z5) 52)
  refine wpList_store_rowTo rfl _ _ _ rfl rfl (w1.heap.size) (rowL .u64 m) rfl rfl 52 (rowL .u64 z5) hN (sizePnL hlm) (by simp only [rowL_size]; exact hlm.symm) (rowL_one _ _) ?_
  try simp only [Act.put, List.getElem_toArray, List.getElem_cons_succ, List.getElem_cons_zero, List.setIfInBounds_toArray, List.set_cons_succ, List.set_cons_zero]
  have HM : Hid (RowZ ((w1.alloc (.cells (rowL .u64 z5) 52)).setRow w1.heap.size (rowL .u64 m)) w1.heap.size 52 .u64 m) := setRow_heap _ _ _ _ _ _ hN
  have HB : Hid (Below w.heap.size w ((w1.alloc (.cells (rowL .u64 z5) 52)).setRow w1.heap.size (rowL .u64 m))) := below_setRow (hB1.alloc hB1.size _) hB1.size _
  generalize (w1.alloc (.cells (rowL .u64 z5) 52)).setRow w1.heap.size (rowL .u64 m) = w4 at HM HB ⊢
  generalize w1.heap.size = g7 at HM ⊢
  clear hN hB1
  cases h0 : okP n0
  · have HI : Hid _ := txt_no h0
    clear h0 hem
    go_wp2
    go_ret
    exact ⟨by rw [HI.out]; rfl, HB.out⟩
  · have HI : Hid _ := txt_yes h0
    have hmn := hem h0
    have HT : Hid _ := ptext_any n0 w4 (okP_lok h0)
    rw [hmn] at HM ⊢
    have hl0 := okP_len h0
    clear h0 hem hmn hlm
    go_upto_region 4 with fail
    refine wp_region_lit ?_
    refine wpl_load rfl _ _ rfl _ rfl g7 (rowL .u64 n0) rfl 52 (0, 0) HM.out _ Try.underlying52 rfl (sizePnL hl0) ?_
    try simp only [Act.put, List.getElem_toArray, List.getElem_cons_succ, List.getElem_cons_zero, List.setIfInBounds_toArray, List.set_cons_succ, List.set_cons_zero]
    clear hl0
    go_wp2_with fail
    refine Calls.mono HT.out ?_
    rintro e w5 ⟨rfl, hb⟩
    go_wp2
    go_ret
    exact ⟨by rw [HI.out]; rfl, HB.out.trans (hb.mono HB.out.size)⟩
end Go.Proofs.Ytopdjfgomclffaa
