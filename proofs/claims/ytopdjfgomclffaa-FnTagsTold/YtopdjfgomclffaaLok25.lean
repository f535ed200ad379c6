/- The program's numbers of a tag (chapter 25): LimbsOk. -/
import Derived.Test.YtopdjfgomclffaaNum25
import Derived.WalkKit
import Derived.WalkLawsBesides
import Derived.WalkSpells
import Derived.BigRegion
import Derived.Laws.ShiftsVar
import Derived.Below
import Derived.OwnWalk
import Derived.PlainAid
import Derived.Great.Walk
namespace Go.Proofs.Ytopdjfgomclffaa
open Go.RowKit Go.PlainAid
set_option maxRecDepth 20000
set_option linter.unusedVariables false
set_option linter.unusedSimpArgs false
theorem sizeLimbs : (Try.prog.info? 26).map (·.size) = some 1 := by kernel_rfl
theorem sizeLimbs1 (v : Value) : (Try.prog.info? 26).map (·.size) = some (#[v] : Array Value).size := sizeLimbs
set_option maxHeartbeats 1600000 in
theorem implLimbsOk_any (a0 : Option Addr) (c0 : Nat) (n0 : List Int) (w : World) (hr : RowI w.heap.size w a0 n0) :
    Calls Try.prog 12 #[.agg #[.slice a0 n0.length c0]] w fun e w' => e = .returned (.bool (okP n0)) ∧ Below w.heap.size w w' := by
  go_enter Try.func12, Try.ntmps12
  go_upto_region 1 with fail
  have hA0 : (w.alloc (.cells #[.slice a0 n0.length c0] 26)).heap[w.heap.size]? = some (.cells #[.slice a0 n0.length c0] 26 (0, 0)) := heap_alloc_new w _
  have hB0 : Below w.heap.size w (w.alloc (.cells #[.slice a0 n0.length c0] 26)) := (Below.refl _ _).alloc (Nat.le_refl _) _
  generalize (w.alloc (.cells #[.slice a0 n0.length c0] 26)) = w0 at hA0 hB0 ⊢
  have hr0 := hr.grown hB0
  refine wp_region_lit ?_
  refine wpl_load rfl _ _ rfl _ rfl (w.heap.size) #[.slice a0 n0.length c0] rfl 26 (0, 0) hA0 _ Try.underlying26 rfl (sizeLimbs1 _) ?_
  try simp only [Act.put, List.getElem_toArray, List.getElem_cons_succ, List.getElem_cons_zero, List.setIfInBounds_toArray, List.set_cons_succ, List.set_cons_zero]
  go_wp2_with fail
  refine Calls.mono (number_any a0 c0 n0 w0 (hr0)) ?_
  rintro e w1 ⟨m, rfl, hlm, hem, hb⟩
  rename_i hq
  refine hq _ _ ?_
  clear hq
  try simp only [Act.put, List.getElem_toArray, List.getElem_cons_succ, List.getElem_cons_zero, List.setIfInBounds_toArray, List.set_cons_succ, List.set_cons_zero]
  refine Go.Great.wpList_runTo rfl _ rfl (.tuple #[.agg (rowL .u64 m), .bool (okP n0)]) w1 (by unfold execOp; go_simp) ?_
  try simp only [Act.put, List.getElem_toArray, List.getElem_cons_succ, List.getElem_cons_zero, List.setIfInBounds_toArray, List.set_cons_succ, List.set_cons_zero]
  refine Go.Great.wpList_runTo rfl _ rfl (.agg (rowL .u64 m)) w1 (by unfold execOp; go_simp) ?_
  try simp only [Act.put, List.getElem_toArray, List.getElem_cons_succ, List.getElem_cons_zero, List.setIfInBounds_toArray, List.set_cons_succ, List.set_cons_zero]
  refine Go.Great.wpList_runTo rfl _ rfl (.bool (okP n0)) w1 (by unfold execOp; go_simp) ?_
  try simp only [Act.put, List.getElem_toArray, List.getElem_cons_succ, List.getElem_cons_zero, List.setIfInBounds_toArray, List.set_cons_succ, List.set_cons_zero]
  refine Go.Great.wpList_allocTo rfl _ rfl (.pointer (some ⟨w1.heap.size, 0, none⟩)) (.cells (rowL .u64 z5) 52) (by rw [← zeroPn]; unfold execOp; go_simp) ?_
  try simp only [Act.put, List.getElem_toArray, List.getElem_cons_succ, List.getElem_cons_zero, List.setIfInBounds_toArray, List.set_cons_succ, List.set_cons_zero]
  have hN := heap_alloc_new w1 (.cells (rowL .u64 z5) 52)
  refine wpList_store_rowTo rfl _ _ _ rfl rfl (w1.heap.size) (rowL .u64 m) rfl rfl 52 (rowL .u64 z5) hN (sizePnL hlm) (by simp only [rowL_size]; exact hlm.symm) (rowL_one _ _) ?_
  try simp only [Act.put, List.getElem_toArray, List.getElem_cons_succ, List.getElem_cons_zero, List.setIfInBounds_toArray, List.set_cons_succ, List.set_cons_zero]
  have hB2 : Below w.heap.size w ((w1.alloc (.cells (rowL .u64 z5) 52)).setRow w1.heap.size (rowL .u64 m)) := below_setRow ((hB0.trans (hb.mono hB0.size)).alloc (hB0.trans (hb.mono hB0.size)).size _) (hB0.trans (hb.mono hB0.size)).size _
  generalize (w1.alloc (.cells (rowL .u64 z5) 52)).setRow w1.heap.size (rowL .u64 m) = w2 at hB2 ⊢
  clear hN hb hA0 hB0 hr0 hr hem hlm
  go_wp2
  go_ret
  exact ⟨rfl, hB2⟩
end Go.Proofs.Ytopdjfgomclffaa
