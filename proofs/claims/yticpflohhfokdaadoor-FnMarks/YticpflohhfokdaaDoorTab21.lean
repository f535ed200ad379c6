/- The table of the first words (chapter 21) in memory, from what the row lists; ShaStart of both sides. -/
import Derived.Test.YticpflohhfokdaaDoorRows
import Derived.Test.YticpflohhfokdaaDoorNum24
import Derived.Lib.LaidTab
import Derived.LaidSub
import Derived.Deep.DeepHandedRow
import Derived.WalkKit
import Derived.WalkLawsBesides
import Derived.WalkSpells
import Derived.OwnWalk
import Derived.Laws.OwnMore
import Derived.Great.Walk
namespace Go.Proofs.YticpflohhfokdaaDoor
open Go.RowKit Go.PlainAid
set_option maxRecDepth 20000
set_option linter.unusedVariables false
set_option linter.unusedSimpArgs false
def firstL : List Nat := [1779033703, 3144134277, 1013904242, 2773480762, 1359893119, 2600822924, 528734635, 1541459225]
def firstF : Nat → Nat := fun i => firstL.getD i 0
theorem firstW : Words firstF := by
  intro i
  unfold firstF firstL
  rcases (show i = 0 ∨ i = 1 ∨ i = 2 ∨ i = 3 ∨ i = 4 ∨ i = 5 ∨ i = 6 ∨ i = 7 ∨ 8 ≤ i by omega) with rfl | rfl | rfl | rfl | rfl | rfl | rfl | rfl | h
  · decide
  · decide
  · decide
  · decide
  · decide
  · decide
  · decide
  · decide
  · rw [List.getD_eq_getElem?_getD, List.getElem?_eq_none (by simpa using h)]; decide
theorem firstV : (#[.int .u32 1779033703, .int .u32 3144134277, .int .u32 1013904242, .int .u32 2773480762, .int .u32 1359893119, .int .u32 2600822924, .int .u32 528734635, .int .u32 1541459225] : Array Value) = rowV .u32 8 firstF := rfl
theorem zeroSha : (#[.int .u32 0, .int .u32 0, .int .u32 0, .int .u32 0, .int .u32 0, .int .u32 0, .int .u32 0, .int .u32 0] : Array Value) = rowV .u32 8 (fun _ => 0) := rfl
theorem sizeFirst : (Tryd.prog.info? 54).map (·.size) = some 8 := by kernel_rfl
theorem sizeFirstV (f : Nat → Nat) : (Tryd.prog.info? 54).map (·.size) = some (rowV .u32 8 f).size := by rw [rowV_size]; exact sizeFirst
theorem sizeSha : (Tryd.prog.info? 59).map (·.size) = some 8 := by kernel_rfl
theorem sizeShaV (f : Nat → Nat) : (Tryd.prog.info? 59).map (·.size) = some (rowV .u32 8 f).size := by rw [rowV_size]; exact sizeSha
def FirstHere (W : World) : Prop := ∃ t fr, W.heap[0]? = some (.cells (rowV .u32 8 firstF) t fr)
theorem FirstHere.next {B : Nat} {w w' : World} (h : FirstHere w) (hb : Below B w w') (hB : 0 < B) : FirstHere w' := by
  obtain ⟨t, fr, h⟩ := h
  exact ⟨t, fr, (hb.block _ hB).trans h⟩
theorem FirstHere.lt {w : World} (h : FirstHere w) : 0 < w.heap.size := by
  obtain ⟨t, fr, h⟩ := h
  exact (Array.getElem?_eq_some_iff.1 h).1
theorem gFirst : Tryd.prog.globalNamed "loop.example/g00466/impl.startWords" = some 0 := by kernel_rfl
theorem gFirstType : (Tryd.prog.globals[0]?).map (·.type) = some 54 := by kernel_rfl
theorem cellsFirst : Tryd.prog.cellsOf 54 = 8 := by kernel_rfl
theorem cellsWord : Tryd.prog.cellsOf 53 = 1 := by kernel_rfl
def firstTab : List Int := [1779033703, 3144134277, 1013904242, 2773480762, 1359893119, 2600822924, 528734635, 1541459225]
theorem firstEq {H : Type} : (Rows.laid_loop_example_g00466_impl_startWords : DataW H) = Lib.tabData .u32 firstTab := by kernel_rfl
theorem firstHere_of {W : World} {l : List (String × DataW Unit)} (h : laidMetH Tryd.prog l W)
    (hf : (l.filter (fun x => x.1 == "loop.example/g00466/impl.startWords")) = [("loop.example/g00466/impl.startWords", Rows.laid_loop_example_g00466_impl_startWords)]) : FirstHere W := by
  have h1 : laidMetH Tryd.prog (l.filter (fun x => x.1 == "loop.example/g00466/impl.startWords")) W := h.filter _
  rw [hf, firstEq] at h1
  have h2 : Lib.TabIs Tryd.prog W "loop.example/g00466/impl.startWords" .u32 firstTab := Lib.tabIs_of_head (rest := []) gFirst gFirstType Tryd.underlying54 Tryd.underlying53 cellsWord cellsFirst h1
  unfold Lib.TabIs World.var? at h2
  rw [gFirst, Option.bind_some] at h2
  split at h2
  · rename_i cs t fr hh
    rw [Option.some.injEq] at h2
    subst h2
    exact ⟨t, fr, hh⟩
  · cases h2
/-- What ShaStart answers. -/
def firstI : List Int := bytesV 8 firstF
theorem firstI_len : firstI.length = 8 := bytesV_len _ _
set_option maxHeartbeats 1600000 in
theorem first_any (w : World) : Calls Tryd.prog 33 #[] w fun e w' => e = .returned (.agg (rowV .u32 8 firstF)) ∧ Below w.heap.size w w' := by
  go_enter Tryd.func33, Tryd.ntmps33
  go_upto_region 1 with fail
  have hA1 := heap_alloc_new w (.cells (rowV .u32 8 (fun _ => 0)) 54)
  have hB1 : Below w.heap.size w (w.alloc (.cells (rowV .u32 8 (fun _ => 0)) 54)) := (Below.refl _ _).alloc (Nat.le_refl _) _
  rw [← zeroSha] at hA1 hB1
  generalize w.alloc (.cells #[.int .u32 0, .int .u32 0, .int .u32 0, .int .u32 0, .int .u32 0, .int .u32 0, .int .u32 0, .int .u32 0] 54) = w9 at hA1 hB1 ⊢
  rw [zeroSha] at hA1
  refine wp_region_lit ?_
  refine Go.Great.wpList_runTo rfl _ rfl (.agg (rowV .u32 8 firstF)) w9 (by rw [← firstV]; unfold execOp; go_simp) ?_
  try simp only [Act.put, List.getElem_toArray, List.getElem_cons_succ, List.getElem_cons_zero, List.setIfInBounds_toArray, List.set_cons_succ, List.set_cons_zero]
  refine wpList_store_rowTo rfl _ _ _ rfl rfl w.heap.size (rowV .u32 8 firstF) rfl rfl 54 (rowV .u32 8 (fun _ => 0)) hA1 (sizeFirstV _) (by rw [rowV_size, rowV_size]) (rowV_one _ _ _) ?_
  have HR1 : (w9.setRow w.heap.size (rowV .u32 8 firstF)).heap[w.heap.size]? = some (.cells (rowV .u32 8 firstF) 54 (0, 0)) := setRow_heap _ _ _ _ _ _ hA1
  have HB2 : Below w.heap.size w (w9.setRow w.heap.size (rowV .u32 8 firstF)) := below_setRow hB1 (Nat.le_refl _) _
  generalize w9.setRow w.heap.size (rowV .u32 8 firstF) = wz at HR1 HB2 ⊢
  clear hA1 hB1
  go_wp2
  refine bodyPost_ret (results_cell_row rfl _ _ w.heap.size 54 (rowV .u32 8 firstF) (0, 0) _ rfl ?_ Tryd.underlying54 rfl (sizeFirstV _)) rfl ?_
  · exact HR1
  · exact ⟨rfl, HB2⟩
end Go.Proofs.YticpflohhfokdaaDoor
