/- Chapter 11's readWords (the program's): a reader's own panic ends here, with nothing told. -/
import Derived.Test.YtagjdhiicpglaaaWrd11
import Derived.Defers
import Derived.Recover
namespace Go.Proofs.Ytagjdhiicpglaaa
open Go.RowKit
set_option linter.unusedVariables false
theorem set2r {w : World} {g : Nat} {t : TypeId} {c0 c1 : Value} (h : w.heap[g]? = some (.cells #[c0, c1] t (0, 0))) (v0 v1 : Value) : ((w.setCell ⟨g, 0, none⟩ v0).setCell ⟨g, 1, none⟩ v1).heap[g]? = some (.cells #[v0, v1] t (0, 0)) := by
  have a0 := heap_setCell_same w g 0 _ _ v0 h
  exact (heap_setCell_same _ g 1 _ _ v1 a0).trans rfl
theorem set4r {w : World} {g : Nat} {t : TypeId} {c0 c1 c2 c3 : Value} (h : w.heap[g]? = some (.cells #[c0, c1, c2, c3] t (0, 0))) (v0 v1 v2 v3 : Value) : ((((w.setCell ⟨g, 0, none⟩ v0).setCell ⟨g, 1, none⟩ v1).setCell ⟨g, 2, none⟩ v2).setCell ⟨g, 3, none⟩ v3).heap[g]? = some (.cells #[v0, v1, v2, v3] t (0, 0)) := by
  have a0 := heap_setCell_same w g 0 _ _ v0 h
  have a1 := heap_setCell_same _ g 1 _ _ v1 a0
  have a2 := heap_setCell_same _ g 2 _ _ v2 a1
  exact (heap_setCell_same _ g 3 _ _ v3 a2).trans rfl
end Go.Proofs.Ytagjdhiicpglaaa
