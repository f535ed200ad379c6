/- The table of chapter 2 in memory, from what the row lists. -/
import Derived.Test.YtnfjeejchfohgaaDoorRows
import Derived.Test.YtnfjeejchfohgaaDoorSumW
import Derived.Lib.LaidTab
import Derived.LaidSub
import Derived.Deep.DeepHandedRow
namespace Go.Proofs.YtnfjeejchfohgaaDoor
open Go.RowKit

def fourTab : List Int := [0, 1166650509, 2333301018, 3466261911, 3189058079, 4221339282, 889615109, 1888477064, 3558460437, 2442158232, 1594529039, 444807554, 1779230218, 797264519, 3776954128, 2761298845]
theorem gFour : Tryd.prog.globalNamed "loop.example/g00466/impl.fourSteps" = some 0 := by kernel_rfl
theorem gFourType : (Tryd.prog.globals[0]?).map (·.type) = some 46 := by kernel_rfl
theorem cellsFour : Tryd.prog.cellsOf 46 = 16 := by kernel_rfl
theorem cellsU32 : Tryd.prog.cellsOf 29 = 1 := by kernel_rfl
theorem fourEq {H : Type} : (Rows.laid_loop_example_g00466_impl_fourSteps : DataW H) = Lib.tabData .u32 fourTab := by kernel_rfl
theorem fourTab_at : ∀ r, r < 16 → fourTab.getD r 0 = ((tab r : Nat) : Int) := by
  intro r h
  rcases (show r = 0 ∨ r = 1 ∨ r = 2 ∨ r = 3 ∨ r = 4 ∨ r = 5 ∨ r = 6 ∨ r = 7 ∨ r = 8 ∨ r = 9 ∨ r = 10 ∨ r = 11 ∨ r = 12 ∨ r = 13 ∨ r = 14 ∨ r = 15 by omega) with rfl | rfl | rfl | rfl | rfl | rfl | rfl | rfl | rfl | rfl | rfl | rfl | rfl | rfl | rfl | rfl <;> rfl
theorem tabHere_of {W : World} {l : List (String × DataW Unit)} (h : laidMetH Tryd.prog l W)
    (hf : (l.filter (fun x => x.1 == "loop.example/g00466/impl.fourSteps")) = [("loop.example/g00466/impl.fourSteps", Rows.laid_loop_example_g00466_impl_fourSteps)]) : TabHere W := by
  have h1 : laidMetH Tryd.prog (l.filter (fun x => x.1 == "loop.example/g00466/impl.fourSteps")) W := h.filter _
  rw [hf, fourEq] at h1
  have h2 : Lib.TabIs Tryd.prog W "loop.example/g00466/impl.fourSteps" .u32 fourTab := Lib.tabIs_of_head (rest := []) gFour gFourType Tryd.underlying46 Tryd.underlying29 cellsU32 cellsFour h1
  intro r hr
  rw [h2.cell gFour r hr, fourTab_at r hr]
theorem TabHere.lt {W : World} (h : TabHere W) : 0 < W.heap.size := by
  have := World.block_lt_of_cell? W _ (h 0 (by decide))
  exact this
end Go.Proofs.YtnfjeejchfohgaaDoor
