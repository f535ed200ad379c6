/- Cells of bytes and their text. -/
import Derived.Test.YthpkhbcahihbnaaDoorArrB
namespace Go.Proofs.YthpkhbcahihbnaaDoor
open Go.RowKit Go.PlainAid
theorem cells_str (xs : List Int) (hr : ∀ x ∈ xs, 0 ≤ x ∧ x ≤ 255) : xs.map (Value.int .u8) = Lib.byteCells (strOfNums xs).data.toList := (strCells_nums hr).symm
theorem str_back (t : ByteArray) : (⟨t.data.toList.toArray⟩ : ByteArray) = t := by cases t; simp
end Go.Proofs.YthpkhbcahihbnaaDoor
