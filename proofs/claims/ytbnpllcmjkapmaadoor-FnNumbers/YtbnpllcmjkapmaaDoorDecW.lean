/- The contract of the specification's Decimal (chapter 1). -/
import Derived.Test.YtbnpllcmjkapmaaDoorProg
import Derived.Test.YtbnpllcmjkapmaaDoorPlainDec
import Derived.WalkKit
import Derived.WalkLawsBesides
import Derived.WalkSpells
import Derived.Laws.OwnMore
namespace Go.Proofs.YtbnpllcmjkapmaaDoor
open Go.RowKit Go.PlainAid

/-- One byte's text. -/
theorem conv_one (w : World) (x : Int) :
    (convert 22 9 (.slice (some ⟨w.heap.size, 0, none⟩) 1 1)).run Tryd.prog (w.alloc (.cells #[.int .u8 x] 5)) = .ok (.string (strOfNums [x])) (w.alloc (.cells #[.int .u8 x] 5)) :=
  conv_own (base := w.heap.size) (n := 1) (xs := [x]) _ 22 9 5 Tryd.underlying22 Tryd.underlying5 Tryd.underlying9
    (World.ownsRow_lit w #[.int .u8 x] 1 (Nat.le_refl _) (by decide) rfl)

end Go.Proofs.YtbnpllcmjkapmaaDoor
