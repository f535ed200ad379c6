/- The contract of the specification's Decimal (chapter 1). -/
import Derived.Test.YtiojbefgafekaaaProg
import Derived.Test.YtiojbefgafekaaaPlainDec
import Derived.WalkKit
import Derived.WalkLawsBesides
import Derived.WalkSpells
import Derived.Laws.OwnMore
namespace Go.Proofs.Ytiojbefgafekaaa
open Go.RowKit Go.PlainAid

/-- One byte's text. -/
theorem conv_one (w : World) (x : Int) :
    (convert 51 9 (.slice (some ⟨w.heap.size, 0, none⟩) 1 1)).run Try.prog (w.alloc (.cells #[.int .u8 x] 5)) = .ok (.string (strOfNums [x])) (w.alloc (.cells #[.int .u8 x] 5)) :=
  conv_own (base := w.heap.size) (n := 1) (xs := [x]) _ 51 9 5 Try.underlying51 Try.underlying5 Try.underlying9
    (World.ownsRow_lit w #[.int .u8 x] 1 (Nat.le_refl _) (by decide) rfl)

end Go.Proofs.Ytiojbefgafekaaa
