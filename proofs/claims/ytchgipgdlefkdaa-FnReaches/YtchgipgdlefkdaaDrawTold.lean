/- The drawing functions of chapter 3's laws, the specification's: l03Pair, DrawTermText, DrawArenaOk. -/
import Derived.Test.YtchgipgdlefkdaaDrawAny
import Derived.Test.YtchgipgdlefkdaaCodeW
import Derived.Test.YtchgipgdlefkdaaRegionK
import Derived.WalkKit
import Derived.WalkLawsBesides
import Derived.WalkSpells
import Derived.Laws.Rows
import Derived.Laws.OwnMore
import Derived.Laws.ResultCell
import Derived.BigRegion
import Derived.Deep.RegionLaw
import Derived.OneCell
namespace Go.Proofs.Ytchgipgdlefkdaa
open Go.RowKit
set_option linter.unusedVariables false

end Go.Proofs.Ytchgipgdlefkdaa
