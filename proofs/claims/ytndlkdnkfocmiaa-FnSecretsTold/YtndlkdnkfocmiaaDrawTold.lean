/- The drawing functions of chapter 3's laws, the specification's: l03Pair, DrawTermText, DrawArenaOk. -/
import Derived.Test.YtndlkdnkfocmiaaDrawAny
import Derived.Test.YtndlkdnkfocmiaaCodeW
import Derived.Test.YtndlkdnkfocmiaaRegionK
import Derived.WalkKit
import Derived.WalkLawsBesides
import Derived.WalkSpells
import Derived.Laws.Rows
import Derived.Laws.OwnMore
import Derived.Laws.ResultCell
import Derived.BigRegion
import Derived.Deep.RegionLaw
import Derived.OneCell
namespace Go.Proofs.Ytndlkdnkfocmiaa
open Go.RowKit
set_option linter.unusedVariables false

end Go.Proofs.Ytndlkdnkfocmiaa
