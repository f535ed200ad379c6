/- Chapter 11's reader of words (the program's): the server's words and the client's, read. -/
import Derived.Test.YtagjdhiicpglaaaWrd11b
namespace Go.Proofs.Ytagjdhiicpglaaa
open Go.RowKit
set_option linter.unusedVariables false
end Go.Proofs.Ytagjdhiicpglaaa
