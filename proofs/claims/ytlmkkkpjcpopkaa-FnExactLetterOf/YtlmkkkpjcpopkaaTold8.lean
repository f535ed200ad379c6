/- Chapter 6's terms that are told of others (the program's): toldHand, toldSideKey, toldDone. -/
import Derived.Test.YtlmkkkpjcpopkaaTold7
namespace Go.Proofs.Ytlmkkkpjcpopkaa
open Go.RowKit Go.Maps
set_option linter.unusedVariables false
/-- Terms that are told stay so. -/
theorem ToldIs.nx {L : Nat} {w w' : World} {t : Tl} {v : Value} (hb : Below w.heap.size w w') (h : ToldIs L w.heap.size w t v) : ToldIs L w'.heap.size w' t v := ToldIs.base hb.size t (ToldIs.later hb t h)
end Go.Proofs.Ytlmkkkpjcpopkaa
