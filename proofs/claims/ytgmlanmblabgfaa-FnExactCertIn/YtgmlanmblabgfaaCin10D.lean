/- Chapter 10 in plain words: what CertIn tells. -/
import Derived.Test.YtgmlanmblabgfaaCert10
import Derived.Test.YtgmlanmblabgfaaHead8
namespace Go.Proofs.Ytgmlanmblabgfaa
open Go.RowKit
set_option linter.unusedVariables false
/-- Is a term the Atom of a number? -/
def numIs (ns : List Nd) (x n : Int) : Bool := isK ns x 1 && decide (numV ns x = n)
/-- CertIn. -/
def crtB (ns : List Nd) (k : Int) : Bool := isK ns k 8 && (numIs ns (ndAt ns k).a 1000 && (partsB ns (ndAt ns k).b 3 && (numIs ns (p3 ns (ndAt ns k).b 0) 60 && (isK ns (p3 ns (ndAt ns k).b 2) 6 && (isK ns (p3 ns (ndAt ns k).b 1) 1 && inB (numV ns (p3 ns (ndAt ns k).b 1)) 0 9)))))
def crtN (ns : List Nd) (k : Int) : Int := if crtB ns k = true then numV ns (p3 ns (ndAt ns k).b 1) else 0
def crtP (ns : List Nd) (k : Int) : Int := if crtB ns k = true then p3 ns (ndAt ns k).b 2 else -1
end Go.Proofs.Ytgmlanmblabgfaa
