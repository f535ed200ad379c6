/- Three whole numbers and a text. -/
import Derived.Test.YtiojbefgafekaaaProg
import Derived.WalkKit
namespace Go.Proofs.Ytiojbefgafekaaa
open Go.RowKit
structure Pt where
  (n a b : Int) (t : ByteArray)
def Pt.Fits (x : Pt) : Prop := (-9223372036854775808 ≤ x.n ∧ x.n ≤ 9223372036854775807) ∧ (-9223372036854775808 ≤ x.a ∧ x.a ≤ 9223372036854775807) ∧ (-9223372036854775808 ≤ x.b ∧ x.b ≤ 9223372036854775807) ∧ x.t.size ≤ maxLen
end Go.Proofs.Ytiojbefgafekaaa
