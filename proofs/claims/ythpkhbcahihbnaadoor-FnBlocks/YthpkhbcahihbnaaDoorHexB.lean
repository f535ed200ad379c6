/- What an append onto a row of the call's own leaves, behind a draw. -/
import Derived.Test.YthpkhbcahihbnaaDoorPlain
namespace Go.Proofs.YthpkhbcahihbnaaDoor
open Go.RowKit
theorem below_appB {B : Nat} {w wr w1 : World} {v : Value} {e size n : Nat} {xs : List Value} {o : Obj} (hown : wr.ownsRow B e size v n xs) (hbel : Below B w wr) (hB : B ≤ wr.heap.size) (hg : (wr.alloc o).drew.grownBy w1 v.ownBlock) : Below B w w1 :=
  ((hbel.alloc hB o).drew).grown hg (by simp; omega) (fun k hk => (hown.lt k hk).1)
end Go.Proofs.YthpkhbcahihbnaaDoor
