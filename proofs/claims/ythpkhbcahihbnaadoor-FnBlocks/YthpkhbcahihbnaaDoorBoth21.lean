/- Both tables of chapter 21, and the program's Digest from them. -/
import Derived.Test.YthpkhbcahihbnaaDoorDigs21
namespace Go.Proofs.YthpkhbcahihbnaaDoor
open Go.RowKit Go.PlainAid
/-- Both tables of chapter 21. -/
def BothHere (W : World) : Prop := FirstHere W ∧ KeysHere W
theorem BothHere.next {w w' : World} (h : BothHere w) (hb : Below w.heap.size w w') : BothHere w' := ⟨h.1.next hb h.1.lt, h.2.next hb h.2.lt⟩
theorem implDig_any (t : ByteArray) (w : World) (ht : t.size ≤ 100000000) (h : BothHere w) :
    Calls Tryd.prog 10 #[.string t] w fun e w' => e = .returned (.string (digT t)) ∧ Below w.heap.size w w' := implDigest_any t w ht h.1 h.2
end Go.Proofs.YthpkhbcahihbnaaDoor
