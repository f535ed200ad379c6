/- The contracts of chapter 4's l04Is, NumOf, Open and Signed, the specification's, and of at, NumOf, Open and Signed, the program's. -/
import Derived.Test.YtedihnfhjchdbaaTermOk
import Derived.Test.YtedihnfhjchdbaaImplOk
import Derived.Test.YtedihnfhjchdbaaTermPut
import Derived.WalkKit
import Derived.WalkLawsBesides
import Derived.WalkSpells
import Derived.Laws.Rows
import Derived.Laws.ResultCell
namespace Go.Proofs.Ytedihnfhjchdbaa
open Go.RowKit
set_option linter.unusedVariables false

/-- The node at a place. -/
def ndAt (ns : List Nd) (k : Int) : Nd := ns.getD k.toNat Nd.zero
/-- Is a term a right node of a kind? -/
def isK (ns : List Nd) (k kind : Int) : Bool := okAt ns k && decide ((ndAt ns k).k = kind)
theorem okAt_in {ns : List Nd} {k : Int} (h : okAt ns k = true) : ∃ i : Nat, k = (i : Int) ∧ i < ns.length := by
  unfold okAt inB at h
  simp at h
  exact ⟨k.toNat, by omega, by omega⟩
theorem isK_ok {ns : List Nd} {k kind : Int} (h : isK ns k kind = true) : okAt ns k = true ∧ (ndAt ns k).k = kind := by
  unfold isK at h
  simpa using h
theorem isK_false {ns : List Nd} {k kind : Int} (h : okAt ns k = false) : isK ns k kind = false := by unfold isK; rw [h]; rfl
theorem ndAt_nat (ns : List Nd) (i : Nat) : ndAt ns (i : Int) = ns.getD i Nd.zero := by unfold ndAt; simp

def numV (ns : List Nd) (k : Int) : Int := if isK ns k 1 = true then (ndAt ns k).n else 0
def openB (ns : List Nd) (key k : Int) : Bool := isK ns k 5 && decide ((ndAt ns k).a = key)
def openV (ns : List Nd) (key k : Int) : Int := if openB ns key k = true then (ndAt ns k).b else -1
def signB (ns : List Nd) (pub k : Int) : Bool := isK ns pub 6 && (isK ns k 8 && decide ((ndAt ns k).a = (ndAt ns pub).a))
def signV (ns : List Nd) (pub k : Int) : Int := if signB ns pub k = true then (ndAt ns k).b else -1

/-- A node in a block, written whole. -/
theorem store4 {w : World} {g : Nat} {t : TypeId} {u0 u1 u2 u3 : Value} (h : w.heap[g]? = some (.cells #[u0, u1, u2, u3] t (0, 0))) (v0 v1 v2 v3 : Value) :
    ((((w.setCell ⟨g, 0, none⟩ v0).setCell ⟨g, 1, none⟩ v1).setCell ⟨g, 2, none⟩ v2).setCell ⟨g, 3, none⟩ v3).heap[g]? = some (.cells #[v0, v1, v2, v3] t (0, 0)) := by
  have h0 := (heap_setCell_same w g 0 _ _ v0 h).trans rfl
  have h1 := (heap_setCell_same _ g 1 _ _ v1 h0).trans rfl
  have h2 := (heap_setCell_same _ g 2 _ _ v2 h1).trans rfl
  exact (heap_setCell_same _ g 3 _ _ v3 h2).trans rfl
theorem below4 {B : Nat} {w w1 : World} {g : Nat} (h : Below B w w1) (hg : B ≤ g) (v0 v1 v2 v3 : Value) :
    Below B w ((((w1.setCell ⟨g, 0, none⟩ v0).setCell ⟨g, 1, none⟩ v1).setCell ⟨g, 2, none⟩ v2).setCell ⟨g, 3, none⟩ v3) :=
  (((h.setCell hg _).setCell hg _).setCell hg _).setCell hg _
theorem nodeSizeMk : (Try.prog.info? 70).map (·.size) = some 4 := by kernel_rfl
end Go.Proofs.Ytedihnfhjchdbaa
