/- The contracts of chapter 4's l04Is, NumOf, Open and Signed, the specification's, and of at, NumOf, Open and Signed, the program's. -/
import Derived.Test.YtedihnfhjchdbaaTermOk
import Derived.Test.YtedihnfhjchdbaaImplOk
import Derived.Test.YtedihnfhjchdbaaTermPut
import Derived.WalkKit
import Derived.WalkLawsBesides
import Derived.WalkSpells
import Derived.Laws.Rows
import Derived.Laws.ResultCell
import Derived.Test.YtedihnfhjchdbaaLawInts
import Derived.Test.YtedihnfhjchdbaaPlainText
import Derived.OwnWalk
import Derived.Laws.OwnMore
namespace Go.Proofs.Ytedihnfhjchdbaa
open Go.RowKit
set_option linter.unusedVariables false

/-- The node at a place. -/
def ndAt (ns : List Nd) (k : Int) : Nd := ns.getD k.toNat Nd.zero
/-- Is a term a right node of a kind? -/
def isK (ns : List Nd) (k kind : Int) : Bool := okAt ns k && decide ((ndAt ns k).k = kind)
theorem okAt_in {ns : List Nd} {k : Int} (h : okAt ns k = true) : ∃ i : Nat, k = (i : Int) ∧ i < ns.length := by
  unfold okAt inB at h
  simp at h
  exact ⟨k.toNat, by omega, by omega⟩
theorem isK_ok {ns : List Nd} {k kind : Int} (h : isK ns k kind = true) : okAt ns k = true ∧ (ndAt ns k).k = kind := by
  unfold isK at h
  simpa using h
theorem isK_false {ns : List Nd} {k kind : Int} (h : okAt ns k = false) : isK ns k kind = false := by unfold isK; rw [h]; rfl
theorem ndAt_nat (ns : List Nd) (i : Nat) : ndAt ns (i : Int) = ns.getD i Nd.zero := by unfold ndAt; simp

def numV (ns : List Nd) (k : Int) : Int := if isK ns k 1 = true then (ndAt ns k).n else 0
def openB (ns : List Nd) (key k : Int) : Bool := isK ns k 5 && decide ((ndAt ns k).a = key)
def openV (ns : List Nd) (key k : Int) : Int := if openB ns key k = true then (ndAt ns k).b else -1
def signB (ns : List Nd) (pub k : Int) : Bool := isK ns pub 6 && (isK ns k 8 && decide ((ndAt ns k).a = (ndAt ns pub).a))
def signV (ns : List Nd) (pub k : Int) : Int := if signB ns pub k = true then (ndAt ns k).b else -1

/-- A node in a block, written whole. -/
theorem store4 {w : World} {g : Nat} {t : TypeId} {u0 u1 u2 u3 : Value} (h : w.heap[g]? = some (.cells #[u0, u1, u2, u3] t (0, 0))) (v0 v1 v2 v3 : Value) :
    ((((w.setCell ⟨g, 0, none⟩ v0).setCell ⟨g, 1, none⟩ v1).setCell ⟨g, 2, none⟩ v2).setCell ⟨g, 3, none⟩ v3).heap[g]? = some (.cells #[v0, v1, v2, v3] t (0, 0)) := by
  have h0 := (heap_setCell_same w g 0 _ _ v0 h).trans rfl
  have h1 := (heap_setCell_same _ g 1 _ _ v1 h0).trans rfl
  have h2 := (heap_setCell_same _ g 2 _ _ v2 h1).trans rfl
  exact (heap_setCell_same _ g 3 _ _ v3 h2).trans rfl
theorem below4 {B : Nat} {w w1 : World} {g : Nat} (h : Below B w w1) (hg : B ≤ g) (v0 v1 v2 v3 : Value) :
    Below B w ((((w1.setCell ⟨g, 0, none⟩ v0).setCell ⟨g, 1, none⟩ v1).setCell ⟨g, 2, none⟩ v2).setCell ⟨g, 3, none⟩ v3) :=
  (((h.setCell hg _).setCell hg _).setCell hg _).setCell hg _
theorem nodeSizeMk : (Try.prog.info? 70).map (·.size) = some 4 := by kernel_rfl
end Go.Proofs.Ytedihnfhjchdbaa

namespace Go.Proofs.Ytedihnfhjchdbaa
open Go.RowKit
set_option linter.unusedVariables false

/-- The terms of a list of so many. -/
def partsN (ns : List Nd) : Nat → Int → Option (List Int)
  | 0, k => if isK ns k 1 = true ∧ (ndAt ns k).n = 0 then some [] else none
  | m + 1, k => if isK ns k 2 = true then (partsN ns m (ndAt ns k).b).map ((ndAt ns k).a :: ·) else none
def partsR (ns : List Nd) (k n : Int) : Option (List Int) := if n < 0 then none else partsN ns n.toNat k
def partsV (ns : List Nd) (k n : Int) : List Int := (partsR ns k n).getD []
def partsB (ns : List Nd) (k n : Int) : Bool := (partsR ns k n).isSome
theorem isK_kids {ns : List Nd} {k : Int} (h : isK ns k 2 = true) : 0 ≤ k ∧ k < (ns.length : Int) ∧ 0 ≤ (ndAt ns k).b ∧ (ndAt ns k).b < k := by
  obtain ⟨h1, h2⟩ := isK_ok h
  have h3 : okAt ns k = true := h1
  unfold okAt at h1
  rw [Bool.and_eq_true] at h1
  have h4 := inB_true h1.1
  have h5 : nodeB (ndAt ns k) k = true := h1.2
  rcases nodeB_true h5 with h | h | h
  · omega
  · have := h.2.2.2.2.2.1; rw [h2] at this; exact absurd this (by decide)
  · omega
theorem partsN_next {ns : List Nd} {m : Nat} {k : Int} (h : isK ns k 2 = true) : partsN ns (m + 1) k = (partsN ns m (ndAt ns k).b).map ((ndAt ns k).a :: ·) := by rw [partsN, if_pos h]
theorem parts_none {ns : List Nd} {k n : Int} (h : partsR ns k n = none) : partsV ns k n = [] ∧ partsB ns k n = false := by unfold partsV partsB; rw [h]; exact ⟨rfl, rfl⟩
theorem parts_some {ns : List Nd} {k n : Int} {xs : List Int} (h : partsR ns k n = some xs) : partsV ns k n = xs ∧ partsB ns k n = true := by unfold partsV partsB; rw [h]; exact ⟨rfl, rfl⟩
theorem partsN_len (ns : List Nd) : ∀ (m : Nat) (k : Int) (xs : List Int), partsN ns m k = some xs → xs.length = m ∧ ((m : Int) ≤ k ∨ m = 0)
  | 0, k, xs, h => by
    rw [partsN] at h
    split at h
    · simp at h; subst h; exact ⟨rfl, .inr rfl⟩
    · simp at h
  | m + 1, k, xs, h => by
    rw [partsN] at h
    split at h
    · rename_i h1
      have hk := isK_kids h1
      cases hp : partsN ns m (ndAt ns k).b with
      | none => rw [hp] at h; simp at h
      | some ys =>
        rw [hp] at h
        simp at h
        subst h
        have := partsN_len ns m _ ys hp
        exact ⟨by simp [this.1], by omega⟩
    · simp at h
theorem partsV_len (ns : List Nd) (k n : Int) : (partsV ns k n).length ≤ ns.length := by
  cases h : partsR ns k n with
  | none => rw [(parts_none h).1]; exact Nat.zero_le _
  | some xs =>
    rw [(parts_some h).1]
    unfold partsR at h
    split at h
    · simp at h
    · cases hm : n.toNat with
      | zero => rw [hm] at h; have := partsN_len ns 0 k xs h; omega
      | succ m =>
        rw [hm] at h
        have h2 := partsN_len ns (m + 1) k xs h
        rw [partsN] at h
        split at h
        · rename_i h3; have := isK_kids h3; omega
        · simp at h

end Go.Proofs.Ytedihnfhjchdbaa
