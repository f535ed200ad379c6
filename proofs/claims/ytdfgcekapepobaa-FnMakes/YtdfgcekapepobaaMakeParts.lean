/- The contracts of chapter 4's Parts, the specification's and the program's. -/
import Derived.Test.YtdfgcekapepobaaMakeIs
import Derived.Test.YtdfgcekapepobaaLawInts
import Derived.Test.YtdfgcekapepobaaPlainText
import Derived.WalkKit
import Derived.WalkLawsBesides
import Derived.WalkSpells
import Derived.OwnWalk
import Derived.Laws.OwnMore
import Derived.Laws.Rows
namespace Go.Proofs.Ytdfgcekapepobaa
open Go.RowKit
set_option linter.unusedVariables false

/-- The terms of a list of so many. -/
def partsN (ns : List Nd) : Nat → Int → Option (List Int)
  | 0, k => if isK ns k 1 = true ∧ (ndAt ns k).n = 0 then some [] else none
  | m + 1, k => if isK ns k 2 = true then (partsN ns m (ndAt ns k).b).map ((ndAt ns k).a :: ·) else none
def partsR (ns : List Nd) (k n : Int) : Option (List Int) := if n < 0 then none else partsN ns n.toNat k
def partsV (ns : List Nd) (k n : Int) : List Int := (partsR ns k n).getD []
def partsB (ns : List Nd) (k n : Int) : Bool := (partsR ns k n).isSome
theorem isK_kids {ns : List Nd} {k : Int} (h : isK ns k 2 = true) : 0 ≤ k ∧ k < (ns.length : Int) ∧ 0 ≤ (ndAt ns k).b ∧ (ndAt ns k).b < k := by
  obtain ⟨h1, h2⟩ := isK_ok h
  have h3 : okAt ns k = true := h1
  unfold okAt at h1
  rw [Bool.and_eq_true] at h1
  have h4 := inB_true h1.1
  have h5 : nodeB (ndAt ns k) k = true := h1.2
  rcases nodeB_true h5 with h | h | h
  · omega
  · have := h.2.2.2.2.2.1; rw [h2] at this; exact absurd this (by decide)
  · omega
theorem partsN_next {ns : List Nd} {m : Nat} {k : Int} (h : isK ns k 2 = true) : partsN ns (m + 1) k = (partsN ns m (ndAt ns k).b).map ((ndAt ns k).a :: ·) := by rw [partsN, if_pos h]
theorem parts_none {ns : List Nd} {k n : Int} (h : partsR ns k n = none) : partsV ns k n = [] ∧ partsB ns k n = false := by unfold partsV partsB; rw [h]; exact ⟨rfl, rfl⟩
theorem parts_some {ns : List Nd} {k n : Int} {xs : List Int} (h : partsR ns k n = some xs) : partsV ns k n = xs ∧ partsB ns k n = true := by unfold partsV partsB; rw [h]; exact ⟨rfl, rfl⟩
theorem partsN_len (ns : List Nd) : ∀ (m : Nat) (k : Int) (xs : List Int), partsN ns m k = some xs → xs.length = m ∧ ((m : Int) ≤ k ∨ m = 0)
  | 0, k, xs, h => by
    rw [partsN] at h
    split at h
    · simp at h; subst h; exact ⟨rfl, .inr rfl⟩
    · simp at h
  | m + 1, k, xs, h => by
    rw [partsN] at h
    split at h
    · rename_i h1
      have hk := isK_kids h1
      cases hp : partsN ns m (ndAt ns k).b with
      | none => rw [hp] at h; simp at h
      | some ys =>
        rw [hp] at h
        simp at h
        subst h
        have := partsN_len ns m _ ys hp
        exact ⟨by simp [this.1], by omega⟩
    · simp at h
theorem partsV_len (ns : List Nd) (k n : Int) : (partsV ns k n).length ≤ ns.length := by
  cases h : partsR ns k n with
  | none => rw [(parts_none h).1]; exact Nat.zero_le _
  | some xs =>
    rw [(parts_some h).1]
    unfold partsR at h
    split at h
    · simp at h
    · cases hm : n.toNat with
      | zero => rw [hm] at h; have := partsN_len ns 0 k xs h; omega
      | succ m =>
        rw [hm] at h
        have h2 := partsN_len ns (m + 1) k xs h
        rw [partsN] at h
        split at h
        · rename_i h3; have := isK_kids h3; omega
        · simp at h

end Go.Proofs.Ytdfgcekapepobaa
