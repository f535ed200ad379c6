/- Right and no two the same: kept by what is put. -/
import Derived.Test.YtffnadnndmmliaaPlainPlaces
import Derived.Test.YtffnadnndmmliaaPlainText
namespace Go.Proofs.Ytffnadnndmmliaa
open Go.RowKit
set_option linter.unusedVariables false
/-- Right and no two the same: kept by what is put. -/
theorem all_put {ns : List Nd} {x : Nd} (h : allFrom ns ns 0 = true) : allFrom (putA ns x) (putA ns x) 0 = true := by
  unfold putA
  split
  · rename_i hx
    rw [arena_iff] at h ⊢
    refine ⟨fun i hi => ?_, ?_⟩
    · by_cases e : i < ns.length
      · have := h.1 i e
        rw [List.getD_eq_getElem?_getD, List.getElem?_append_left e, ← List.getD_eq_getElem?_getD]; exact this
      · have hi' : i = ns.length := by simp at hi; omega
        subst hi'
        rw [List.getD_eq_getElem?_getD, List.getElem?_append_right (Nat.le_refl _), Nat.sub_self]
        exact hx.1
    · rw [dcN_snoc, h.2, if_pos hx.2.1]; simp
  · exact h
theorem put_len {ns : List Nd} {x : Nd} : (putA ns x).length ≤ ns.length + 1 ∧ ns.length ≤ (putA ns x).length := by
  unfold putA; split <;> simp
theorem put_pos {ns : List Nd} {x : Nd} (h : nodeB x ns.length = true) (hl : ns.length < 3000) : 1 ≤ (putA ns x).length := by
  unfold putA
  split
  · simp
  · rename_i hn
    rcases findN_range ns x with e | e
    · exact absurd ⟨h, e, hl⟩ hn
    · omega
theorem atomB {z : Int} (h0 : 0 ≤ z) (h1 : z ≤ 999999) (k : Int) : nodeB ⟨1, z, 0, 0⟩ k = true := by
  unfold nodeB; simp [inB]; omega
theorem right_fits {x : Nd} {k : Int} (h : nodeB x k = true) (hk : k ≤ 1000000) : x.Fits := by
  unfold Nd.Fits
  rcases nodeB_true h with h | h | h <;> omega
theorem all_fits {ns : List Nd} (h : allFrom ns ns 0 = true) (hl : ns.length ≤ 3000) : ∀ y ∈ ns, y.Fits := by
  intro y hy
  obtain ⟨i, hi, rfl⟩ := List.getElem_of_mem hy
  have := ((arena_iff ns).1 h).1 i hi
  rw [List.getD_eq_getElem?_getD, List.getElem?_eq_getElem hi] at this
  exact right_fits this (by omega)
end Go.Proofs.Ytffnadnndmmliaa
