/- What a List is, in plain words: it only adds; its place; where its making falls, it ends. -/
import Derived.Test.YtpfncjnhmkjceabMakeList
import Derived.Test.YtpfncjnhmkjceabRdAt
import Derived.Test.YtpfncjnhmkjceabPlainRT2
namespace Go.Proofs.Ytpfncjnhmkjceab
open Go.RowKit Go.Maps
set_option linter.unusedVariables false
/-- List only adds. -/
theorem makeA_pre (ns : List Nd) (k x y : Int) : ns <+: makeA ns k x y := by
  unfold makeA
  split
  · exact List.prefix_refl _
  · exact putA_pre _ _
theorem listF_pre (xs : List Int) (ns : List Nd) : ns <+: (listF xs ns).1 := by
  induction xs with
  | nil => rw [listF_nil]; exact putA_pre _ _
  | cons x xs ih => rw [listF_cons]; simp only; exact ih.trans (makeA_pre _ _ _ _)
theorem listF_bd (xs : List Int) (ns : List Nd) (h : ns.length ≤ 1048576) : -1 ≤ (listF xs ns).2 ∧ (listF xs ns).2 ≤ 1048576 := by
  cases xs with
  | nil =>
    rw [listF_nil]; simp only
    have := putK_bd ns ⟨1, 0, 0, 0⟩; omega
  | cons x xs =>
    rw [listF_cons]; simp only
    rw [(makeK2 _ _ _).1]
    have := putK_bd (listF xs ns).1 ⟨2, 0, x, (listF xs ns).2⟩
    have := listF_le xs h
    omega
theorem take_preL {ns ms : List Nd} (h : ns <+: ms) : ms.take ns.length = ns := by
  obtain ⟨t, rfl⟩ := h
  simp
theorem implList_fits {x k : Int} (h1 : -9223372036854775808 ≤ x ∧ x ≤ 9223372036854775807) (h2 : -1 ≤ k ∧ k ≤ 1048576) : (Nd.mk 2 0 x k).Fits := by
  unfold Nd.Fits; simp only; omega
/-- Where the loop fell, it ends. -/
theorem listF_end (xs : List Int) (ns : List Nd) : ∀ m, (listF (xs.drop m) ns).2 < 0 → listF xs ns = ((listF (xs.drop m) ns).1, -1)
  | 0, h => by
    rw [List.drop_zero] at h ⊢
    exact Prod.ext rfl (listF_neg xs ns h)
  | m + 1, h => by
    by_cases hm : m < xs.length
    · have hd := listF_drop xs ns hm
      have hb := make_bad (ns := (listF (xs.drop (m + 1)) ns).1) (kind := 2) (x := xs.getD m 0) (y := (listF (xs.drop (m + 1)) ns).2) (.inr (.inr (.inr ⟨by decide, h⟩)))
      have := listF_end xs ns m (by rw [hd]; simp only; omega)
      rw [this, hd]; simp only; rw [hb.2]
    · have e1 : xs.drop m = [] := List.drop_eq_nil_of_le (by omega)
      have e2 : xs.drop (m + 1) = [] := List.drop_eq_nil_of_le (by omega)
      have := listF_end xs ns m (by rw [e1]; rw [e2] at h; exact h)
      rw [this, e1, e2]
end Go.Proofs.Ytpfncjnhmkjceab
