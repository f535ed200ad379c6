/- What a List is, in plain words: it only adds; its place; where its making falls, it ends. -/
import Derived.Test.YtffnadnndmmliaaMakeList
import Derived.Test.YtffnadnndmmliaaRdAt
import Derived.Test.YtffnadnndmmliaaPlainRT2
namespace Go.Proofs.Ytffnadnndmmliaa
open Go.RowKit Go.Maps
set_option linter.unusedVariables false
/-- List only adds. -/
theorem makeA_pre (ns : List Nd) (k x y : Int) : ns <+: makeA ns k x y := by
  unfold makeA
  split
  · exact List.prefix_refl _
  · exact putA_pre _ _
theorem listF_pre (xs : List Int) (ns : List Nd) : ns <+: (listF xs ns).1 := by
  induction xs with
  | nil => rw [listF_nil]; exact putA_pre _ _
  | cons x xs ih => rw [listF_cons]; simp only; exact ih.trans (makeA_pre _ _ _ _)
theorem listF_bd (xs : List Int) (ns : List Nd) (h : ns.length ≤ 1048576) : -1 ≤ (listF xs ns).2 ∧ (listF xs ns).2 ≤ 1048576 := by
  cases xs with
  | nil =>
    rw [listF_nil]; simp only
    have := putK_bd ns ⟨1, 0, 0, 0⟩; omega
  | cons x xs =>
    rw [listF_cons]; simp only
    rw [(makeK2 _ _ _).1]
    have := putK_bd (listF xs ns).1 ⟨2, 0, x, (listF xs ns).2⟩
    have := listF_le xs h
    omega
theorem take_preL {ns ms : List Nd} (h : ns <+: ms) : ms.take ns.length = ns := by
  obtain ⟨t, rfl⟩ := h
  simp
theorem implList_fits {x k : Int} (h1 : -9223372036854775808 ≤ x ∧ x ≤ 9223372036854775807) (h2 : -1 ≤ k ∧ k ≤ 1048576) : (Nd.mk 2 0 x k).Fits := by
  unfold Nd.Fits; simp only; omega
/-- Where the loop fell, it ends. -/
theorem listF_end (xs : List Int) (ns : List Nd) : ∀ m, (listF (xs.drop m) ns).2 < 0 → listF xs ns = ((listF (xs.drop m) ns).1, -1)
  | 0, h => by
    rw [List.drop_zero] at h ⊢
    exact Prod.ext rfl (listF_neg xs ns h)
  | m + 1, h => by
    by_cases hm : m < xs.length
    · have hd := listF_drop xs ns hm
      have hb := make_bad (ns := (listF (xs.drop (m + 1)) ns).1) (kind := 2) (x := xs.getD m 0) (y := (listF (xs.drop (m + 1)) ns).2) (.inr (.inr (.inr ⟨by decide, h⟩)))
      have := listF_end xs ns m (by rw [hd]; simp only; omega)
      rw [this, hd]; simp only; rw [hb.2]
    · have e1 : xs.drop m = [] := List.drop_eq_nil_of_le (by omega)
      have e2 : xs.drop (m + 1) = [] := List.drop_eq_nil_of_le (by omega)
      have := listF_end xs ns m (by rw [e1]; rw [e2] at h; exact h)
      rw [this, e1, e2]
/-- The same where there is room for as many as mx tells. -/
def listFm (mx : Nat) : List Int → List Nd → List Nd × Int
  | [], ns => (putAm mx ns ⟨1, 0, 0, 0⟩, putKm mx ns ⟨1, 0, 0, 0⟩)
  | x :: xs, ns => (putAm mx (listFm mx xs ns).1 ⟨2, 0, x, (listFm mx xs ns).2⟩, putKm mx (listFm mx xs ns).1 ⟨2, 0, x, (listFm mx xs ns).2⟩)
theorem listFm_nil (mx : Nat) (ns : List Nd) : listFm mx [] ns = (putAm mx ns ⟨1, 0, 0, 0⟩, putKm mx ns ⟨1, 0, 0, 0⟩) := rfl
theorem listFm_cons (mx : Nat) (x : Int) (xs : List Int) (ns : List Nd) : listFm mx (x :: xs) ns = (putAm mx (listFm mx xs ns).1 ⟨2, 0, x, (listFm mx xs ns).2⟩, putKm mx (listFm mx xs ns).1 ⟨2, 0, x, (listFm mx xs ns).2⟩) := rfl
theorem listFm_is (ns : List Nd) : ∀ xs : List Int, listFm 3000 xs ns = listF xs ns
  | [] => rfl
  | x :: xs => by rw [listFm_cons, listF_cons, listFm_is ns xs, (makeK2 _ _ _).1, (makeK2 _ _ _).2]; rfl
theorem putAm_pre (mx : Nat) (ns : List Nd) (x : Nd) : ns <+: putAm mx ns x := by
  unfold putAm; split
  · exact List.prefix_append _ _
  · exact List.prefix_refl _
theorem putKm_neg {mx : Nat} {ns : List Nd} {x : Nd} (h : putKm mx ns x < 0) : putKm mx ns x = -1 := by
  have := putKm_bd mx ns x; omega
theorem listFm_le {mx : Nat} (hm : mx ≤ 1048576) (xs : List Int) {ns : List Nd} (h : ns.length ≤ 1048576) : (listFm mx xs ns).1.length ≤ 1048576 := by
  induction xs with
  | nil => exact putAm_le hm h
  | cons x xs ih => exact putAm_le hm ih
theorem listFm_pre (mx : Nat) (xs : List Int) (ns : List Nd) : ns <+: (listFm mx xs ns).1 := by
  induction xs with
  | nil => exact putAm_pre _ _ _
  | cons x xs ih => exact ih.trans (putAm_pre _ _ _)
theorem listFm_neg {mx : Nat} (xs : List Int) (ns : List Nd) : (listFm mx xs ns).2 < 0 → (listFm mx xs ns).2 = -1 := by
  cases xs with
  | nil => rw [listFm_nil]; simp only; exact fun h => putKm_neg h
  | cons x xs => rw [listFm_cons]; simp only; exact fun h => putKm_neg h
theorem listFm_bd {mx : Nat} (hm : mx ≤ 1048576) (xs : List Int) (ns : List Nd) (h : ns.length ≤ 1048576) : -1 ≤ (listFm mx xs ns).2 ∧ (listFm mx xs ns).2 ≤ 1048576 := by
  cases xs with
  | nil => rw [listFm_nil]; simp only; have := putKm_bd mx ns ⟨1, 0, 0, 0⟩; omega
  | cons x xs =>
    rw [listFm_cons]; simp only
    have := putKm_bd mx (listFm mx xs ns).1 ⟨2, 0, x, (listFm mx xs ns).2⟩
    have := listFm_le hm xs h
    omega
theorem listFm_drop (mx : Nat) (xs : List Int) (ns : List Nd) {m : Nat} (h : m < xs.length) : listFm mx (xs.drop m) ns = (putAm mx (listFm mx (xs.drop (m + 1)) ns).1 ⟨2, 0, xs.getD m 0, (listFm mx (xs.drop (m + 1)) ns).2⟩, putKm mx (listFm mx (xs.drop (m + 1)) ns).1 ⟨2, 0, xs.getD m 0, (listFm mx (xs.drop (m + 1)) ns).2⟩) := by
  rw [List.drop_eq_getElem_cons h, listFm_cons, List.getD_eq_getElem?_getD, List.getElem?_eq_getElem h]
  rfl
theorem putm_bad {mx : Nat} {ns : List Nd} {x y : Int} (h : y < 0) : putAm mx ns ⟨2, 0, x, y⟩ = ns ∧ putKm mx ns ⟨2, 0, x, y⟩ = -1 := by
  have hb : nodeB ⟨2, 0, x, y⟩ (ns.length : Int) = false := by
    have := (make_bad (ns := ns) (kind := 2) (x := x) (y := y) (.inr (.inr (.inr ⟨by decide, h⟩)))).1
    rw [(makeK2 _ _ _).1] at this
    unfold putK at this
    cases hn : nodeB ⟨2, 0, x, y⟩ (ns.length : Int) with
    | false => rfl
    | true =>
      exfalso
      unfold nodeB at hn
      simp [inB, oneK] at hn
      omega
  constructor
  · unfold putAm; rw [if_neg (by rw [hb]; simp)]
  · unfold putKm; rw [if_neg (by rw [hb]; simp)]
theorem listFm_end (mx : Nat) (xs : List Int) (ns : List Nd) : ∀ m, (listFm mx (xs.drop m) ns).2 < 0 → listFm mx xs ns = ((listFm mx (xs.drop m) ns).1, -1)
  | 0, h => by
    rw [List.drop_zero] at h ⊢
    exact Prod.ext rfl (listFm_neg xs ns h)
  | m + 1, h => by
    by_cases hm : m < xs.length
    · have hd := listFm_drop mx xs ns hm
      have hb := putm_bad (mx := mx) (ns := (listFm mx (xs.drop (m + 1)) ns).1) (x := xs.getD m 0) (y := (listFm mx (xs.drop (m + 1)) ns).2) h
      have := listFm_end mx xs ns m (by rw [hd]; simp only; omega)
      rw [this, hd]; simp only; rw [hb.1]
    · have e1 : xs.drop m = [] := List.drop_eq_nil_of_le (by omega)
      have e2 : xs.drop (m + 1) = [] := List.drop_eq_nil_of_le (by omega)
      have := listFm_end mx xs ns m (by rw [e1]; rw [e2] at h; exact h)
      rw [this, e1, e2]
end Go.Proofs.Ytffnadnndmmliaa
