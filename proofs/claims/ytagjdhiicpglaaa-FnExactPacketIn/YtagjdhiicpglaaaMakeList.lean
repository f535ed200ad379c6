/- The contracts of chapter 4's l04List and List, the specification's; and what a List is, in plain words. -/
import Derived.Test.YtagjdhiicpglaaaImplPut2
import Derived.Test.YtagjdhiicpglaaaLawInts
import Derived.Test.YtagjdhiicpglaaaPlainText
import Derived.WalkKit
import Derived.WalkLawsBesides
import Derived.WalkSpells
import Derived.Laws.Rows
namespace Go.Proofs.Ytagjdhiicpglaaa
open Go.RowKit
set_option linter.unusedVariables false

/-- List, made from the end on. -/
def listF (xs : List Int) (ns : List Nd) : List Nd × Int := xs.foldr (fun x p => (makeA p.1 2 x p.2, makeK p.1 2 x p.2)) (putA ns ⟨1, 0, 0, 0⟩, putK ns ⟨1, 0, 0, 0⟩)
def listK (ns : List Nd) (xs : List Int) : Int := (listF xs ns).2
def listA (ns : List Nd) (xs : List Int) : List Nd := if (listF xs ns).2 < 0 then ns else (listF xs ns).1
theorem listF_nil (ns : List Nd) : listF [] ns = (putA ns ⟨1, 0, 0, 0⟩, putK ns ⟨1, 0, 0, 0⟩) := rfl
theorem listF_cons (x : Int) (xs : List Int) (ns : List Nd) : listF (x :: xs) ns = (makeA (listF xs ns).1 2 x (listF xs ns).2, makeK (listF xs ns).1 2 x (listF xs ns).2) := rfl
theorem listF_drop (xs : List Int) (ns : List Nd) {m : Nat} (h : m < xs.length) : listF (xs.drop m) ns = (makeA (listF (xs.drop (m + 1)) ns).1 2 (xs.getD m 0) (listF (xs.drop (m + 1)) ns).2, makeK (listF (xs.drop (m + 1)) ns).1 2 (xs.getD m 0) (listF (xs.drop (m + 1)) ns).2) := by
  rw [List.drop_eq_getElem_cons h, List.getD_eq_getElem?_getD, List.getElem?_eq_getElem h]
  rfl
theorem putA_le2 {ns : List Nd} {x : Nd} (h : ns.length ≤ 1048576) : (putA ns x).length ≤ 1048576 := by
  unfold putA
  split
  · rename_i h1; simp; omega
  · exact h
theorem makeA_le {ns : List Nd} {k x y : Int} (h : ns.length ≤ 1048576) : (makeA ns k x y).length ≤ 1048576 := by
  unfold makeA
  split
  · exact h
  · exact putA_le2 h
theorem listF_le (xs : List Int) {ns : List Nd} (h : ns.length ≤ 1048576) : (listF xs ns).1.length ≤ 1048576 := by
  induction xs with
  | nil => rw [listF_nil]; exact putA_le2 h
  | cons x xs ih => rw [listF_cons]; simp only; exact makeA_le ih
theorem listF_neg (xs : List Int) (ns : List Nd) : (listF xs ns).2 < 0 → (listF xs ns).2 = -1 := by
  cases xs with
  | nil => rw [listF_nil]; simp only; exact fun h => putK_neg h
  | cons x xs => rw [listF_cons]; simp only; exact fun h => makeK_neg h
/-- Where a part of it can't be, it can't. -/
theorem listF_fall (xs : List Int) (ns : List Nd) : ∀ m, (listF (xs.drop m) ns).2 < 0 → (listF xs ns).2 = -1
  | 0, h => listF_neg xs ns (by simpa using h)
  | m + 1, h => by
    by_cases hm : m < xs.length
    · refine listF_fall xs ns m ?_
      rw [listF_drop xs ns hm]
      have := (make_bad (ns := (listF (xs.drop (m + 1)) ns).1) (kind := 2) (x := xs.getD m 0) (y := (listF (xs.drop (m + 1)) ns).2) (.inr (.inr (.inr ⟨by decide, h⟩)))).1
      simp only
      omega
    · refine listF_fall xs ns m ?_
      rw [List.drop_eq_nil_of_le (by omega)]
      rw [List.drop_eq_nil_of_le (by omega)] at h
      exact h
theorem makeK2 (ns : List Nd) (x y : Int) : makeK ns 2 x y = putK ns ⟨2, 0, x, y⟩ ∧ makeA ns 2 x y = putA ns ⟨2, 0, x, y⟩ := by
  unfold makeK makeA
  rw [if_neg (by omega), if_neg (by omega)]
  exact ⟨rfl, rfl⟩
theorem listA_len {ns : List Nd} {xs : List Int} (h : ns.length ≤ 1048576) : (listA ns xs).length ≤ 1048577 := by
  unfold listA
  split
  · omega
  · have := listF_le xs h; omega

end Go.Proofs.Ytagjdhiicpglaaa
