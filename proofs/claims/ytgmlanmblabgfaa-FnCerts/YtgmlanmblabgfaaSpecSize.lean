/- The contracts of chapter 3's l03Sizes and SizeOf, the specification's. -/
import Derived.Test.YtgmlanmblabgfaaHeldQ
import Derived.Test.YtgmlanmblabgfaaPlainText
import Derived.Test.YtgmlanmblabgfaaPlain
import Derived.WalkKit
import Derived.WalkLawsBesides
import Derived.WalkSpells
import Derived.OwnWalk
import Derived.Laws.OwnMore
namespace Go.Proofs.Ytgmlanmblabgfaa
open Go.RowKit
set_option linter.unusedVariables false

theorem sizes_next (ns : List Nd) (k : Nat) {s : Int} (h : szv ns k = s) : (sizesN ns (k + 1)).map (Value.int .i64) = (sizesN ns k).map (Value.int .i64) ++ [.int .i64 s] := by
  rw [sizesN, ← szv_eq, h]; simp
theorem sizes_range (ns : List Nd) (m : Nat) : ∀ j, 0 ≤ (sizesN ns m).getD j 0 ∧ (sizesN ns m).getD j 0 ≤ 100000 := fun j => by
  by_cases h : j < m
  · rw [szv_at ns m j h]; exact szv_le ns j
  · rw [List.getD_eq_getElem?_getD, List.getElem?_eq_none (by rw [sizesN_len]; omega)]; simp
theorem szOne_right {out : List Int} {i : Nat} {x : Nd} (h : nodeB x i = true) (hp : 0 < i → out.getD (i - 1) 0 ≠ 0) : szOne out i x = if 100000 < (if x.k = 1 then (1 : Int) else if oneK x.k = true then 1 + out.getD x.a.toNat 0 else 1 + out.getD x.a.toNat 0 + out.getD x.b.toNat 0) then 100000 else (if x.k = 1 then (1 : Int) else if oneK x.k = true then 1 + out.getD x.a.toNat 0 else 1 + out.getD x.a.toNat 0 + out.getD x.b.toNat 0) := by
  rw [szOne, if_neg]
  rintro (e | ⟨e1, e2⟩)
  · rw [h] at e; simp at e
  · exact hp e1 e2
end Go.Proofs.Ytgmlanmblabgfaa
