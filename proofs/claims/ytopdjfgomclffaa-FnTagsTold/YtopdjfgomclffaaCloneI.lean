/- slices.Clone over whole numbers. -/
import Derived.Test.YtopdjfgomclffaaLawI
import Derived.WalkKit
import Derived.WalkLawsBesides
import Derived.WalkSpells
import Derived.OwnWalk
import Derived.Laws.OwnMore
import Derived.Lib.Strings
namespace Go.Proofs.Ytopdjfgomclffaa
open Go.RowKit
set_option maxRecDepth 20000
set_option linter.unusedVariables false
theorem RowI.adds {w : World} {b off : Nat} {xs : List Int} (h : RowI w.heap.size w (some ⟨b, off, none⟩) xs) : ∀ j u, (xs.map (Value.int .i64))[j]? = some u → w.cell? ((⟨b, off, none⟩ : Addr).add j) = some u := by
  intro j u hu
  rcases Nat.lt_or_ge j xs.length with hj | hj
  · rw [List.getElem?_map, List.getElem?_eq_getElem hj] at hu
    have e : (⟨b, off, none⟩ : Addr).add j = ⟨b, off + j, none⟩ := by unfold Addr.add; split <;> simp_all
    have hc := (h.at (Below.refl _ _) hj).2
    rw [List.getD_eq_getElem?_getD, List.getElem?_eq_getElem hj] at hc
    rw [e, hc]
    exact hu
  · rw [List.getElem?_eq_none (by simpa using hj)] at hu; cases hu
theorem RowI.adds_later {w w' : World} {b off : Nat} {xs : List Int} (h : RowI w.heap.size w (some ⟨b, off, none⟩) xs) (hb : Below w.heap.size w w') : ∀ j u, (xs.map (Value.int .i64))[j]? = some u → w'.cell? ((⟨b, off, none⟩ : Addr).add j) = some u := (h.grown hb).adds
end Go.Proofs.Ytopdjfgomclffaa
