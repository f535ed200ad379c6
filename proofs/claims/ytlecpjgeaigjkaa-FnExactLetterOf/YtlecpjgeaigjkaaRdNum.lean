/- The program's reader of terms (chapter 3): nextNumber. -/
import Derived.Test.YtlecpjgeaigjkaaPlainRT2
import Derived.Test.YtlecpjgeaigjkaaTermPut2
import Derived.Test.YtlecpjgeaigjkaaLawArena2
import Derived.Test.YtlecpjgeaigjkaaHeldQ
import Derived.WalkKit
import Derived.WalkLawsBesides
import Derived.WalkSpells
import Derived.Laws.Rows
import Derived.BigRegion
namespace Go.Proofs.Ytlecpjgeaigjkaa
open Go.RowKit
set_option linter.unusedVariables false
theorem gb_setR {w w2 : World} {g : Nat} (h : Below w.heap.size w w2) (j : Nat) (u : Value) : w.grownBy (w2.setCell ⟨g, j, none⟩ u) (some g) :=
  ⟨h.os, h.tape, h.output, by simpa using h.size, fun k hk hne => (Below.heap_setCell _ _ _ _ (by simpa using hne)).trans (h.block k hk)⟩
end Go.Proofs.Ytlecpjgeaigjkaa
