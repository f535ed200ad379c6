/- The program's numbersOf, chaOf: words as numbers, numbers as words. -/
import Derived.Test.YticpflohhfokdaaDoorLawI
import Derived.Test.YticpflohhfokdaaDoorRowC
import Derived.Test.YticpflohhfokdaaDoorRowTo
import Derived.Test.YticpflohhfokdaaDoorCha24
import Derived.WalkKit
import Derived.WalkLawsBesides
import Derived.WalkSpells
import Derived.OwnWalk
import Derived.Laws.OwnMore
namespace Go.Proofs.YticpflohhfokdaaDoor
open Go.RowKit Go.PlainAid
set_option maxRecDepth 20000
set_option linter.unusedVariables false
set_option linter.unusedSimpArgs false
/-- The words of a list of numbers, 0 behind its end. -/
def wordsOf (xs : List Int) (n : Nat) : Nat → Nat := fun i => if i < n then (xs.getD i 0 % 4294967296).toNat else 0
theorem wordsOf_upd (xs : List Int) (k : Nat) : upd (wordsOf xs k) k (xs.getD k 0 % 4294967296).toNat = wordsOf xs (k + 1) := by
  funext i
  unfold upd wordsOf
  by_cases h : i = k
  · subst h; rw [if_pos rfl, if_pos (by omega)]
  · rw [if_neg h]
    by_cases h2 : i < k
    · rw [if_pos h2, if_pos (by omega)]
    · rw [if_neg h2, if_neg (by omega)]
theorem wordsOf_lt (xs : List Int) (n : Nat) : Words (wordsOf xs n) := by
  intro i; unfold wordsOf; split <;> omega
theorem zeroCha : (#[.int .u32 0, .int .u32 0, .int .u32 0, .int .u32 0, .int .u32 0, .int .u32 0, .int .u32 0, .int .u32 0, .int .u32 0, .int .u32 0, .int .u32 0, .int .u32 0, .int .u32 0, .int .u32 0, .int .u32 0, .int .u32 0] : Array Value) = rowV .u32 16 (fun _ => 0) := rfl
end Go.Proofs.YticpflohhfokdaaDoor
