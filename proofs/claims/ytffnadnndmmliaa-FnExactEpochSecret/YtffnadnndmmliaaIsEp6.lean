/- Whether a number is an epoch (the program's). -/
import Derived.Test.YtffnadnndmmliaaTermW
import Derived.WalkKit
namespace Go.Proofs.Ytffnadnndmmliaa
open Go.RowKit
set_option linter.unusedVariables false
theorem isEpoch_any (x : Int) (w : World) : Calls Try.prog 109 #[.int .i64 x] w fun e w' => e = .returned (.bool (inB x 0 8)) ∧ Below w.heap.size w w' := by
  have hin : inB x 0 8 = (decide (0 ≤ x) && decide (x ≤ 8)) := by unfold inB; first | rfl | (rw [Bool.eq_iff_iff]; simp)
  rw [hin]
  clear hin
  go_enter Try.func109, Try.ntmps109
  cases h1 : decide (0 ≤ x) with
  | true =>
    go_wp2
    go_ret
    exact ⟨by first | rfl | simp, Below.refl _ _⟩
  | false =>
    go_wp2
    go_ret
    exact ⟨by first | rfl | simp, Below.refl _ _⟩
end Go.Proofs.Ytffnadnndmmliaa
