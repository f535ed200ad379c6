/- The list of a number that a call hands back. -/
import Derived.Test.YtopdjfgomclffaaLok25
namespace Go.Proofs.Ytopdjfgomclffaa
open Go.RowKit
set_option linter.unusedSimpArgs false
theorem run_fieldL (a : Option Addr) (n c : Nat) (w : World) : (Instr.field 26 (.agg #[.slice a n c]) 0).run Try.prog w = .ok (.slice a n c) w := by
  have hs : (Try.prog.info? 24).map (·.size) = some 1 := by kernel_rfl
  unfold Instr.field
  simp [go_sem, Try.underlying26, part, Try.underlying24, asAgg]
end Go.Proofs.Ytopdjfgomclffaa
