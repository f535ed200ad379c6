/- eqPart of a part and itself. -/
import Derived.Test.YtiojbefgafekaaaPtP
import Derived.WalkKit
import Derived.WalkLawsBesides
import Derived.WalkSpells
import Derived.Laws.Rows
namespace Go.Proofs.Ytiojbefgafekaaa
open Go.RowKit
set_option maxRecDepth 20000
set_option maxHeartbeats 1600000 in
theorem eqPart_same (x : Pt) (w : World) : Calls Try.prog 16 #[.agg #[.int .i64 x.n, .int .i64 x.a, .int .i64 x.b, .string x.t], .agg #[.int .i64 x.n, .int .i64 x.a, .int .i64 x.b, .string x.t]] w fun e w' => e = .returned (.bool true) ∧ Below w.heap.size w w' := by
  obtain ⟨n, a, b, t⟩ := x
  have hB : Below w.heap.size w ((w.alloc (.cells #[.int .i64 n, .int .i64 a, .int .i64 b, .string t] 26)).alloc (.cells #[.int .i64 n, .int .i64 a, .int .i64 b, .string t] 26)) := ((Below.refl _ _).alloc (Nat.le_refl _) _).alloc (by simp) _
  go_enter Try.func16, Try.ntmps16
  go_wp2
  go_ret
  exact ⟨rfl, hB⟩
end Go.Proofs.Ytiojbefgafekaaa
