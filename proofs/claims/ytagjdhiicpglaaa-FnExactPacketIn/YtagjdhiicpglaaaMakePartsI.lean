/- The contract of chapter 4's Parts, the program's. -/
import Derived.Test.YtagjdhiicpglaaaMakeParts
import Derived.WalkKit
import Derived.WalkLawsBesides
import Derived.WalkSpells
import Derived.OwnWalk
import Derived.Laws.OwnMore
import Derived.Laws.Rows
namespace Go.Proofs.Ytagjdhiicpglaaa
open Go.RowKit
set_option linter.unusedVariables false
/-- A slice's length. -/
def lenOf : Value → Nat
  | .slice _ m _ => m
  | _ => 0
set_option maxHeartbeats 1600000 in
theorem isAtom_any (a : Option Addr) (cap : Nat) (ns : List Nd) (x n : Int) (w : World) (hl : ns.length ≤ 1048576) (hr : RowN w.heap.size w a ns) :
    Calls Try.prog 32 #[.agg #[.slice a ns.length cap], .int .i64 x, .int .i64 n] w fun e w' => e = .returned (.bool (isK ns x 1 && decide (numV ns x = n))) ∧ Below w.heap.size w w' := by
  have hb0 : Below w.heap.size w (w.alloc (.cells #[.slice a ns.length cap] 32)) := (Below.refl _ _).alloc (Nat.le_refl _) _
  have H : Hid _ := implNum_any a cap ns x _ hl (hr.grown hb0)
  have HB0 : Hid (Below w.heap.size w (w.alloc (.cells #[.slice a ns.length cap] 32))) := hb0
  generalize numV ns x = m at H ⊢
  have hs0 : (w.alloc (.cells #[.slice a ns.length cap] 32)).heap.size = w.heap.size + 1 := by simp
  cases hk : isK ns x 1 with
  | false =>
    rw [hk] at H
    clear hr hb0
    go_enter Try.func32, Try.ntmps32
    go_wp2_with fail
    refine Calls.mono H.out ?_
    rintro e w1 ⟨rfl, hb1⟩
    have HB : Hid (Below w.heap.size w w1) := HB0.out.trans (hb1.mono (by omega))
    clear hb1 H
    go_wp2
    go_ret
    exact ⟨rfl, HB.out⟩
  | true =>
    rw [hk] at H
    clear hr hb0
    go_enter Try.func32, Try.ntmps32
    go_wp2_with fail
    refine Calls.mono H.out ?_
    rintro e w1 ⟨rfl, hb1⟩
    have HB : Hid (Below w.heap.size w w1) := HB0.out.trans (hb1.mono (by omega))
    clear hb1 H
    go_wp2
    go_ret
    exact ⟨by rw [show decide (m = n) = (m == n) from Bool.eq_iff_iff.2 (by simp)]; rfl, HB.out⟩
end Go.Proofs.Ytagjdhiicpglaaa
