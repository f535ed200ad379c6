/- The specification's test of a number's bounds. -/
import Derived.Test.YtopdjfgomclffaaProg
import Derived.WalkKit
import Derived.WalkLawsBesides
import Derived.WalkSpells
namespace Go.Proofs.Ytopdjfgomclffaa
open Go.RowKit
def inN (x lo hi : Int) : Bool := decide (lo ≤ x) && decide (x ≤ hi)
theorem specInN (x lo hi : Int) (w : World) :
    Calls Try.prog 42 #[.int .i64 x, .int .i64 lo, .int .i64 hi] w fun e w' => e = .returned (.bool (inN x lo hi)) ∧ w = w' := by
  unfold inN
  by_cases h1 : lo ≤ x <;> by_cases h2 : x ≤ hi
  all_goals
    go_enter Try.func42, Try.ntmps42
    go_wp2
    go_ret
    exact ⟨by simp [h1, h2], rfl⟩
theorem specInN_yes (x lo hi : Int) (w : World) (h : lo ≤ x ∧ x ≤ hi) :
    Calls Try.prog 42 #[.int .i64 x, .int .i64 lo, .int .i64 hi] w fun e w' => e = .returned (.bool true) ∧ w = w' := by
  have := specInN x lo hi w
  rw [show inN x lo hi = true by unfold inN; rw [decide_eq_true h.1, decide_eq_true h.2]; rfl] at this
  exact this
theorem specInN_no (x lo hi : Int) (w : World) (h : ¬ (lo ≤ x ∧ x ≤ hi)) :
    Calls Try.prog 42 #[.int .i64 x, .int .i64 lo, .int .i64 hi] w fun e w' => e = .returned (.bool false) ∧ w = w' := by
  have := specInN x lo hi w
  rw [show inN x lo hi = false by unfold inN; rw [← Bool.decide_and]; exact decide_eq_false h] at this
  exact this
end Go.Proofs.Ytopdjfgomclffaa
