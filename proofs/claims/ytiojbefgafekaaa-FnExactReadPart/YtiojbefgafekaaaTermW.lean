/- The contracts of chapter 3's reading functions, the specification's: l03One, l03Node, l03At, NodeOk, ArenaOk. -/
import Derived.Test.YtiojbefgafekaaaProg
import Derived.Test.YtiojbefgafekaaaPlainTerm
import Derived.WalkKit
import Derived.WalkLawsBesides
import Derived.WalkSpells
import Derived.Deep.RegionHeld3
import Derived.Deep.QuietTactic
import Derived.BigQuiet
namespace Go.Proofs.Ytiojbefgafekaaa
open Go.RowKit

/-- Nodes in memory, below B: a slice's address and its nodes. -/
def RowN (B : Nat) (w : World) (a : Option Addr) (ns : List Nd) : Prop :=
  ns = [] ∨ ∃ b off, a = some ⟨b, off, none⟩ ∧ b < B ∧ ∀ i, i < ns.length →
    w.cell? ⟨b, off + i * 4, none⟩ = some (.int .i64 (ns.getD i Nd.zero).k) ∧ w.cell? ⟨b, off + i * 4 + 1, none⟩ = some (.int .i64 (ns.getD i Nd.zero).n) ∧
    w.cell? ⟨b, off + i * 4 + 2, none⟩ = some (.int .i64 (ns.getD i Nd.zero).a) ∧ w.cell? ⟨b, off + i * 4 + 3, none⟩ = some (.int .i64 (ns.getD i Nd.zero).b)

theorem specIn_any (x lo hi : Int) (w : World) :
    Calls Try.prog 27 #[.int .i64 x, .int .i64 lo, .int .i64 hi] w fun e w' => e = .returned (.bool (inB x lo hi)) ∧ w = w' := by
  unfold inB
  by_cases h1 : lo ≤ x <;> by_cases h2 : x ≤ hi
  all_goals
    go_enter Try.func27, Try.ntmps27
    go_wp2
    go_ret
    exact ⟨by simp [h1, h2], rfl⟩

theorem nodeB_kind {x : Nd} {k : Int} (h : inB x.k 1 9 = false) : nodeB x k = false := by unfold nodeB; rw [if_pos h]
theorem nodeB_atom {x : Nd} {k : Int} (h : inB x.k 1 9 = true) (h1 : x.k = 1) : nodeB x k = (inB x.n 0 999999 && (decide (x.a = 0) && decide (x.b = 0))) := by
  unfold nodeB; rw [if_neg (by simp [h]), if_pos h1]
theorem nodeB_num {x : Nd} {k : Int} (h : inB x.k 1 9 = true) (h1 : x.k ≠ 1) (h2 : x.n ≠ 0) : nodeB x k = false := by
  unfold nodeB; rw [if_neg (by simp [h]), if_neg h1, if_pos (.inl h2)]
theorem nodeB_a {x : Nd} {k : Int} (h : inB x.k 1 9 = true) (h1 : x.k ≠ 1) (h3 : inB x.a 0 (k - 1) = false) : nodeB x k = false := by
  unfold nodeB; rw [if_neg (by simp [h]), if_neg h1, if_pos (.inr h3)]
theorem nodeB_one {x : Nd} {k : Int} (h : inB x.k 1 9 = true) (h1 : x.k ≠ 1) (h2 : x.n = 0) (h3 : inB x.a 0 (k - 1) = true) (h4 : oneK x.k = true) : nodeB x k = decide (x.b = 0) := by
  unfold nodeB; rw [if_neg (by simp [h]), if_neg h1, if_neg (by simp [h2, h3]), if_pos h4]
theorem nodeB_two {x : Nd} {k : Int} (h : inB x.k 1 9 = true) (h1 : x.k ≠ 1) (h2 : x.n = 0) (h3 : inB x.a 0 (k - 1) = true) (h4 : oneK x.k = false) : nodeB x k = inB x.b 0 (k - 1) := by
  unfold nodeB; rw [if_neg (by simp [h]), if_neg h1, if_neg (by simp [h2, h3]), if_neg (by simp [h4])]

end Go.Proofs.Ytiojbefgafekaaa
