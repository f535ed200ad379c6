/- The contracts of chapter 3's reading functions, the specification's: l03One, l03Node, l03At, NodeOk, ArenaOk. -/
import Derived.Test.YtffnadnndmmliaaProg
import Derived.Test.YtffnadnndmmliaaPlainTerm
import Derived.WalkKit
import Derived.WalkLawsBesides
import Derived.WalkSpells
import Derived.Deep.RegionHeld3
import Derived.Deep.QuietTactic
import Derived.BigQuiet
namespace Go.Proofs.Ytffnadnndmmliaa
open Go.RowKit

/-- Nodes in memory, below B: a slice's address and its nodes. -/
def RowN (B : Nat) (w : World) (a : Option Addr) (ns : List Nd) : Prop :=
  ns = [] ∨ ∃ b off, a = some ⟨b, off, none⟩ ∧ b < B ∧ ∀ i, i < ns.length →
    w.cell? ⟨b, off + i * 4, none⟩ = some (.int .i64 (ns.getD i Nd.zero).k) ∧ w.cell? ⟨b, off + i * 4 + 1, none⟩ = some (.int .i64 (ns.getD i Nd.zero).n) ∧
    w.cell? ⟨b, off + i * 4 + 2, none⟩ = some (.int .i64 (ns.getD i Nd.zero).a) ∧ w.cell? ⟨b, off + i * 4 + 3, none⟩ = some (.int .i64 (ns.getD i Nd.zero).b)

theorem specIn_any (x lo hi : Int) (w : World) :
    Calls Try.prog 99 #[.int .i64 x, .int .i64 lo, .int .i64 hi] w fun e w' => e = .returned (.bool (inB x lo hi)) ∧ w = w' := by
  unfold inB
  by_cases h1 : lo ≤ x <;> by_cases h2 : x ≤ hi
  all_goals
    go_enter Try.func99, Try.ntmps99
    go_wp2
    go_ret
    exact ⟨by simp [h1, h2], rfl⟩

theorem specOne_any (k : Int) (w : World) :
    Calls Try.prog 102 #[.int .i64 k] w fun e w' => e = .returned (.bool (oneK k)) ∧ w = w' := by
  unfold oneK
  by_cases h1 : k = 3 <;> by_cases h2 : k = 6
  all_goals
    go_enter Try.func102, Try.ntmps102
    go_wp2
    go_ret
    exact ⟨by simp [h1, h2], rfl⟩

theorem nodeB_kind {x : Nd} {k : Int} (h : inB x.k 1 9 = false) : nodeB x k = false := by unfold nodeB; rw [if_pos h]
theorem nodeB_atom {x : Nd} {k : Int} (h : inB x.k 1 9 = true) (h1 : x.k = 1) : nodeB x k = (inB x.n 0 999999 && (decide (x.a = 0) && decide (x.b = 0))) := by
  unfold nodeB; rw [if_neg (by simp [h]), if_pos h1]
theorem nodeB_num {x : Nd} {k : Int} (h : inB x.k 1 9 = true) (h1 : x.k ≠ 1) (h2 : x.n ≠ 0) : nodeB x k = false := by
  unfold nodeB; rw [if_neg (by simp [h]), if_neg h1, if_pos (.inl h2)]
theorem nodeB_a {x : Nd} {k : Int} (h : inB x.k 1 9 = true) (h1 : x.k ≠ 1) (h3 : inB x.a 0 (k - 1) = false) : nodeB x k = false := by
  unfold nodeB; rw [if_neg (by simp [h]), if_neg h1, if_pos (.inr h3)]
theorem nodeB_one {x : Nd} {k : Int} (h : inB x.k 1 9 = true) (h1 : x.k ≠ 1) (h2 : x.n = 0) (h3 : inB x.a 0 (k - 1) = true) (h4 : oneK x.k = true) : nodeB x k = decide (x.b = 0) := by
  unfold nodeB; rw [if_neg (by simp [h]), if_neg h1, if_neg (by simp [h2, h3]), if_pos h4]
theorem nodeB_two {x : Nd} {k : Int} (h : inB x.k 1 9 = true) (h1 : x.k ≠ 1) (h2 : x.n = 0) (h3 : inB x.a 0 (k - 1) = true) (h4 : oneK x.k = false) : nodeB x k = inB x.b 0 (k - 1) := by
  unfold nodeB; rw [if_neg (by simp [h]), if_neg h1, if_neg (by simp [h2, h3]), if_neg (by simp [h4])]

set_option maxHeartbeats 800000 in
theorem specNode_any (x : Nd) (k : Int) (w : World) (hk0 : 0 ≤ k) (hk1 : k ≤ 9000000000000000000) :
    Calls Try.prog 105 #[.agg #[.int .i64 x.k, .int .i64 x.n, .int .i64 x.a, .int .i64 x.b], .int .i64 k] w fun e w' => e = .returned (.bool (nodeB x k)) ∧ Below w.heap.size w w' := by
  cases hA : inB x.k 1 9 with
  | false =>
    have HV : Hid (nodeB x k = false) := nodeB_kind hA
    go_enter Try.func105, Try.ntmps105
    go_wp2_with fail
    repeat (first | (go_at_call 99; refine (specIn_any _ _ _ _).mono ?_; rintro e w' ⟨rfl, rfl⟩; go_wp2_with fail) | (go_at_call 102; refine (specOne_any _ _).mono ?_; rintro e w' ⟨rfl, rfl⟩; go_wp2_with fail))
    go_ret
    exact ⟨by rw [HV.out]; rfl, (Below.refl _ _).alloc (Nat.le_refl _) _⟩
  | true =>
    by_cases hB : x.k = 1
    · have HV : Hid _ := nodeB_atom (k := k) hA hB
      cases hC : inB x.n 0 999999
      all_goals
        by_cases hD : x.a = 0 <;> by_cases hE : x.b = 0
        all_goals
          go_enter Try.func105, Try.ntmps105
          go_wp2_with fail
          repeat (first | (go_at_call 99; refine (specIn_any _ _ _ _).mono ?_; rintro e w' ⟨rfl, rfl⟩; go_wp2_with fail) | (go_at_call 102; refine (specOne_any _ _).mono ?_; rintro e w' ⟨rfl, rfl⟩; go_wp2_with fail))
          go_ret
          exact ⟨by rw [HV.out]; simp [hC, hD, hE], (Below.refl _ _).alloc (Nat.le_refl _) _⟩
    · have hB' : (x.k == 1) = false := by simp [hB]
      by_cases hC : x.n = 0
      · cases hD : inB x.a 0 (k - 1) with
        | false =>
          have HV : Hid (nodeB x k = false) := nodeB_a hA hB hD
          go_enter Try.func105, Try.ntmps105
          go_wp2_with fail
          repeat (first | (go_at_call 99; refine (specIn_any _ _ _ _).mono ?_; rintro e w' ⟨rfl, rfl⟩; go_wp2_with fail) | (go_at_call 102; refine (specOne_any _ _).mono ?_; rintro e w' ⟨rfl, rfl⟩; go_wp2_with fail))
          go_ret
          exact ⟨by rw [HV.out]; rfl, (Below.refl _ _).alloc (Nat.le_refl _) _⟩
        | true =>
          cases hE : oneK x.k with
          | true =>
            have HV : Hid _ := nodeB_one hA hB hC hD hE
            by_cases hF : x.b = 0
            all_goals
              go_enter Try.func105, Try.ntmps105
              go_wp2_with fail
              repeat (first | (go_at_call 99; refine (specIn_any _ _ _ _).mono ?_; rintro e w' ⟨rfl, rfl⟩; go_wp2_with fail) | (go_at_call 102; refine (specOne_any _ _).mono ?_; rintro e w' ⟨rfl, rfl⟩; go_wp2_with fail))
              go_ret
              exact ⟨by rw [HV.out]; simp [hF], (Below.refl _ _).alloc (Nat.le_refl _) _⟩
          | false =>
            have HV : Hid _ := nodeB_two hA hB hC hD hE
            go_enter Try.func105, Try.ntmps105
            go_wp2_with fail
            repeat (first | (go_at_call 99; refine (specIn_any _ _ _ _).mono ?_; rintro e w' ⟨rfl, rfl⟩; go_wp2_with fail) | (go_at_call 102; refine (specOne_any _ _).mono ?_; rintro e w' ⟨rfl, rfl⟩; go_wp2_with fail))
            go_ret
            exact ⟨by rw [HV.out]; rfl, (Below.refl _ _).alloc (Nat.le_refl _) _⟩
      · have hC' : (x.n != 0) = true := by simp [hC]
        have HV : Hid (nodeB x k = false) := nodeB_num hA hB hC
        go_enter Try.func105, Try.ntmps105
        go_wp2_with fail
        repeat (first | (go_at_call 99; refine (specIn_any _ _ _ _).mono ?_; rintro e w' ⟨rfl, rfl⟩; go_wp2_with fail) | (go_at_call 102; refine (specOne_any _ _).mono ?_; rintro e w' ⟨rfl, rfl⟩; go_wp2_with fail))
        go_ret
        exact ⟨by rw [HV.out]; rfl, (Below.refl _ _).alloc (Nat.le_refl _) _⟩
end Go.Proofs.Ytffnadnndmmliaa

namespace Go.Proofs.Ytffnadnndmmliaa
open Go.RowKit
set_option linter.unusedVariables false
theorem isEpoch_any (x : Int) (w : World) : Calls Try.prog 109 #[.int .i64 x] w fun e w' => e = .returned (.bool (inB x 0 8)) ∧ Below w.heap.size w w' := by
  have hin : inB x 0 8 = (decide (0 ≤ x) && decide (x ≤ 8)) := by unfold inB; first | rfl | (rw [Bool.eq_iff_iff]; simp)
  rw [hin]
  clear hin
  go_enter Try.func109, Try.ntmps109
  cases h1 : decide (0 ≤ x) with
  | true =>
    go_wp2
    go_ret
    exact ⟨by first | rfl | simp, Below.refl _ _⟩
  | false =>
    go_wp2
    go_ret
    exact ⟨by first | rfl | simp, Below.refl _ _⟩
end Go.Proofs.Ytffnadnndmmliaa
