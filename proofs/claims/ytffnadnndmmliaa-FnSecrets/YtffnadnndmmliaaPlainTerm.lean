/- Plain mathematics of terms (chapter 3), over no dump: nodes, what is right, the place of one, what is put, sizes. -/
import Derived.WalkKit
import Derived.WalkLawsBesides
import Derived.Test.YtffnadnndmmliaaProg
import Derived.WalkSpells
import Derived.Deep.RegionHeld3
import Derived.Deep.QuietTactic
import Derived.BigQuiet
namespace Go.Proofs.Ytffnadnndmmliaa
open Go.RowKit

/-- A node. -/
structure Nd where
  k : Int
  n : Int
  a : Int
  b : Int
  deriving DecidableEq, Inhabited

/-- Within an int's bounds. -/
def Nd.Fits (x : Nd) : Prop := (-9223372036854775808 ≤ x.k ∧ x.k ≤ 9223372036854775807) ∧ (-9223372036854775808 ≤ x.n ∧ x.n ≤ 9223372036854775807) ∧ (-9223372036854775808 ≤ x.a ∧ x.a ≤ 9223372036854775807) ∧ (-9223372036854775808 ≤ x.b ∧ x.b ≤ 9223372036854775807)
def Nd.cells (x : Nd) : List Value := [.int .i64 x.k, .int .i64 x.n, .int .i64 x.a, .int .i64 x.b]
def Nd.val (x : Nd) : Value := .agg #[.int .i64 x.k, .int .i64 x.n, .int .i64 x.a, .int .i64 x.b]
def Nd.zero : Nd := ⟨0, 0, 0, 0⟩
def cellsN (ns : List Nd) : List Value := ns.flatMap Nd.cells
theorem cellsN_len : ∀ ns : List Nd, (cellsN ns).length = ns.length * 4
  | [] => rfl
  | x :: ns => by
    have := cellsN_len ns
    simp only [cellsN, List.flatMap_cons, List.length_append, List.length_cons, Nd.cells, List.length_nil] at this ⊢
    omega
theorem cellsN_append (a b : List Nd) : cellsN (a ++ b) = cellsN a ++ cellsN b := by simp [cellsN]
theorem cellsN_at : ∀ (ns : List Nd) (i j : Nat) (x : Nd), ns[i]? = some x → j < 4 → (cellsN ns)[i * 4 + j]? = x.cells[j]?
  | [], i, j, x, h, _ => by simp at h
  | y :: ns, 0, j, x, h, hj => by
    simp at h; subst h
    simp only [cellsN, List.flatMap_cons, Nat.zero_mul, Nat.zero_add]
    rw [List.getElem?_append_left (by simpa [Nd.cells] using hj)]
  | y :: ns, i + 1, j, x, h, hj => by
    have := cellsN_at ns i j x (by simpa using h) hj
    simp only [cellsN, List.flatMap_cons]
    rw [List.getElem?_append_right (by simp [Nd.cells]; omega)]
    have e : (i + 1) * 4 + j - y.cells.length = i * 4 + j := by simp [Nd.cells]; omega
    rw [e]; exact this

/-- Kinds with one term. -/
def oneK (k : Int) : Bool := decide (k = 3) || decide (k = 6)
def inB (x lo hi : Int) : Bool := decide (lo ≤ x) && decide (x ≤ hi)
/-- Is a node right at a place? -/
def nodeB (x : Nd) (k : Int) : Bool :=
  if inB x.k 1 9 = false then false
  else if x.k = 1 then inB x.n 0 999999 && (decide (x.a = 0) && decide (x.b = 0))
  else if x.n ≠ 0 ∨ inB x.a 0 (k - 1) = false then false
  else if oneK x.k = true then decide (x.b = 0)
  else inB x.b 0 (k - 1)
/-- NodeOk. -/
def okAt (ns : List Nd) (k : Int) : Bool := inB k 0 ((ns.length : Int) - 1) && nodeB (ns.getD k.toNat Nd.zero) k
/-- The place of the first node that is this one; -1 without it. -/
def findFrom (x : Nd) : List Nd → Nat → Int
  | [], _ => -1
  | y :: l, i => if y = x then (i : Int) else findFrom x l (i + 1)
def findN (ns : List Nd) (x : Nd) : Int := findFrom x ns 0
theorem find_drop (ns : List Nd) (x : Nd) (i : Nat) (h : i < ns.length) : findFrom x (ns.drop i) i = if ns.getD i Nd.zero = x then (i : Int) else findFrom x (ns.drop (i + 1)) (i + 1) := by
  rw [List.drop_eq_getElem_cons h, findFrom]
  rw [List.getD_eq_getElem?_getD, List.getElem?_eq_getElem h]; rfl
theorem find_end (ns : List Nd) (x : Nd) : findFrom x (ns.drop ns.length) ns.length = -1 := by rw [List.drop_length]; rfl
theorem findFrom_range (x : Nd) : ∀ (l : List Nd) (i : Nat), findFrom x l i = -1 ∨ ((i : Int) ≤ findFrom x l i ∧ findFrom x l i < ((i + l.length : Nat) : Int))
  | [], i => .inl rfl
  | y :: l, i => by
    rw [findFrom]
    split
    · right; simp; omega
    · rcases findFrom_range x l (i + 1) with h | h
      · exact .inl h
      · right; simp at h ⊢; omega
theorem findN_range (ns : List Nd) (x : Nd) : findN ns x = -1 ∨ (0 ≤ findN ns x ∧ findN ns x < (ns.length : Int)) := by
  have := findFrom_range x ns 0
  unfold findN
  simpa using this
/-- ArenaOk. -/
def allFrom (ns : List Nd) : List Nd → Nat → Bool
  | [], _ => true
  | x :: l, i => nodeB x i && (decide (findN ns x = i) && allFrom ns l (i + 1))
def arenaB (ns : List Nd) : Bool := decide (ns.length ≤ 3000) && allFrom ns ns 0
/-- Put. -/
def putA (ns : List Nd) (x : Nd) : List Nd := if nodeB x ns.length = true ∧ findN ns x = -1 ∧ ns.length < 3000 then ns ++ [x] else ns
def putK (ns : List Nd) (x : Nd) : Int := if nodeB x ns.length = true then (if findN ns x = -1 ∧ ns.length < 3000 then (ns.length : Int) else findN ns x) else -1
/-- The sizes of the first m nodes. -/
def szOne (out : List Int) (i : Nat) (x : Nd) : Int :=
  if nodeB x i = false ∨ (0 < i ∧ out.getD (i - 1) 0 = 0) then 0
  else
    let s := if x.k = 1 then 1 else if oneK x.k = true then 1 + out.getD x.a.toNat 0 else 1 + out.getD x.a.toNat 0 + out.getD x.b.toNat 0
    if 100000 < s then 100000 else s
def sizesN (ns : List Nd) : Nat → List Int
  | 0 => []
  | m + 1 => sizesN ns m ++ [szOne (sizesN ns m) m (ns.getD m Nd.zero)]
theorem sizesN_len (ns : List Nd) : ∀ m, (sizesN ns m).length = m
  | 0 => rfl
  | m + 1 => by simp [sizesN, sizesN_len ns m]
/-- SizeOf. -/
def sizeN (ns : List Nd) (k : Int) : Int := if inB k 0 ((ns.length : Int) - 1) = true then (sizesN ns (k.toNat + 1)).getD k.toNat 0 else 0
end Go.Proofs.Ytffnadnndmmliaa

namespace Go.Proofs.Ytffnadnndmmliaa
open Go.RowKit

/-- Nodes in memory, below B: a slice's address and its nodes. -/
def RowN (B : Nat) (w : World) (a : Option Addr) (ns : List Nd) : Prop :=
  ns = [] ∨ ∃ b off, a = some ⟨b, off, none⟩ ∧ b < B ∧ ∀ i, i < ns.length →
    w.cell? ⟨b, off + i * 4, none⟩ = some (.int .i64 (ns.getD i Nd.zero).k) ∧ w.cell? ⟨b, off + i * 4 + 1, none⟩ = some (.int .i64 (ns.getD i Nd.zero).n) ∧
    w.cell? ⟨b, off + i * 4 + 2, none⟩ = some (.int .i64 (ns.getD i Nd.zero).a) ∧ w.cell? ⟨b, off + i * 4 + 3, none⟩ = some (.int .i64 (ns.getD i Nd.zero).b)

theorem specIn_any (x lo hi : Int) (w : World) :
    Calls Try.prog 99 #[.int .i64 x, .int .i64 lo, .int .i64 hi] w fun e w' => e = .returned (.bool (inB x lo hi)) ∧ w = w' := by
  unfold inB
  by_cases h1 : lo ≤ x <;> by_cases h2 : x ≤ hi
  all_goals
    go_enter Try.func99, Try.ntmps99
    go_wp2
    go_ret
    exact ⟨by simp [h1, h2], rfl⟩

theorem specOne_any (k : Int) (w : World) :
    Calls Try.prog 102 #[.int .i64 k] w fun e w' => e = .returned (.bool (oneK k)) ∧ w = w' := by
  unfold oneK
  by_cases h1 : k = 3 <;> by_cases h2 : k = 6
  all_goals
    go_enter Try.func102, Try.ntmps102
    go_wp2
    go_ret
    exact ⟨by simp [h1, h2], rfl⟩

theorem nodeB_kind {x : Nd} {k : Int} (h : inB x.k 1 9 = false) : nodeB x k = false := by unfold nodeB; rw [if_pos h]
theorem nodeB_atom {x : Nd} {k : Int} (h : inB x.k 1 9 = true) (h1 : x.k = 1) : nodeB x k = (inB x.n 0 999999 && (decide (x.a = 0) && decide (x.b = 0))) := by
  unfold nodeB; rw [if_neg (by simp [h]), if_pos h1]
theorem nodeB_num {x : Nd} {k : Int} (h : inB x.k 1 9 = true) (h1 : x.k ≠ 1) (h2 : x.n ≠ 0) : nodeB x k = false := by
  unfold nodeB; rw [if_neg (by simp [h]), if_neg h1, if_pos (.inl h2)]
theorem nodeB_a {x : Nd} {k : Int} (h : inB x.k 1 9 = true) (h1 : x.k ≠ 1) (h3 : inB x.a 0 (k - 1) = false) : nodeB x k = false := by
  unfold nodeB; rw [if_neg (by simp [h]), if_neg h1, if_pos (.inr h3)]
theorem nodeB_one {x : Nd} {k : Int} (h : inB x.k 1 9 = true) (h1 : x.k ≠ 1) (h2 : x.n = 0) (h3 : inB x.a 0 (k - 1) = true) (h4 : oneK x.k = true) : nodeB x k = decide (x.b = 0) := by
  unfold nodeB; rw [if_neg (by simp [h]), if_neg h1, if_neg (by simp [h2, h3]), if_pos h4]
theorem nodeB_two {x : Nd} {k : Int} (h : inB x.k 1 9 = true) (h1 : x.k ≠ 1) (h2 : x.n = 0) (h3 : inB x.a 0 (k - 1) = true) (h4 : oneK x.k = false) : nodeB x k = inB x.b 0 (k - 1) := by
  unfold nodeB; rw [if_neg (by simp [h]), if_neg h1, if_neg (by simp [h2, h3]), if_neg (by simp [h4])]

set_option maxHeartbeats 800000 in
theorem specNode_any (x : Nd) (k : Int) (w : World) (hk0 : 0 ≤ k) (hk1 : k ≤ 9000000000000000000) :
    Calls Try.prog 105 #[.agg #[.int .i64 x.k, .int .i64 x.n, .int .i64 x.a, .int .i64 x.b], .int .i64 k] w fun e w' => e = .returned (.bool (nodeB x k)) ∧ Below w.heap.size w w' := by
  cases hA : inB x.k 1 9 with
  | false =>
    have HV : Hid (nodeB x k = false) := nodeB_kind hA
    go_enter Try.func105, Try.ntmps105
    go_wp2_with fail
    repeat (first | (go_at_call 99; refine (specIn_any _ _ _ _).mono ?_; rintro e w' ⟨rfl, rfl⟩; go_wp2_with fail) | (go_at_call 102; refine (specOne_any _ _).mono ?_; rintro e w' ⟨rfl, rfl⟩; go_wp2_with fail))
    go_ret
    exact ⟨by rw [HV.out]; rfl, (Below.refl _ _).alloc (Nat.le_refl _) _⟩
  | true =>
    by_cases hB : x.k = 1
    · have HV : Hid _ := nodeB_atom (k := k) hA hB
      cases hC : inB x.n 0 999999
      all_goals
        by_cases hD : x.a = 0 <;> by_cases hE : x.b = 0
        all_goals
          go_enter Try.func105, Try.ntmps105
          go_wp2_with fail
          repeat (first | (go_at_call 99; refine (specIn_any _ _ _ _).mono ?_; rintro e w' ⟨rfl, rfl⟩; go_wp2_with fail) | (go_at_call 102; refine (specOne_any _ _).mono ?_; rintro e w' ⟨rfl, rfl⟩; go_wp2_with fail))
          go_ret
          exact ⟨by rw [HV.out]; simp [hC, hD, hE], (Below.refl _ _).alloc (Nat.le_refl _) _⟩
    · have hB' : (x.k == 1) = false := by simp [hB]
      by_cases hC : x.n = 0
      · cases hD : inB x.a 0 (k - 1) with
        | false =>
          have HV : Hid (nodeB x k = false) := nodeB_a hA hB hD
          go_enter Try.func105, Try.ntmps105
          go_wp2_with fail
          repeat (first | (go_at_call 99; refine (specIn_any _ _ _ _).mono ?_; rintro e w' ⟨rfl, rfl⟩; go_wp2_with fail) | (go_at_call 102; refine (specOne_any _ _).mono ?_; rintro e w' ⟨rfl, rfl⟩; go_wp2_with fail))
          go_ret
          exact ⟨by rw [HV.out]; rfl, (Below.refl _ _).alloc (Nat.le_refl _) _⟩
        | true =>
          cases hE : oneK x.k with
          | true =>
            have HV : Hid _ := nodeB_one hA hB hC hD hE
            by_cases hF : x.b = 0
            all_goals
              go_enter Try.func105, Try.ntmps105
              go_wp2_with fail
              repeat (first | (go_at_call 99; refine (specIn_any _ _ _ _).mono ?_; rintro e w' ⟨rfl, rfl⟩; go_wp2_with fail) | (go_at_call 102; refine (specOne_any _ _).mono ?_; rintro e w' ⟨rfl, rfl⟩; go_wp2_with fail))
              go_ret
              exact ⟨by rw [HV.out]; simp [hF], (Below.refl _ _).alloc (Nat.le_refl _) _⟩
          | false =>
            have HV : Hid _ := nodeB_two hA hB hC hD hE
            go_enter Try.func105, Try.ntmps105
            go_wp2_with fail
            repeat (first | (go_at_call 99; refine (specIn_any _ _ _ _).mono ?_; rintro e w' ⟨rfl, rfl⟩; go_wp2_with fail) | (go_at_call 102; refine (specOne_any _ _).mono ?_; rintro e w' ⟨rfl, rfl⟩; go_wp2_with fail))
            go_ret
            exact ⟨by rw [HV.out]; rfl, (Below.refl _ _).alloc (Nat.le_refl _) _⟩
      · have hC' : (x.n != 0) = true := by simp [hC]
        have HV : Hid (nodeB x k = false) := nodeB_num hA hB hC
        go_enter Try.func105, Try.ntmps105
        go_wp2_with fail
        repeat (first | (go_at_call 99; refine (specIn_any _ _ _ _).mono ?_; rintro e w' ⟨rfl, rfl⟩; go_wp2_with fail) | (go_at_call 102; refine (specOne_any _ _).mono ?_; rintro e w' ⟨rfl, rfl⟩; go_wp2_with fail))
        go_ret
        exact ⟨by rw [HV.out]; rfl, (Below.refl _ _).alloc (Nat.le_refl _) _⟩
end Go.Proofs.Ytffnadnndmmliaa

namespace Go.Proofs.Ytffnadnndmmliaa
open Go.RowKit
set_option linter.unusedVariables false
theorem isEpoch_any (x : Int) (w : World) : Calls Try.prog 109 #[.int .i64 x] w fun e w' => e = .returned (.bool (inB x 0 8)) ∧ Below w.heap.size w w' := by
  have hin : inB x 0 8 = (decide (0 ≤ x) && decide (x ≤ 8)) := by unfold inB; first | rfl | (rw [Bool.eq_iff_iff]; simp)
  rw [hin]
  clear hin
  go_enter Try.func109, Try.ntmps109
  cases h1 : decide (0 ≤ x) with
  | true =>
    go_wp2
    go_ret
    exact ⟨by first | rfl | simp, Below.refl _ _⟩
  | false =>
    go_wp2
    go_ret
    exact ⟨by first | rfl | simp, Below.refl _ _⟩
end Go.Proofs.Ytffnadnndmmliaa
