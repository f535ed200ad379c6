/- Plain mathematics of terms (chapter 3), over no dump: nodes, what is right, the place of one, what is put, sizes. -/
import Derived.WalkKit
import Derived.WalkLawsBesides
import Derived.Test.YtffnadnndmmliaaProg
import Derived.WalkSpells
import Derived.Deep.RegionHeld3
import Derived.Deep.QuietTactic
import Derived.BigQuiet
import Derived.Laws.StructEq
import Derived.Laws.Rows
namespace Go.Proofs.Ytffnadnndmmliaa
open Go.RowKit

/-- A node. -/
structure Nd where
  k : Int
  n : Int
  a : Int
  b : Int
  deriving DecidableEq, Inhabited

/-- Within an int's bounds. -/
def Nd.Fits (x : Nd) : Prop := (-9223372036854775808 ≤ x.k ∧ x.k ≤ 9223372036854775807) ∧ (-9223372036854775808 ≤ x.n ∧ x.n ≤ 9223372036854775807) ∧ (-9223372036854775808 ≤ x.a ∧ x.a ≤ 9223372036854775807) ∧ (-9223372036854775808 ≤ x.b ∧ x.b ≤ 9223372036854775807)
def Nd.cells (x : Nd) : List Value := [.int .i64 x.k, .int .i64 x.n, .int .i64 x.a, .int .i64 x.b]
def Nd.val (x : Nd) : Value := .agg #[.int .i64 x.k, .int .i64 x.n, .int .i64 x.a, .int .i64 x.b]
def Nd.zero : Nd := ⟨0, 0, 0, 0⟩
def cellsN (ns : List Nd) : List Value := ns.flatMap Nd.cells
theorem cellsN_len : ∀ ns : List Nd, (cellsN ns).length = ns.length * 4
  | [] => rfl
  | x :: ns => by
    have := cellsN_len ns
    simp only [cellsN, List.flatMap_cons, List.length_append, List.length_cons, Nd.cells, List.length_nil] at this ⊢
    omega
theorem cellsN_append (a b : List Nd) : cellsN (a ++ b) = cellsN a ++ cellsN b := by simp [cellsN]
theorem cellsN_at : ∀ (ns : List Nd) (i j : Nat) (x : Nd), ns[i]? = some x → j < 4 → (cellsN ns)[i * 4 + j]? = x.cells[j]?
  | [], i, j, x, h, _ => by simp at h
  | y :: ns, 0, j, x, h, hj => by
    simp at h; subst h
    simp only [cellsN, List.flatMap_cons, Nat.zero_mul, Nat.zero_add]
    rw [List.getElem?_append_left (by simpa [Nd.cells] using hj)]
  | y :: ns, i + 1, j, x, h, hj => by
    have := cellsN_at ns i j x (by simpa using h) hj
    simp only [cellsN, List.flatMap_cons]
    rw [List.getElem?_append_right (by simp [Nd.cells]; omega)]
    have e : (i + 1) * 4 + j - y.cells.length = i * 4 + j := by simp [Nd.cells]; omega
    rw [e]; exact this

/-- Kinds with one term. -/
def oneK (k : Int) : Bool := decide (k = 3) || decide (k = 6)
def inB (x lo hi : Int) : Bool := decide (lo ≤ x) && decide (x ≤ hi)
/-- Is a node right at a place? -/
def nodeB (x : Nd) (k : Int) : Bool :=
  if inB x.k 1 9 = false then false
  else if x.k = 1 then inB x.n 0 999999 && (decide (x.a = 0) && decide (x.b = 0))
  else if x.n ≠ 0 ∨ inB x.a 0 (k - 1) = false then false
  else if oneK x.k = true then decide (x.b = 0)
  else inB x.b 0 (k - 1)
/-- NodeOk. -/
def okAt (ns : List Nd) (k : Int) : Bool := inB k 0 ((ns.length : Int) - 1) && nodeB (ns.getD k.toNat Nd.zero) k
/-- The place of the first node that is this one; -1 without it. -/
def findFrom (x : Nd) : List Nd → Nat → Int
  | [], _ => -1
  | y :: l, i => if y = x then (i : Int) else findFrom x l (i + 1)
def findN (ns : List Nd) (x : Nd) : Int := findFrom x ns 0
theorem find_drop (ns : List Nd) (x : Nd) (i : Nat) (h : i < ns.length) : findFrom x (ns.drop i) i = if ns.getD i Nd.zero = x then (i : Int) else findFrom x (ns.drop (i + 1)) (i + 1) := by
  rw [List.drop_eq_getElem_cons h, findFrom]
  rw [List.getD_eq_getElem?_getD, List.getElem?_eq_getElem h]; rfl
theorem find_end (ns : List Nd) (x : Nd) : findFrom x (ns.drop ns.length) ns.length = -1 := by rw [List.drop_length]; rfl
theorem findFrom_range (x : Nd) : ∀ (l : List Nd) (i : Nat), findFrom x l i = -1 ∨ ((i : Int) ≤ findFrom x l i ∧ findFrom x l i < ((i + l.length : Nat) : Int))
  | [], i => .inl rfl
  | y :: l, i => by
    rw [findFrom]
    split
    · right; simp; omega
    · rcases findFrom_range x l (i + 1) with h | h
      · exact .inl h
      · right; simp at h ⊢; omega
theorem findN_range (ns : List Nd) (x : Nd) : findN ns x = -1 ∨ (0 ≤ findN ns x ∧ findN ns x < (ns.length : Int)) := by
  have := findFrom_range x ns 0
  unfold findN
  simpa using this
/-- ArenaOk. -/
def allFrom (ns : List Nd) : List Nd → Nat → Bool
  | [], _ => true
  | x :: l, i => nodeB x i && (decide (findN ns x = i) && allFrom ns l (i + 1))
def arenaB (ns : List Nd) : Bool := decide (ns.length ≤ 3000) && allFrom ns ns 0
/-- Put. -/
def putA (ns : List Nd) (x : Nd) : List Nd := if nodeB x ns.length = true ∧ findN ns x = -1 ∧ ns.length < 3000 then ns ++ [x] else ns
def putK (ns : List Nd) (x : Nd) : Int := if nodeB x ns.length = true then (if findN ns x = -1 ∧ ns.length < 3000 then (ns.length : Int) else findN ns x) else -1
/-- The sizes of the first m nodes. -/
def szOne (out : List Int) (i : Nat) (x : Nd) : Int :=
  if nodeB x i = false ∨ (0 < i ∧ out.getD (i - 1) 0 = 0) then 0
  else
    let s := if x.k = 1 then 1 else if oneK x.k = true then 1 + out.getD x.a.toNat 0 else 1 + out.getD x.a.toNat 0 + out.getD x.b.toNat 0
    if 100000 < s then 100000 else s
def sizesN (ns : List Nd) : Nat → List Int
  | 0 => []
  | m + 1 => sizesN ns m ++ [szOne (sizesN ns m) m (ns.getD m Nd.zero)]
theorem sizesN_len (ns : List Nd) : ∀ m, (sizesN ns m).length = m
  | 0 => rfl
  | m + 1 => by simp [sizesN, sizesN_len ns m]
/-- SizeOf. -/
def sizeN (ns : List Nd) (k : Int) : Int := if inB k 0 ((ns.length : Int) - 1) = true then (sizesN ns (k.toNat + 1)).getD k.toNat 0 else 0
end Go.Proofs.Ytffnadnndmmliaa

namespace Go.Proofs.Ytffnadnndmmliaa
open Go.RowKit

/-- Nodes in memory, below B: a slice's address and its nodes. -/
def RowN (B : Nat) (w : World) (a : Option Addr) (ns : List Nd) : Prop :=
  ns = [] ∨ ∃ b off, a = some ⟨b, off, none⟩ ∧ b < B ∧ ∀ i, i < ns.length →
    w.cell? ⟨b, off + i * 4, none⟩ = some (.int .i64 (ns.getD i Nd.zero).k) ∧ w.cell? ⟨b, off + i * 4 + 1, none⟩ = some (.int .i64 (ns.getD i Nd.zero).n) ∧
    w.cell? ⟨b, off + i * 4 + 2, none⟩ = some (.int .i64 (ns.getD i Nd.zero).a) ∧ w.cell? ⟨b, off + i * 4 + 3, none⟩ = some (.int .i64 (ns.getD i Nd.zero).b)

theorem specIn_any (x lo hi : Int) (w : World) :
    Calls Try.prog 99 #[.int .i64 x, .int .i64 lo, .int .i64 hi] w fun e w' => e = .returned (.bool (inB x lo hi)) ∧ w = w' := by
  unfold inB
  by_cases h1 : lo ≤ x <;> by_cases h2 : x ≤ hi
  all_goals
    go_enter Try.func99, Try.ntmps99
    go_wp2
    go_ret
    exact ⟨by simp [h1, h2], rfl⟩

theorem specOne_any (k : Int) (w : World) :
    Calls Try.prog 102 #[.int .i64 k] w fun e w' => e = .returned (.bool (oneK k)) ∧ w = w' := by
  unfold oneK
  by_cases h1 : k = 3 <;> by_cases h2 : k = 6
  all_goals
    go_enter Try.func102, Try.ntmps102
    go_wp2
    go_ret
    exact ⟨by simp [h1, h2], rfl⟩

theorem nodeB_kind {x : Nd} {k : Int} (h : inB x.k 1 9 = false) : nodeB x k = false := by unfold nodeB; rw [if_pos h]
theorem nodeB_atom {x : Nd} {k : Int} (h : inB x.k 1 9 = true) (h1 : x.k = 1) : nodeB x k = (inB x.n 0 999999 && (decide (x.a = 0) && decide (x.b = 0))) := by
  unfold nodeB; rw [if_neg (by simp [h]), if_pos h1]
theorem nodeB_num {x : Nd} {k : Int} (h : inB x.k 1 9 = true) (h1 : x.k ≠ 1) (h2 : x.n ≠ 0) : nodeB x k = false := by
  unfold nodeB; rw [if_neg (by simp [h]), if_neg h1, if_pos (.inl h2)]
theorem nodeB_a {x : Nd} {k : Int} (h : inB x.k 1 9 = true) (h1 : x.k ≠ 1) (h3 : inB x.a 0 (k - 1) = false) : nodeB x k = false := by
  unfold nodeB; rw [if_neg (by simp [h]), if_neg h1, if_pos (.inr h3)]
theorem nodeB_one {x : Nd} {k : Int} (h : inB x.k 1 9 = true) (h1 : x.k ≠ 1) (h2 : x.n = 0) (h3 : inB x.a 0 (k - 1) = true) (h4 : oneK x.k = true) : nodeB x k = decide (x.b = 0) := by
  unfold nodeB; rw [if_neg (by simp [h]), if_neg h1, if_neg (by simp [h2, h3]), if_pos h4]
theorem nodeB_two {x : Nd} {k : Int} (h : inB x.k 1 9 = true) (h1 : x.k ≠ 1) (h2 : x.n = 0) (h3 : inB x.a 0 (k - 1) = true) (h4 : oneK x.k = false) : nodeB x k = inB x.b 0 (k - 1) := by
  unfold nodeB; rw [if_neg (by simp [h]), if_neg h1, if_neg (by simp [h2, h3]), if_neg (by simp [h4])]

set_option maxHeartbeats 800000 in
theorem specNode_any (x : Nd) (k : Int) (w : World) (hk0 : 0 ≤ k) (hk1 : k ≤ 9000000000000000000) :
    Calls Try.prog 105 #[.agg #[.int .i64 x.k, .int .i64 x.n, .int .i64 x.a, .int .i64 x.b], .int .i64 k] w fun e w' => e = .returned (.bool (nodeB x k)) ∧ Below w.heap.size w w' := by
  cases hA : inB x.k 1 9 with
  | false =>
    have HV : Hid (nodeB x k = false) := nodeB_kind hA
    go_enter Try.func105, Try.ntmps105
    go_wp2_with fail
    repeat (first | (go_at_call 99; refine (specIn_any _ _ _ _).mono ?_; rintro e w' ⟨rfl, rfl⟩; go_wp2_with fail) | (go_at_call 102; refine (specOne_any _ _).mono ?_; rintro e w' ⟨rfl, rfl⟩; go_wp2_with fail))
    go_ret
    exact ⟨by rw [HV.out]; rfl, (Below.refl _ _).alloc (Nat.le_refl _) _⟩
  | true =>
    by_cases hB : x.k = 1
    · have HV : Hid _ := nodeB_atom (k := k) hA hB
      cases hC : inB x.n 0 999999
      all_goals
        by_cases hD : x.a = 0 <;> by_cases hE : x.b = 0
        all_goals
          go_enter Try.func105, Try.ntmps105
          go_wp2_with fail
          repeat (first | (go_at_call 99; refine (specIn_any _ _ _ _).mono ?_; rintro e w' ⟨rfl, rfl⟩; go_wp2_with fail) | (go_at_call 102; refine (specOne_any _ _).mono ?_; rintro e w' ⟨rfl, rfl⟩; go_wp2_with fail))
          go_ret
          exact ⟨by rw [HV.out]; simp [hC, hD, hE], (Below.refl _ _).alloc (Nat.le_refl _) _⟩
    · have hB' : (x.k == 1) = false := by simp [hB]
      by_cases hC : x.n = 0
      · cases hD : inB x.a 0 (k - 1) with
        | false =>
          have HV : Hid (nodeB x k = false) := nodeB_a hA hB hD
          go_enter Try.func105, Try.ntmps105
          go_wp2_with fail
          repeat (first | (go_at_call 99; refine (specIn_any _ _ _ _).mono ?_; rintro e w' ⟨rfl, rfl⟩; go_wp2_with fail) | (go_at_call 102; refine (specOne_any _ _).mono ?_; rintro e w' ⟨rfl, rfl⟩; go_wp2_with fail))
          go_ret
          exact ⟨by rw [HV.out]; rfl, (Below.refl _ _).alloc (Nat.le_refl _) _⟩
        | true =>
          cases hE : oneK x.k with
          | true =>
            have HV : Hid _ := nodeB_one hA hB hC hD hE
            by_cases hF : x.b = 0
            all_goals
              go_enter Try.func105, Try.ntmps105
              go_wp2_with fail
              repeat (first | (go_at_call 99; refine (specIn_any _ _ _ _).mono ?_; rintro e w' ⟨rfl, rfl⟩; go_wp2_with fail) | (go_at_call 102; refine (specOne_any _ _).mono ?_; rintro e w' ⟨rfl, rfl⟩; go_wp2_with fail))
              go_ret
              exact ⟨by rw [HV.out]; simp [hF], (Below.refl _ _).alloc (Nat.le_refl _) _⟩
          | false =>
            have HV : Hid _ := nodeB_two hA hB hC hD hE
            go_enter Try.func105, Try.ntmps105
            go_wp2_with fail
            repeat (first | (go_at_call 99; refine (specIn_any _ _ _ _).mono ?_; rintro e w' ⟨rfl, rfl⟩; go_wp2_with fail) | (go_at_call 102; refine (specOne_any _ _).mono ?_; rintro e w' ⟨rfl, rfl⟩; go_wp2_with fail))
            go_ret
            exact ⟨by rw [HV.out]; rfl, (Below.refl _ _).alloc (Nat.le_refl _) _⟩
      · have hC' : (x.n != 0) = true := by simp [hC]
        have HV : Hid (nodeB x k = false) := nodeB_num hA hB hC
        go_enter Try.func105, Try.ntmps105
        go_wp2_with fail
        repeat (first | (go_at_call 99; refine (specIn_any _ _ _ _).mono ?_; rintro e w' ⟨rfl, rfl⟩; go_wp2_with fail) | (go_at_call 102; refine (specOne_any _ _).mono ?_; rintro e w' ⟨rfl, rfl⟩; go_wp2_with fail))
        go_ret
        exact ⟨by rw [HV.out]; rfl, (Below.refl _ _).alloc (Nat.le_refl _) _⟩
end Go.Proofs.Ytffnadnndmmliaa

namespace Go.Proofs.Ytffnadnndmmliaa
open Go.RowKit

theorem below_dn {B : Nat} {w w' : World} (h : Below B w w') (n : Nat) : Below B w (w'.drewN n) := ⟨h.os, h.tape, h.output, h.size, h.block⟩
/-- A node's cells at a place, in a later world. -/
theorem RowN.at {B : Nat} {w w' : World} {b off : Nat} {ns : List Nd} (h : RowN B w (some ⟨b, off, none⟩) ns) (hb : Below B w w') {i : Nat} (hi : i < ns.length) :
    b < B ∧ w'.cell? ⟨b, off + i * 4, none⟩ = some (.int .i64 (ns.getD i Nd.zero).k) ∧ w'.cell? ⟨b, off + i * 4 + 1, none⟩ = some (.int .i64 (ns.getD i Nd.zero).n) ∧
    w'.cell? ⟨b, off + i * 4 + 2, none⟩ = some (.int .i64 (ns.getD i Nd.zero).a) ∧ w'.cell? ⟨b, off + i * 4 + 3, none⟩ = some (.int .i64 (ns.getD i Nd.zero).b) := by
  rcases h with h0 | ⟨b', off', e, hlt, hc⟩
  · rw [h0] at hi; simp at hi
  · cases e
    obtain ⟨c0, c1, c2, c3⟩ := hc i hi
    exact ⟨hlt, (hb.cell hlt).trans c0, (hb.cell hlt).trans c1, (hb.cell hlt).trans c2, (hb.cell hlt).trans c3⟩
theorem RowN.addr {B : Nat} {w : World} {a : Option Addr} {ns : List Nd} (h : RowN B w a ns) {i : Nat} (hi : i < ns.length) : ∃ b off, a = .some ⟨b, off, none⟩ := by
  rcases h with h0 | ⟨b', off', e, _⟩
  · rw [h0] at hi; simp at hi
  · exact ⟨b', off', e⟩
theorem nd_eq (x y : Nd) : x = y ↔ x.k = y.k ∧ x.n = y.n ∧ x.a = y.a ∧ x.b = y.b := by
  obtain ⟨a, b, c, d⟩ := x; obtain ⟨e, f, g, h⟩ := y; simp

theorem nodeFields : Try.prog.underlying 45 = some (.struct (Try.prog.fieldsOf 45)) := by kernel_rfl
theorem nodeHeld : Try.prog.stoodInHeld 45 = false := by kernel_rfl
theorem nodeGuard : Try.prog.eqGuardType Try.prog.depth 45 = false := by kernel_rfl
/-- '==' on nodes. -/
theorem node_eql (x y : Nd) (w : World) : (Op.equalIn 10000 45 (.agg #[.int .i64 x.k, .int .i64 x.n, .int .i64 x.a, .int .i64 x.b]) (.agg #[.int .i64 y.k, .int .i64 y.n, .int .i64 y.a, .int .i64 y.b])).run Try.prog w = .ok (decide (x = y)) w := by
  rw [show (10000 : Nat) = 9999 + 1 from rfl, run_equalIn_agg _ _ _ _ _ nodeFields nodeHeld]
  simp only [Program.fieldsOf, Try.underlying45]
  have e := nd_eq x y
  by_cases h0 : x.k = y.k <;> by_cases h1 : x.n = y.n <;> by_cases h2 : x.a = y.a <;> by_cases h3 : x.b = y.b <;> go_simp <;> simp [e, h0, h1, h2, h3]
set_option maxHeartbeats 800000 in
theorem specAt_any (a : Option Addr) (cap : Nat) (ns : List Nd) (x : Nd) (w : World) (hl : ns.length ≤ 1048576) (hr : RowN w.heap.size w a ns) :
    Calls Try.prog 106 #[.slice a ns.length cap, .agg #[.int .i64 x.k, .int .i64 x.n, .int .i64 x.a, .int .i64 x.b]] w fun e w' => e = .returned (.int .i64 (findN ns x)) ∧ Below w.heap.size w w' := by
  have HR : Hid (RowN w.heap.size w a ns) := hr
  clear hr
  go_enter Try.func106, Try.ntmps106
  go_wp2
  go_loopw [5] (fun i wr => ∃ k : Nat, k ≤ ns.length ∧ i = .int .i64 (k : Int) ∧ Hid (findFrom x (ns.drop k) k = findN ns x) ∧ Below w.heap.size w wr ∧ wr.heap[w.heap.size]? = some (.cells #[.int .i64 x.k, .int .i64 x.n, .int .i64 x.a, .int .i64 x.b] 45 (0, 0)))
    (fun i _ => ns.length - (intOf i).toNat)
  case atStart => exact ⟨0, Nat.zero_le _, rfl, rfl, (Below.refl _ _).alloc (Nat.le_refl _) _, heap_alloc_new w _⟩
  case round =>
    obtain ⟨k, hk, rfl, HF, hbel, hown⟩ := hrel
    have HO : Hid (wr.heap[w.heap.size]? = some (.cells #[.int .i64 x.k, .int .i64 x.n, .int .i64 x.a, .int .i64 x.b] 45 (0, 0))) := hown
    by_cases hlt : k < ns.length
    · obtain ⟨b, off, rfl⟩ := HR.out.addr hlt
      obtain ⟨hb, c0, c1, c2, c3⟩ := HR.out.at hbel hlt
      have d0 : wr.cell? ⟨w.heap.size, 0, none⟩ = some (.int .i64 x.k) := by rw [cell_of_row wr w.heap.size 0 _ _ _ hown]; rfl
      have d1 : wr.cell? ⟨w.heap.size, 1, none⟩ = some (.int .i64 x.n) := by rw [cell_of_row wr w.heap.size 1 _ _ _ hown]; rfl
      have d2 : wr.cell? ⟨w.heap.size, 2, none⟩ = some (.int .i64 x.a) := by rw [cell_of_row wr w.heap.size 2 _ _ _ hown]; rfl
      have d3 : wr.cell? ⟨w.heap.size, 3, none⟩ = some (.int .i64 x.b) := by rw [cell_of_row wr w.heap.size 3 _ _ _ hown]; rfl
      have hfd := find_drop ns x k hlt
      have hEQ := nd_eq (ns.getD k Nd.zero) x
      have HFD : Hid (_ = _) := hfd
      have HEQ : Hid (_ ↔ _) := hEQ
      clear hfd hEQ hown
      have hi0 : (0 : Int) ≤ (k : Int) := by omega
      have hi1 : (k : Int) < (ns.length : Int) := by omega
      generalize ns.getD k Nd.zero = y at c0 c1 c2 c3 HFD HEQ
      have hgd := nodeGuard
      have hel := node_eql y x
      by_cases hyx : y = x
      · have hdy : decide (y = x) = true := by simp [hyx]
        have HV : Hid (findN ns x = (k : Int)) := by show _ = _; rw [← HF.out, HFD.out, if_pos hyx]
        clear hyx
        go_wp2
        go_quiet (fail)
        go_wp2
        go_ret
        exact ⟨by rw [HV.out]; rfl, below_dn hbel _⟩
      · have hdy : decide (y = x) = false := by simp [hyx]
        have HV : Hid (findFrom x (ns.drop (k + 1)) (k + 1) = findN ns x) := by show _ = _; rw [← HF.out, HFD.out, if_neg hyx]
        clear hyx
        go_wp2
        go_quiet (fail)
        go_wp2
        go_roundw
        case rel => exact ⟨k + 1, by omega, by go_num, HV, below_dn hbel _, HO.out⟩
        case measure => simp [intOf]; omega
    · obtain rfl : k = ns.length := by omega
      go_wp2
      go_ret
      exact ⟨by rw [← HF.out, find_end]; rfl, hbel⟩
end Go.Proofs.Ytffnadnndmmliaa

namespace Go.Proofs.Ytffnadnndmmliaa
open Go.RowKit
set_option linter.unusedVariables false
set_option maxHeartbeats 800000 in
theorem sameA_same (a b : Option Addr) (ca cb : Nat) (ns : List Nd) (w : World) (hl : ns.length ≤ 1048576) (hra : RowN w.heap.size w a ns) (hrb : RowN w.heap.size w b ns) :
    Calls Try.prog 29 #[.agg #[.slice a ns.length ca], .agg #[.slice b ns.length cb]] w fun e w' => e = .returned (.bool true) ∧ Below w.heap.size w w' := by
  have HRA : Hid (RowN w.heap.size w a ns) := hra
  have HRB : Hid (RowN w.heap.size w b ns) := hrb
  clear hra hrb
  have hb0 : Below w.heap.size w (w.alloc (.cells #[.slice a ns.length ca] 28)) := (Below.refl _ _).alloc (Nat.le_refl _) _
  have HB1 : Hid (Below w.heap.size w ((w.alloc (.cells #[.slice a ns.length ca] 28)).alloc (.cells #[.slice b ns.length cb] 28))) := hb0.alloc hb0.size _
  have HA1 : Hid (((w.alloc (.cells #[.slice a ns.length ca] 28)).alloc (.cells #[.slice b ns.length cb] 28)).cell? ⟨w.heap.size, 0, none⟩ = some (.slice a ns.length ca)) := (cell_of_row _ _ 0 _ _ _ ((heap_alloc_old _ _ (by simp)).trans (heap_alloc_new w _))).trans rfl
  have HA2 : Hid (((w.alloc (.cells #[.slice a ns.length ca] 28)).alloc (.cells #[.slice b ns.length cb] 28)).cell? ⟨w.heap.size + 1, 0, none⟩ = some (.slice b ns.length cb)) := by
    have h := heap_alloc_new (w.alloc (.cells #[.slice a ns.length ca] 28)) (.cells #[.slice b ns.length cb] 28)
    rw [show (w.alloc (.cells #[.slice a ns.length ca] 28)).heap.size = w.heap.size + 1 by simp] at h
    exact (cell_of_row _ _ 0 _ _ _ h).trans rfl
  clear hb0
  go_enter Try.func29, Try.ntmps29
  go_wp2
  go_loopw [5] (fun i wr => ∃ k : Nat, k ≤ ns.length ∧ i = .int .i64 (k : Int) ∧ Below w.heap.size w wr ∧ wr.cell? ⟨w.heap.size, 0, none⟩ = some (.slice a ns.length ca) ∧ wr.cell? ⟨w.heap.size + 1, 0, none⟩ = some (.slice b ns.length cb))
    (fun i _ => ns.length - (intOf i).toNat)
  case atStart => exact ⟨0, Nat.zero_le _, rfl, HB1.out, HA1.out, HA2.out⟩
  case round =>
    obtain ⟨k, hk, rfl, hbel, e0, e1⟩ := hrel
    by_cases hlt : k < ns.length
    · obtain ⟨ab, aoff, rfl⟩ := HRA.out.addr hlt
      obtain ⟨bb, boff, rfl⟩ := HRB.out.addr hlt
      obtain ⟨hb, c0, c1, c2, c3⟩ := HRA.out.at hbel hlt
      obtain ⟨hb', d0, d1, d2, d3⟩ := HRB.out.at hbel hlt
      have hi0 : (0 : Int) ≤ (k : Int) := by omega
      have hi1 : (k : Int) < (ns.length : Int) := by omega
      generalize ns.getD k Nd.zero = y at c0 c1 c2 c3 d0 d1 d2 d3
      have hgd := nodeGuard
      have hel := node_eql y y
      have hdy : decide (y = y) = true := by simp
      have HE0 : Hid (wr.cell? ⟨w.heap.size, 0, none⟩ = some (.slice (some ⟨ab, aoff, none⟩) ns.length ca)) := e0
      have HE1 : Hid (wr.cell? ⟨w.heap.size + 1, 0, none⟩ = some (.slice (some ⟨bb, boff, none⟩) ns.length cb)) := e1
      go_wp2
      go_quiet (fail)
      go_wp2
      go_roundw
      case rel => exact ⟨k + 1, by omega, by go_num, below_dn hbel _, HE0.out, HE1.out⟩
      case measure => simp [intOf]; omega
    · obtain rfl : k = ns.length := by omega
      go_wp2
      go_ret
      exact ⟨rfl, hbel⟩
end Go.Proofs.Ytffnadnndmmliaa
