/- Plain mathematics of terms (chapter 3), over no dump: nodes, what is right, the place of one, what is put, sizes. -/
import Derived.WalkKit
import Derived.WalkLawsBesides
namespace Go.Proofs.Ytiojbefgafekaaa
open Go.RowKit

/-- A node. -/
structure Nd where
  k : Int
  n : Int
  a : Int
  b : Int
  deriving DecidableEq, Inhabited

/-- Within an int's bounds. -/
def Nd.Fits (x : Nd) : Prop := (-9223372036854775808 ≤ x.k ∧ x.k ≤ 9223372036854775807) ∧ (-9223372036854775808 ≤ x.n ∧ x.n ≤ 9223372036854775807) ∧ (-9223372036854775808 ≤ x.a ∧ x.a ≤ 9223372036854775807) ∧ (-9223372036854775808 ≤ x.b ∧ x.b ≤ 9223372036854775807)
def Nd.cells (x : Nd) : List Value := [.int .i64 x.k, .int .i64 x.n, .int .i64 x.a, .int .i64 x.b]
def Nd.val (x : Nd) : Value := .agg #[.int .i64 x.k, .int .i64 x.n, .int .i64 x.a, .int .i64 x.b]
def Nd.zero : Nd := ⟨0, 0, 0, 0⟩
def cellsN (ns : List Nd) : List Value := ns.flatMap Nd.cells
theorem cellsN_len : ∀ ns : List Nd, (cellsN ns).length = ns.length * 4
  | [] => rfl
  | x :: ns => by
    have := cellsN_len ns
    simp only [cellsN, List.flatMap_cons, List.length_append, List.length_cons, Nd.cells, List.length_nil] at this ⊢
    omega
theorem cellsN_append (a b : List Nd) : cellsN (a ++ b) = cellsN a ++ cellsN b := by simp [cellsN]
theorem cellsN_at : ∀ (ns : List Nd) (i j : Nat) (x : Nd), ns[i]? = some x → j < 4 → (cellsN ns)[i * 4 + j]? = x.cells[j]?
  | [], i, j, x, h, _ => by simp at h
  | y :: ns, 0, j, x, h, hj => by
    simp at h; subst h
    simp only [cellsN, List.flatMap_cons, Nat.zero_mul, Nat.zero_add]
    rw [List.getElem?_append_left (by simpa [Nd.cells] using hj)]
  | y :: ns, i + 1, j, x, h, hj => by
    have := cellsN_at ns i j x (by simpa using h) hj
    simp only [cellsN, List.flatMap_cons]
    rw [List.getElem?_append_right (by simp [Nd.cells]; omega)]
    have e : (i + 1) * 4 + j - y.cells.length = i * 4 + j := by simp [Nd.cells]; omega
    rw [e]; exact this

/-- Kinds with one term. -/
def oneK (k : Int) : Bool := decide (k = 3) || decide (k = 6)
def inB (x lo hi : Int) : Bool := decide (lo ≤ x) && decide (x ≤ hi)
/-- Is a node right at a place? -/
def nodeB (x : Nd) (k : Int) : Bool :=
  if inB x.k 1 9 = false then false
  else if x.k = 1 then inB x.n 0 999999 && (decide (x.a = 0) && decide (x.b = 0))
  else if x.n ≠ 0 ∨ inB x.a 0 (k - 1) = false then false
  else if oneK x.k = true then decide (x.b = 0)
  else inB x.b 0 (k - 1)
/-- NodeOk. -/
def okAt (ns : List Nd) (k : Int) : Bool := inB k 0 ((ns.length : Int) - 1) && nodeB (ns.getD k.toNat Nd.zero) k
/-- The place of the first node that is this one; -1 without it. -/
def findFrom (x : Nd) : List Nd → Nat → Int
  | [], _ => -1
  | y :: l, i => if y = x then (i : Int) else findFrom x l (i + 1)
def findN (ns : List Nd) (x : Nd) : Int := findFrom x ns 0
theorem find_drop (ns : List Nd) (x : Nd) (i : Nat) (h : i < ns.length) : findFrom x (ns.drop i) i = if ns.getD i Nd.zero = x then (i : Int) else findFrom x (ns.drop (i + 1)) (i + 1) := by
  rw [List.drop_eq_getElem_cons h, findFrom]
  rw [List.getD_eq_getElem?_getD, List.getElem?_eq_getElem h]; rfl
theorem find_end (ns : List Nd) (x : Nd) : findFrom x (ns.drop ns.length) ns.length = -1 := by rw [List.drop_length]; rfl
theorem findFrom_range (x : Nd) : ∀ (l : List Nd) (i : Nat), findFrom x l i = -1 ∨ ((i : Int) ≤ findFrom x l i ∧ findFrom x l i < ((i + l.length : Nat) : Int))
  | [], i => .inl rfl
  | y :: l, i => by
    rw [findFrom]
    split
    · right; simp; omega
    · rcases findFrom_range x l (i + 1) with h | h
      · exact .inl h
      · right; simp at h ⊢; omega
theorem findN_range (ns : List Nd) (x : Nd) : findN ns x = -1 ∨ (0 ≤ findN ns x ∧ findN ns x < (ns.length : Int)) := by
  have := findFrom_range x ns 0
  unfold findN
  simpa using this
/-- ArenaOk. -/
def allFrom (ns : List Nd) : List Nd → Nat → Bool
  | [], _ => true
  | x :: l, i => nodeB x i && (decide (findN ns x = i) && allFrom ns l (i + 1))
def arenaB (ns : List Nd) : Bool := decide (ns.length ≤ 3000) && allFrom ns ns 0
/-- Put. -/
def putA (ns : List Nd) (x : Nd) : List Nd := if nodeB x ns.length = true ∧ findN ns x = -1 ∧ ns.length < 3000 then ns ++ [x] else ns
def putK (ns : List Nd) (x : Nd) : Int := if nodeB x ns.length = true then (if findN ns x = -1 ∧ ns.length < 3000 then (ns.length : Int) else findN ns x) else -1
/-- The sizes of the first m nodes. -/
def szOne (out : List Int) (i : Nat) (x : Nd) : Int :=
  if nodeB x i = false ∨ (0 < i ∧ out.getD (i - 1) 0 = 0) then 0
  else
    let s := if x.k = 1 then 1 else if oneK x.k = true then 1 + out.getD x.a.toNat 0 else 1 + out.getD x.a.toNat 0 + out.getD x.b.toNat 0
    if 100000 < s then 100000 else s
def sizesN (ns : List Nd) : Nat → List Int
  | 0 => []
  | m + 1 => sizesN ns m ++ [szOne (sizesN ns m) m (ns.getD m Nd.zero)]
theorem sizesN_len (ns : List Nd) : ∀ m, (sizesN ns m).length = m
  | 0 => rfl
  | m + 1 => by simp [sizesN, sizesN_len ns m]
/-- SizeOf. -/
def sizeN (ns : List Nd) (k : Int) : Int := if inB k 0 ((ns.length : Int) - 1) = true then (sizesN ns (k.toNat + 1)).getD k.toNat 0 else 0
end Go.Proofs.Ytiojbefgafekaaa
