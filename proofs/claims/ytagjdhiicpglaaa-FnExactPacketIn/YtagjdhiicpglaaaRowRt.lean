/- Rows of Routes: 3 whole numbers each, in memory, and rows that a call owns. -/
import Derived.Test.YtagjdhiicpglaaaProg
import Derived.Test.YtagjdhiicpglaaaHeldQ
import Derived.WalkKit
import Derived.WalkLawsBesides
import Derived.WalkSpells
import Derived.Laws.OwnMore
import Derived.Laws.Rows
import Derived.Laws.ResultCell
import Derived.Laws.StructEq
import Derived.Laws.AppendOwnNone
namespace Go.Proofs.Ytagjdhiicpglaaa
open Go.RowKit
set_option linter.unusedVariables false
structure Rt where
  n : Int
  b : Int
  t : Int
  deriving DecidableEq, Inhabited
def Rt.Fits (x : Rt) : Prop := (-9223372036854775808 ≤ x.n ∧ x.n ≤ 9223372036854775807) ∧ (-9223372036854775808 ≤ x.b ∧ x.b ≤ 9223372036854775807) ∧ (-9223372036854775808 ≤ x.t ∧ x.t ≤ 9223372036854775807)
def Rt.cells (x : Rt) : List Value := [.int .i64 x.n, .int .i64 x.b, .int .i64 x.t]
def Rt.zero : Rt := ⟨0, 0, 0⟩
def cellsRt (ns : List Rt) : List Value := ns.flatMap Rt.cells
theorem cellsRt_len : ∀ ns : List Rt, (cellsRt ns).length = ns.length * 3
  | [] => rfl
  | x :: ns => by
    have := cellsRt_len ns
    simp only [cellsRt, List.flatMap_cons, List.length_append, List.length_cons, Rt.cells, List.length_nil] at this ⊢
    omega
theorem cellsRt_append (a b : List Rt) : cellsRt (a ++ b) = cellsRt a ++ cellsRt b := by simp [cellsRt]
theorem cellsRt_at : ∀ (ns : List Rt) (i j : Nat) (x : Rt), ns[i]? = some x → j < 3 → (cellsRt ns)[i * 3 + j]? = x.cells[j]?
  | [], i, j, x, h, _ => by simp at h
  | y :: ns, 0, j, x, h, hj => by
    simp at h; subst h
    simp only [cellsRt, List.flatMap_cons, Nat.zero_mul, Nat.zero_add]
    rw [List.getElem?_append_left (by simpa [Rt.cells] using hj)]
  | y :: ns, i + 1, j, x, h, hj => by
    have := cellsRt_at ns i j x (by simpa using h) hj
    simp only [cellsRt, List.flatMap_cons]
    rw [List.getElem?_append_right (by simp [Rt.cells]; omega)]
    have e : (i + 1) * 3 + j - y.cells.length = i * 3 + j := by simp [Rt.cells]; omega
    rw [e]; exact this
theorem cellsRt_mod (ns : List Rt) (j : Nat) (hj : j < ns.length * 3) : (cellsRt ns)[j]? = ((ns.getD (j / 3) Rt.zero).cells)[j % 3]? := by
  have hi : j / 3 < ns.length := by omega
  have h := cellsRt_at ns (j / 3) (j % 3) (ns.getD (j / 3) Rt.zero) (by rw [List.getD_eq_getElem?_getD, List.getElem?_eq_getElem hi]; rfl) (by omega)
  rw [← h]
  congr 1; omega
theorem cellsRt_one (ns : List Rt) : ∀ u ∈ cellsRt ns, u.oneCell' = true := by
  intro u hu
  simp only [cellsRt, List.mem_flatMap, Rt.cells] at hu
  obtain ⟨x, _, hx⟩ := hu
  simp only [List.mem_cons, List.not_mem_nil, or_false] at hx
  rcases hx with rfl | rfl | rfl <;> rfl
theorem cellsRt_take (ns : List Rt) (k : Nat) (h : k < ns.length) : cellsRt (ns.take (k + 1)) = cellsRt (ns.take k) ++ (ns.getD k Rt.zero).cells := by
  rw [List.take_succ_eq_append_getElem h, cellsRt_append]
  congr 1
  rw [List.getD_eq_getElem?_getD, List.getElem?_eq_getElem h]
  simp [cellsRt]
theorem rt_eq (x y : Rt) : x = y ↔ x.n = y.n ∧ x.b = y.b ∧ x.t = y.t := by
  obtain ⟨a0, a1, a2⟩ := x; obtain ⟨b0, b1, b2⟩ := y; simp
/-- A row in memory, below B. -/
def RowRt (B : Nat) (w : World) (a : Option Addr) (ns : List Rt) : Prop :=
  ns = [] ∨ ∃ b off, a = some ⟨b, off, none⟩ ∧ b < B ∧ ∀ i, i < ns.length → w.cell? ⟨b, off + i * 3, none⟩ = some (.int .i64 (ns.getD i Rt.zero).n) ∧ w.cell? ⟨b, off + i * 3 + 1, none⟩ = some (.int .i64 (ns.getD i Rt.zero).b) ∧ w.cell? ⟨b, off + i * 3 + 2, none⟩ = some (.int .i64 (ns.getD i Rt.zero).t)
theorem RowRt.at {B : Nat} {w w' : World} {b off : Nat} {ns : List Rt} (h : RowRt B w (some ⟨b, off, none⟩) ns) (hb : Below B w w') {i : Nat} (hi : i < ns.length) :
    b < B ∧ w'.cell? ⟨b, off + i * 3, none⟩ = some (.int .i64 (ns.getD i Rt.zero).n) ∧ w'.cell? ⟨b, off + i * 3 + 1, none⟩ = some (.int .i64 (ns.getD i Rt.zero).b) ∧ w'.cell? ⟨b, off + i * 3 + 2, none⟩ = some (.int .i64 (ns.getD i Rt.zero).t) := by
  rcases h with h0 | ⟨b', off', e, hlt, hc⟩
  · rw [h0] at hi; simp at hi
  · cases e
    obtain ⟨c0, c1, c2⟩ := hc i hi
    exact ⟨hlt, (hb.cell hlt).trans c0, (hb.cell hlt).trans c1, (hb.cell hlt).trans c2⟩
theorem RowRt.addr {B : Nat} {w : World} {a : Option Addr} {ns : List Rt} (h : RowRt B w a ns) {i : Nat} (hi : i < ns.length) : ∃ b off, a = .some ⟨b, off, none⟩ := by
  rcases h with h0 | ⟨b', off', e, _⟩
  · rw [h0] at hi; simp at hi
  · exact ⟨b', off', e⟩
theorem RowRt.later {w w' : World} {a : Option Addr} {ns : List Rt} {B : Nat} (h : RowRt B w a ns) (hb : Below B w w') : RowRt B w' a ns := by
  rcases h with h0 | ⟨b, off, e, hlt, hc⟩
  · exact .inl h0
  · refine .inr ⟨b, off, e, hlt, fun i hi => ?_⟩
    obtain ⟨c0, c1, c2⟩ := hc i hi
    exact ⟨(hb.cell hlt).trans c0, (hb.cell hlt).trans c1, (hb.cell hlt).trans c2⟩
theorem RowRt.wide {w : World} {a : Option Addr} {ns : List Rt} {B B' : Nat} (h : RowRt B w a ns) (hB : B ≤ B') : RowRt B' w a ns := by
  rcases h with h0 | ⟨b, off, e, hlt, hc⟩
  · exact .inl h0
  · exact .inr ⟨b, off, e, Nat.lt_of_lt_of_le hlt hB, hc⟩
theorem RowRt.grown {w w' : World} {a : Option Addr} {ns : List Rt} (h : RowRt w.heap.size w a ns) (hb : Below w.heap.size w w') : RowRt w'.heap.size w' a ns := (h.later hb).wide hb.size
theorem RowRt.cells {B : Nat} {w : World} {b off : Nat} {ns : List Rt} (h : RowRt B w (some ⟨b, off, none⟩) ns) : ∀ j u, (cellsRt ns)[j]? = some u → w.cell? ((⟨b, off, none⟩ : Addr).add j) = some u := by
  intro j u hu
  have hj : j < ns.length * 3 := by
    have := (List.getElem?_eq_some_iff.1 hu).1
    rw [cellsRt_len] at this; exact this
  rw [cellsRt_mod ns j hj] at hu
  obtain ⟨_, c0, c1, c2⟩ := h.at (Below.refl _ _) (i := j / 3) (by omega)
  rw [add_offB]
  have e : off + j = off + j / 3 * 3 + j % 3 := by omega
  rw [e]
  rcases (show j % 3 = 0 ∨ j % 3 = 1 ∨ j % 3 = 2 by omega) with h4 | h4 | h4 <;> rw [h4] at hu ⊢ <;> simp [Rt.cells] at hu <;> subst hu <;> assumption
end Go.Proofs.Ytagjdhiicpglaaa
