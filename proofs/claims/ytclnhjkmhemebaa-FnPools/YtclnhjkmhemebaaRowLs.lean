/- Rows of Leases: 2 whole numbers each, in memory, and rows that a call owns. -/
import Derived.Test.YtclnhjkmhemebaaProg
import Derived.Test.YtclnhjkmhemebaaRowB
import Derived.WalkKit
import Derived.WalkLawsBesides
import Derived.WalkSpells
import Derived.Laws.OwnMore
import Derived.Laws.Rows
import Derived.Laws.ResultCell
import Derived.Laws.StructEq
import Derived.Laws.AppendOwnNone
namespace Go.Proofs.Ytclnhjkmhemebaa
open Go.RowKit
set_option linter.unusedVariables false
structure Ls where
  p : Int
  c : Int
  deriving DecidableEq, Inhabited
def Ls.Fits (x : Ls) : Prop := (-9223372036854775808 ≤ x.p ∧ x.p ≤ 9223372036854775807) ∧ (-9223372036854775808 ≤ x.c ∧ x.c ≤ 9223372036854775807)
def Ls.cells (x : Ls) : List Value := [.int .i64 x.p, .int .i64 x.c]
def Ls.zero : Ls := ⟨0, 0⟩
def cellsLs (ns : List Ls) : List Value := ns.flatMap Ls.cells
theorem cellsLs_len : ∀ ns : List Ls, (cellsLs ns).length = ns.length * 2
  | [] => rfl
  | x :: ns => by
    have := cellsLs_len ns
    simp only [cellsLs, List.flatMap_cons, List.length_append, List.length_cons, Ls.cells, List.length_nil] at this ⊢
    omega
theorem cellsLs_append (a b : List Ls) : cellsLs (a ++ b) = cellsLs a ++ cellsLs b := by simp [cellsLs]
theorem cellsLs_at : ∀ (ns : List Ls) (i j : Nat) (x : Ls), ns[i]? = some x → j < 2 → (cellsLs ns)[i * 2 + j]? = x.cells[j]?
  | [], i, j, x, h, _ => by simp at h
  | y :: ns, 0, j, x, h, hj => by
    simp at h; subst h
    simp only [cellsLs, List.flatMap_cons, Nat.zero_mul, Nat.zero_add]
    rw [List.getElem?_append_left (by simpa [Ls.cells] using hj)]
  | y :: ns, i + 1, j, x, h, hj => by
    have := cellsLs_at ns i j x (by simpa using h) hj
    simp only [cellsLs, List.flatMap_cons]
    rw [List.getElem?_append_right (by simp [Ls.cells]; omega)]
    have e : (i + 1) * 2 + j - y.cells.length = i * 2 + j := by simp [Ls.cells]; omega
    rw [e]; exact this
theorem cellsLs_mod (ns : List Ls) (j : Nat) (hj : j < ns.length * 2) : (cellsLs ns)[j]? = ((ns.getD (j / 2) Ls.zero).cells)[j % 2]? := by
  have hi : j / 2 < ns.length := by omega
  have h := cellsLs_at ns (j / 2) (j % 2) (ns.getD (j / 2) Ls.zero) (by rw [List.getD_eq_getElem?_getD, List.getElem?_eq_getElem hi]; rfl) (by omega)
  rw [← h]
  congr 1; omega
theorem cellsLs_one (ns : List Ls) : ∀ u ∈ cellsLs ns, u.oneCell' = true := by
  intro u hu
  simp only [cellsLs, List.mem_flatMap, Ls.cells] at hu
  obtain ⟨x, _, hx⟩ := hu
  simp only [List.mem_cons, List.not_mem_nil, or_false] at hx
  rcases hx with rfl | rfl <;> rfl
theorem cellsLs_take (ns : List Ls) (k : Nat) (h : k < ns.length) : cellsLs (ns.take (k + 1)) = cellsLs (ns.take k) ++ (ns.getD k Ls.zero).cells := by
  rw [List.take_succ_eq_append_getElem h, cellsLs_append]
  congr 1
  rw [List.getD_eq_getElem?_getD, List.getElem?_eq_getElem h]
  simp [cellsLs]
theorem ls_eq (x y : Ls) : x = y ↔ x.p = y.p ∧ x.c = y.c := by
  obtain ⟨a0, a1⟩ := x; obtain ⟨b0, b1⟩ := y; simp
/-- A row in memory, below B. -/
def RowLs (B : Nat) (w : World) (a : Option Addr) (ns : List Ls) : Prop :=
  ns = [] ∨ ∃ b off, a = some ⟨b, off, none⟩ ∧ b < B ∧ ∀ i, i < ns.length → w.cell? ⟨b, off + i * 2, none⟩ = some (.int .i64 (ns.getD i Ls.zero).p) ∧ w.cell? ⟨b, off + i * 2 + 1, none⟩ = some (.int .i64 (ns.getD i Ls.zero).c)
theorem RowLs.at {B : Nat} {w w' : World} {b off : Nat} {ns : List Ls} (h : RowLs B w (some ⟨b, off, none⟩) ns) (hb : Below B w w') {i : Nat} (hi : i < ns.length) :
    b < B ∧ w'.cell? ⟨b, off + i * 2, none⟩ = some (.int .i64 (ns.getD i Ls.zero).p) ∧ w'.cell? ⟨b, off + i * 2 + 1, none⟩ = some (.int .i64 (ns.getD i Ls.zero).c) := by
  rcases h with h0 | ⟨b', off', e, hlt, hc⟩
  · rw [h0] at hi; simp at hi
  · cases e
    obtain ⟨c0, c1⟩ := hc i hi
    exact ⟨hlt, (hb.cell hlt).trans c0, (hb.cell hlt).trans c1⟩
theorem RowLs.addr {B : Nat} {w : World} {a : Option Addr} {ns : List Ls} (h : RowLs B w a ns) {i : Nat} (hi : i < ns.length) : ∃ b off, a = .some ⟨b, off, none⟩ := by
  rcases h with h0 | ⟨b', off', e, _⟩
  · rw [h0] at hi; simp at hi
  · exact ⟨b', off', e⟩
theorem RowLs.later {w w' : World} {a : Option Addr} {ns : List Ls} {B : Nat} (h : RowLs B w a ns) (hb : Below B w w') : RowLs B w' a ns := by
  rcases h with h0 | ⟨b, off, e, hlt, hc⟩
  · exact .inl h0
  · refine .inr ⟨b, off, e, hlt, fun i hi => ?_⟩
    obtain ⟨c0, c1⟩ := hc i hi
    exact ⟨(hb.cell hlt).trans c0, (hb.cell hlt).trans c1⟩
theorem RowLs.wide {w : World} {a : Option Addr} {ns : List Ls} {B B' : Nat} (h : RowLs B w a ns) (hB : B ≤ B') : RowLs B' w a ns := by
  rcases h with h0 | ⟨b, off, e, hlt, hc⟩
  · exact .inl h0
  · exact .inr ⟨b, off, e, Nat.lt_of_lt_of_le hlt hB, hc⟩
theorem RowLs.grown {w w' : World} {a : Option Addr} {ns : List Ls} (h : RowLs w.heap.size w a ns) (hb : Below w.heap.size w w') : RowLs w'.heap.size w' a ns := (h.later hb).wide hb.size
theorem RowLs.cells {B : Nat} {w : World} {b off : Nat} {ns : List Ls} (h : RowLs B w (some ⟨b, off, none⟩) ns) : ∀ j u, (cellsLs ns)[j]? = some u → w.cell? ((⟨b, off, none⟩ : Addr).add j) = some u := by
  intro j u hu
  have hj : j < ns.length * 2 := by
    have := (List.getElem?_eq_some_iff.1 hu).1
    rw [cellsLs_len] at this; exact this
  rw [cellsLs_mod ns j hj] at hu
  obtain ⟨_, c0, c1⟩ := h.at (Below.refl _ _) (i := j / 2) (by omega)
  rw [add_offB]
  have e : off + j = off + j / 2 * 2 + j % 2 := by omega
  rw [e]
  rcases (show j % 2 = 0 ∨ j % 2 = 1 by omega) with h4 | h4 <;> rw [h4] at hu ⊢ <;> simp [Ls.cells] at hu <;> subst hu <;> assumption
/-- A row that the call owns. -/
def OwnLs (base : Nat) (w : World) (v : Value) (ns : List Ls) : Prop := w.ownsRow base 103 2 v ns.length (cellsLs ns)
theorem infoLs : (Try.prog.info? 103).map (fun i => (i.zero, i.size, i.bytes)) = some (some (.agg #[.int .i64 0, .int .i64 0]), 2, 16) := by kernel_rfl
theorem sizeLs : (Try.prog.info? 103).map (·.size) = some 2 := by kernel_rfl
theorem OwnLs.row {base : Nat} {w : World} {v : Value} {ns : List Ls} (h : OwnLs base w v ns) : ∃ a cap, v = .slice a ns.length cap ∧ Adr a cap ∧ RowLs w.heap.size w a ns := by
  have h' := h
  rcases h.2 with ⟨rfl, h0⟩ | ⟨g, cap, cur, rfl, hg, hb, hc, hm, hsz, htake⟩
  · exact ⟨none, 0, by rw [h0], .inl ⟨rfl, rfl⟩, .inl (List.length_eq_zero_iff.1 h0)⟩
  · refine ⟨some ⟨g, 0, none⟩, cap, rfl, .inr ⟨g, 0, rfl⟩, ?_⟩
    rcases Nat.eq_zero_or_pos ns.length with h0 | h0
    · exact .inl (List.length_eq_zero_iff.1 h0)
    · refine .inr ⟨g, 0, rfl, (Array.getElem?_eq_some_iff.1 hb).1, fun i hi => ?_⟩
      have hx : ns[i]? = some (ns.getD i Ls.zero) := by rw [List.getD_eq_getElem?_getD, List.getElem?_eq_getElem hi]; rfl
      have key : ∀ j u, j < 2 → (ns.getD i Ls.zero).cells[j]? = some u → w.cell? ⟨g, 0 + i * 2 + j, none⟩ = some u := fun j u hj hu => by
        have := h'.cells (g := g) rfl (i * 2 + j) u (by rw [cellsLs_at ns i j _ hx hj]; exact hu)
        rw [add_offB] at this
        rw [show 0 + i * 2 + j = 0 + (i * 2 + j) by omega]; exact this
      exact ⟨key 0 _ (by omega) rfl, key 1 _ (by omega) rfl⟩
theorem own_newLs {base : Nat} (w : World) (h : base ≤ w.heap.size) : OwnLs base (w.alloc (.cells #[] 103)) (.slice (some ⟨w.heap.size, 0, none⟩) 0 0) [] :=
  ⟨rfl, .inr ⟨w.heap.size, 0, #[], rfl, h, heap_alloc_new w _, Nat.le_refl _, by decide, rfl, rfl⟩⟩
theorem OwnLs.base {base base' : Nat} {w : World} {v : Value} {ns : List Ls} (h : OwnLs base w v ns) (hb : base' ≤ base) : OwnLs base' w v ns := by
  refine ⟨h.1, ?_⟩
  rcases h.2 with h0 | ⟨g, cap, cur, e, hg, rest⟩
  · exact .inl h0
  · exact .inr ⟨g, cap, cur, e, Nat.le_trans hb hg, rest⟩
theorem OwnLs.later {B : Nat} {w w' : World} {v : Value} {ns : List Ls} (h : OwnLs B w v ns) (hb : Below w.heap.size w w') : OwnLs B w' v ns := by
  refine ⟨h.1, ?_⟩
  rcases h.2 with h0 | ⟨g, cap, cur, e, hg, hh, rest⟩
  · exact .inl h0
  · exact .inr ⟨g, cap, cur, e, hg, (hb.block g (Array.getElem?_eq_some_iff.1 hh).1).trans hh, rest⟩
/-- A row that the call owns, shown with whatever room. -/
def OwnLsC (base : Nat) (w : World) (v : Value) (ns : List Ls) : Prop := ∃ a cap cp, v = .slice a ns.length cap ∧ Adr a cap ∧ OwnLs base w (.slice a ns.length cp) ns
theorem OwnLs.clip {base : Nat} {w : World} {v : Value} {ns : List Ls} (h : OwnLs base w v ns) : OwnLsC base w v ns := by
  obtain ⟨a, cap, rfl, ha, _⟩ := h.row
  exact ⟨a, cap, cap, rfl, ha, h⟩
end Go.Proofs.Ytclnhjkmhemebaa
