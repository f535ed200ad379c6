/- What a law over arenas keeps from step to step: its arguments' blocks, its variables' blocks, rows that were made in between. -/
import Derived.Test.YtnjihmailppjkaaLawArena3
import Derived.WalkKit
import Derived.WalkLawsBesides
import Derived.Test.YtnjihmailppjkaaPlain
import Derived.WalkSpells
import Derived.OwnWalk
import Derived.Laws.OwnMore
import Derived.Laws.Rows
namespace Go.Proofs.Ytnjihmailppjkaa
open Go.RowKit

/-- A one-cell variable in memory. -/
structure Var (b : Nat) (v : Value) (w : World) : Prop where
  lt : b < w.heap.size
  c : w.cell? ⟨b, 0, none⟩ = some v
theorem Var.next {b : Nat} {v : Value} {w w' : World} (h : Var b v w) (hb : Below w.heap.size w w') : Var b v w' := ⟨Nat.lt_of_lt_of_le h.lt hb.size, (hb.cell (p := ⟨b, 0, none⟩) h.lt).trans h.c⟩
theorem cell_grown {w w' : World} {r : Option Nat} {b j : Nat} {u : Value} (hg : w.grownBy w' r) (hb : b < w.heap.size) (hne : r ≠ some b) (h : w.cell? ⟨b, j, none⟩ = some u) : w'.cell? ⟨b, j, none⟩ = some u := by
  rw [World.cell?_of_block (w := w) (hg.block b hb (fun e => hne e.symm))]; exact h
theorem Var.mark {b : Nat} {v : Value} {w w' : World} {r : Option Nat} (h : Var b v w) (hg : w.grownBy w' r) (hne : r ≠ some b) : Var b v w' := ⟨Nat.lt_of_lt_of_le h.lt hg.size, cell_grown hg h.lt hne h.c⟩
theorem Var.made {w : World} {v : Value} {t : TypeId} : Var w.heap.size v (w.alloc (.cells #[v] t)) := ⟨by simp, by rw [cell_of_row _ w.heap.size 0 _ _ _ (heap_alloc_new w _)]; rfl⟩
/-- A row of nodes that came in, below p. -/
structure In (p : Nat) (a : Option Addr) (ns : List Nd) (w : World) : Prop where
  le : p ≤ w.heap.size
  row : RowN p w a ns
theorem In.next {p : Nat} {a : Option Addr} {ns : List Nd} {w w' : World} (h : In p a ns w) (hb : Below w.heap.size w w') : In p a ns w' := ⟨Nat.le_trans h.le hb.size, h.row.later (hb.mono h.le)⟩
theorem In.mark {p : Nat} {a : Option Addr} {ns : List Nd} {w w' : World} {r : Option Nat} (h : In p a ns w) (hg : w.grownBy w' r) (hne : ∀ g, r = some g → p ≤ g) : In p a ns w' := by
  refine ⟨Nat.le_trans h.le hg.size, ?_⟩
  rcases h.row with h0 | ⟨b, off, e, hlt, hc⟩
  · exact .inl h0
  · refine .inr ⟨b, off, e, hlt, fun i hi => ?_⟩
    have hn : r ≠ some b := fun e => by have := hne b e; omega
    have hb : b < w.heap.size := Nat.lt_of_lt_of_le hlt h.le
    obtain ⟨c0, c1, c2, c3⟩ := hc i hi
    exact ⟨cell_grown hg hb hn c0, cell_grown hg hb hn c1, cell_grown hg hb hn c2, cell_grown hg hb hn c3⟩
theorem In.all {p : Nat} {a : Option Addr} {ns : List Nd} {w : World} (h : In p a ns w) : RowN w.heap.size w a ns := h.row.wide h.le
/-- A row of nodes that the law owns, its block from lo on, below hi. -/
structure Own (lo hi : Nat) (v : Value) (ns : List Nd) (w : World) : Prop where
  own : OwnN lo w v ns
  le : hi ≤ w.heap.size
  lt : ∀ k, v.ownBlock = some k → k < hi
theorem Own.made {lo : Nat} {v : Value} {ns : List Nd} {w : World} (h : OwnN lo w v ns) : Own lo w.heap.size v ns w := ⟨h, Nat.le_refl _, fun k hk => (h.lt k hk).2⟩
theorem Own.next {lo hi : Nat} {v : Value} {ns : List Nd} {w w' : World} (h : Own lo hi v ns w) (hb : Below w.heap.size w w') : Own lo hi v ns w' := by
  refine ⟨⟨h.own.1, ?_⟩, Nat.le_trans h.le hb.size, h.lt⟩
  rcases h.own.2 with h0 | ⟨g, cap, cur, e, hg, hh, rest⟩
  · exact .inl h0
  · exact .inr ⟨g, cap, cur, e, hg, (hb.block g (Array.getElem?_eq_some_iff.1 hh).1).trans hh, rest⟩
theorem Own.mark {lo hi : Nat} {v : Value} {ns : List Nd} {w w' : World} {r : Option Nat} (h : Own lo hi v ns w) (hg : w.grownBy w' r) (hne : ∀ g, r = some g → g < lo ∨ hi ≤ g) : Own lo hi v ns w' := by
  refine ⟨h.own.kept hg ?_, Nat.le_trans h.le hg.size, h.lt⟩
  cases hv : v.ownBlock with
  | none => exact .inl rfl
  | some k =>
    right
    intro e
    have h1 := h.own.lt k hv
    have h2 := h.lt k hv
    have h3 := hne k e.symm
    omega
theorem Own.row {lo hi : Nat} {v : Value} {ns : List Nd} {w : World} (h : Own lo hi v ns w) : ∃ a cap, v = .slice a ns.length cap ∧ AddrN a cap ∧ RowN w.heap.size w a ns := h.own.row
theorem Own.rowAt {lo hi : Nat} {a : Option Addr} {n cap : Nat} {ns : List Nd} {w : World} (h : Own lo hi (.slice a n cap) ns w) : RowN w.heap.size w a ns := by
  obtain ⟨a', cap', e, _, hr⟩ := h.own.row
  cases e
  exact hr
theorem Own.block {lo hi : Nat} {v : Value} {ns : List Nd} {w : World} (h : Own lo hi v ns w) : ∀ g, v.ownBlock = some g → lo ≤ g ∧ g < hi := fun g hg => ⟨(h.own.lt g hg).1, h.lt g hg⟩
theorem Own.rowIs {lo hi : Nat} {a : Option Addr} {n cap : Nat} {ns : List Nd} {w : World} (h : Own lo hi (.slice a n cap) ns w) : AddrN a cap := by
  obtain ⟨a', cap', e, ha, _⟩ := h.own.row
  cases e
  exact ha
/-- A node of the law's own type in memory. -/
structure NodeIn (b : Nat) (x : Nd) (w : World) : Prop where
  lt : b < w.heap.size
  c0 : w.cell? ⟨b, 0, none⟩ = some (.int .i64 x.k)
  c1 : w.cell? ⟨b, 1, none⟩ = some (.int .i64 x.n)
  c2 : w.cell? ⟨b, 2, none⟩ = some (.int .i64 x.a)
  c3 : w.cell? ⟨b, 3, none⟩ = some (.int .i64 x.b)
theorem NodeIn.next {b : Nat} {x : Nd} {w w' : World} (h : NodeIn b x w) (hb : Below w.heap.size w w') : NodeIn b x w' := ⟨Nat.lt_of_lt_of_le h.lt hb.size, (hb.cell (p := ⟨b, 0, none⟩) h.lt).trans h.c0, (hb.cell (p := ⟨b, 1, none⟩) h.lt).trans h.c1, (hb.cell (p := ⟨b, 2, none⟩) h.lt).trans h.c2, (hb.cell (p := ⟨b, 3, none⟩) h.lt).trans h.c3⟩
theorem NodeIn.mark {b : Nat} {x : Nd} {w w' : World} {r : Option Nat} (h : NodeIn b x w) (hg : w.grownBy w' r) (hne : r ≠ some b) : NodeIn b x w' := ⟨Nat.lt_of_lt_of_le h.lt hg.size, cell_grown hg h.lt hne h.c0, cell_grown hg h.lt hne h.c1, cell_grown hg h.lt hne h.c2, cell_grown hg h.lt hne h.c3⟩
theorem NodeIn.made {w : World} {x : Nd} {t : TypeId} : NodeIn w.heap.size x (w.alloc (.cells #[.int .i64 x.k, .int .i64 x.n, .int .i64 x.a, .int .i64 x.b] t)) := by
  have hn := heap_alloc_new w (.cells #[.int .i64 x.k, .int .i64 x.n, .int .i64 x.a, .int .i64 x.b] t)
  exact ⟨by simp, (cell_of_row _ w.heap.size 0 _ _ _ hn).trans rfl, (cell_of_row _ w.heap.size 1 _ _ _ hn).trans rfl, (cell_of_row _ w.heap.size 2 _ _ _ hn).trans rfl, (cell_of_row _ w.heap.size 3 _ _ _ hn).trans rfl⟩
end Go.Proofs.Ytnjihmailppjkaa

namespace Go.Proofs.Ytnjihmailppjkaa
open Go.RowKit
set_option linter.unusedVariables false

/-- A row of integers in memory, below B. -/
def RowI (B : Nat) (w : World) (a : Option Addr) (xs : List Int) : Prop := xs = [] ∨ ∃ b off, a = some ⟨b, off, none⟩ ∧ b < B ∧ ∀ j, j < xs.length → w.cell? ⟨b, off + j, none⟩ = some (.int .i64 (xs.getD j 0))
theorem RowI.at {B : Nat} {w w' : World} {b off : Nat} {xs : List Int} (h : RowI B w (some ⟨b, off, none⟩) xs) (hb : Below B w w') {i : Nat} (hi : i < xs.length) : b < B ∧ w'.cell? ⟨b, off + i, none⟩ = some (.int .i64 (xs.getD i 0)) := by
  rcases h with h0 | ⟨b', off', e, hlt, hc⟩
  · rw [h0] at hi; simp at hi
  · cases e
    exact ⟨hlt, (hb.cell hlt).trans (hc i hi)⟩
theorem RowI.addr {B : Nat} {w : World} {a : Option Addr} {xs : List Int} (h : RowI B w a xs) {i : Nat} (hi : i < xs.length) : ∃ b off, a = some ⟨b, off, none⟩ := by
  rcases h with h0 | ⟨b', off', e, _⟩
  · rw [h0] at hi; simp at hi
  · exact ⟨b', off', e⟩
theorem RowI.later {B : Nat} {w w' : World} {a : Option Addr} {xs : List Int} (h : RowI B w a xs) (hb : Below B w w') : RowI B w' a xs := by
  rcases h with h0 | ⟨b, off, e, hlt, hc⟩
  · exact .inl h0
  · exact .inr ⟨b, off, e, hlt, fun j hj => (hb.cell hlt).trans (hc j hj)⟩
theorem RowI.wide {B B' : Nat} {w : World} {a : Option Addr} {xs : List Int} (h : RowI B w a xs) (hB : B ≤ B') : RowI B' w a xs := by
  rcases h with h0 | ⟨b, off, e, hlt, hc⟩
  · exact .inl h0
  · exact .inr ⟨b, off, e, Nat.lt_of_lt_of_le hlt hB, hc⟩
theorem RowI.grown {w w' : World} {a : Option Addr} {xs : List Int} (h : RowI w.heap.size w a xs) (hb : Below w.heap.size w w') : RowI w'.heap.size w' a xs := (h.later hb).wide hb.size
/-- A row of integers that the call owns. -/
def OwnInt (base : Nat) (w : World) (v : Value) (xs : List Int) : Prop := w.ownsRow base 3 1 v xs.length (xs.map (Value.int .i64))
theorem OwnInt.row {base : Nat} {w : World} {v : Value} {xs : List Int} (h : OwnInt base w v xs) : ∃ a cap, v = .slice a xs.length cap ∧ AddrN a cap ∧ RowI w.heap.size w a xs := by
  rcases Nat.eq_zero_or_pos xs.length with h0 | h0
  · rcases h.2 with ⟨rfl, _⟩ | ⟨g, cap, cur, rfl, _⟩
    · exact ⟨none, 0, by rw [h0], .inl ⟨rfl, rfl⟩, .inl (List.length_eq_zero_iff.1 h0)⟩
    · exact ⟨_, cap, rfl, .inr ⟨g, 0, rfl⟩, .inl (List.length_eq_zero_iff.1 h0)⟩
  · obtain ⟨g, cap, rfl, hg, hlt, hc⟩ := own_ints h h0
    exact ⟨_, cap, rfl, .inr ⟨g, 0, rfl⟩, .inr ⟨g, 0, rfl, hlt, fun j hj => by rw [Nat.zero_add]; exact hc j hj⟩⟩
theorem OwnInt.later {B : Nat} {w w' : World} {v : Value} {xs : List Int} (h : OwnInt B w v xs) (hb : Below w.heap.size w w') : OwnInt B w' v xs := own_next h hb
theorem OwnInt.base {B B' : Nat} {w : World} {v : Value} {xs : List Int} (h : OwnInt B w v xs) (hb : B' ≤ B) : OwnInt B' w v xs := own_base h hb
/-- A row of integers that the law owns, its block from lo on, below hi. -/
structure OwnZ (lo hi : Nat) (v : Value) (xs : List Int) (w : World) : Prop where
  own : OwnInt lo w v xs
  le : hi ≤ w.heap.size
  lt : ∀ k, v.ownBlock = some k → k < hi
theorem OwnZ.made {lo : Nat} {v : Value} {xs : List Int} {w : World} (h : OwnInt lo w v xs) : OwnZ lo w.heap.size v xs w := ⟨h, Nat.le_refl _, fun k hk => (World.ownsRow.lt h k hk).2⟩
theorem OwnZ.next {lo hi : Nat} {v : Value} {xs : List Int} {w w' : World} (h : OwnZ lo hi v xs w) (hb : Below w.heap.size w w') : OwnZ lo hi v xs w' := ⟨h.own.later hb, Nat.le_trans h.le hb.size, h.lt⟩
theorem OwnZ.mark {lo hi : Nat} {v : Value} {xs : List Int} {w w' : World} {r : Option Nat} (h : OwnZ lo hi v xs w) (hg : w.grownBy w' r) (hne : ∀ g, r = some g → g < lo ∨ hi ≤ g) : OwnZ lo hi v xs w' := by
  refine ⟨World.ownsRow.kept h.own hg ?_, Nat.le_trans h.le hg.size, h.lt⟩
  cases hv : v.ownBlock with
  | none => exact .inl rfl
  | some k =>
    right
    intro e
    have h1 := World.ownsRow.lt h.own k hv
    have h2 := h.lt k hv
    have h3 := hne k e.symm
    omega
theorem OwnZ.rowAt {lo hi : Nat} {a : Option Addr} {n cap : Nat} {xs : List Int} {w : World} (h : OwnZ lo hi (.slice a n cap) xs w) : RowI w.heap.size w a xs := by
  obtain ⟨a', cap', e, _, hr⟩ := h.own.row
  cases e
  exact hr
theorem OwnZ.block {lo hi : Nat} {v : Value} {xs : List Int} {w : World} (h : OwnZ lo hi v xs w) : ∀ g, v.ownBlock = some g → lo ≤ g ∧ g < hi := fun g hg => ⟨(World.ownsRow.lt h.own g hg).1, h.lt g hg⟩

/-- The marks of a row. -/
def marksI (k : Int) : Nat → List Int
  | 0 => []
  | n + 1 => marksI k n ++ [k + (n : Int)]
theorem marksI_len (k : Int) : ∀ n, (marksI k n).length = n
  | 0 => rfl
  | n + 1 => by simp [marksI, marksI_len k n]
theorem marksI_at (k : Int) : ∀ n i, i < n → (marksI k n).getD i 0 = k + (i : Int)
  | 0, i, h => by omega
  | n + 1, i, h => by
    rw [marksI, List.getD_eq_getElem?_getD]
    by_cases hi : i < n
    · rw [List.getElem?_append_left (by rw [marksI_len]; exact hi), ← List.getD_eq_getElem?_getD]; exact marksI_at k n i hi
    · obtain rfl : i = n := by omega
      rw [List.getElem?_append_right (by rw [marksI_len]; exact Nat.le_refl _), marksI_len]; simp
end Go.Proofs.Ytnjihmailppjkaa
