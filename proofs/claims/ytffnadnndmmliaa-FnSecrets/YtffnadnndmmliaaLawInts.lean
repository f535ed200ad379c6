/- The laws' own helpers over rows of integers: eqIntS, markIntS, heldIntS; and what a law keeps of such a row. -/
import Derived.Test.YtffnadnndmmliaaLawArena3
import Derived.Test.YtffnadnndmmliaaLawKeep
import Derived.Test.YtffnadnndmmliaaPlain
import Derived.WalkKit
import Derived.WalkLawsBesides
import Derived.WalkSpells
import Derived.OwnWalk
import Derived.Laws.OwnMore
import Derived.Laws.Rows
namespace Go.Proofs.Ytffnadnndmmliaa
open Go.RowKit
set_option linter.unusedVariables false

/-- A row of integers in memory, below B. -/
def RowI (B : Nat) (w : World) (a : Option Addr) (xs : List Int) : Prop := xs = [] ∨ ∃ b off, a = some ⟨b, off, none⟩ ∧ b < B ∧ ∀ j, j < xs.length → w.cell? ⟨b, off + j, none⟩ = some (.int .i64 (xs.getD j 0))
theorem RowI.at {B : Nat} {w w' : World} {b off : Nat} {xs : List Int} (h : RowI B w (some ⟨b, off, none⟩) xs) (hb : Below B w w') {i : Nat} (hi : i < xs.length) : b < B ∧ w'.cell? ⟨b, off + i, none⟩ = some (.int .i64 (xs.getD i 0)) := by
  rcases h with h0 | ⟨b', off', e, hlt, hc⟩
  · rw [h0] at hi; simp at hi
  · cases e
    exact ⟨hlt, (hb.cell hlt).trans (hc i hi)⟩
theorem RowI.addr {B : Nat} {w : World} {a : Option Addr} {xs : List Int} (h : RowI B w a xs) {i : Nat} (hi : i < xs.length) : ∃ b off, a = some ⟨b, off, none⟩ := by
  rcases h with h0 | ⟨b', off', e, _⟩
  · rw [h0] at hi; simp at hi
  · exact ⟨b', off', e⟩
theorem RowI.later {B : Nat} {w w' : World} {a : Option Addr} {xs : List Int} (h : RowI B w a xs) (hb : Below B w w') : RowI B w' a xs := by
  rcases h with h0 | ⟨b, off, e, hlt, hc⟩
  · exact .inl h0
  · exact .inr ⟨b, off, e, hlt, fun j hj => (hb.cell hlt).trans (hc j hj)⟩
theorem RowI.wide {B B' : Nat} {w : World} {a : Option Addr} {xs : List Int} (h : RowI B w a xs) (hB : B ≤ B') : RowI B' w a xs := by
  rcases h with h0 | ⟨b, off, e, hlt, hc⟩
  · exact .inl h0
  · exact .inr ⟨b, off, e, Nat.lt_of_lt_of_le hlt hB, hc⟩
theorem RowI.grown {w w' : World} {a : Option Addr} {xs : List Int} (h : RowI w.heap.size w a xs) (hb : Below w.heap.size w w') : RowI w'.heap.size w' a xs := (h.later hb).wide hb.size
/-- A row of integers that the call owns. -/
def OwnInt (base : Nat) (w : World) (v : Value) (xs : List Int) : Prop := w.ownsRow base 3 1 v xs.length (xs.map (Value.int .i64))
theorem OwnInt.row {base : Nat} {w : World} {v : Value} {xs : List Int} (h : OwnInt base w v xs) : ∃ a cap, v = .slice a xs.length cap ∧ AddrN a cap ∧ RowI w.heap.size w a xs := by
  rcases Nat.eq_zero_or_pos xs.length with h0 | h0
  · rcases h.2 with ⟨rfl, _⟩ | ⟨g, cap, cur, rfl, _⟩
    · exact ⟨none, 0, by rw [h0], .inl ⟨rfl, rfl⟩, .inl (List.length_eq_zero_iff.1 h0)⟩
    · exact ⟨_, cap, rfl, .inr ⟨g, 0, rfl⟩, .inl (List.length_eq_zero_iff.1 h0)⟩
  · obtain ⟨g, cap, rfl, hg, hlt, hc⟩ := own_ints h h0
    exact ⟨_, cap, rfl, .inr ⟨g, 0, rfl⟩, .inr ⟨g, 0, rfl, hlt, fun j hj => by rw [Nat.zero_add]; exact hc j hj⟩⟩
theorem OwnInt.later {B : Nat} {w w' : World} {v : Value} {xs : List Int} (h : OwnInt B w v xs) (hb : Below w.heap.size w w') : OwnInt B w' v xs := own_next h hb
theorem OwnInt.base {B B' : Nat} {w : World} {v : Value} {xs : List Int} (h : OwnInt B w v xs) (hb : B' ≤ B) : OwnInt B' w v xs := own_base h hb
/-- A row of integers that the law owns, its block from lo on, below hi. -/
structure OwnZ (lo hi : Nat) (v : Value) (xs : List Int) (w : World) : Prop where
  own : OwnInt lo w v xs
  le : hi ≤ w.heap.size
  lt : ∀ k, v.ownBlock = some k → k < hi
theorem OwnZ.made {lo : Nat} {v : Value} {xs : List Int} {w : World} (h : OwnInt lo w v xs) : OwnZ lo w.heap.size v xs w := ⟨h, Nat.le_refl _, fun k hk => (World.ownsRow.lt h k hk).2⟩
theorem OwnZ.next {lo hi : Nat} {v : Value} {xs : List Int} {w w' : World} (h : OwnZ lo hi v xs w) (hb : Below w.heap.size w w') : OwnZ lo hi v xs w' := ⟨h.own.later hb, Nat.le_trans h.le hb.size, h.lt⟩
theorem OwnZ.mark {lo hi : Nat} {v : Value} {xs : List Int} {w w' : World} {r : Option Nat} (h : OwnZ lo hi v xs w) (hg : w.grownBy w' r) (hne : ∀ g, r = some g → g < lo ∨ hi ≤ g) : OwnZ lo hi v xs w' := by
  refine ⟨World.ownsRow.kept h.own hg ?_, Nat.le_trans h.le hg.size, h.lt⟩
  cases hv : v.ownBlock with
  | none => exact .inl rfl
  | some k =>
    right
    intro e
    have h1 := World.ownsRow.lt h.own k hv
    have h2 := h.lt k hv
    have h3 := hne k e.symm
    omega
theorem OwnZ.rowAt {lo hi : Nat} {a : Option Addr} {n cap : Nat} {xs : List Int} {w : World} (h : OwnZ lo hi (.slice a n cap) xs w) : RowI w.heap.size w a xs := by
  obtain ⟨a', cap', e, _, hr⟩ := h.own.row
  cases e
  exact hr
theorem OwnZ.block {lo hi : Nat} {v : Value} {xs : List Int} {w : World} (h : OwnZ lo hi v xs w) : ∀ g, v.ownBlock = some g → lo ≤ g ∧ g < hi := fun g hg => ⟨(World.ownsRow.lt h.own g hg).1, h.lt g hg⟩

/-- The marks of a row. -/
def marksI (k : Int) : Nat → List Int
  | 0 => []
  | n + 1 => marksI k n ++ [k + (n : Int)]
theorem marksI_len (k : Int) : ∀ n, (marksI k n).length = n
  | 0 => rfl
  | n + 1 => by simp [marksI, marksI_len k n]
theorem marksI_at (k : Int) : ∀ n i, i < n → (marksI k n).getD i 0 = k + (i : Int)
  | 0, i, h => by omega
  | n + 1, i, h => by
    rw [marksI, List.getD_eq_getElem?_getD]
    by_cases hi : i < n
    · rw [List.getElem?_append_left (by rw [marksI_len]; exact hi), ← List.getD_eq_getElem?_getD]; exact marksI_at k n i hi
    · obtain rfl : i = n := by omega
      rw [List.getElem?_append_right (by rw [marksI_len]; exact Nat.le_refl _), marksI_len]; simp
end Go.Proofs.Ytffnadnndmmliaa

namespace Go.Proofs.Ytffnadnndmmliaa
open Go.RowKit

/-- A variable of an arena in memory. -/
structure Box (g : Nat) (v : Value) (w : World) : Prop where
  row : w.heap[g]? = some (.cells #[v] 28 (0, 0))
theorem Box.lt {g : Nat} {v : Value} {w : World} (h : Box g v w) : g < w.heap.size := (Array.getElem?_eq_some_iff.1 h.row).1
theorem Box.c {g : Nat} {v : Value} {w : World} (h : Box g v w) : w.cell? ⟨g, 0, none⟩ = some v := (cell_of_row _ _ 0 _ _ _ h.row).trans rfl
theorem Box.fr {g : Nat} {v : Value} {w : World} (h : Box g v w) : w.frozen? ⟨g, 0, none⟩ = false := frozen_of_row _ _ 0 _ _ h.row
theorem Box.next {g : Nat} {v : Value} {w w' : World} (h : Box g v w) (hb : Below w.heap.size w w') : Box g v w' := ⟨(hb.block g h.lt).trans h.row⟩
theorem Box.set {g : Nat} {v : Value} {w : World} (h : Box g v w) (u : Value) : Box g u (w.setCell ⟨g, 0, none⟩ u) := ⟨(heap_setCell_same _ _ 0 _ _ _ h.row).trans rfl⟩
theorem Box.made {w : World} {v : Value} : Box w.heap.size v (w.alloc (.cells #[v] 28)) := ⟨heap_alloc_new w _⟩
theorem Own.set {lo hi g : Nat} {v u : Value} {ns : List Nd} {w : World} (h : Own lo hi v ns w) (hg : g < lo) : Own lo hi v ns (w.setCell ⟨g, 0, none⟩ u) := ⟨ownsRow_setCell_below h.own hg _, by simpa using h.le, h.lt⟩
theorem OwnZ.set {lo hi g : Nat} {v u : Value} {xs : List Int} {w : World} (h : OwnZ lo hi v xs w) (hg : g < lo) : OwnZ lo hi v xs (w.setCell ⟨g, 0, none⟩ u) := ⟨ownsRow_setCell_below h.own hg _, by simpa using h.le, h.lt⟩
/-- The first three places that were drawn. -/
structure Pl (g : Nat) (p0 p1 p2 : Nat) (w : World) : Prop where
  lt : g < w.heap.size
  c0 : w.cell? ⟨g, 0, none⟩ = some (.int .i64 (p0 : Int))
  c1 : w.cell? ⟨g, 1, none⟩ = some (.int .i64 (p1 : Int))
  c2 : w.cell? ⟨g, 2, none⟩ = some (.int .i64 (p2 : Int))
theorem Pl.next {g p0 p1 p2 : Nat} {w w' : World} (h : Pl g p0 p1 p2 w) (hb : Below w.heap.size w w') : Pl g p0 p1 p2 w' := ⟨Nat.lt_of_lt_of_le h.lt hb.size, (hb.cell (p := ⟨g, 0, none⟩) h.lt).trans h.c0, (hb.cell (p := ⟨g, 1, none⟩) h.lt).trans h.c1, (hb.cell (p := ⟨g, 2, none⟩) h.lt).trans h.c2⟩
theorem Pl.set {g p0 p1 p2 b : Nat} {u : Value} {w : World} (h : Pl g p0 p1 p2 w) (hb : g ≠ b) : Pl g p0 p1 p2 (w.setCell ⟨b, 0, none⟩ u) := by
  have e : ∀ i, (w.setCell ⟨b, 0, none⟩ u).cell? ⟨g, i, none⟩ = w.cell? ⟨g, i, none⟩ := fun i => World.cell?_of_block (Below.heap_setCell _ _ _ _ hb)
  exact ⟨by simpa using h.lt, (e 0).trans h.c0, (e 1).trans h.c1, (e 2).trans h.c2⟩
end Go.Proofs.Ytffnadnndmmliaa
