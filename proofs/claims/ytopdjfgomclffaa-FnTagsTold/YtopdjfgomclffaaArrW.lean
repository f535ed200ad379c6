/- Rows of numbers of one kind in memory, told by a function of the place; over any dump. -/
import Derived.WalkKit
import Derived.Laws.Rows
import Derived.Deep.WholeRow
import Derived.Deep.Cut
import Derived.Great.BuildSlice
namespace Go.Proofs.Ytopdjfgomclffaa
open Go.RowKit
set_option linter.unusedVariables false
set_option linter.unusedSimpArgs false
/-- The cells of a row of numbers. -/
def rowV (k : IntKind) (n : Nat) (f : Nat → Nat) : Array Value := ((List.range n).map fun i => Value.int k ((f i : Nat) : Int)).toArray
theorem rowV_size (k : IntKind) (n : Nat) (f : Nat → Nat) : (rowV k n f).size = n := by simp [rowV]
theorem rowV_get (k : IntKind) {n i : Nat} (f : Nat → Nat) (h : i < n) : (rowV k n f)[i]? = some (.int k ((f i : Nat) : Int)) := by
  simp [rowV, List.getElem?_map, List.getElem?_range h]
theorem rowV_one (k : IntKind) (n : Nat) (f : Nat → Nat) : (rowV k n f).all (·.oneCell') = true := by
  rw [Array.all_eq_true]
  intro i hi
  have h := rowV_get k f (show i < n by rw [rowV_size] at hi; exact hi)
  rw [Array.getElem?_eq_getElem hi] at h
  rw [Option.some.inj h]; rfl
def upd (f : Nat → Nat) (i x : Nat) : Nat → Nat := fun j => if j = i then x else f j
theorem upd_same (f : Nat → Nat) (i x : Nat) : upd f i x i = x := if_pos rfl
theorem upd_other (f : Nat → Nat) {i j : Nat} (x : Nat) (h : j ≠ i) : upd f i x j = f j := if_neg h
theorem rowV_ext {k : IntKind} {n : Nat} {f g : Nat → Nat} (h : ∀ i, i < n → f i = g i) : rowV k n f = rowV k n g := by
  unfold rowV; congr 1
  apply List.map_congr_left
  intro i hi
  rw [h i (List.mem_range.1 hi)]
theorem rowV_upd (k : IntKind) {n i : Nat} (f : Nat → Nat) (x : Nat) (h : i < n) : (rowV k n f).setIfInBounds i (.int k ((x : Nat) : Int)) = rowV k n (upd f i x) := by
  apply Array.ext_getElem?
  intro j
  by_cases hj : j < n
  · rw [rowV_get k _ hj, Array.getElem?_setIfInBounds]
    by_cases e : i = j
    · subst e; rw [if_pos rfl, if_pos (by rw [rowV_size]; exact h), upd_same]
    · rw [if_neg e, rowV_get k _ hj, upd_other _ _ (Ne.symm e)]
  · rw [Array.getElem?_eq_none (by rw [Array.size_setIfInBounds, rowV_size]; omega), Array.getElem?_eq_none (by rw [rowV_size]; omega)]
/-- A block that is such a row. -/
def RowAt (w : World) (g : Nat) (t : TypeId) (k : IntKind) (n : Nat) (f : Nat → Nat) : Prop := w.heap[g]? = some (.cells (rowV k n f) t (0, 0))
theorem RowAt.cell {w : World} {g n i : Nat} {t : TypeId} {k : IntKind} {f : Nat → Nat} (h : RowAt w g t k n f) (hi : i < n) : w.cell? ⟨g, i, none⟩ = some (.int k ((f i : Nat) : Int)) :=
  (cell_of_row _ _ _ _ _ _ h).trans (rowV_get k f hi)
theorem RowAt.froz {w : World} {g n : Nat} {t : TypeId} {k : IntKind} {f : Nat → Nat} (h : RowAt w g t k n f) (i : Nat) : w.frozen? ⟨g, i, none⟩ = false := frozen_of_row _ _ _ _ _ h
theorem RowAt.lt {w : World} {g n : Nat} {t : TypeId} {k : IntKind} {f : Nat → Nat} (h : RowAt w g t k n f) : g < w.heap.size := (Array.getElem?_eq_some_iff.1 h).1
theorem RowAt.set {w : World} {g n i : Nat} {t : TypeId} {k : IntKind} {f : Nat → Nat} (h : RowAt w g t k n f) (hi : i < n) (x : Nat) : RowAt (w.setCell ⟨g, i, none⟩ (.int k ((x : Nat) : Int))) g t k n (upd f i x) := by
  show _ = _
  rw [heap_setCell_same w g i _ _ _ h, rowV_upd k f x hi]
theorem RowAt.drew {w : World} {g n : Nat} {t : TypeId} {k : IntKind} {f : Nat → Nat} (h : RowAt w g t k n f) : RowAt w.drew g t k n f := h
theorem RowAt.below {B : Nat} {w w' : World} {g n : Nat} {t : TypeId} {k : IntKind} {f : Nat → Nat} (h : RowAt w g t k n f) (hb : Below B w w') (hg : g < B) : RowAt w' g t k n f := (hb.block g hg).trans h
theorem RowAt.ext {w : World} {g n : Nat} {t : TypeId} {k : IntKind} {f f' : Nat → Nat} (h : RowAt w g t k n f) (e : ∀ i, i < n → f i = f' i) : RowAt w g t k n f' := by
  have := rowV_ext (k := k) e; unfold RowAt at h ⊢; rw [← this]; exact h
/-- What a callee leaves that turns block g alone: the world but for g, and for what is new. -/
theorem gb_trans {w w1 w2 : World} {r : Option Nat} (h : w.grownBy w1 r) (h' : w1.grownBy w2 r) : w.grownBy w2 r :=
  ⟨h'.os.trans h.os, h'.tape.trans h.tape, h'.output.trans h.output, Nat.le_trans h.size h'.size, fun k hk hne => (h'.block k (Nat.lt_of_lt_of_le hk h.size) hne).trans (h.block k hk hne)⟩
theorem gb_refl (w : World) (r : Option Nat) : w.grownBy w r := ⟨rfl, rfl, rfl, Nat.le_refl _, fun _ _ _ => rfl⟩
theorem gb_cell (w : World) (g j : Nat) (u : Value) : w.grownBy (w.setCell ⟨g, j, none⟩ u) (some g) :=
  ⟨rfl, rfl, rfl, by simp, fun k _ hne => Below.heap_setCell _ _ _ _ (by simpa using hne)⟩
theorem gb_drew (w : World) (r : Option Nat) : w.grownBy w.drew r := ⟨rfl, rfl, rfl, Nat.le_refl _, fun _ _ _ => rfl⟩
theorem gb_below {w w' : World} (h : Below w.heap.size w w') (r : Option Nat) : w.grownBy w' r :=
  ⟨h.os, h.tape, h.output, h.size, fun k hk _ => h.block k hk⟩
theorem RowAt.grown {w w' : World} {g h n : Nat} {t : TypeId} {k : IntKind} {f : Nat → Nat} (hr : RowAt w g t k n f) (hb : w.grownBy w' (some h)) (hne : g ≠ h) : RowAt w' g t k n f :=
  (hb.block g hr.lt (by simpa using hne)).trans hr
theorem below_gb {B : Nat} {w w1 w2 : World} {g : Nat} (h : Below B w w1) (hB : B ≤ w1.heap.size) (h' : w1.grownBy w2 (some g)) (hg : B ≤ g) : Below B w w2 :=
  ⟨h'.os.trans h.os, h'.tape.trans h.tape, h'.output.trans h.output, Nat.le_trans h.size h'.size, fun k hk => (h'.block k (by omega) (by simp; omega)).trans (h.block k hk)⟩
end Go.Proofs.Ytopdjfgomclffaa
