/- Rows of numbers of one kind in memory, told by a list; over any dump. -/
import Derived.Test.YtopdjfgomclffaaArrW
namespace Go.Proofs.Ytopdjfgomclffaa
open Go.RowKit
set_option linter.unusedVariables false
/-- The cells of a list of numbers. -/
def rowL (k : IntKind) (l : List Int) : Array Value := (l.map (Value.int k)).toArray
theorem rowL_size (k : IntKind) (l : List Int) : (rowL k l).size = l.length := by simp [rowL]
theorem rowL_get (k : IntKind) {l : List Int} {i : Nat} (h : i < l.length) : (rowL k l)[i]? = some (.int k (l.getD i 0)) := by
  simp [rowL, List.getD, List.getElem?_eq_getElem h]
theorem rowL_one (k : IntKind) (l : List Int) : (rowL k l).all (·.oneCell') = true := by
  rw [Array.all_eq_true]
  intro i hi
  have h := rowL_get k (show i < l.length by rw [rowL_size] at hi; exact hi)
  rw [Array.getElem?_eq_getElem hi] at h
  rw [Option.some.inj h]; rfl
theorem rowL_set (k : IntKind) (l : List Int) (i : Nat) (x : Int) : (rowL k l).setIfInBounds i (.int k x) = rowL k (l.set i x) := by
  unfold rowL
  rw [List.setIfInBounds_toArray, List.map_set]
/-- A block that is such a row. -/
def RowZ (w : World) (g : Nat) (t : TypeId) (k : IntKind) (l : List Int) : Prop := w.heap[g]? = some (.cells (rowL k l) t (0, 0))
theorem RowZ.cell {w : World} {g i : Nat} {t : TypeId} {k : IntKind} {l : List Int} (h : RowZ w g t k l) (hi : i < l.length) : w.cell? ⟨g, i, none⟩ = some (.int k (l.getD i 0)) :=
  (cell_of_row _ _ _ _ _ _ h).trans (rowL_get k hi)
theorem RowZ.froz {w : World} {g : Nat} {t : TypeId} {k : IntKind} {l : List Int} (h : RowZ w g t k l) (i : Nat) : w.frozen? ⟨g, i, none⟩ = false := frozen_of_row _ _ _ _ _ h
theorem RowZ.lt {w : World} {g : Nat} {t : TypeId} {k : IntKind} {l : List Int} (h : RowZ w g t k l) : g < w.heap.size := (Array.getElem?_eq_some_iff.1 h).1
theorem RowZ.set {w : World} {g : Nat} {t : TypeId} {k : IntKind} {l : List Int} (h : RowZ w g t k l) (i : Nat) (x : Int) : RowZ (w.setCell ⟨g, i, none⟩ (.int k x)) g t k (l.set i x) := by
  show _ = _
  rw [heap_setCell_same w g i _ _ _ h, rowL_set k l i x]
theorem RowZ.drew {w : World} {g : Nat} {t : TypeId} {k : IntKind} {l : List Int} (h : RowZ w g t k l) : RowZ w.drew g t k l := h
theorem RowZ.below {B : Nat} {w w' : World} {g : Nat} {t : TypeId} {k : IntKind} {l : List Int} (h : RowZ w g t k l) (hb : Below B w w') (hg : g < B) : RowZ w' g t k l := (hb.block g hg).trans h
theorem RowZ.next {w w' : World} {g : Nat} {t : TypeId} {k : IntKind} {l : List Int} (h : RowZ w g t k l) (hb : Below w.heap.size w w') : RowZ w' g t k l := h.below hb h.lt
theorem RowZ.other {w : World} {g g' i : Nat} {t : TypeId} {k : IntKind} {l : List Int} (h : RowZ w g t k l) (u : Value) (hne : g ≠ g') : RowZ (w.setCell ⟨g', i, none⟩ u) g t k l := (Below.heap_setCell _ _ _ _ hne).trans h
theorem RowZ.grown {w w' : World} {g h : Nat} {t : TypeId} {k : IntKind} {l : List Int} (hr : RowZ w g t k l) (hb : w.grownBy w' (some h)) (hne : g ≠ h) : RowZ w' g t k l :=
  (hb.block g hr.lt (by simpa using hne)).trans hr
end Go.Proofs.Ytopdjfgomclffaa
