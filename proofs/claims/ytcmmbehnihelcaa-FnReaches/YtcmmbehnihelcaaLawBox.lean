/- A law's variable that holds an arena and is set anew; the places that were drawn; what stays when it is set. -/
import Derived.Test.YtcmmbehnihelcaaLawKeep
import Derived.Test.YtcmmbehnihelcaaLawInts
import Derived.WalkKit
import Derived.WalkLawsBesides
import Derived.Laws.Rows
namespace Go.Proofs.Ytcmmbehnihelcaa
open Go.RowKit

/-- A variable of an arena in memory. -/
structure Box (g : Nat) (v : Value) (w : World) : Prop where
  row : w.heap[g]? = some (.cells #[v] 26 (0, 0))
theorem Box.lt {g : Nat} {v : Value} {w : World} (h : Box g v w) : g < w.heap.size := (Array.getElem?_eq_some_iff.1 h.row).1
theorem Box.c {g : Nat} {v : Value} {w : World} (h : Box g v w) : w.cell? ⟨g, 0, none⟩ = some v := (cell_of_row _ _ 0 _ _ _ h.row).trans rfl
theorem Box.fr {g : Nat} {v : Value} {w : World} (h : Box g v w) : w.frozen? ⟨g, 0, none⟩ = false := frozen_of_row _ _ 0 _ _ h.row
theorem Box.next {g : Nat} {v : Value} {w w' : World} (h : Box g v w) (hb : Below w.heap.size w w') : Box g v w' := ⟨(hb.block g h.lt).trans h.row⟩
theorem Box.set {g : Nat} {v : Value} {w : World} (h : Box g v w) (u : Value) : Box g u (w.setCell ⟨g, 0, none⟩ u) := ⟨(heap_setCell_same _ _ 0 _ _ _ h.row).trans rfl⟩
theorem Box.made {w : World} {v : Value} : Box w.heap.size v (w.alloc (.cells #[v] 26)) := ⟨heap_alloc_new w _⟩
theorem Own.set {lo hi g : Nat} {v u : Value} {ns : List Nd} {w : World} (h : Own lo hi v ns w) (hg : g < lo) : Own lo hi v ns (w.setCell ⟨g, 0, none⟩ u) := ⟨ownsRow_setCell_below h.own hg _, by simpa using h.le, h.lt⟩
theorem OwnZ.set {lo hi g : Nat} {v u : Value} {xs : List Int} {w : World} (h : OwnZ lo hi v xs w) (hg : g < lo) : OwnZ lo hi v xs (w.setCell ⟨g, 0, none⟩ u) := ⟨ownsRow_setCell_below h.own hg _, by simpa using h.le, h.lt⟩
/-- The first three places that were drawn. -/
structure Pl (g : Nat) (p0 p1 p2 : Nat) (w : World) : Prop where
  lt : g < w.heap.size
  c0 : w.cell? ⟨g, 0, none⟩ = some (.int .i64 (p0 : Int))
  c1 : w.cell? ⟨g, 1, none⟩ = some (.int .i64 (p1 : Int))
  c2 : w.cell? ⟨g, 2, none⟩ = some (.int .i64 (p2 : Int))
theorem Pl.next {g p0 p1 p2 : Nat} {w w' : World} (h : Pl g p0 p1 p2 w) (hb : Below w.heap.size w w') : Pl g p0 p1 p2 w' := ⟨Nat.lt_of_lt_of_le h.lt hb.size, (hb.cell (p := ⟨g, 0, none⟩) h.lt).trans h.c0, (hb.cell (p := ⟨g, 1, none⟩) h.lt).trans h.c1, (hb.cell (p := ⟨g, 2, none⟩) h.lt).trans h.c2⟩
theorem Pl.set {g p0 p1 p2 b : Nat} {u : Value} {w : World} (h : Pl g p0 p1 p2 w) (hb : g ≠ b) : Pl g p0 p1 p2 (w.setCell ⟨b, 0, none⟩ u) := by
  have e : ∀ i, (w.setCell ⟨b, 0, none⟩ u).cell? ⟨g, i, none⟩ = w.cell? ⟨g, i, none⟩ := fun i => World.cell?_of_block (Below.heap_setCell _ _ _ _ hb)
  exact ⟨by simpa using h.lt, (e 0).trans h.c0, (e 1).trans h.c1, (e 2).trans h.c2⟩
end Go.Proofs.Ytcmmbehnihelcaa
