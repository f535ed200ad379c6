/- l04List of a list that is written out, the specification's. -/
import Derived.Test.YtffnadnndmmliaaArenaD
import Derived.WalkKit
import Derived.WalkLawsBesides
import Derived.WalkSpells
import Derived.Laws.Rows
namespace Go.Proofs.Ytffnadnndmmliaa
open Go.RowKit
set_option linter.unusedVariables false
/-- A row of ints that was just made. -/
theorem rowD_new (D : Nat → Prop) (w : World) (xs : List Int) : RowD (fun k => D k ∨ k = w.heap.size) (w.alloc (.cells (xs.map (Value.int .i64)).toArray 3)) (some ⟨w.heap.size, 0, none⟩) xs := by
  refine .inr ⟨w.heap.size, 0, rfl, .inr rfl, fun j hj => ?_⟩
  rw [Nat.zero_add]
  refine (cell_of_row _ w.heap.size j _ _ _ (heap_alloc_new w _)).trans ?_
  simp [List.getD_eq_getElem?_getD, List.getElem?_eq_getElem hj]
/-- l04List of a list that is written out. -/
theorem listLit_any (D : Nat → Prop) (g : Nat) (ns : List Nd) (xs : List Int) (w : World) (hl : ns.length ≤ 1048576) (hxl : xs.length ≤ 2000000) (h : ArD D w g ns) (hB : ∀ k, D k → k < w.heap.size) :
    Calls Try.prog 138 #[.pointer (some ⟨g, 0, none⟩), .slice (some ⟨w.heap.size, 0, none⟩) xs.length xs.length] (w.alloc (.cells (xs.map (Value.int .i64)).toArray 3)) fun e w' => e = .returned (.int .i64 (listF xs ns).2) ∧ ArD D w' g (listF xs ns).1 ∧ Safe D w w' := by
  have hbA : Below w.heap.size w (w.alloc (.cells (xs.map (Value.int .i64)).toArray 3)) := (Below.refl _ _).alloc (Nat.le_refl _) _
  refine (listD_any (fun k => D k ∨ k = w.heap.size) g ns _ xs.length xs _ hl hxl (rowD_new D w xs) (h.wide (Nat.le_refl _) _ hbA) (fun k hk => ?_)).mono fun e w' ⟨he, ha, hs⟩ => ⟨he, ha.narrow (fun k hk => .inl hk), (Safe.of_below hbA hB).trans (hs.mono (fun k hk => .inl hk))⟩
  rcases hk with hk | hk
  · have := hB k hk; simp; omega
  · subst hk; simp
end Go.Proofs.Ytffnadnndmmliaa
