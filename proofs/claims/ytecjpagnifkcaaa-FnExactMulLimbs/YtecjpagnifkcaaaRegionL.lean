/- What the regions of the laws over numbers of limbs keep: rows that were made, boxes of them, the store into one. -/
import Derived.Test.YtecjpagnifkcaaaRegionK
import Derived.Test.YtecjpagnifkcaaaLawL
import Derived.WalkKit
namespace Go.Proofs.Ytecjpagnifkcaaa
open Go.RowKit

/-- What operation i does to the world: number s stores into a box of an struct that was made from B on; all others make memory at most. -/
def Rst (B s : Nat) (i : Nat) (w w' : World) : Prop := if i = s then ∃ g u v, w' = w.setCell ⟨g, 0, none⟩ v ∧ B ≤ g ∧ w.heap[g]? = some (.cells #[u] 24 (0, 0)) else Below w.heap.size w w'
theorem Rst.of {B s i : Nat} {w w' : World} (h : i ≠ s) (hb : Below w.heap.size w w') : Rst B s i w w' := by unfold Rst; rw [if_neg h]; exact hb
theorem Rst.refl {B s i : Nat} {w : World} (h : i ≠ s) : Rst B s i w w := Rst.of h (Below.refl _ _)
theorem Rst.other {B s i : Nat} {w w' : World} (h : i ≠ s) (hr : Rst B s i w w') : Below w.heap.size w w' := by unfold Rst at hr; rw [if_neg h] at hr; exact hr
theorem own_store {B g : Nat} {w : World} {v u : Value} {cs : Array Value} {ns : List Int} (h : OwnInt B w v ns) (hg : w.heap[g]? = some (.cells cs 24 (0, 0))) : OwnInt B (w.setCell ⟨g, 0, none⟩ u) v ns := by
  refine ⟨h.1, ?_⟩
  rcases h.2 with h0 | ⟨gv, cap, cur, e, hb, hh, rest⟩
  · exact .inl h0
  · refine .inr ⟨gv, cap, cur, e, hb, ?_, rest⟩
    rw [Below.heap_setCell _ _ _ _ (fun e => ?_)]
    · exact hh
    · have e' : gv = g := e
      rw [e', hg] at hh
      simp at hh
theorem Rst.own {B s i : Nat} {w w' : World} {v : Value} {ns : List Int} (hr : Rst B s i w w') (h : OwnInt B w v ns) : OwnInt B w' v ns := by
  unfold Rst at hr
  split at hr
  · obtain ⟨g, u, x, rfl, _, hu⟩ := hr
    exact own_store h hu
  · exact h.later hr
theorem Rst.inv {B s i : Nat} {wb w w' : World} (hs : B ≤ wb.heap.size) (hr : Rst B s i w w') (h : Below B wb w) : Below B wb w' := by
  unfold Rst at hr
  split at hr
  · obtain ⟨g, u, x, rfl, hg, _⟩ := hr
    exact h.setCell hg _
  · exact h.trans (hr.mono (Nat.le_trans hs h.size))
theorem Rst.box {B s i g : Nat} {w w' : World} (hr : Rst B s i w w') (h : ∃ u, w.heap[g]? = some (.cells #[u] 24 (0, 0))) : ∃ u, w'.heap[g]? = some (.cells #[u] 24 (0, 0)) := by
  obtain ⟨u, hu⟩ := h
  unfold Rst at hr
  split at hr
  · obtain ⟨g', u', x, rfl, hg, hu'⟩ := hr
    by_cases e : g = g'
    · subst e
      exact ⟨x, (heap_setCell_same w g 0 _ _ _ hu).trans rfl⟩
    · exact ⟨u, (Below.heap_setCell _ _ _ _ e).trans hu⟩
  · exact ⟨u, (hr.block g (Array.getElem?_eq_some_iff.1 hu).1).trans hu⟩
/-- An owned row and a box of an struct are two blocks. -/
theorem own_box_ne {B g : Nat} {w : World} {v : Value} {cs : Array Value} {ns : List Int} (h : OwnInt B w v ns) (hg : w.heap[g]? = some (.cells cs 24 (0, 0))) : v.ownBlock ≠ some g := by
  intro e
  rcases h.2 with ⟨rfl, _⟩ | ⟨gv, cap, cur, rfl, hb, hh, _⟩
  · cases e
  · simp [Value.ownBlock] at e
    rw [e, hg] at hh
    simp at hh
theorem Rst.keep {B s i g : Nat} {w w' : World} {c : Array Value} (hi : i ≠ s) (hr : Rst B s i w w') (hu : w.heap[g]? = some (.cells c 24 (0, 0))) : w'.heap[g]? = some (.cells c 24 (0, 0)) :=
  ((hr.other hi).block g (Array.getElem?_eq_some_iff.1 hu).1).trans hu
theorem list7s {α : Type} (l : List α) (h : l.length = 7) : ∃ a0 a1 a2 a3 a4 a5 a6, l = [a0, a1, a2, a3, a4, a5, a6] := by
  match l, h with
  | [a0, a1, a2, a3, a4, a5, a6], _ => exact ⟨a0, a1, a2, a3, a4, a5, a6, rfl⟩
end Go.Proofs.Ytecjpagnifkcaaa
