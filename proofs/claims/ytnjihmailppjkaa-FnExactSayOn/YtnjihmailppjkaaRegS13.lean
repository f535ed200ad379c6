/- A region that draws, in which an arena and a channel that a call answers are laid into boxes of their own. -/
import Derived.Test.YtnjihmailppjkaaLawClip
import Derived.Test.YtnjihmailppjkaaSayOn13
import Derived.Test.YtnjihmailppjkaaLawKeep
namespace Go.Proofs.Ytnjihmailppjkaa
open Go.RowKit
set_option linter.unusedVariables false
theorem exec_storeRow {P : Program} {o : Oper} {a : Act} {w : World} (ty : TypeId) (x y : Operand) (ho : o.op = .store ty x y) (g : Nat) (cells : Array Value) (hx : a.eval x = .pointer (some ⟨g, 0, none⟩)) (hy : a.eval y = .agg cells)
    (t : TypeId) (old : Array Value) (hg : w.heap[g]? = some (.cells old t (0, 0))) (hi : (P.info? ty).map (·.size) = some cells.size) (hold : old.size = cells.size) (h1 : cells.all (·.oneCell') = true) : (execOp a.eval o).run P w = .ok .skip (w.setRow g cells) := by
  unfold execOp
  simp only [ho, hx, hy, Instr.storeAt, Instr.sureAddr, Sem.run_bind, Sem.run_pure, Result.andThen_ok, run_storeVar_row w g t ty old cells hg hi hold h1]
def R2 (B sA sC i : Nat) (w w' : World) : Prop := if i = sA then ∃ g u v, w' = w.setCell ⟨g, 0, none⟩ v ∧ B ≤ g ∧ w.heap[g]? = some (.cells #[u] 39 (0, 0)) else if i = sC then ∃ (g : Nat) (old cs : Array Value), w' = w.setRow g cs ∧ B ≤ g ∧ cs.size = 9 ∧ w.heap[g]? = some (.cells old 25 (0, 0)) else Below w.heap.size w w'
theorem R2.of {B sA sC i : Nat} {w w' : World} (h : i ≠ sA ∧ i ≠ sC) (hb : Below w.heap.size w w') : R2 B sA sC i w w' := by unfold R2; rw [if_neg h.1, if_neg h.2]; exact hb
theorem R2.refl {B sA sC i : Nat} {w : World} (h : i ≠ sA ∧ i ≠ sC) : R2 B sA sC i w w := R2.of h (Below.refl _ _)
theorem R2.own {B sA sC i : Nat} {w w' : World} {v : Value} {ns : List Nd} (hr : R2 B sA sC i w w') (h : OwnN B w v ns) : OwnN B w' v ns := by
  unfold R2 at hr
  split at hr
  · obtain ⟨g, u, x, rfl, _, hu⟩ := hr
    exact own_store h hu
  · split at hr
    · obtain ⟨g, old, cs, rfl, _, _, hu⟩ := hr
      refine h.setRow (fun e => ?_) cs
      rcases h.2 with ⟨rfl, _⟩ | ⟨gv, cap, cur, rfl, hb, hh, _⟩
      · cases e
      · simp [Value.ownBlock] at e
        rw [e, hu] at hh
        simp at hh
    · exact h.later hr
theorem R2.ownC {B sA sC i : Nat} {w w' : World} {v : Value} {ns : List Nd} (hr : R2 B sA sC i w w') (h : OwnC B w v ns) : OwnC B w' v ns := by
  obtain ⟨a, cap, cp, e, ha, ho⟩ := h
  exact ⟨a, cap, cp, e, ha, hr.own ho⟩
theorem R2.inv {B sA sC i : Nat} {wb w w' : World} (hs : B ≤ wb.heap.size) (hr : R2 B sA sC i w w') (h : Below B wb w) : Below B wb w' := by
  unfold R2 at hr
  split at hr
  · obtain ⟨g, u, x, rfl, hg, _⟩ := hr
    exact h.setCell hg _
  · split at hr
    · obtain ⟨g, old, cs, rfl, hg, _, _⟩ := hr
      exact below_setRow h hg cs
    · exact h.trans (hr.mono (Nat.le_trans hs h.size))
theorem R2.boxA {B sA sC i g : Nat} {w w' : World} (hr : R2 B sA sC i w w') (h : ∃ u, w.heap[g]? = some (.cells #[u] 39 (0, 0))) : ∃ u, w'.heap[g]? = some (.cells #[u] 39 (0, 0)) := by
  obtain ⟨u, hu⟩ := h
  unfold R2 at hr
  split at hr
  · obtain ⟨g', u', x, rfl, hg, hu'⟩ := hr
    by_cases e : g = g'
    · subst e
      exact ⟨x, (heap_setCell_same w g 0 _ _ _ hu).trans rfl⟩
    · exact ⟨u, (Below.heap_setCell _ _ _ _ e).trans hu⟩
  · split at hr
    · obtain ⟨g', old, cs, rfl, hg, _, hu'⟩ := hr
      exact ⟨u, (setRow_other _ _ _ _ (fun e => by subst e; rw [hu'] at hu; simp at hu)).trans hu⟩
    · exact ⟨u, (hr.block g (Array.getElem?_eq_some_iff.1 hu).1).trans hu⟩
theorem R2.boxC {B sA sC i g : Nat} {w w' : World} (hr : R2 B sA sC i w w') (h : ∃ cs : Array Value, cs.size = 9 ∧ w.heap[g]? = some (.cells cs 25 (0, 0))) : ∃ cs : Array Value, cs.size = 9 ∧ w'.heap[g]? = some (.cells cs 25 (0, 0)) := by
  obtain ⟨u, h9, hu⟩ := h
  unfold R2 at hr
  split at hr
  · obtain ⟨g', u', x, rfl, hg, hu'⟩ := hr
    exact ⟨u, h9, (Below.heap_setCell _ _ _ _ (fun e => by subst e; rw [hu'] at hu; simp at hu)).trans hu⟩
  · split at hr
    · obtain ⟨g', old, cs, rfl, hg, h9', hu'⟩ := hr
      by_cases e : g = g'
      · subst e
        exact ⟨cs, h9', setRow_heap _ _ _ _ _ _ hu⟩
      · exact ⟨u, h9, (setRow_other _ _ _ _ e).trans hu⟩
    · exact ⟨u, h9, (hr.block g (Array.getElem?_eq_some_iff.1 hu).1).trans hu⟩
theorem R2.keepA {B sA sC i g : Nat} {w w' : World} {c : Array Value} (hi : i ≠ sA) (hr : R2 B sA sC i w w') (hu : w.heap[g]? = some (.cells c 39 (0, 0))) : w'.heap[g]? = some (.cells c 39 (0, 0)) := by
  unfold R2 at hr
  rw [if_neg hi] at hr
  split at hr
  · obtain ⟨g', old, cs, rfl, hg, _, hu'⟩ := hr
    exact (setRow_other _ _ _ _ (fun e => by subst e; rw [hu'] at hu; simp at hu)).trans hu
  · exact (hr.block g (Array.getElem?_eq_some_iff.1 hu).1).trans hu
theorem R2.keepC {B sA sC i g : Nat} {w w' : World} {c : Array Value} (hi : i ≠ sC) (hr : R2 B sA sC i w w') (hu : w.heap[g]? = some (.cells c 25 (0, 0))) : w'.heap[g]? = some (.cells c 25 (0, 0)) := by
  unfold R2 at hr
  split at hr
  · obtain ⟨g', u', x, rfl, hg, hu'⟩ := hr
    exact (Below.heap_setCell _ _ _ _ (fun e => by subst e; rw [hu'] at hu; simp at hu)).trans hu
  · try rw [if_neg hi] at hr
    exact (hr.block g (Array.getElem?_eq_some_iff.1 hu).1).trans hu
theorem ChIn.mark {b : Nat} {x : Ch} {w w' : World} {r : Option Nat} (h : ChIn b x w) (hg : w.grownBy w' r) (hne : r ≠ some b) : ChIn b x w' := ⟨Nat.lt_of_lt_of_le h.lt hg.size, cell_grown hg h.lt hne h.c0, cell_grown hg h.lt hne h.c1, cell_grown hg h.lt hne h.c2, cell_grown hg h.lt hne h.c3, cell_grown hg h.lt hne h.c4, cell_grown hg h.lt hne h.c5, cell_grown hg h.lt hne h.c6, cell_grown hg h.lt hne h.c7, cell_grown hg h.lt hne h.c8⟩
theorem own_boxC_ne {B g : Nat} {w : World} {v : Value} {cs : Array Value} {ns : List Nd} (h : OwnN B w v ns) (hg : w.heap[g]? = some (.cells cs 25 (0, 0))) : v.ownBlock ≠ some g := by
  intro e
  rcases h.2 with ⟨rfl, _⟩ | ⟨gv, cap, cur, rfl, hb, hh, _⟩
  · cases e
  · simp [Value.ownBlock] at e
    rw [e, hg] at hh
    simp at hh
theorem list14s {α : Type} (l : List α) (h : l.length = 14) : ∃ a0 a1 a2 a3 a4 a5 a6 a7 a8 a9 a10 a11 a12 a13, l = [a0, a1, a2, a3, a4, a5, a6, a7, a8, a9, a10, a11, a12, a13] := by
  match l, h with
  | [a0, a1, a2, a3, a4, a5, a6, a7, a8, a9, a10, a11, a12, a13], _ => exact ⟨a0, a1, a2, a3, a4, a5, a6, a7, a8, a9, a10, a11, a12, a13, rfl⟩
theorem list15s {α : Type} (l : List α) (h : l.length = 15) : ∃ a0 a1 a2 a3 a4 a5 a6 a7 a8 a9 a10 a11 a12 a13 a14, l = [a0, a1, a2, a3, a4, a5, a6, a7, a8, a9, a10, a11, a12, a13, a14] := by
  match l, h with
  | [a0, a1, a2, a3, a4, a5, a6, a7, a8, a9, a10, a11, a12, a13, a14], _ => exact ⟨a0, a1, a2, a3, a4, a5, a6, a7, a8, a9, a10, a11, a12, a13, a14, rfl⟩
end Go.Proofs.Ytnjihmailppjkaa
