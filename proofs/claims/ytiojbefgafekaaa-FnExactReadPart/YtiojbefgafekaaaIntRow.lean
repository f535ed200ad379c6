/- Rows of integers that a call owns: what their cells hold; what stays behind an append. -/
import Derived.Test.YtiojbefgafekaaaTermPut
import Derived.Test.YtiojbefgafekaaaPlain
import Derived.WalkKit
import Derived.WalkLawsBesides
import Derived.OwnWalk
import Derived.Laws.OwnMore
namespace Go.Proofs.Ytiojbefgafekaaa
open Go.RowKit

theorem infoIntS : (Try.prog.info? 3).map (fun i => (i.zero, i.size, i.bytes)) = some (some (.int .i64 0), 1, 8) := by kernel_rfl
/-- A row of integers of the call's own: its cells. -/
theorem own_ints {w : World} {base k : Nat} {v : Value} {xs : List Int} (h : w.ownsRow base 3 1 v k (xs.map (Value.int .i64))) (hk : 0 < k) :
    ∃ g cap, v = .slice (some ⟨g, 0, none⟩) k cap ∧ base ≤ g ∧ g < w.heap.size ∧ ∀ j, j < k → w.cell? ⟨g, j, none⟩ = some (.int .i64 (xs.getD j 0)) := by
  have hl : xs.length = k := by have := h.1; simpa using this
  have h' := h
  rcases h.2 with ⟨_, h0⟩ | ⟨g, cap, cur, rfl, hg, hb, _⟩
  · omega
  · refine ⟨g, cap, rfl, hg, (Array.getElem?_eq_some_iff.1 hb).1, fun j hj => ?_⟩
    rw [h'.cellAt j (by omega), List.getElem?_map, List.getElem?_eq_getElem (by omega), List.getD_eq_getElem?_getD, List.getElem?_eq_getElem (by omega)]; rfl
theorem own_base {w : World} {base base' e size n : Nat} {v : Value} {xs : List Value} (h : w.ownsRow base e size v n xs) (hb : base' ≤ base) : w.ownsRow base' e size v n xs := by
  refine ⟨h.1, ?_⟩
  rcases h.2 with h0 | ⟨g, cap, cur, e, hg, rest⟩
  · exact .inl h0
  · exact .inr ⟨g, cap, cur, e, Nat.le_trans hb hg, rest⟩
theorem own_next {B e size n : Nat} {w w' : World} {v : Value} {xs : List Value} (h : w.ownsRow B e size v n xs) (hb : Below w.heap.size w w') : w'.ownsRow B e size v n xs := by
  refine ⟨h.1, ?_⟩
  rcases h.2 with h0 | ⟨g, cap, cur, e, hg, hh, rest⟩
  · exact .inl h0
  · exact .inr ⟨g, cap, cur, e, hg, (hb.block g (Array.getElem?_eq_some_iff.1 hh).1).trans hh, rest⟩
/-- Behind an append onto a row from B + 1 on: what lies up to B is as it was. -/
theorem app_step {w w1 w2 : World} {B e size n : Nat} {v u : Value} {xs : List Value} {o : Obj} (hown : w1.ownsRow (B + 1) e size v n xs) (hB : Below B w w1) (hA : w1.cell? ⟨B, 0, none⟩ = some u) (hs : B < w1.heap.size) (hg : (w1.alloc o).grownBy w2 v.ownBlock) :
    Below B w w2 ∧ w2.cell? ⟨B, 0, none⟩ = some u ∧ B < w2.heap.size := by
  have h1 : Below (B + 1) w1 w2 := below_app hown (Below.refl _ _) hs hg
  exact ⟨hB.trans (h1.mono (by omega)), (h1.cell (p := ⟨B, 0, none⟩) (show B < B + 1 by omega)).trans hA, Nat.lt_of_lt_of_le hs h1.size⟩
end Go.Proofs.Ytiojbefgafekaaa
