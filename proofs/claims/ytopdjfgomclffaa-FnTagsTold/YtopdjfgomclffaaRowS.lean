/- Rows of whole numbers that a call owns, in block g, of n numbers: told by a list, read, written, kept. -/
import Derived.Test.YtopdjfgomclffaaLawI
import Derived.Test.YtopdjfgomclffaaCloneI
namespace Go.Proofs.Ytopdjfgomclffaa
open Go.RowKit
set_option linter.unusedVariables false
/-- The n numbers in block g. -/
def RowS (B : Nat) (w : World) (g n cap : Nat) (l : List Int) : Prop := w.ownsRow B 3 1 (.slice (some ⟨g, 0, none⟩) n cap) n (l.map (Value.int .i64))
theorem RowS.len {B : Nat} {w : World} {g n cap : Nat} {l : List Int} (h : RowS B w g n cap l) : l.length = n := by have := h.1; simpa using this
theorem RowS.cell {B : Nat} {w : World} {g n cap : Nat} {l : List Int} (h : RowS B w g n cap l) {i : Nat} (hi : i < n) : w.cell? ⟨g, i, none⟩ = some (.int .i64 (l.getD i 0)) := by
  have hl := h.len
  rw [World.ownsRow.cellAt h i (by omega), List.getElem?_map, List.getElem?_eq_getElem (by omega), List.getD_eq_getElem?_getD, List.getElem?_eq_getElem (by omega)]; rfl
theorem RowS.froz {B : Nat} {w : World} {g n cap : Nat} {l : List Int} (h : RowS B w g n cap l) (i : Nat) : w.frozen? ⟨g, i, none⟩ = false := World.ownsRow.frozenAt h i
theorem RowS.set {B : Nat} {w : World} {g n cap : Nat} {l : List Int} (h : RowS B w g n cap l) (i : Nat) (x : Int) : RowS B (w.setCell ⟨g, i, none⟩ (.int .i64 x)) g n cap (l.set i x) := by
  unfold RowS
  rw [List.map_set]
  exact (World.ownsRow.stored h i (.int .i64 x)).1
theorem RowS.lt {B : Nat} {w : World} {g n cap : Nat} {l : List Int} (h : RowS B w g n cap l) : B ≤ g ∧ g < w.heap.size := World.ownsRow.lt h g rfl
theorem RowS.next {B : Nat} {w w' : World} {g n cap : Nat} {l : List Int} (h : RowS B w g n cap l) (hb : Below w.heap.size w w') : RowS B w' g n cap l := own_next h hb
theorem RowS.drew {B : Nat} {w : World} {g n cap : Nat} {l : List Int} (h : RowS B w g n cap l) : RowS B w.drew g n cap l := World.ownsRow.drew h
theorem RowS.base {B B' : Nat} {w : World} {g n cap : Nat} {l : List Int} (h : RowS B w g n cap l) (hb : B' ≤ B) : RowS B' w g n cap l := own_base h hb
theorem RowS.other {B : Nat} {w : World} {g g' n cap i : Nat} {l : List Int} (h : RowS B w g n cap l) (u : Value) (hne : g ≠ g') : RowS B (w.setCell ⟨g', i, none⟩ u) g n cap l :=
  World.ownsRow.kept (row := some g') h (gb_cell _ _ _ _) (.inr (by simpa [Value.ownBlock] using hne))
theorem RowS.grown {B : Nat} {w w' : World} {g g' n cap : Nat} {l : List Int} (h : RowS B w g n cap l) (hb : w.grownBy w' (some g')) (hne : g ≠ g') : RowS B w' g n cap l :=
  World.ownsRow.kept (row := some g') h hb (.inr (by simpa [Value.ownBlock] using hne))
theorem RowS.own {B : Nat} {w : World} {g n cap : Nat} {l : List Int} (h : RowS B w g n cap l) : OwnInt B w (.slice (some ⟨g, 0, none⟩) n cap) l := by
  have hl := h.len
  unfold OwnInt
  rw [hl]; exact h
theorem RowS.row {B : Nat} {w : World} {g n cap : Nat} {l : List Int} (h : RowS B w g n cap l) : RowI w.heap.size w (some ⟨g, 0, none⟩) l :=
  .inr ⟨g, 0, rfl, h.lt.2, fun j hj => by rw [Nat.zero_add]; exact h.cell (by rw [← h.len]; exact hj)⟩
theorem OwnInt.rowS {B : Nat} {w : World} {v : Value} {l : List Int} (h : OwnInt B w v l) (h0 : 0 < l.length) : ∃ g cap, v = .slice (some ⟨g, 0, none⟩) l.length cap ∧ RowS B w g l.length cap l := by
  have h' := h
  rcases h.2 with ⟨_, hn⟩ | ⟨g, cap, cur, rfl, _⟩
  · omega
  · exact ⟨g, cap, rfl, h'⟩
theorem made_ints (n : Nat) : (madeCells (Value.cells (.int .i64 0)) (n * 1)).toList = (List.replicate n (0 : Int)).map (Value.int .i64) := by
  rw [Nat.mul_one, show Value.cells (.int .i64 0) = #[.int .i64 0] from rfl]
  apply List.ext_getElem?
  intro j
  rw [Array.getElem?_toList, List.map_replicate, List.getElem?_replicate]
  by_cases hj : j < n
  · rw [if_pos hj]
    simp [madeCells, hj, Nat.mod_one]
  · rw [if_neg hj, Array.getElem?_eq_none (by rw [size_madeCells]; omega)]
/-- A prefix of a row is a row. -/
theorem RowS.front {B : Nat} {w : World} {g n m cap : Nat} {l : List Int} (h : RowS B w g n cap l) (hm : m ≤ n) : RowS B w g m cap (l.take m) := by
  have hl := h.len
  rcases h.2 with ⟨h', _⟩ | ⟨g', cap', cur, h', hb, hg, hnc, hcm, hcs, htake⟩
  · simp at h'
  · simp only [Value.slice.injEq, Option.some.injEq, Addr.mk.injEq, and_true, true_and] at h'
    obtain ⟨rfl, rfl⟩ := h'
    refine ⟨by simp; omega, .inr ⟨_, _, cur, rfl, hb, hg, by omega, hcm, hcs, ?_⟩⟩
    rw [Nat.mul_one] at htake ⊢
    rw [List.map_take, ← htake, List.take_take, Nat.min_eq_left hm]
/-- What stands in a row's prefix is the row's own. -/
theorem RowS.back {B : Nat} {w : World} {g n cap : Nat} {l : List Int} (h : RowS B w g n cap l) : B ≤ g := h.lt.1
end Go.Proofs.Ytopdjfgomclffaa
