/- The laws' own helpers over rows of bools: eqBoolS, markBoolS, heldBoolS; and what a law keeps of such a row. -/
import Derived.Test.YtedihnfhjchdbaaLawArena3
import Derived.Test.YtedihnfhjchdbaaLawKeep
import Derived.Test.YtedihnfhjchdbaaPlain
import Derived.WalkKit
import Derived.WalkLawsBesides
import Derived.WalkSpells
import Derived.OwnWalk
import Derived.Laws.OwnMore
import Derived.Laws.Rows
namespace Go.Proofs.Ytedihnfhjchdbaa
open Go.RowKit
set_option linter.unusedVariables false

/-- A row of bools of the call's own: its cells. -/
theorem own_bools {w : World} {base k : Nat} {v : Value} {xs : List Bool} (h : w.ownsRow base 4 1 v k (xs.map (Value.bool))) (hk : 0 < k) :
    ∃ g cap, v = .slice (some ⟨g, 0, none⟩) k cap ∧ base ≤ g ∧ g < w.heap.size ∧ ∀ j, j < k → w.cell? ⟨g, j, none⟩ = some (.bool (xs.getD j false)) := by
  have hl : xs.length = k := by have := h.1; simpa using this
  have h' := h
  rcases h.2 with ⟨_, h0⟩ | ⟨g, cap, cur, rfl, hg, hb, _⟩
  · omega
  · refine ⟨g, cap, rfl, hg, (Array.getElem?_eq_some_iff.1 hb).1, fun j hj => ?_⟩
    rw [h'.cellAt j (by omega), List.getElem?_map, List.getElem?_eq_getElem (by omega), List.getD_eq_getElem?_getD, List.getElem?_eq_getElem (by omega)]; rfl
/-- A row of bools in memory, below B. -/
def RowB (B : Nat) (w : World) (a : Option Addr) (xs : List Bool) : Prop := xs = [] ∨ ∃ b off, a = some ⟨b, off, none⟩ ∧ b < B ∧ ∀ j, j < xs.length → w.cell? ⟨b, off + j, none⟩ = some (.bool (xs.getD j false))
theorem RowB.at {B : Nat} {w w' : World} {b off : Nat} {xs : List Bool} (h : RowB B w (some ⟨b, off, none⟩) xs) (hb : Below B w w') {i : Nat} (hi : i < xs.length) : b < B ∧ w'.cell? ⟨b, off + i, none⟩ = some (.bool (xs.getD i false)) := by
  rcases h with h0 | ⟨b', off', e, hlt, hc⟩
  · rw [h0] at hi; simp at hi
  · cases e
    exact ⟨hlt, (hb.cell hlt).trans (hc i hi)⟩
theorem RowB.addr {B : Nat} {w : World} {a : Option Addr} {xs : List Bool} (h : RowB B w a xs) {i : Nat} (hi : i < xs.length) : ∃ b off, a = some ⟨b, off, none⟩ := by
  rcases h with h0 | ⟨b', off', e, _⟩
  · rw [h0] at hi; simp at hi
  · exact ⟨b', off', e⟩
theorem RowB.later {B : Nat} {w w' : World} {a : Option Addr} {xs : List Bool} (h : RowB B w a xs) (hb : Below B w w') : RowB B w' a xs := by
  rcases h with h0 | ⟨b, off, e, hlt, hc⟩
  · exact .inl h0
  · exact .inr ⟨b, off, e, hlt, fun j hj => (hb.cell hlt).trans (hc j hj)⟩
theorem RowB.wide {B B' : Nat} {w : World} {a : Option Addr} {xs : List Bool} (h : RowB B w a xs) (hB : B ≤ B') : RowB B' w a xs := by
  rcases h with h0 | ⟨b, off, e, hlt, hc⟩
  · exact .inl h0
  · exact .inr ⟨b, off, e, Nat.lt_of_lt_of_le hlt hB, hc⟩
theorem RowB.grown {w w' : World} {a : Option Addr} {xs : List Bool} (h : RowB w.heap.size w a xs) (hb : Below w.heap.size w w') : RowB w'.heap.size w' a xs := (h.later hb).wide hb.size
/-- A row of bools that the call owns. -/
def OwnBool (base : Nat) (w : World) (v : Value) (xs : List Bool) : Prop := w.ownsRow base 4 1 v xs.length (xs.map (Value.bool))
theorem OwnBool.row {base : Nat} {w : World} {v : Value} {xs : List Bool} (h : OwnBool base w v xs) : ∃ a cap, v = .slice a xs.length cap ∧ AddrN a cap ∧ RowB w.heap.size w a xs := by
  rcases Nat.eq_zero_or_pos xs.length with h0 | h0
  · rcases h.2 with ⟨rfl, _⟩ | ⟨g, cap, cur, rfl, _⟩
    · exact ⟨none, 0, by rw [h0], .inl ⟨rfl, rfl⟩, .inl (List.length_eq_zero_iff.1 h0)⟩
    · exact ⟨_, cap, rfl, .inr ⟨g, 0, rfl⟩, .inl (List.length_eq_zero_iff.1 h0)⟩
  · obtain ⟨g, cap, rfl, hg, hlt, hc⟩ := own_bools h h0
    exact ⟨_, cap, rfl, .inr ⟨g, 0, rfl⟩, .inr ⟨g, 0, rfl, hlt, fun j hj => by rw [Nat.zero_add]; exact hc j hj⟩⟩
theorem OwnBool.later {B : Nat} {w w' : World} {v : Value} {xs : List Bool} (h : OwnBool B w v xs) (hb : Below w.heap.size w w') : OwnBool B w' v xs := own_next h hb
theorem OwnBool.base {B B' : Nat} {w : World} {v : Value} {xs : List Bool} (h : OwnBool B w v xs) (hb : B' ≤ B) : OwnBool B' w v xs := own_base h hb
/-- A row of bools that the law owns, its block from lo on, below hi. -/
structure OwnY (lo hi : Nat) (v : Value) (xs : List Bool) (w : World) : Prop where
  own : OwnBool lo w v xs
  le : hi ≤ w.heap.size
  lt : ∀ k, v.ownBlock = some k → k < hi
theorem OwnY.made {lo : Nat} {v : Value} {xs : List Bool} {w : World} (h : OwnBool lo w v xs) : OwnY lo w.heap.size v xs w := ⟨h, Nat.le_refl _, fun k hk => (World.ownsRow.lt h k hk).2⟩
theorem OwnY.next {lo hi : Nat} {v : Value} {xs : List Bool} {w w' : World} (h : OwnY lo hi v xs w) (hb : Below w.heap.size w w') : OwnY lo hi v xs w' := ⟨h.own.later hb, Nat.le_trans h.le hb.size, h.lt⟩
theorem OwnY.mark {lo hi : Nat} {v : Value} {xs : List Bool} {w w' : World} {r : Option Nat} (h : OwnY lo hi v xs w) (hg : w.grownBy w' r) (hne : ∀ g, r = some g → g < lo ∨ hi ≤ g) : OwnY lo hi v xs w' := by
  refine ⟨World.ownsRow.kept h.own hg ?_, Nat.le_trans h.le hg.size, h.lt⟩
  cases hv : v.ownBlock with
  | none => exact .inl rfl
  | some k =>
    right
    intro e
    have h1 := World.ownsRow.lt h.own k hv
    have h2 := h.lt k hv
    have h3 := hne k e.symm
    omega
theorem OwnY.rowAt {lo hi : Nat} {a : Option Addr} {n cap : Nat} {xs : List Bool} {w : World} (h : OwnY lo hi (.slice a n cap) xs w) : RowB w.heap.size w a xs := by
  obtain ⟨a', cap', e, _, hr⟩ := h.own.row
  cases e
  exact hr
theorem OwnY.block {lo hi : Nat} {v : Value} {xs : List Bool} {w : World} (h : OwnY lo hi v xs w) : ∀ g, v.ownBlock = some g → lo ≤ g ∧ g < hi := fun g hg => ⟨(World.ownsRow.lt h.own g hg).1, h.lt g hg⟩

/-- The marks of a row. -/
def marksB (k : Int) : Nat → List Bool
  | 0 => []
  | n + 1 => marksB k n ++ [decide (Int.tmod (k + (n : Int)) 3 = 0)]
theorem marksB_len (k : Int) : ∀ n, (marksB k n).length = n
  | 0 => rfl
  | n + 1 => by simp [marksB, marksB_len k n]
theorem marksB_at (k : Int) : ∀ n i, i < n → (marksB k n).getD i false = decide (Int.tmod (k + (i : Int)) 3 = 0)
  | 0, i, h => by omega
  | n + 1, i, h => by
    rw [marksB, List.getD_eq_getElem?_getD]
    by_cases hi : i < n
    · rw [List.getElem?_append_left (by rw [marksB_len]; exact hi), ← List.getD_eq_getElem?_getD]; exact marksB_at k n i hi
    · obtain rfl : i = n := by omega
      rw [List.getElem?_append_right (by rw [marksB_len]; exact Nat.le_refl _), marksB_len]; simp
end Go.Proofs.Ytedihnfhjchdbaa
