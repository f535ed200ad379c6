/- The laws' own helpers over arenas: markNodeS, markArena, heldNodeS, heldArena. -/
import Derived.Test.YtagjdhiicpglaaaLawArena2
import Derived.WalkKit
import Derived.WalkLawsBesides
import Derived.WalkSpells
import Derived.OwnWalk
import Derived.Laws.OwnMore
import Derived.Laws.Rows
import Derived.BigRegion
namespace Go.Proofs.Ytagjdhiicpglaaa
open Go.RowKit

/-- The marks: numbers that go on. -/
def markN (k : Int) : Nd := ⟨k, k + 1, k + 1 + 1, k + 1 + 1 + 1⟩
def marksN (k : Int) : Nat → List Nd
  | 0 => []
  | n + 1 => marksN k n ++ [markN (k + 4 * (n : Int))]
theorem marksN_len (k : Int) : ∀ n, (marksN k n).length = n
  | 0 => rfl
  | n + 1 => by simp [marksN, marksN_len k n]
theorem marksN_at (k : Int) : ∀ n i, i < n → (marksN k n).getD i Nd.zero = markN (k + 4 * (i : Int))
  | n + 1, i, h => by
    rw [marksN, List.getD_eq_getElem?_getD]
    by_cases hi : i < n
    · rw [List.getElem?_append_left (by rw [marksN_len]; exact hi), ← List.getD_eq_getElem?_getD]; exact marksN_at k n i hi
    · obtain rfl : i = n := by omega
      rw [List.getElem?_append_right (by rw [marksN_len]; exact Nat.le_refl _), marksN_len]; simp

theorem gb_refl (w : World) (r : Option Nat) : w.grownBy w r := ⟨rfl, rfl, rfl, Nat.le_refl _, fun _ _ _ => rfl⟩
theorem gb_set {w w' : World} {g : Nat} (h : w.grownBy w' (some g)) (j : Nat) (u : Value) : w.grownBy (w'.setCell ⟨g, j, none⟩ u) (some g) :=
  ⟨h.os, h.tape, h.output, by simpa using h.size, fun k hk hne => (Below.heap_setCell _ _ _ _ (by simpa using hne)).trans (h.block k hk hne)⟩
theorem gb_below {w w' : World} {B g : Nat} (h : w.grownBy w' (some g)) (hB : B ≤ g) (hs : B ≤ w.heap.size) : Below B w w' := ⟨h.os, h.tape, h.output, h.size, fun k hk => h.block k (by omega) (by simp; omega)⟩
theorem gb_alloc {w w' : World} {r : Option Nat} {o : Obj} (h : (w.alloc o).grownBy w' r) : w.grownBy w' r :=
  ⟨h.os, h.tape, h.output, Nat.le_trans (by simp) h.size, fun k hk hne => (h.block k (by simp; omega) hne).trans (heap_alloc_old w o hk)⟩
end Go.Proofs.Ytagjdhiicpglaaa
