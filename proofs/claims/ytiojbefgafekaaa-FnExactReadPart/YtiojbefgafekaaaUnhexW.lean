/- The contracts of Unhex (chapter 1). -/
import Derived.Test.YtiojbefgafekaaaProg
import Derived.Test.YtiojbefgafekaaaPlainRead
import Derived.Test.YtiojbefgafekaaaVarW
import Derived.Test.YtiojbefgafekaaaFigW
import Derived.WalkKit
import Derived.WalkLawsBesides
import Derived.WalkSpells
import Derived.BigRegion
namespace Go.Proofs.Ytiojbefgafekaaa
open Go.RowKit Go.PlainAid

/-- The first m bytes that the figures tell. -/
def unN (s : ByteArray) (m : Nat) : List Int := (List.range m).map fun j => 16 * hvb 16 (bt s (2 * j)) + hvb 16 (bt s (2 * j + 1))
theorem unN_succ (s : ByteArray) (m : Nat) : unN s (m + 1) = unN s m ++ [16 * hvb 16 (bt s (2 * m)) + hvb 16 (bt s (2 * m + 1))] := by
  unfold unN; rw [List.range_succ, List.map_append, List.map_singleton]
theorem unN_len (s : ByteArray) (m : Nat) : (unN s m).length = m := by simp [unN]
theorem hvb_le (x : Int) : -1 ≤ hvb 16 x ∧ hvb 16 x ≤ 15 := by unfold hvb; split <;> (try split) <;> omega
theorem own_un {B : Nat} {w : World} {v : Value} {e j : Nat} {s : ByteArray} (h : w.ownsRow B e 1 v (j + 1) ((unN s j).map (Value.int .u8) ++ [.int .u8 (16 * hvb 16 (bt s (2 * j)) + hvb 16 (bt s (2 * j + 1)))])) :
    w.ownsRow B e 1 v (j + 1) ((unN s (j + 1)).map (Value.int .u8)) := by
  rw [unN_succ, List.map_append]; exact h

theorem take_set_succ {xs : List Value} {ys : List Int} {k : Nat} {x : Int} (hk : k < xs.length) (h : xs.take k = ys.map (Value.int .u8)) : (xs.set k (.int .u8 x)).take (k + 1) = (ys ++ [x]).map (Value.int .u8) := by
  rw [List.take_succ_eq_append_getElem (by simpa using hk), List.take_set_of_le (Nat.le_refl k), h, List.getElem_set_self, List.map_append, List.map_singleton]

end Go.Proofs.Ytiojbefgafekaaa
