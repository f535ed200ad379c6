/- XorTexts of both sides: a text whose bytes are exclusive-or those of the two, as long as the shorter one. -/
import Derived.Test.YthpkhbcahihbnaaDoorRowC
import Derived.Test.YthpkhbcahihbnaaDoorHexB
import Derived.WalkKit
import Derived.WalkLawsBesides
import Derived.WalkSpells
import Derived.BigRegion
import Derived.Deep.RegionHeld3
import Derived.Deep.DrawnRows
import Derived.Deep.AppendLies
import Derived.Deep.OwnRows
import Derived.OwnWalk
namespace Go.Proofs.YthpkhbcahihbnaaDoor
set_option linter.unusedVariables false
open Go.RowKit Go.PlainAid
set_option maxRecDepth 20000
attribute [local go_sem ↓] Go.wp_at_zero Go.wp_at_succ
def xorF (a b : ByteArray) : Nat → Nat := fun i => btN a i ^^^ btN b i
def xorT (a b : ByteArray) : ByteArray := strOfNums (bytesV (min a.size b.size) (xorF a b))
theorem xorF_lt (a b : ByteArray) (i : Nat) : xorF a b i < 256 := Nat.xor_lt_two_pow (n := 8) (btN_lt a i) (btN_lt b i)
theorem xorF_bits (a b : ByteArray) (i : Nat) : bits .xor .u8 (bt a i) (bt b i) = ((xorF a b i : Nat) : Int) := by
  rw [btN_eq, btN_eq]; exact u8_xor_nat _ _ (btN_lt a i) (btN_lt b i)
theorem own_snocB {B : Nat} {w : World} {v : Value} {e k : Nat} {f : Nat → Nat} (h : w.ownsRow B e 1 v (k + 1) ((bytesV k f).map (Value.int .u8) ++ [.int .u8 ((f k : Nat) : Int)])) : w.ownsRow B e 1 v (k + 1) ((bytesV (k + 1) f).map (Value.int .u8)) := by
  rw [bytesV_succ, List.map_append]; exact h
def xorTo (a b : ByteArray) (k : Nat) : Nat → Nat := fun i => if i < k then xorF a b i else btN a i
theorem xorTo_upd (a b : ByteArray) (k : Nat) : upd (xorTo a b k) k (xorF a b k) = xorTo a b (k + 1) := by
  funext i
  unfold upd xorTo
  by_cases h : i = k
  · subst h; rw [if_pos rfl, if_pos (by omega)]
  · rw [if_neg h]
    by_cases h2 : i < k
    · rw [if_pos h2, if_pos (by omega)]
    · rw [if_neg h2, if_neg (by omega)]
theorem xorTo_at (a b : ByteArray) (k : Nat) : xorTo a b k k = btN a k := if_neg (by omega)
/-- The program's loop, over the first n bytes of a, n the lesser size. -/
theorem cut_btN (a : ByteArray) {n i : Nat} (h : i < n) : btN (a.extract 0 n) i = btN a i := by unfold btN; rw [bt_cut a n i h]
end Go.Proofs.YthpkhbcahihbnaaDoor
