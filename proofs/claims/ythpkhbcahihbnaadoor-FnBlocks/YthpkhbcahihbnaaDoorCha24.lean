/- Plain mathematics of chapter 24, over no dump: words turned left, quarters, a block. -/
import Derived.Test.YthpkhbcahihbnaaDoorArrW
import Derived.Laws.BitsAllLaws
namespace Go.Proofs.YthpkhbcahihbnaaDoor
open Go.RowKit
def rotl (x n : Nat) : Nat := x * 2 ^ n % 4294967296 ||| x / 2 ^ (32 - n)
theorem rotl_lt {x : Nat} (h : x < 4294967296) (n : Nat) : rotl x n < 4294967296 := Nat.or_lt_two_pow (n := 32) (Nat.mod_lt _ (by omega)) (Nat.lt_of_le_of_lt (Nat.div_le_self _ _) h)
theorem xorL {a b : Nat} (ha : a < 4294967296) (hb : b < 4294967296) : a ^^^ b < 4294967296 := Nat.xor_lt_two_pow (n := 32) ha hb
/-- One is added to another, and a third one turned by what came. -/
def addTurn (f : Nat → Nat) (to frm turned by' : Nat) : Nat → Nat :=
  upd (upd f to ((f to + f frm) % 4294967296)) turned (rotl (upd f to ((f to + f frm) % 4294967296) turned ^^^ upd f to ((f to + f frm) % 4294967296) to) by')
def quarter (f : Nat → Nat) (a b c d : Nat) : Nat → Nat := addTurn (addTurn (addTurn (addTurn f a b d 16) c d b 12) a b d 8) c d b 7
def Words (f : Nat → Nat) : Prop := ∀ i, f i < 4294967296
theorem Words.upd {f : Nat → Nat} (h : Words f) (i : Nat) {x : Nat} (hx : x < 4294967296) : Words (upd f i x) := by
  intro j; unfold Go.Proofs.YthpkhbcahihbnaaDoor.upd; split
  · exact hx
  · exact h j
theorem Words.addTurn {f : Nat → Nat} (h : Words f) (a b c n : Nat) : Words (addTurn f a b c n) := by
  have h1 : Words (Go.Proofs.YthpkhbcahihbnaaDoor.upd f a ((f a + f b) % 4294967296)) := h.upd a (Nat.mod_lt _ (by omega))
  exact h1.upd c (rotl_lt (xorL (h1 c) (h1 a)) n)
theorem Words.quarter {f : Nat → Nat} (h : Words f) (a b c d : Nat) : Words (quarter f a b c d) := (((h.addTurn _ _ _ _).addTurn _ _ _ _).addTurn _ _ _ _).addTurn _ _ _ _
/-- The first k quarters of a turn down, of a turn aslant. -/
def downs (f : Nat → Nat) : Nat → Nat → Nat
  | 0 => f
  | k + 1 => quarter (downs f k) k (k + 4) (k + 8) (k + 12)
def aslants (f : Nat → Nat) : Nat → Nat → Nat
  | 0 => f
  | k + 1 => quarter (aslants f k) k (4 + (k + 1) % 4) (8 + (k + 2) % 4) (12 + (k + 3) % 4)
theorem Words.downs {f : Nat → Nat} (h : Words f) : ∀ k, Words (downs f k)
  | 0 => h
  | k + 1 => (Words.downs h k).quarter _ _ _ _
theorem Words.aslants {f : Nat → Nat} (h : Words f) : ∀ k, Words (aslants f k)
  | 0 => h
  | k + 1 => (Words.aslants h k).quarter _ _ _ _
def twenty (f : Nat → Nat) : Nat → Nat → Nat
  | 0 => f
  | k + 1 => aslants (downs (twenty f k) 4) 4
theorem Words.twenty {f : Nat → Nat} (h : Words f) : ∀ k, Words (twenty f k)
  | 0 => h
  | k + 1 => ((Words.twenty h k).downs 4).aslants 4
/-- The words of a block. -/
def blockW (f : Nat → Nat) : Nat → Nat := fun i => (twenty f 10 i + f i) % 4294967296
theorem blockW_lt (f : Nat → Nat) : Words (blockW f) := fun i => Nat.mod_lt _ (by omega)
/-- Bits of words, as the model tells them. -/
theorem u32xor (a b : Nat) (ha : a < 4294967296) (hb : b < 4294967296) : bits .xor .u32 (a : Int) (b : Int) = ((a ^^^ b : Nat) : Int) := u32_xor_nat a b ha hb
theorem u32or (a b : Nat) (ha : a < 4294967296) (hb : b < 4294967296) : bits .or .u32 (a : Int) (b : Int) = ((a ||| b : Nat) : Int) := u32_or_nat a b ha hb
end Go.Proofs.YthpkhbcahihbnaaDoor
