/- Plain mathematics of chapter 24, over no dump: words turned left, quarters, a block. -/
import Derived.Test.YtkcbolcodgmpaaaArrW
import Derived.Laws.BitsAllLaws
import Derived.Test.YtkcbolcodgmpaaaProg
import Derived.Deep.Cut
import Derived.Great.BuildSlice
import Derived.Deep.WholeRow
import Derived.WalkKit
import Derived.Test.YtkcbolcodgmpaaaLawI
import Derived.Test.YtkcbolcodgmpaaaRowC
import Derived.WalkLawsBesides
import Derived.WalkSpells
import Derived.OwnWalk
import Derived.Laws.OwnMore
namespace Go.Proofs.Ytkcbolcodgmpaaa
open Go.RowKit
def rotl (x n : Nat) : Nat := x * 2 ^ n % 4294967296 ||| x / 2 ^ (32 - n)
theorem rotl_lt {x : Nat} (h : x < 4294967296) (n : Nat) : rotl x n < 4294967296 := Nat.or_lt_two_pow (n := 32) (Nat.mod_lt _ (by omega)) (Nat.lt_of_le_of_lt (Nat.div_le_self _ _) h)
theorem xorL {a b : Nat} (ha : a < 4294967296) (hb : b < 4294967296) : a ^^^ b < 4294967296 := Nat.xor_lt_two_pow (n := 32) ha hb
/-- One is added to another, and a third one turned by what came. -/
def addTurn (f : Nat → Nat) (to frm turned by' : Nat) : Nat → Nat :=
  upd (upd f to ((f to + f frm) % 4294967296)) turned (rotl (upd f to ((f to + f frm) % 4294967296) turned ^^^ upd f to ((f to + f frm) % 4294967296) to) by')
def quarter (f : Nat → Nat) (a b c d : Nat) : Nat → Nat := addTurn (addTurn (addTurn (addTurn f a b d 16) c d b 12) a b d 8) c d b 7
def Words (f : Nat → Nat) : Prop := ∀ i, f i < 4294967296
theorem Words.upd {f : Nat → Nat} (h : Words f) (i : Nat) {x : Nat} (hx : x < 4294967296) : Words (upd f i x) := by
  intro j; unfold Go.Proofs.Ytkcbolcodgmpaaa.upd; split
  · exact hx
  · exact h j
theorem Words.addTurn {f : Nat → Nat} (h : Words f) (a b c n : Nat) : Words (addTurn f a b c n) := by
  have h1 : Words (Go.Proofs.Ytkcbolcodgmpaaa.upd f a ((f a + f b) % 4294967296)) := h.upd a (Nat.mod_lt _ (by omega))
  exact h1.upd c (rotl_lt (xorL (h1 c) (h1 a)) n)
theorem Words.quarter {f : Nat → Nat} (h : Words f) (a b c d : Nat) : Words (quarter f a b c d) := (((h.addTurn _ _ _ _).addTurn _ _ _ _).addTurn _ _ _ _).addTurn _ _ _ _
/-- The first k quarters of a turn down, of a turn aslant. -/
def downs (f : Nat → Nat) : Nat → Nat → Nat
  | 0 => f
  | k + 1 => quarter (downs f k) k (k + 4) (k + 8) (k + 12)
def aslants (f : Nat → Nat) : Nat → Nat → Nat
  | 0 => f
  | k + 1 => quarter (aslants f k) k (4 + (k + 1) % 4) (8 + (k + 2) % 4) (12 + (k + 3) % 4)
theorem Words.downs {f : Nat → Nat} (h : Words f) : ∀ k, Words (downs f k)
  | 0 => h
  | k + 1 => (Words.downs h k).quarter _ _ _ _
theorem Words.aslants {f : Nat → Nat} (h : Words f) : ∀ k, Words (aslants f k)
  | 0 => h
  | k + 1 => (Words.aslants h k).quarter _ _ _ _
def twenty (f : Nat → Nat) : Nat → Nat → Nat
  | 0 => f
  | k + 1 => aslants (downs (twenty f k) 4) 4
theorem Words.twenty {f : Nat → Nat} (h : Words f) : ∀ k, Words (twenty f k)
  | 0 => h
  | k + 1 => ((Words.twenty h k).downs 4).aslants 4
/-- The words of a block. -/
def blockW (f : Nat → Nat) : Nat → Nat := fun i => (twenty f 10 i + f i) % 4294967296
theorem blockW_lt (f : Nat → Nat) : Words (blockW f) := fun i => Nat.mod_lt _ (by omega)
/-- Bits of words, as the model tells them. -/
theorem u32xor (a b : Nat) (ha : a < 4294967296) (hb : b < 4294967296) : bits .xor .u32 (a : Int) (b : Int) = ((a ^^^ b : Nat) : Int) := u32_xor_nat a b ha hb
theorem u32or (a b : Nat) (ha : a < 4294967296) (hb : b < 4294967296) : bits .or .u32 (a : Int) (b : Int) = ((a ||| b : Nat) : Int) := u32_or_nat a b ha hb
end Go.Proofs.Ytkcbolcodgmpaaa

namespace Go.Proofs.Ytkcbolcodgmpaaa
open Go.RowKit
set_option linter.unusedVariables false
set_option linter.unusedSimpArgs false
theorem wpl_move {P : Program} {ops : Array Oper} {rest : List Oper} {o : Oper} {a : Act} {w : World} {Q : Exit → Act → World → Prop} (hg : o.guard = none) (x : Operand) (ho : o.op = .move x) (d : Option Tmp) (v : Value) (hd : o.dst = d) (hv : a.eval x = v) (h : wpList P ops Q rest (a.put d v) w) : wpList P ops Q (o :: rest) a w :=
  wpList_plain hg fun _ hK => by
    subst hd hv
    unfold Oper.wp execOp
    simp only [ho, Sem.run_bind, Sem.run_pure, Result.andThen_ok]
    exact hK _ _ h
theorem wpl_load {P : Program} {ops : Array Oper} {rest : List Oper} {o : Oper} {a : Act} {w : World} {Q : Exit → Act → World → Prop} (hgd : o.guard = none) (ty : TypeId) (x : Operand) (ho : o.op = .load ty x) (d : Option Tmp) (hd : o.dst = d) (g : Nat) (cells : Array Value) (hx : a.eval x = .pointer (some ⟨g, 0, none⟩))
    (t : TypeId) (fr : Nat × Nat) (hg : w.heap[g]? = some (.cells cells t fr)) (du : TypeDesc) (hu : P.underlying ty = some du) (hs : (match du with | .struct _ | .array _ _ => true | _ => false) = true) (hi : (P.info? ty).map (·.size) = some cells.size)
    (h : wpList P ops Q rest (a.put d (.agg cells)) w) : wpList P ops Q (o :: rest) a w :=
  wpList_plain hgd fun _ hK => by
    subst hd
    unfold Oper.wp execOp
    simp only [ho, hx, Instr.loadAt, Instr.sureAddr, Sem.run_bind, Sem.run_pure, Result.andThen_ok, run_loadVar_row w g t ty cells fr du hg hu hs hi]
    exact hK _ _ h
theorem ite_yes {c : Prop} [Decidable c] {a b : Prop} (h : c) (k : a) : (if c then a else b) := by rw [if_pos h]; exact k
theorem below_setRow {B g : Nat} {w w' : World} (h : Below B w w') (hg : B ≤ g) (cs : Array Value) : Below B w (w'.setRow g cs) := ⟨h.os, h.tape, h.output, by simpa [World.setRow] using h.size, fun k hk => (setRow_other _ _ _ _ (by omega)).trans (h.block k hk)⟩
end Go.Proofs.Ytkcbolcodgmpaaa

namespace Go.Proofs.Ytkcbolcodgmpaaa
open Go.RowKit Go.PlainAid
set_option maxRecDepth 20000
set_option linter.unusedVariables false
set_option linter.unusedSimpArgs false
/-- The words of a list of numbers, 0 behind its end. -/
def wordsOf (xs : List Int) (n : Nat) : Nat → Nat := fun i => if i < n then (xs.getD i 0 % 4294967296).toNat else 0
theorem wordsOf_upd (xs : List Int) (k : Nat) : upd (wordsOf xs k) k (xs.getD k 0 % 4294967296).toNat = wordsOf xs (k + 1) := by
  funext i
  unfold upd wordsOf
  by_cases h : i = k
  · subst h; rw [if_pos rfl, if_pos (by omega)]
  · rw [if_neg h]
    by_cases h2 : i < k
    · rw [if_pos h2, if_pos (by omega)]
    · rw [if_neg h2, if_neg (by omega)]
theorem wordsOf_lt (xs : List Int) (n : Nat) : Words (wordsOf xs n) := by
  intro i; unfold wordsOf; split <;> omega
theorem sizeCha : (Try.prog.info? 49).map (·.size) = some 16 := by kernel_rfl
theorem sizeChaV (f : Nat → Nat) : (Try.prog.info? 49).map (·.size) = some (rowV .u32 16 f).size := by rw [rowV_size]; exact sizeCha
theorem zeroCha : (#[.int .u32 0, .int .u32 0, .int .u32 0, .int .u32 0, .int .u32 0, .int .u32 0, .int .u32 0, .int .u32 0, .int .u32 0, .int .u32 0, .int .u32 0, .int .u32 0, .int .u32 0, .int .u32 0, .int .u32 0, .int .u32 0] : Array Value) = rowV .u32 16 (fun _ => 0) := rfl
end Go.Proofs.Ytkcbolcodgmpaaa
