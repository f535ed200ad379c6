/- Chapter 4: the order of two terms by their texts: plain mathematics, TermText of both sides in one form, and the program's inOrder with the library's Compare and Or. -/
import Derived.Test.YtedihnfhjchdbaaVarW
import Derived.Test.YtedihnfhjchdbaaMakeIs
import Derived.Lib.Bytealg
import Derived.WalkKit
import Derived.WalkLawsBesides
import Derived.WalkSpells
import Derived.Laws.Rows
import Derived.Test.YtedihnfhjchdbaaMakeI
namespace Go.Proofs.Ytedihnfhjchdbaa
open Go.RowKit Go.PlainAid
set_option linter.unusedVariables false

/-- TermText. -/
def txB (ns : List Nd) (k : Int) : Bool := inB (sizeN ns k) 1 2000
def txS (ns : List Nd) (k : Int) : ByteArray := if txB ns k = true then strOfNums (tx ns k.toNat) else ByteArray.empty
/-- Bytes in their order. -/
theorem cmpB_range : ∀ a b : List UInt8, Lib.compareBytes a b = -1 ∨ Lib.compareBytes a b = 0 ∨ Lib.compareBytes a b = 1
  | [], [] => .inr (.inl rfl)
  | [], _ :: _ => .inl rfl
  | _ :: _, [] => .inr (.inr rfl)
  | x :: a, y :: b => by
    rw [Lib.compareBytes]
    split
    · exact .inl rfl
    · split
      · exact .inr (.inr rfl)
      · exact cmpB_range a b
theorem cmpB_zero : ∀ a b : List UInt8, Lib.compareBytes a b = 0 ↔ a = b
  | [], [] => by simp [Lib.compareBytes]
  | [], _ :: _ => by simp [Lib.compareBytes]
  | _ :: _, [] => by simp [Lib.compareBytes]
  | x :: a, y :: b => by
    rw [Lib.compareBytes]
    by_cases h1 : x < y
    · rw [if_pos h1]
      constructor
      · intro h; omega
      · intro h; simp only [List.cons.injEq] at h; rw [h.1] at h1; exact absurd h1 (UInt8.lt_irrefl y)
    · rw [if_neg h1]
      by_cases h2 : y < x
      · rw [if_pos h2]
        constructor
        · intro h; omega
        · intro h; simp only [List.cons.injEq] at h; rw [h.1] at h2; exact absurd h2 (UInt8.lt_irrefl y)
      · rw [if_neg h2, cmpB_zero a b, List.cons.injEq]
        have hxy : x = y := UInt8.le_antisymm (UInt8.not_lt.1 h2) (UInt8.not_lt.1 h1)
        exact ⟨fun h => ⟨hxy, h⟩, fun h => h.2⟩
theorem cmpB_less : ∀ a b : List UInt8, Op.bytesLess a b = decide (Lib.compareBytes a b = -1)
  | [], [] => rfl
  | [], _ :: _ => rfl
  | _ :: _, [] => rfl
  | x :: a, y :: b => by
    rw [Lib.compareBytes, Op.bytesLess]
    by_cases h1 : x < y
    · simp [h1]
    · rw [if_neg h1]
      by_cases h2 : y < x
      · have hne : (x == y) = false := by
          rw [beq_eq_false_iff_ne]; intro e; rw [e] at h2; exact UInt8.lt_irrefl y h2
        simp [h1, h2, hne]
      · have hxy : x = y := UInt8.le_antisymm (UInt8.not_lt.1 h2) (UInt8.not_lt.1 h1)
        rw [if_neg h2, cmpB_less a b]
        simp [hxy]
/-- How two texts compare. -/
def cmpS (s t : ByteArray) : Int := Lib.compareBytes s.data.toList t.data.toList
theorem cmpS_range (s t : ByteArray) : cmpS s t = -1 ∨ cmpS s t = 0 ∨ cmpS s t = 1 := cmpB_range _ _
theorem cmpS_eq (s t : ByteArray) : (s.toList == t.toList) = decide (cmpS s t = 0) := by
  unfold cmpS
  rw [ByteArray.toList_eq, ByteArray.toList_eq, Bool.eq_iff_iff, beq_iff_eq, decide_eq_true_iff]
  exact (cmpB_zero _ _).symm
theorem cmpS_gt (s t : ByteArray) : (!(Op.bytesLess s.toList t.toList || s.toList == t.toList)) = decide (cmpS s t = 1) := by
  rw [cmpS_eq, ByteArray.toList_eq, ByteArray.toList_eq, cmpB_less]
  have := cmpS_range s t
  unfold cmpS at this ⊢
  rcases this with h | h | h <;> rw [h] <;> rfl
theorem cmpS_less (s t : ByteArray) : Op.bytesLess s.toList t.toList = decide (cmpS s t = -1) := by
  rw [ByteArray.toList_eq, ByteArray.toList_eq, cmpB_less]; rfl
/-- Are the two to change places? -/
def swapB (ns : List Nd) (x y : Int) : Bool := decide (cmpS (txS ns x) (txS ns y) = 1) || (decide (cmpS (txS ns x) (txS ns y) = 0) && decide (y < x))

/-- How two integers compare. -/
def cmpI (x y : Int) : Int := if x < y then -1 else if y < x then 1 else 0
end Go.Proofs.Ytedihnfhjchdbaa

namespace Go.Proofs.Ytedihnfhjchdbaa
open Go.RowKit Go.PlainAid
set_option linter.unusedVariables false
theorem swap_is (ns : List Nd) (x y : Int) : decide (0 < (if cmpS (txS ns x) (txS ns y) = 0 then cmpI x y else cmpS (txS ns x) (txS ns y))) = swapB ns x y := by
  unfold swapB cmpI
  rcases cmpS_range (txS ns x) (txS ns y) with h | h | h <;> rw [h]
  · rfl
  · by_cases h1 : x < y
    · simp [h1]; omega
    · by_cases h2 : y < x
      · simp [h1, h2]
      · simp [h1, h2]
  · rfl
/-- DhOf. -/
def dhB (ns : List Nd) (x pub : Int) : Bool := isK ns pub 6 && okAt ns x
def dhN (ns : List Nd) (x pub : Int) : Nd := ⟨7, 0, if swapB ns x (ndAt ns pub).a = true then (ndAt ns pub).a else x, if swapB ns x (ndAt ns pub).a = true then x else (ndAt ns pub).a⟩
def dhA (ns : List Nd) (x pub : Int) : List Nd := if dhB ns x pub = true then putA ns (dhN ns x pub) else ns
def dhK (ns : List Nd) (x pub : Int) : Int := if dhB ns x pub = true then putK ns (dhN ns x pub) else -1
theorem dhK_neg {ns : List Nd} {x pub : Int} (h : dhK ns x pub < 0) : dhK ns x pub = -1 := by
  unfold dhK at h ⊢
  split
  · rename_i h1; rw [if_pos h1] at h; exact putK_neg h
  · rfl
theorem dhA_neg {ns : List Nd} {x pub : Int} (h : dhK ns x pub < 0) : dhA ns x pub = ns := by
  unfold dhK at h
  unfold dhA
  split
  · rename_i h1; rw [if_pos h1] at h; exact putA_neg h
  · rfl
theorem dhA_len {ns : List Nd} {x pub : Int} (h : ns.length ≤ 1048576) : (dhA ns x pub).length ≤ 1048577 := by
  unfold dhA
  split
  · exact putA_len h
  · omega
end Go.Proofs.Ytedihnfhjchdbaa
