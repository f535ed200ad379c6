/- The contracts of chapter 7's WindowOk, Fresh and Noted, the specification's, and what they say in plain words. -/
import Derived.Test.YtgidhfehknlcoaaTermW
import Derived.WalkKit
import Derived.WalkLawsBesides
import Derived.WalkSpells
import Derived.IntWalk
import Derived.Laws.Rows
import Derived.Laws.BitsLemmas
import Derived.Laws.ResultCell
namespace Go.Proofs.Ytgidhfehknlcoaa
open Go.RowKit
set_option linter.unusedVariables false
/-- WindowOk. -/
def winB (t s : Int) : Bool := inB t (-1) 9999 && (inB s 0 65535 && (if t < 0 then decide (s = 0) else (decide (s % 2 = 1) && (decide (15 ≤ t) || decide (s < 2 ^ (t + 1).toNat)))))
/-- Fresh. -/
def freshB (t s q : Int) : Bool := winB t s && (inB q 0 9999 && (decide (t < q) || (decide (t - q < 16) && decide (s.toNat / 2 ^ (t - q).toNat % 2 = 0))))
/-- What is seen with it. -/
def notedS (t s q : Int) : Int := if q ≤ t then ((s.toNat ||| 2 ^ (t - q).toNat : Nat) : Int) else if 0 ≤ t ∧ q - t < 16 then (((s.toNat * 2 ^ (q - t).toNat) % 65536 ||| 1 : Nat) : Int) else 1
theorem winB_range {t s : Int} (h : winB t s = true) : (-1 ≤ t ∧ t ≤ 9999) ∧ (0 ≤ s ∧ s ≤ 65535) := by
  unfold winB inB at h
  simp only [Bool.and_eq_true, decide_eq_true_eq] at h
  exact ⟨h.1, h.2.1⟩
theorem pow_small {k : Nat} (h : k ≤ 15) : (2 : Int) ^ k ≤ 32768 ∧ 0 < (2 : Int) ^ k := by
  rcases (show k = 0 ∨ k = 1 ∨ k = 2 ∨ k = 3 ∨ k = 4 ∨ k = 5 ∨ k = 6 ∨ k = 7 ∨ k = 8 ∨ k = 9 ∨ k = 10 ∨ k = 11 ∨ k = 12 ∨ k = 13 ∨ k = 14 ∨ k = 15 by omega) with rfl | rfl | rfl | rfl | rfl | rfl | rfl | rfl | rfl | rfl | rfl | rfl | rfl | rfl | rfl | rfl <;> decide
theorem wrap_small {x : Int} (h : 0 ≤ x) (h2 : x ≤ 4294967296) : wrap64 x = x := by unfold wrap64; omega
theorem bits1 {a b : Nat} (ha : a < 4294967296) (hb : b < 4294967296) : bits .and .i64 (a : Int) (b : Int) = ((a &&& b : Nat) : Int) ∧ bits .or .i64 (a : Int) (b : Int) = ((a ||| b : Nat) : Int) :=
  bits_nat .i64 32 (by decide) (fun n h1 h2 => by rw [IntKind.wrap_i64]; have : n < 4294967296 := h2; omega) a b ha hb
theorem div_nat (s k : Nat) : (s : Int) / 2 ^ k = ((s / 2 ^ k : Nat) : Int) := by rw [Int.natCast_ediv]; congr 1
theorem mul_nat (s k : Nat) : (s : Int) * 2 ^ k = ((s * 2 ^ k : Nat) : Int) := by rw [Int.natCast_mul]; congr 1
theorem pow_nat (k : Nat) : (2 : Int) ^ k = ((2 ^ k : Nat) : Int) := by simp
theorem pow_smallN {k : Nat} (h : k ≤ 15) : 2 ^ k ≤ 32768 := by
  have := (pow_small h).1
  rw [pow_nat] at this
  omega
theorem winSize : (Try.prog.info? 23).map (·.size) = some 2 := by kernel_rfl
theorem res_win {P : Program} {fn : Func} {p u : Tmp} {ty : TypeId} (h : fn.results = #[.cell p ty, .tmp u]) (tmps : Array Value) (w : World) (g : Nat) (t : TypeId) (cs : Array Value) (fr : Nat × Nat) (d : TypeDesc)
    (hp : tmps.getD p undef = .pointer (some ⟨g, 0, none⟩)) (hg : w.heap[g]? = some (.cells cs t fr))
    (hu : P.underlying ty = some d) (hd : (match d with | .struct _ | .array _ _ => true | _ => false) = true) (hi : (P.info? ty).map (·.size) = some cs.size) :
    (results fn tmps).run P w = .ok (.tuple #[.agg cs, tmps.getD u undef]) w := by
  have hp' : tmps[p]?.getD undef = .pointer (some ⟨g, 0, none⟩) := by simpa using hp
  simp [results, h, hp', asAddr, run_loadVar_row w g t ty cs fr d hg hu hd hi]
theorem below_two {B : Nat} {a w : World} {g : Nat} (h : Below B a w) (hg : B ≤ g) (u v : Value) : Below B a ((w.setCell ⟨g, 0, none⟩ u).setCell ⟨g, 1, none⟩ v) := (h.setCell hg u).setCell hg v
theorem store2 {w : World} {g : Nat} {t : TypeId} {u0 u1 : Value} (h : w.heap[g]? = some (.cells #[u0, u1] t (0, 0))) (v0 v1 : Value) : ((w.setCell ⟨g, 0, none⟩ v0).setCell ⟨g, 1, none⟩ v1).heap[g]? = some (.cells #[v0, v1] t (0, 0)) :=
  (heap_setCell_same _ g 1 _ _ _ (heap_setCell_same _ g 0 _ _ _ h)).trans rfl
/-- Noted's window. -/
def notedT (t s q : Int) : Int := if freshB t s q = true then (if q ≤ t then t else q) else t
def notedV (t s q : Int) : Int := if freshB t s q = true then notedS t s q else s
theorem freshB_range {t s q : Int} (h : freshB t s q = true) : (-1 ≤ t ∧ t ≤ 9999) ∧ (0 ≤ s ∧ s ≤ 65535) ∧ (0 ≤ q ∧ q ≤ 9999) ∧ (q ≤ t → t - q < 16) := by
  unfold freshB at h
  simp only [Bool.and_eq_true, Bool.or_eq_true, decide_eq_true_eq] at h
  have h2 : 0 ≤ q ∧ q ≤ 9999 := by have := h.2.1; unfold inB at this; simpa using this
  exact ⟨(winB_range h.1).1, (winB_range h.1).2, h2, fun hq => by rcases h.2.2 with h3 | h3 <;> omega⟩
end Go.Proofs.Ytgidhfehknlcoaa
