/- The program's numbers in bytes, the highest first (chapter 21). -/
import Derived.Test.YthpkhbcahihbnaaDoorRowC
import Derived.WalkKit
import Derived.WalkLawsBesides
import Derived.WalkSpells
import Derived.BigRegion
namespace Go.Proofs.YthpkhbcahihbnaaDoor
open Go.RowKit Go.PlainAid
set_option maxRecDepth 20000
set_option linter.unusedVariables false
/-- The bytes of a number, the highest of c first. -/
def highB (x c : Nat) : Nat → Nat := fun j => lowB x (c - 1 - j)
theorem highB_lt (x c j : Nat) : highB x c j < 256 := Nat.mod_lt _ (by omega)
def highTo (x c k : Nat) : Nat → Nat := fun j => if c ≤ j + k then highB x c j else 0
theorem highTo_upd {x c k : Nat} (h : k < c) : ∀ i, i < c → upd (highTo x c k) (c - 1 - k) (lowB x k) i = highTo x c (k + 1) i := by
  intro i hi
  unfold upd highTo
  by_cases e : i = c - 1 - k
  · rw [if_pos e, if_pos (by omega)]
    unfold highB
    rw [show c - 1 - i = k by omega]
  · rw [if_neg e]
    by_cases h2 : c ≤ i + k
    · rw [if_pos h2, if_pos (by omega)]
    · rw [if_neg h2, if_neg (by omega)]
theorem shr64_all (x i : Nat) (hx : x < 18446744073709551616) (w : World) : (Op.shift .shr .u64 (x : Int) .i64 (8 * (i : Int))).run Tryd.prog w = .ok (.int .u64 ((x : Int) / 2 ^ (8 * i))) w := by
  have h1 : ¬ (8 * (i : Int) < 0) := by omega
  have hp : (0 : Int) ≤ 2 ^ (8 * i) := Int.le_of_lt (Int.pow_pos (by decide))
  by_cases hi : 8 * i < 64
  · have h2 : min (8 * (i : Int)).toNat IntKind.u64.bits = 8 * i := by show min (8 * (i : Int)).toNat 64 = 8 * i; omega
    simp only [Op.shift, h1, if_false, h2, Sem.run_pure]
    congr 2
    rw [Int.fdiv_eq_ediv_of_nonneg _ hp]
  · have h2 : min (8 * (i : Int)).toNat IntKind.u64.bits = 64 := by show min (8 * (i : Int)).toNat 64 = 64; omega
    simp only [Op.shift, h1, if_false, h2, Sem.run_pure]
    congr 2
    rw [Int.fdiv_eq_ediv_of_nonneg _ (by decide)]
    have e1 : (x : Int) / 2 ^ 64 = 0 := Int.ediv_eq_zero_of_lt (by omega) (by omega)
    have h3 : 2 ^ 64 ≤ 2 ^ (8 * i) := Nat.pow_le_pow_right (by omega) (by omega)
    have e2 : x / 2 ^ (8 * i) = 0 := Nat.div_eq_of_lt (by omega)
    rw [e1]
    have e3 : (x : Int) / 2 ^ (8 * i) = ((x / 2 ^ (8 * i) : Nat) : Int) := by push_cast; rfl
    rw [e3, e2]; rfl
set_option maxHeartbeats 1000000 in
theorem highest_any (x c : Nat) (w : World) (hx : x < 18446744073709551616) (hc : c ≤ 32) :
    Calls Tryd.prog 18 #[.int .u64 (x : Int), .int .i64 (c : Int)] w fun e w' => e = .returned (.string (strOfNums (bytesV c (highB x c)))) ∧ Below w.heap.size w w' := by
  have HM := run_mkB w c (by omega)
  have HX : Hid (x < 18446744073709551616) := hx
  go_enter Tryd.func18, Tryd.ntmps18
  go_wp2
  go_loopw [11] (fun i wr => ∃ k : Nat, k ≤ c ∧ i = .int .i64 (k : Int) ∧ Below w.heap.size w wr ∧ RowAt wr w.heap.size 5 .u8 c (highTo x c k))
    (fun i _ => c - (intOf i).toNat)
  case atStart => exact ⟨0, Nat.zero_le _, rfl, (Below.refl _ _).alloc (Nat.le_refl _) _, RowAt.ext (heap_alloc_new w _) (fun i hi => by unfold highTo; rw [if_neg (by omega)])⟩
  case round =>
    obtain ⟨k, hk, rfl, hB, hR⟩ := hrel
    by_cases hkc : k < c
    · have hlt : (k : Int) < (c : Int) := by omega
      have hw : IntKind.i64.wrap (8 * (k : Int)) = 8 * (k : Int) := by rw [IntKind.wrap_i64]; omega
      have hj : ((c : Int) - 1 - (k : Int)) = ((c - 1 - k : Nat) : Int) := by omega
      have hjl : c - 1 - k < c := by omega
      have hw2 : IntKind.i64.wrap ((c : Int) - 1) = (c : Int) - 1 := by rw [IntKind.wrap_i64]; omega
      have hw3 : IntKind.i64.wrap ((c : Int) - 1 - (k : Int)) = (c : Int) - 1 - (k : Int) := by rw [IntKind.wrap_i64]; omega
      have hs := shr64_all x k hx wr
      have c1 := hR.cell hjl
      have z1 := hR.froz (c - 1 - k)
      have HR : Hid (RowAt wr w.heap.size 5 .u8 c (highTo x c k)) := hR
      have HE : Hid ((x : Int) / 2 ^ (8 * k) % 256 = ((lowB x k : Nat) : Int)) := by show _ = _; unfold lowB; push_cast; rfl
      have HB : Hid (Below w.heap.size w wr) := hB
      have HU : Hid _ := (HR.out.set hjl (lowB x k)).ext (highTo_upd hkc)
      generalize hJ : c - 1 - k = j at hj hjl c1 z1 HU
      have hjI : (j : Int) < (c : Int) := by omega
      clear hR hB hJ
      go_wp2
      rw [HE.out]
      go_roundw
      case rel => exact ⟨k + 1, by omega, by go_num, HB.out.setCell (Nat.le_refl _) _, HU.out⟩
      case measure => simp [intOf]; omega
    · obtain rfl : k = c := by omega
      have hcv := conv_row (c := k) hR
      go_wp2
      go_ret
      exact ⟨by rw [bytesV_ext (g := highB x k) (fun i hi => by unfold highTo; rw [if_pos (by omega)])]; rfl, hB⟩
end Go.Proofs.YthpkhbcahihbnaaDoor
