/- The key's half without the bits that are never there (chapter 25): of the program, of the specification. -/
import Derived.Test.YtopdjfgomclffaaRowC
import Derived.Test.YtopdjfgomclffaaSubT
import Derived.WalkKit
import Derived.WalkLawsBesides
import Derived.WalkSpells
import Derived.WalkSmall
import Derived.BigRegion
import Derived.Laws.Small
import Derived.Below
import Derived.OwnWalk
import Derived.PlainAid
namespace Go.Proofs.Ytopdjfgomclffaa
open Go.RowKit Go.PlainAid
set_option maxRecDepth 20000
set_option linter.unusedVariables false
set_option linter.unusedSimpArgs false
/-- The first k of the four. -/
def cl1 (f : Nat → Nat) (k : Nat) : Nat → Nat := fun i => if i % 4 = 3 ∧ i / 4 < k then f i % 16 else f i
/-- The first k of the three. -/
def cl2 (f : Nat → Nat) (k : Nat) : Nat → Nat := fun i => if i % 4 = 0 ∧ 1 ≤ i / 4 ∧ i / 4 ≤ k then f i - f i % 4 else f i
def clF (t : ByteArray) : Nat → Nat := cl2 (cl1 (btN t) 4) 3
def clampT (t : ByteArray) : ByteArray := strOfNums (bytesV 16 (clF (t.extract 0 16)))
theorem clampT_size (t : ByteArray) : (clampT t).size = 16 := strOf_size _ _
theorem cl1_at (f : Nat → Nat) (k : Nat) : cl1 f k (4 * k + 3) = f (4 * k + 3) := if_neg (by omega)
theorem cl2_at (f : Nat → Nat) (k : Nat) : cl2 f k (4 * k + 4) = f (4 * k + 4) := if_neg (by omega)
theorem cl1_next (f : Nat → Nat) (k : Nat) : upd (cl1 f k) (4 * k + 3) (f (4 * k + 3) % 16) = cl1 f (k + 1) := by
  funext j
  by_cases e : j = 4 * k + 3
  · subst e; rw [upd_same]; unfold cl1; rw [if_pos (by omega)]
  · rw [upd_other _ _ e]; unfold cl1
    by_cases h : j % 4 = 3 ∧ j / 4 < k
    · rw [if_pos h, if_pos (by omega)]
    · rw [if_neg h, if_neg (by omega)]
theorem cl2_next (f : Nat → Nat) (k : Nat) : upd (cl2 f k) (4 * k + 4) (f (4 * k + 4) - f (4 * k + 4) % 4) = cl2 f (k + 1) := by
  funext j
  by_cases e : j = 4 * k + 4
  · subst e; rw [upd_same]; unfold cl2; rw [if_pos (by omega)]
  · rw [upd_other _ _ e]; unfold cl2
    by_cases h : j % 4 = 0 ∧ 1 ≤ j / 4 ∧ j / 4 ≤ k
    · rw [if_pos h, if_pos (by omega)]
    · rw [if_neg h, if_neg (by omega)]
theorem cl1_lt {f : Nat → Nat} (hf : ∀ i, f i < 256) (k i : Nat) : cl1 f k i < 256 := by
  have := hf i
  unfold cl1; split <;> omega
theorem cl1_zero (f : Nat → Nat) (i : Nat) : cl1 f 0 i = f i := if_neg (by omega)
theorem cl2_zero (f : Nat → Nat) (i : Nat) : cl2 f 0 i = f i := if_neg (by omega)
theorem and15 {x : Nat} (h : x < 256) : bits .and .u8 ((x : Nat) : Int) 15 = ((x % 16 : Nat) : Int) := by
  have h1 : (BitVec.ofInt 8 15).toNat = 2 ^ 4 - 1 := by decide
  have key : (BitVec.ofInt 8 (x : Int) &&& BitVec.ofInt 8 15).toNat = x % 2 ^ 4 := by
    rw [BitVec.toNat_and, BitVec.toNat_ofInt, h1, Nat.and_two_pow_sub_one_eq_mod]; omega
  show IntKind.u8.wrap ((BitVec.ofInt 8 (x : Int) &&& BitVec.ofInt 8 15).toNat : Nat) = _
  rw [key, IntKind.wrap_u8']
  omega
theorem and252' : ∀ x, x < 256 → x &&& 252 = x - x % 4 := by decide
theorem and252 {x : Nat} (h : x < 256) : bits .and .u8 ((x : Nat) : Int) 252 = ((x - x % 4 : Nat) : Int) := by
  have h1 : (BitVec.ofInt 8 252).toNat = 252 := by decide
  have key : (BitVec.ofInt 8 (x : Int) &&& BitVec.ofInt 8 252).toNat = x - x % 4 := by
    rw [BitVec.toNat_and, h1, BitVec.toNat_ofInt, ← and252' x h]; congr 1; omega
  show IntKind.u8.wrap ((BitVec.ofInt 8 (x : Int) &&& BitVec.ofInt 8 252).toNat : Nat) = _
  rw [key, IntKind.wrap_u8']
  omega
theorem index_lit (T : TypeId) (n : Nat) (hT : Try.prog.underlying T = some (.array n 3)) (cs : Array Value) (k : Nat) (v : Value) (hk : k < n) (hv : cs[k]? = some v) (w : World) : (Instr.index T (.agg cs) (.int .i64 (k : Int))).run Try.prog w = .ok v w := by
  have h1 : (0 : Int) ≤ (k : Int) ∧ (k : Int) < (n : Int) := by omega
  simp only [Instr.index, asIntOf, Sem.run_bind, Sem.run_pure, Result.andThen_ok, run_underlying hT, if_pos h1, Try.sizeOf3, Nat.mul_one, Int.toNat_natCast, part, isAgg, run_underlying Try.underlying3, hv]
  rfl
set_option maxHeartbeats 1600000 in
theorem specClamp_any (t : ByteArray) (w : World) (ht : t.size = 32) :
    Calls Try.prog 40 #[.string t] w fun e w' => e = .returned (.string (clampT t)) ∧ Below w.heap.size w w' := by
  have hs : ((t.size : Nat) : Int) = 32 := by omega
  have hx : (t.extract 0 16).size = 16 := by rw [ByteArray.size_extract]; omega
  have HE : Hid (strOfNums (bytesV 16 (clF (t.extract 0 16))) = clampT t) := rfl
  obtain ⟨cap, w1, hcv, hR1, hB1, hs1⟩ := bytes_mk (t.extract 0 16) w
  have HF : Hid (∀ i, btN (t.extract 0 16) i < 256) := btN_lt _
  have HCE : Hid (clF (t.extract 0 16) = cl2 (cl1 (btN (t.extract 0 16)) 4) 3) := rfl
  rw [hx] at hcv hR1
  generalize hf : btN (t.extract 0 16) = f at hR1 HF HCE
  have HO : Hid (RowC w1 w.heap.size .u8 16 (cl1 f 0)) := hR1.ext (fun i _ => (cl1_zero f i).symm)
  have HB : Hid (Below w.heap.size w w1) := hB1
  clear hR1 hB1 hs1 hf
  go_enter Try.func40, Try.ntmps40
  go_wp2
  clear hcv
  go_loopw [4] (fun i wr => ∃ k j : Nat, k ≤ 4 ∧ Hid (j = 4 * k + 3) ∧ i = .int .i64 (j : Int) ∧ Hid (Below w.heap.size w wr) ∧ Hid (RowC wr w.heap.size .u8 16 (cl1 f k)))
    (fun i _ => 20 - (intOf i).toNat)
  case atStart => exact ⟨0, 3, Nat.zero_le _, rfl, rfl, HB, HO⟩
  case round =>
    clear HB HO
    obtain ⟨k, j, hk, HJ, rfl, HB, HO⟩ := hrel
    have hj := HJ.out
    by_cases hlt : k < 4
    · have hi0 : (0 : Int) ≤ (j : Int) := by omega
      have hi1 : (j : Int) < 16 := by omega
      have hj16 : j < 16 := by omega
      have c1 := HO.out.c j hj16
      have z1 := HO.out.z j hj16
      have hat := cl1_at f k
      have hnx := cl1_next f k
      rw [← hj] at hat hnx
      rw [hat] at c1
      have a1 := and15 (HF.out j)
      have HO2 : Hid (RowC (wr.setCell ⟨w.heap.size, j, none⟩ (.int .u8 ((f j % 16 : Nat) : Int))) w.heap.size .u8 16 (cl1 f (k + 1))) := by rw [← hnx]; exact HO.out.set hj16 _
      have HB2 : Hid (Below w.heap.size w (wr.setCell ⟨w.heap.size, j, none⟩ (.int .u8 ((f j % 16 : Nat) : Int)))) := HB.out.setCell (Nat.le_refl _) _
      clear hat hnx HO HB hj
      generalize f j % 16 = y at a1 HO2 HB2
      generalize f j = x at c1 a1
      go_wp2
      go_roundw
      case rel => exact ⟨k + 1, j + 4, by omega, (by have := HJ.out; show _ = _; omega), by go_num, HB2, HO2⟩
      case measure => have := HJ.out; simp [intOf]; omega
    · obtain rfl : k = 4 := by omega
      obtain rfl : j = 19 := by omega
      have HO2 : Hid (RowC wr w.heap.size .u8 16 (cl2 (cl1 f 4) 0)) := HO.out.ext (fun i _ => (cl2_zero _ i).symm)
      have HF2 : Hid (∀ i, cl1 f 4 i < 256) := fun i => cl1_lt HF.out 4 i
      clear HO
      generalize cl1 f 4 = g at HO2 HF2 HCE
      go_wp2
      go_loopw [5] (fun i wr => ∃ k j : Nat, k ≤ 3 ∧ Hid (j = 4 * k + 4) ∧ i = .int .i64 (j : Int) ∧ Hid (Below w.heap.size w wr) ∧ Hid (RowC wr w.heap.size .u8 16 (cl2 g k)))
        (fun i _ => 20 - (intOf i).toNat)
      case atStart => exact ⟨0, 4, Nat.zero_le _, rfl, rfl, HB, HO2⟩
      case round =>
        clear HB HO2
        obtain ⟨k, j, hk, HJ, rfl, HB, HO⟩ := hrel
        have hj := HJ.out
        by_cases hlt : k < 3
        · have hi0 : (0 : Int) ≤ (j : Int) := by omega
          have hi1 : (j : Int) < 16 := by omega
          have hj16 : j < 16 := by omega
          have c1 := HO.out.c j hj16
          have z1 := HO.out.z j hj16
          have hat := cl2_at g k
          have hnx := cl2_next g k
          rw [← hj] at hat hnx
          rw [hat] at c1
          have a1 := and252 (HF2.out j)
          have HO2 : Hid (RowC (wr.setCell ⟨w.heap.size, j, none⟩ (.int .u8 ((g j - g j % 4 : Nat) : Int))) w.heap.size .u8 16 (cl2 g (k + 1))) := by rw [← hnx]; exact HO.out.set hj16 _
          have HB2 : Hid (Below w.heap.size w (wr.setCell ⟨w.heap.size, j, none⟩ (.int .u8 ((g j - g j % 4 : Nat) : Int)))) := HB.out.setCell (Nat.le_refl _) _
          clear hat hnx HO HB hj
          generalize g j - g j % 4 = y at a1 HO2 HB2
          generalize g j = x at c1 a1
          go_wp2
          go_roundw
          case rel => exact ⟨k + 1, j + 4, by omega, (by have := HJ.out; show _ = _; omega), by go_num, HB2, HO2⟩
          case measure => have := HJ.out; simp [intOf]; omega
        · obtain rfl : k = 3 := by omega
          obtain rfl : j = 16 := by omega
          have hcv := HO.out.conv (c := cap)
          rw [← HCE.out, HE.out] at hcv
          go_wp2
          go_ret
          exact ⟨rfl, HB.out⟩
set_option maxHeartbeats 1600000 in
theorem implClamp_any (t : ByteArray) (w : World) (ht : t.size = 32) :
    Calls Try.prog 31 #[.string t] w fun e w' => e = .returned (.string (clampT t)) ∧ Below w.heap.size w w' := by
  have hs : ((t.size : Nat) : Int) = 32 := by omega
  have hx : (t.extract 0 16).size = 16 := by rw [ByteArray.size_extract]; omega
  have HE : Hid (strOfNums (bytesV 16 (clF (t.extract 0 16))) = clampT t) := rfl
  obtain ⟨cap, w1, hcv, hR1, hB1, hs1⟩ := bytes_mk (t.extract 0 16) w
  have HF : Hid (∀ i, btN (t.extract 0 16) i < 256) := btN_lt _
  have HCE : Hid (clF (t.extract 0 16) = cl2 (cl1 (btN (t.extract 0 16)) 4) 3) := rfl
  rw [hx] at hcv hR1
  generalize hf : btN (t.extract 0 16) = f at hR1 HF HCE
  have HO : Hid (RowC w1 w.heap.size .u8 16 (cl1 f 0)) := hR1.ext (fun i _ => (cl1_zero f i).symm)
  have HB : Hid (Below w.heap.size w w1) := hB1
  clear hR1 hB1 hs1 hf
  go_enter Try.func31, Try.ntmps31
  go_wp2
  clear hcv
  go_loopw [12] (fun i wr => ∃ k : Nat, k ≤ 4 ∧ i = .int .i64 (k : Int) ∧ Hid (Below w.heap.size w wr) ∧ Hid (RowC wr w.heap.size .u8 16 (cl1 f k)))
    (fun i _ => 4 - (intOf i).toNat)
  case atStart => exact ⟨0, Nat.zero_le _, rfl, HB, HO⟩
  case round =>
    clear HB HO
    obtain ⟨k, hk, rfl, HB, HO⟩ := hrel
    by_cases hlt : k < 4
    · have hj16 : 4 * k + 3 < 16 := by omega
      have c1 := HO.out.c (4 * k + 3) hj16
      have z1 := HO.out.z (4 * k + 3) hj16
      rw [cl1_at f k] at c1
      have hnx := cl1_next f k
      have hfl := HF.out (4 * k + 3)
      have q1 : ((f (4 * k + 3) : Nat) : Int).tmod 16 = ((f (4 * k + 3) % 16 : Nat) : Int) := by rw [Int.tmod_eq_emod_of_nonneg (by omega)]; omega
      have q2 : ((f (4 * k + 3) : Nat) : Int) % 16 = ((f (4 * k + 3) % 16 : Nat) : Int) := by omega
      have q3 : IntKind.u8.wrap ((f (4 * k + 3) % 16 : Nat) : Int) = ((f (4 * k + 3) % 16 : Nat) : Int) := by rw [IntKind.wrap_u8']; omega
      have HO2 : Hid (RowC (wr.setCell ⟨w.heap.size, 4 * k + 3, none⟩ (.int .u8 ((f (4 * k + 3) % 16 : Nat) : Int))) w.heap.size .u8 16 (cl1 f (k + 1))) := by rw [← hnx]; exact HO.out.set hj16 _
      have HB2 : Hid (Below w.heap.size w (wr.setCell ⟨w.heap.size, 4 * k + 3, none⟩ (.int .u8 ((f (4 * k + 3) % 16 : Nat) : Int)))) := HB.out.setCell (Nat.le_refl _) _
      have hki : (k : Int) < 4 := by omega
      have hix : (Instr.index 69 (.agg #[.int .i64 3, .int .i64 7, .int .i64 11, .int .i64 15]) (.int .i64 (k : Int))).run Try.prog wr = .ok (.int .i64 ((4 * k + 3 : Nat) : Int)) wr := index_lit 69 4 Try.underlying69 _ k _ hlt (by rcases (show k = 0 ∨ k = 1 ∨ k = 2 ∨ k = 3 by omega) with rfl | rfl | rfl | rfl <;> rfl) wr
      clear hnx HO HB
      generalize f (4 * k + 3) % 16 = y at q1 q2 q3 HO2 HB2
      generalize f (4 * k + 3) = x at c1 q1 q2 hfl
      generalize 4 * k + 3 = j at c1 z1 hj16 HO2 HB2 hix
      have hj0 : (0 : Int) ≤ (j : Int) := by omega
      have hj1 : (j : Int) < 16 := by omega
      go_wp2
      go_roundw
      case rel => exact ⟨k + 1, by omega, by go_num, HB2, HO2⟩
      case measure => simp [intOf]; omega
    · obtain rfl : k = 4 := by omega
      have HO2 : Hid (RowC wr w.heap.size .u8 16 (cl2 (cl1 f 4) 0)) := HO.out.ext (fun i _ => (cl2_zero _ i).symm)
      have HF2 : Hid (∀ i, cl1 f 4 i < 256) := fun i => cl1_lt HF.out 4 i
      clear HO
      generalize cl1 f 4 = g at HO2 HF2 HCE
      go_wp2
      go_loopw [23] (fun i wr => ∃ k : Nat, k ≤ 3 ∧ i = .int .i64 (k : Int) ∧ Hid (Below w.heap.size w wr) ∧ Hid (RowC wr w.heap.size .u8 16 (cl2 g k)))
        (fun i _ => 3 - (intOf i).toNat)
      case atStart => exact ⟨0, Nat.zero_le _, rfl, HB, HO2⟩
      case round =>
        clear HB HO2
        obtain ⟨k, hk, rfl, HB, HO⟩ := hrel
        by_cases hlt : k < 3
        · have hj16 : 4 * k + 4 < 16 := by omega
          have c1 := HO.out.c (4 * k + 4) hj16
          have z1 := HO.out.z (4 * k + 4) hj16
          rw [cl2_at g k] at c1
          have hnx := cl2_next g k
          have hfl := HF2.out (4 * k + 4)
          have q1 : ((g (4 * k + 4) : Nat) : Int).tmod 4 = ((g (4 * k + 4) % 4 : Nat) : Int) := by rw [Int.tmod_eq_emod_of_nonneg (by omega)]; omega
          have q2 : ((g (4 * k + 4) : Nat) : Int) % 4 = ((g (4 * k + 4) % 4 : Nat) : Int) := by omega
          have q3 : IntKind.u8.wrap ((g (4 * k + 4) % 4 : Nat) : Int) = ((g (4 * k + 4) % 4 : Nat) : Int) := by rw [IntKind.wrap_u8']; omega
          have q4 : IntKind.u8.wrap (((g (4 * k + 4) : Nat) : Int) - ((g (4 * k + 4) % 4 : Nat) : Int)) = ((g (4 * k + 4) - g (4 * k + 4) % 4 : Nat) : Int) := by rw [IntKind.wrap_u8']; omega
          have HO2 : Hid (RowC (wr.setCell ⟨w.heap.size, 4 * k + 4, none⟩ (.int .u8 ((g (4 * k + 4) - g (4 * k + 4) % 4 : Nat) : Int))) w.heap.size .u8 16 (cl2 g (k + 1))) := by rw [← hnx]; exact HO.out.set hj16 _
          have HB2 : Hid (Below w.heap.size w (wr.setCell ⟨w.heap.size, 4 * k + 4, none⟩ (.int .u8 ((g (4 * k + 4) - g (4 * k + 4) % 4 : Nat) : Int)))) := HB.out.setCell (Nat.le_refl _) _
          have hki : (k : Int) < 3 := by omega
          have hix : (Instr.index 70 (.agg #[.int .i64 4, .int .i64 8, .int .i64 12]) (.int .i64 (k : Int))).run Try.prog wr = .ok (.int .i64 ((4 * k + 4 : Nat) : Int)) wr := index_lit 70 3 Try.underlying70 _ k _ hlt (by rcases (show k = 0 ∨ k = 1 ∨ k = 2 by omega) with rfl | rfl | rfl <;> rfl) wr
          clear hnx HO HB
          generalize g (4 * k + 4) - g (4 * k + 4) % 4 = y at q4 HO2 HB2
          generalize g (4 * k + 4) % 4 = r at q1 q2 q3 q4
          generalize g (4 * k + 4) = x at c1 q1 q2 hfl q4
          generalize 4 * k + 4 = j at c1 z1 hj16 HO2 HB2 hix
          have hj0 : (0 : Int) ≤ (j : Int) := by omega
          have hj1 : (j : Int) < 16 := by omega
          go_wp2
          go_region
          all_goals
            go_wp2
            go_roundw
            case rel => exact ⟨k + 1, by omega, by go_num, HB2.out.drew, HO2.out.drew⟩
            case measure => simp [intOf]; omega
        · obtain rfl : k = 3 := by omega
          have hcv := HO.out.conv (c := cap)
          rw [← HCE.out, HE.out] at hcv
          go_wp2
          go_ret
          exact ⟨rfl, HB.out⟩
end Go.Proofs.Ytopdjfgomclffaa
