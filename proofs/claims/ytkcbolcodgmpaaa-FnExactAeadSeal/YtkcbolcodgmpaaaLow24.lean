/- The program's numbers in bytes of chapter 24: lowestFirst, ofLowestFirst. -/
import Derived.Test.YtkcbolcodgmpaaaArrB
import Derived.WalkKit
import Derived.WalkLawsBesides
import Derived.WalkSpells
import Derived.BigRegion
namespace Go.Proofs.Ytkcbolcodgmpaaa
open Go.RowKit Go.PlainAid
set_option maxRecDepth 20000
theorem shr64_run (x i : Nat) (hi : 8 * i < 64) (w : World) : (Op.shift .shr .u64 (x : Int) .i64 (8 * (i : Int))).run Try.prog w = .ok (.int .u64 ((x / 2 ^ (8 * i) : Nat) : Int)) w := by
  have h1 : ¬ (8 * (i : Int) < 0) := by omega
  have h2 : min (8 * (i : Int)).toNat IntKind.u64.bits = 8 * i := by show min (8 * (i : Int)).toNat 64 = 8 * i; omega
  simp only [Op.shift, h1, if_false, h2, Sem.run_pure]
  congr 2
  rw [Int.fdiv_eq_ediv_of_nonneg _ (by exact Int.le_of_lt (Int.pow_pos (by decide)))]
  push_cast
  rfl
theorem shr64_low (x i : Nat) (hx : x < 18446744073709551616) (w : World) : (Op.shift .shr .u64 (x : Int) .i64 (8 * (i : Int))).run Try.prog w = .ok (.int .u64 ((x : Int) / 2 ^ (8 * i))) w := by
  have h1 : ¬ (8 * (i : Int) < 0) := by omega
  have hp : (0 : Int) ≤ 2 ^ (8 * i) := Int.le_of_lt (Int.pow_pos (by decide))
  by_cases hi : 8 * i < 64
  · have h2 : min (8 * (i : Int)).toNat IntKind.u64.bits = 8 * i := by show min (8 * (i : Int)).toNat 64 = 8 * i; omega
    simp only [Op.shift, h1, if_false, h2, Sem.run_pure]
    congr 2
    rw [Int.fdiv_eq_ediv_of_nonneg _ hp]
  · have h2 : min (8 * (i : Int)).toNat IntKind.u64.bits = 64 := by show min (8 * (i : Int)).toNat 64 = 64; omega
    simp only [Op.shift, h1, if_false, h2, Sem.run_pure]
    congr 2
    rw [Int.fdiv_eq_ediv_of_nonneg _ (by decide)]
    have e1 : (x : Int) / 2 ^ 64 = 0 := Int.ediv_eq_zero_of_lt (by omega) (by omega)
    have h3 : 2 ^ 64 ≤ 2 ^ (8 * i) := Nat.pow_le_pow_right (by omega) (by omega)
    have e2 : x / 2 ^ (8 * i) = 0 := Nat.div_eq_of_lt (by omega)
    rw [e1]
    have e3 : (x : Int) / 2 ^ (8 * i) = ((x / 2 ^ (8 * i) : Nat) : Int) := by push_cast; rfl
    rw [e3, e2]; rfl
def lowTo (x k : Nat) : Nat → Nat := fun i => if i < k then lowB x i else 0
theorem lowTo_upd (x k : Nat) : upd (lowTo x k) k (lowB x k) = lowTo x (k + 1) := by
  funext i
  unfold upd lowTo
  by_cases h : i = k
  · subst h; rw [if_pos rfl, if_pos (by omega)]
  · rw [if_neg h]
    by_cases h2 : i < k
    · rw [if_pos h2, if_pos (by omega)]
    · rw [if_neg h2, if_neg (by omega)]
set_option maxHeartbeats 1000000 in
theorem lowest_any (x c : Nat) (w : World) (hx : x < 18446744073709551616) (hc : c ≤ 32) :
    Calls Try.prog 42 #[.int .u64 (x : Int), .int .i64 (c : Int)] w fun e w' => e = .returned (.string (strOfNums (bytesV c (lowB x)))) ∧ Below w.heap.size w w' := by
  have HM := run_mkB w c (by omega)
  have HX : Hid (x < 18446744073709551616) := hx
  go_enter Try.func42, Try.ntmps42
  go_wp2
  go_loopw [11] (fun i wr => ∃ k : Nat, k ≤ c ∧ i = .int .i64 (k : Int) ∧ Below w.heap.size w wr ∧ RowAt wr w.heap.size 5 .u8 c (lowTo x k))
    (fun i _ => c - (intOf i).toNat)
  case atStart => exact ⟨0, Nat.zero_le _, rfl, (Below.refl _ _).alloc (Nat.le_refl _) _, RowAt.ext (heap_alloc_new w _) (fun i _ => by unfold lowTo; rw [if_neg (by omega)])⟩
  case round =>
    obtain ⟨k, hk, rfl, hB, hR⟩ := hrel
    by_cases hkc : k < c
    · have hlt : (k : Int) < (c : Int) := by omega
      have hs := shr64_low x k hx wr
      have hw : IntKind.i64.wrap (8 * (k : Int)) = 8 * (k : Int) := by rw [IntKind.wrap_i64]; omega
      have c1 := hR.cell hkc
      have z1 := hR.froz k
      have HR : Hid (RowAt wr w.heap.size 5 .u8 c (lowTo x k)) := hR
      have HE : Hid ((x : Int) / 2 ^ (8 * k) % 256 = ((lowB x k : Nat) : Int)) := by show _ = _; unfold lowB; push_cast; rfl
      have HB : Hid (Below w.heap.size w wr) := hB
      clear hR hB
      go_wp2
      rw [HE.out]
      go_roundw
      case rel => exact ⟨k + 1, by omega, by go_num, HB.out.setCell (Nat.le_refl _) _, by rw [← lowTo_upd]; exact HR.out.set hkc _⟩
      case measure => simp [intOf]; omega
    · obtain rfl : k = c := by omega
      have hcv := conv_row (c := k) hR
      go_wp2
      go_ret
      exact ⟨by rw [bytesV_ext (g := lowB x) (fun i hi => by unfold lowTo; rw [if_pos hi])]; rfl, hB⟩
theorem shl64_run (x i : Nat) (hx : x < 256) (hi : i < 8) (w : World) : (Op.shift .shl .u64 (x : Int) .i64 (8 * (i : Int))).run Try.prog w = .ok (.int .u64 ((x * 2 ^ (8 * i) : Nat) : Int)) w := by
  have h1 : ¬ (8 * (i : Int) < 0) := by omega
  have h2 : min (8 * (i : Int)).toNat IntKind.u64.bits = 8 * i := by show min (8 * (i : Int)).toNat 64 = 8 * i; omega
  simp only [Op.shift, h1, if_false, h2, Sem.run_pure, IntKind.wrap_u64]
  congr 2
  rcases (show i = 0 ∨ i = 1 ∨ i = 2 ∨ i = 3 ∨ i = 4 ∨ i = 5 ∨ i = 6 ∨ i = 7 by omega) with rfl | rfl | rfl | rfl | rfl | rfl | rfl | rfl <;> (simp only [Nat.reduceMul, Nat.reducePow, Int.reducePow]; omega)
/-- The number of the first k bytes of a text from a place on, the lowest first. -/
def lowN (b : Nat → Nat) (p : Nat) : Nat → Nat
  | 0 => 0
  | k + 1 => lowN b p k + b (p + k) * 2 ^ (8 * k)
theorem lowN_lt {b : Nat → Nat} (h : ∀ i, b i < 256) (p : Nat) : ∀ k, lowN b p k < 2 ^ (8 * k)
  | 0 => by simp [lowN]
  | k + 1 => by
    have h1 := lowN_lt h p k
    have h2 := h (p + k)
    have h3 : 2 ^ (8 * (k + 1)) = 256 * 2 ^ (8 * k) := by rw [Nat.mul_succ, Nat.pow_add]; omega
    have h4 : b (p + k) * 2 ^ (8 * k) ≤ 255 * 2 ^ (8 * k) := Nat.mul_le_mul_right _ (by omega)
    rw [lowN, h3]; omega
theorem lowN_ext {b b' : Nat → Nat} {p p' : Nat} : ∀ k, (∀ j, j < k → b (p + j) = b' (p' + j)) → lowN b p k = lowN b' p' k
  | 0, _ => rfl
  | k + 1, h => by rw [lowN, lowN, lowN_ext k (fun j hj => h j (by omega)), h k (by omega)]
theorem or_add (a y k : Nat) (h : a < 2 ^ k) : a ||| y * 2 ^ k = a + y * 2 ^ k := by
  rw [Nat.or_comm, Nat.mul_comm, Nat.add_comm]
  exact (Nat.two_pow_add_eq_or_of_lt h y).symm
theorem bt_lt' (t : ByteArray) (k : Nat) : (bt t k).toNat < 256 := by have := bt_nonneg t k; have := bt_le t k; omega
set_option maxHeartbeats 1000000 in
theorem ofLow_any (t : ByteArray) (w : World) (ht : t.size ≤ 4) :
    Calls Try.prog 60 #[.string t] w fun e w' => e = .returned (.int .u64 ((lowN (fun j => (bt t j).toNat) 0 t.size : Nat) : Int)) ∧ w = w' := by
  go_enter Try.func60, Try.ntmps60
  go_wp2
  go_loop [3, 7] (fun n i => ∃ k : Nat, k ≤ t.size ∧ i = .int .i64 (k : Int) ∧ n = .int .u64 ((lowN (fun j => (bt t j).toNat) 0 k : Nat) : Int))
    (fun _ i => t.size - (intOf i).toNat)
  case atStart => exact ⟨0, Nat.zero_le _, rfl, rfl⟩
  case round =>
    obtain ⟨k, hk, rfl, rfl⟩ := hrel
    have hg := get_bt t
    by_cases hkc : k < t.size
    · have hi0 : (0 : Int) ≤ (k : Int) := by omega
      have hlt : (k : Int) < (t.size : Int) := by omega
      have hx0 := bt_nonneg t k
      have hx1 := bt_le t k
      have hbn : bt t k = (((bt t k).toNat : Nat) : Int) := by omega
      have hA := lowN_lt (b := fun j => (bt t j).toNat) (fun j => bt_lt' t j) 0 k
      have hp : 2 ^ (8 * k) ≤ 2 ^ 24 := Nat.pow_le_pow_right (by omega) (by omega)
      have HN : Hid (lowN (fun j => (bt t j).toNat) 0 (k + 1) = lowN (fun j => (bt t j).toNat) 0 k + (bt t k).toNat * 2 ^ (8 * k)) := by show _ = _; rw [lowN, Nat.zero_add]
      have ho := or_add (lowN (fun j => (bt t j).toNat) 0 k) (bt t k).toNat (8 * k) hA
      have hw : IntKind.i64.wrap (8 * (k : Int)) = 8 * (k : Int) := by rw [IntKind.wrap_i64]; omega
      have hv : IntKind.u64.wrap (bt t k * 2 ^ (8 * k)) = (((bt t k).toNat * 2 ^ (8 * k) : Nat) : Int) := by
        rw [IntKind.wrap_u64, hbn]
        have := Nat.mul_le_mul (show (bt t k).toNat ≤ 255 by omega) hp
        have e : (((bt t k).toNat : Nat) : Int) * 2 ^ (8 * k) = (((bt t k).toNat * 2 ^ (8 * k) : Nat) : Int) := by push_cast; rfl
        rw [e, Int.toNat_natCast]; omega
      have hm : (bt t k).toNat * 2 ^ (8 * k) ≤ 255 * 2 ^ 24 := Nat.mul_le_mul (by omega) hp
      have hor := u64_or_nat (lowN (fun j => (bt t j).toNat) 0 k) ((bt t k).toNat * 2 ^ (8 * k)) (by omega) (by omega)
      rw [ho, ← HN.out, ← hv] at hor
      have HOR : Hid _ := hor
      generalize lowN (fun j => (bt t j).toNat) 0 k = A at HOR
      clear hm hp hA ho HN hbn hor hv
      go_wp2
      go_round
      case rel => exact ⟨k + 1, by omega, by go_num, by rw [← HOR.out]⟩
      case measure => simp [intOf]; omega
    · obtain rfl : k = t.size := by omega
      go_wp2
      go_ret
      exact ⟨rfl, rfl⟩
end Go.Proofs.Ytkcbolcodgmpaaa
