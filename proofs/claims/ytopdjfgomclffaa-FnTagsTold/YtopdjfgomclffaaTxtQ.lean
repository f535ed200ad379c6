/- Numbers of a tag, plain mathematics: the bytes of a number, bit by bit. -/
import Derived.Test.YtopdjfgomclffaaBitQ
import Derived.Test.YtopdjfgomclffaaArrB
namespace Go.Proofs.Ytopdjfgomclffaa
open Go.RowKit
theorem mod_bit {x s t : Nat} : x % 2 ^ (s + (t + 1)) / 2 ^ s % 2 = x / 2 ^ s % 2 := by
  rw [Nat.pow_add, Nat.mod_mul_right_div_self, Nat.pow_succ, Nat.mod_mod_of_dvd _ ⟨2 ^ t, Nat.mul_comm _ _⟩]
theorem limb_bit {V i : Nat} (_h : i < 130) : limbN V (i / 26) / 2 ^ (i % 26) % 2 = V / 2 ^ i % 2 := by
  have hp : (2 : Nat) ^ i = 67108864 ^ (i / 26) * 2 ^ (i % 26) := by
    rw [show (67108864 : Nat) = 2 ^ 26 from rfl, ← Nat.pow_mul, ← Nat.pow_add]; congr 1; omega
  rw [hp, ← Nat.div_div_eq_div_mul]
  unfold limbN
  split
  · rename_i e
    rw [e]
  · rename_i e
    have h26 : i % 26 < 26 := Nat.mod_lt _ (by omega)
    generalize V / 67108864 ^ (i / 26) = x
    rw [show (67108864 : Nat) = 2 ^ (i % 26 + ((25 - i % 26) + 1)) by rw [show i % 26 + ((25 - i % 26) + 1) = 26 by omega]]
    exact mod_bit
theorem lv_lok {V : Nat} (h : V < 1361129467683753853853498429727072845824) : lok pb (lv V) := by
  refine ⟨?_, ?_, ?_, ?_, ?_, ?_, ?_, ?_, ?_, ?_, trivial⟩ <;> simp [limbN] <;> omega
theorem lok_lv {l : List Int} (h : lok pb l) : l = lv (lval pb l).toNat := by
  have h0 := lval_low h
  have h1 := lval_lt h
  rw [pb_all] at h1
  refine lval_inj h (lv_lok (by omega)) ?_
  rw [lv_val]; omega
/-- Byte number j of a number's first i bits, and of one bit more. -/
theorem by_lt (V i : Nat) : lowB (V % 2 ^ i) (i / 8) < 2 ^ (i % 8) := by
  unfold lowB
  have hp : (2 : Nat) ^ i = 2 ^ (8 * (i / 8)) * 2 ^ (i % 8) := by rw [← Nat.pow_add]; congr 1; omega
  have h := Nat.mod_lt V (show 0 < 2 ^ i from Nat.pow_pos (by decide))
  rw [hp] at h
  exact Nat.lt_of_le_of_lt (Nat.mod_le _ _) (Nat.div_lt_of_lt_mul (by rw [hp]; exact h))
theorem by_step (V i : Nat) : ∀ j, upd (lowB (V % 2 ^ i)) (i / 8) (lowB (V % 2 ^ i) (i / 8) + (V / 2 ^ i % 2) * 2 ^ (i % 8)) j = lowB (V % 2 ^ (i + 1)) j := by
  intro j
  have hs := mod_step V i
  have hVi := Nat.mod_lt V (show 0 < 2 ^ i from Nat.pow_pos (by decide))
  have hV1 := Nat.mod_lt V (show 0 < 2 ^ (i + 1) from Nat.pow_pos (by decide))
  have hb : V / 2 ^ i % 2 ≤ 1 := by omega
  by_cases e : j = i / 8
  · subst e
    rw [upd_same]
    have hlt := by_lt V i
    have hp : (2 : Nat) ^ i = 2 ^ (8 * (i / 8)) * 2 ^ (i % 8) := by rw [← Nat.pow_add]; congr 1; omega
    have h8 : (2 : Nat) ^ (i % 8) ≤ 128 := by
      have := Nat.pow_le_pow_right (show 0 < 2 by omega) (show i % 8 ≤ 7 by omega)
      omega
    have hd : V % 2 ^ i / 2 ^ (8 * (i / 8)) < 2 ^ (i % 8) := Nat.div_lt_of_lt_mul (by rw [← hp]; exact hVi)
    unfold lowB
    rw [hs]
    have hpp : (V / 2 ^ i % 2) * 2 ^ i = 2 ^ (8 * (i / 8)) * ((V / 2 ^ i % 2) * 2 ^ (i % 8)) := by
      rw [Nat.mul_left_comm, ← hp]
    rw [hpp, Nat.add_mul_div_left _ _ (Nat.pow_pos (by decide))]
    have hbb : (V / 2 ^ i % 2) * 2 ^ (i % 8) ≤ 1 * 2 ^ (i % 8) := Nat.mul_le_mul_right _ hb
    generalize (V / 2 ^ i % 2) * 2 ^ (i % 8) = y at hbb
    generalize V % 2 ^ i / 2 ^ (8 * (i / 8)) = x at hd
    omega
  · rw [upd_other _ _ e]
    unfold lowB
    rcases Nat.lt_or_gt_of_ne e with hj | hj
    · have hp : (2 : Nat) ^ i = 2 ^ (8 * j) * (256 * 2 ^ (i - 8 * j - 8)) := by
        rw [show (256 : Nat) = 2 ^ 8 from rfl, ← Nat.pow_add, ← Nat.pow_add]; congr 1; omega
      have hpp : (V / 2 ^ i % 2) * 2 ^ i = 2 ^ (8 * j) * (256 * ((V / 2 ^ i % 2) * 2 ^ (i - 8 * j - 8))) := by
        generalize V / 2 ^ i % 2 = b
        rw [hp, Nat.mul_left_comm b, Nat.mul_left_comm b]
      rw [hs, hpp, Nat.add_mul_div_left _ _ (Nat.pow_pos (by decide)), Nat.add_mul_mod_self_left]
    · have h1 : (2 : Nat) ^ (i + 1) ≤ 2 ^ (8 * j) := Nat.pow_le_pow_right (by omega) (by omega)
      have h2 : (2 : Nat) ^ i ≤ 2 ^ (i + 1) := Nat.pow_le_pow_right (by omega) (by omega)
      rw [Nat.div_eq_of_lt (by omega), Nat.div_eq_of_lt (by omega)]
theorem by_zero (V j : Nat) : lowB (V % 2 ^ 0) j = 0 := by unfold lowB; rw [Nat.pow_zero, Nat.mod_one, Nat.zero_div]
end Go.Proofs.Ytopdjfgomclffaa
