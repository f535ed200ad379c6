/- Windows in plain words: what was taken is not taken again, and a right window stays right. -/
import Derived.Test.YtmbaipednonhpaaWin7
namespace Go.Proofs.Ytmbaipednonhpaa
set_option linter.unusedVariables false
theorem bit_one {n k : Nat} : (n / 2 ^ k % 2 = 0) ↔ n.testBit k = false := by
  rw [Nat.testBit_eq_decide_div_mod_eq, decide_eq_false_iff_not]
  omega
theorem freshB_no {t s q : Int} (hq : q ≤ t) (h : 16 ≤ t - q ∨ s.toNat.testBit (t - q).toNat = true) : freshB t s q = false := by
  unfold freshB
  have h1 : decide (t < q) = false := decide_eq_false (by omega)
  have h2 : (decide (t - q < 16) && decide (s.toNat / 2 ^ (t - q).toNat % 2 = 0)) = false := by
    rw [Bool.and_eq_false_iff, decide_eq_false_iff_not, decide_eq_false_iff_not]
    rcases h with h | h
    · exact .inl (by omega)
    · right
      rw [bit_one, h]
      simp
  rw [h1, h2]
  simp
theorem freshB_not {t s q : Int} (hw : winB t s = true) (hq0 : 0 ≤ q) (hq1 : q ≤ 9999) (h : freshB t s q = false) : q ≤ t ∧ (16 ≤ t - q ∨ s.toNat.testBit (t - q).toNat = true) := by
  unfold freshB at h
  have hin : inB q 0 9999 = true := by unfold inB; simp; omega
  rw [hw, hin] at h
  simp only [Bool.true_and, Bool.or_eq_false_iff, Bool.and_eq_false_iff, decide_eq_false_iff_not] at h
  refine ⟨by omega, ?_⟩
  rcases h.2 with h2 | h2
  · exact .inl (by omega)
  · right
    rw [bit_one] at h2
    simpa using h2
theorem notedV_eq {t s q : Int} (h : freshB t s q = true) : notedV t s q = notedS t s q ∧ notedT t s q = if q ≤ t then t else q := by
  unfold notedV notedT; rw [h]; exact ⟨rfl, rfl⟩
/-- What was taken is not fresh. -/
theorem noted_self {t s q : Int} (h : freshB t s q = true) : freshB (notedT t s q) (notedV t s q) q = false := by
  rw [(notedV_eq h).1, (notedV_eq h).2]
  by_cases hle : q ≤ t
  · rw [if_pos hle]
    refine freshB_no hle (.inr ?_)
    unfold notedS
    rw [if_pos hle, Int.toNat_natCast, Nat.testBit_or, Nat.testBit_two_pow_self, Bool.or_true]
  · rw [if_neg hle]
    refine freshB_no (Int.le_refl _) (.inr ?_)
    rw [Int.sub_self]
    unfold notedS
    rw [if_neg hle]
    split
    · rw [Int.toNat_natCast, Nat.testBit_or]; simp
    · simp
/-- What was not fresh is not fresh behind it. -/
theorem noted_keep {t s q r : Int} (h : freshB t s q = true) (hr0 : 0 ≤ r) (hr1 : r ≤ 9999) (hr : freshB t s r = false) : freshB (notedT t s q) (notedV t s q) r = false := by
  have hw : winB t s = true := by unfold freshB at h; simp only [Bool.and_eq_true] at h; exact h.1
  obtain ⟨hle, hor⟩ := freshB_not hw hr0 hr1 hr
  rw [(notedV_eq h).1, (notedV_eq h).2]
  by_cases hq : q ≤ t
  · rw [if_pos hq]
    refine freshB_no hle ?_
    rcases hor with h1 | h1
    · exact .inl h1
    · right
      unfold notedS
      rw [if_pos hq, Int.toNat_natCast, Nat.testBit_or, h1, Bool.true_or]
  · rw [if_neg hq]
    by_cases h16 : 16 ≤ q - r
    · exact freshB_no (by omega) (.inl h16)
    · refine freshB_no (by omega) (.inr ?_)
      rcases hor with h1 | h1
      · omega
      · unfold notedS
        rw [if_neg hq, if_pos ⟨by omega, by omega⟩, Int.toNat_natCast, Nat.testBit_or]
        have e : (s.toNat * 2 ^ (q - t).toNat % 65536).testBit (q - r).toNat = true := by
          rw [show (65536 : Nat) = 2 ^ 16 from rfl, Nat.testBit_mod_two_pow, Nat.mul_comm, Nat.testBit_two_pow_mul]
          rw [show (q - r).toNat - (q - t).toNat = (t - r).toNat by omega, h1]
          simp
          omega
        rw [e, Bool.true_or]
theorem winB_of {t s : Int} (h1 : -1 ≤ t ∧ t ≤ 9999) (h2 : 0 ≤ s ∧ s ≤ 65535) (h3 : 0 ≤ t) (h4 : s.toNat % 2 = 1) (h5 : 15 ≤ t ∨ s.toNat < 2 ^ (t + 1).toNat) : winB t s = true := by
  unfold winB inB
  have e4 : s % 2 = 1 := by omega
  obtain ⟨S, rfl⟩ := Int.eq_ofNat_of_zero_le h2.1
  have e5 : (decide (15 ≤ t) || decide ((S : Int) < 2 ^ (t + 1).toNat)) = true := by
    rcases h5 with h | h
    · rw [decide_eq_true h, Bool.true_or]
    · rw [pow_nat, decide_eq_true (Int.ofNat_lt.2 (by simpa using h)), Bool.or_true]
  rw [if_neg (by omega), e5, decide_eq_true h1.1, decide_eq_true h1.2, decide_eq_true h2.1, decide_eq_true h2.2, decide_eq_true e4]
  rfl
theorem winB_odd {t s : Int} (h : winB t s = true) (h0 : 0 ≤ t) : s.toNat % 2 = 1 ∧ (15 ≤ t ∨ s.toNat < 2 ^ (t + 1).toNat) := by
  have hr := winB_range h
  unfold winB at h
  rw [if_neg (by omega)] at h
  simp only [Bool.and_eq_true, Bool.or_eq_true, decide_eq_true_eq] at h
  obtain ⟨S, rfl⟩ := Int.eq_ofNat_of_zero_le hr.2.1
  refine ⟨by have := h.2.2.1; simp; omega, ?_⟩
  rcases h.2.2.2 with h5 | h5
  · exact .inl h5
  · right
    rw [pow_nat] at h5
    simpa using Int.ofNat_lt.1 h5
theorem or_odd {a : Nat} : (a ||| 1) % 2 = 1 := by
  have := Nat.testBit_or a 1 0
  rw [show Nat.testBit 1 0 = true from rfl, Bool.or_true, Nat.testBit_zero] at this
  exact of_decide_eq_true this
theorem or_odd' {a b : Nat} (h : a % 2 = 1) : (a ||| b) % 2 = 1 := by
  have := Nat.testBit_or a b 0
  rw [Nat.testBit_zero, Nat.testBit_zero a, decide_eq_true h, Bool.true_or] at this
  exact of_decide_eq_true this
/-- A right window stays right. -/
theorem noted_win {t s q : Int} (h : freshB t s q = true) : winB (notedT t s q) (notedV t s q) = true := by
  have hw : winB t s = true := by unfold freshB at h; simp only [Bool.and_eq_true] at h; exact h.1
  obtain ⟨h1, h2, h3, h4⟩ := freshB_range h
  rw [(notedV_eq h).1, (notedV_eq h).2]
  have hS : s.toNat < 2 ^ 16 := by have : (2 : Nat) ^ 16 = 65536 := rfl; omega
  by_cases hq : q ≤ t
  · rw [if_pos hq]
    obtain ⟨ho, hb⟩ := winB_odd hw (by omega)
    have hk : (t - q).toNat < 16 := by have := h4 hq; omega
    have hb16 : s.toNat ||| 2 ^ (t - q).toNat < 2 ^ 16 := Nat.or_lt_two_pow hS (Nat.pow_lt_pow_right (by omega) hk)
    have e16 : (2 : Nat) ^ 16 = 65536 := rfl
    unfold notedS
    rw [if_pos hq]
    refine winB_of h1 ⟨Int.natCast_nonneg _, by omega⟩ (by omega) ?_ ?_
    · rw [Int.toNat_natCast]; exact or_odd' ho
    · rcases hb with hb | hb
      · exact .inl hb
      · right
        rw [Int.toNat_natCast]
        exact Nat.or_lt_two_pow hb (Nat.pow_lt_pow_right (by omega) (by omega))
  · rw [if_neg hq]
    unfold notedS
    rw [if_neg hq]
    have e16 : (2 : Nat) ^ 16 = 65536 := rfl
    split
    · rename_i hc
      obtain ⟨ho, hb⟩ := winB_odd hw hc.1
      have hm : s.toNat * 2 ^ (q - t).toNat % 65536 < 2 ^ 16 := Nat.mod_lt _ (by decide)
      have hb16 : s.toNat * 2 ^ (q - t).toNat % 65536 ||| 1 < 2 ^ 16 := Nat.or_lt_two_pow hm (by decide)
      refine winB_of ⟨by omega, by omega⟩ ⟨Int.natCast_nonneg _, by omega⟩ (by omega) ?_ ?_
      · rw [Int.toNat_natCast]; exact or_odd
      · by_cases h15 : 15 ≤ q
        · exact .inl h15
        · right
          have hb' : s.toNat < 2 ^ (t + 1).toNat := by rcases hb with hb | hb; omega; exact hb
          rw [Int.toNat_natCast]
          refine Nat.or_lt_two_pow (Nat.lt_of_le_of_lt (Nat.mod_le _ _) ?_) (Nat.lt_of_lt_of_le (by decide : (1 : Nat) < 2 ^ 1) (Nat.pow_le_pow_right (by decide) (by omega)))
          have : (2 : Nat) ^ (q + 1).toNat = 2 ^ (t + 1).toNat * 2 ^ (q - t).toNat := by rw [← Nat.pow_add]; congr 1; omega
          rw [this]
          exact Nat.mul_lt_mul_of_pos_right hb' (Nat.two_pow_pos _)
    · refine winB_of ⟨by omega, by omega⟩ ⟨by decide, by decide⟩ (by omega) (by decide) (.inr ?_)
      exact Nat.lt_of_lt_of_le (by decide : (1 : Int).toNat < 2 ^ 1) (Nat.pow_le_pow_right (by decide) (by omega))
theorem noted_no {t s q : Int} (h : freshB t s q = false) : notedT t s q = t ∧ notedV t s q = s := by
  unfold notedT notedV; rw [h]; exact ⟨rfl, rfl⟩
end Go.Proofs.Ytmbaipednonhpaa
