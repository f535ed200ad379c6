/- Chapter 7's functions, the program's: bits of 16. -/
import Derived.Test.YtnjihmailppjkaaWin7
import Derived.Laws.BitsAllLaws
namespace Go.Proofs.Ytnjihmailppjkaa
open Go.RowKit
set_option linter.unusedVariables false
theorem implNew_any (w : World) : Calls Try.prog 26 #[] w fun e w' => e = .returned (.agg #[.int .i64 (-1), .int .i64 0]) ∧ Below w.heap.size w w' := by
  go_enter Try.func26, Try.ntmps26
  go_wp2
  refine bodyPost_ret (results_cell_row rfl _ _ (w.heap.size) 23 #[.int .i64 (-1), .int .i64 0] (0, 0) _ rfl ?_ Try.underlying23 rfl winSize) rfl ?_
  · exact heap_alloc_new w _
  · exact ⟨rfl, (Below.refl _ _).alloc (Nat.le_refl _) _⟩
theorem pow16 {k : Nat} (h : 16 ≤ k) : ∃ m, 2 ^ k = 65536 * m ∧ 0 < m := ⟨2 ^ (k - 16), by rw [show (65536 : Nat) = 2 ^ 16 from rfl, ← Nat.pow_add]; congr 1; omega, Nat.pow_pos (by decide)⟩
theorem min_div {S : Nat} (hS : S < 65536) (k : Nat) : S / 2 ^ min k 16 = S / 2 ^ k := by
  by_cases h : k ≤ 16
  · rw [Nat.min_eq_left h]
  · rw [Nat.min_eq_right (by omega)]
    obtain ⟨m, hm, h0⟩ := pow16 (k := k) (by omega)
    rw [hm, Nat.div_eq_of_lt (show S < 2 ^ 16 from hS), Nat.div_eq_of_lt (Nat.lt_of_lt_of_le hS (Nat.le_mul_of_pos_right _ h0))]
theorem mul_zero16 {S k : Nat} (h : 16 ≤ k) : S * 2 ^ k % 65536 = 0 := by
  obtain ⟨m, hm, h0⟩ := pow16 h
  rw [hm, Nat.mul_left_comm, Nat.mul_mod_right]
theorem min_mul (S k : Nat) : S * 2 ^ min k 16 % 65536 = S * 2 ^ k % 65536 := by
  by_cases h : k ≤ 16
  · rw [Nat.min_eq_left h]
  · rw [mul_zero16 (k := k) (by omega), mul_zero16 (by omega)]
theorem bits16 {a b : Nat} (ha : a < 65536) (hb : b < 65536) : bits .and .u16 (a : Int) (b : Int) = ((a &&& b : Nat) : Int) ∧ bits .or .u16 (a : Int) (b : Int) = ((a ||| b : Nat) : Int) :=
  bits_nat .u16 16 (by decide) (fun n h1 h2 => by rw [IntKind.wrap_u16]; have : n < 65536 := h2; omega) a b ha hb
theorem eq_one {n : Nat} : ((n : Int) == 1) = decide (n = 1) := by
  by_cases h : n = 1
  · subst h; rfl
  · rw [decide_eq_false h, beq_eq_false_iff_ne]; omega
theorem ne_zero {n : Nat} : ((n : Int) != 0) = decide (n ≠ 0) := by
  by_cases h : n = 0
  · subst h; rfl
  · rw [decide_eq_true h, bne_iff_ne]; omega
theorem has_any (S k : Nat) (w : World) (hS : S < 65536) (hk : k < 20000) :
    Calls Try.prog 88 #[.int .u16 (S : Int), .int .i64 (k : Int)] w fun e w' => e = .returned (.bool (decide (S / 2 ^ k % 2 = 1))) ∧ w' = w := by
  have HE : Hid (bits BinOp.and IntKind.u16 ((S : Int) / 2 ^ min k 16) 1 = ((S / 2 ^ k % 2 : Nat) : Int)) := by
    show _ = _
    rw [div_nat, min_div hS]
    have h1 : S / 2 ^ k < 65536 := Nat.lt_of_le_of_lt (Nat.div_le_self _ _) hS
    have := (bits16 (b := 1) h1 (by decide)).1
    rw [Nat.and_one_is_mod] at this
    exact this
  go_enter Try.func88, Try.ntmps88
  go_wp2
  go_ret
  refine ⟨?_, rfl⟩
  show Ending.returned (Value.bool (bits BinOp.and IntKind.u16 ((S : Int) / 2 ^ min k 16) 1 == 1)) = _
  rw [HE.out, eq_one]
theorem hasFrom_any (S k : Nat) (w : World) (hS : S < 65536) (hk : k < 20000) :
    Calls Try.prog 89 #[.int .u16 (S : Int), .int .i64 (k : Int)] w fun e w' => e = .returned (.bool (decide (S / 2 ^ k ≠ 0))) ∧ w' = w := by
  go_enter Try.func89, Try.ntmps89
  go_wp2
  go_ret
  refine ⟨?_, rfl⟩
  show Ending.returned (Value.bool ((S : Int) / 2 ^ min k 16 != 0)) = _
  rw [div_nat, min_div hS, ne_zero]
/-- The same, at the caller's numbers. -/
theorem has_at (s d : Int) (w : World) (h0 : 0 ≤ s) (h1 : s ≤ 65535) (h2 : 0 ≤ d) (h3 : d < 20000) :
    Calls Try.prog 88 #[.int .u16 s, .int .i64 d] w fun e w' => e = .returned (.bool (decide (s.toNat / 2 ^ d.toNat % 2 = 1))) ∧ w' = w := by
  have := has_any s.toNat d.toNat w (by omega) (by omega)
  rwa [Int.toNat_of_nonneg h0, Int.toNat_of_nonneg h2] at this
theorem hasFrom_at (s d : Int) (w : World) (h0 : 0 ≤ s) (h1 : s ≤ 65535) (h2 : 0 ≤ d) (h3 : d < 20000) :
    Calls Try.prog 89 #[.int .u16 s, .int .i64 d] w fun e w' => e = .returned (.bool (decide (s.toNat / 2 ^ d.toNat ≠ 0))) ∧ w' = w := by
  have := hasFrom_any s.toNat d.toNat w (by omega) (by omega)
  rwa [Int.toNat_of_nonneg h0, Int.toNat_of_nonneg h2] at this
/-- WindowOk, as the program asks it. -/
theorem winB_bits {t s : Int} (h1 : -1 ≤ t) (h2 : t ≤ 9999) (h3 : 0 ≤ s) (h4 : s ≤ 65535) :
    winB t s = ((decide (s.toNat / 2 ^ (0 : Int).toNat % 2 = 1) == decide (t ≠ -1)) && !decide (s.toNat / 2 ^ (t + 1).toNat ≠ 0)) := by
  have e1 : inB t (-1) 9999 = true := by unfold inB; simp; omega
  have e2 : inB s 0 65535 = true := by unfold inB; simp; omega
  obtain ⟨S, rfl⟩ := Int.eq_ofNat_of_zero_le h3
  have e3 : ((0 : Int).toNat) = 0 := rfl
  unfold winB
  rw [e1, e2, Bool.true_and, Bool.true_and, e3, Nat.pow_zero, Nat.div_one, Int.toNat_natCast]
  by_cases ht : t < 0
  · have : t = -1 := by omega
    subst this
    rw [if_pos ht, show ((-1 : Int) + 1).toNat = 0 from rfl, Nat.pow_zero, Nat.div_one]
    by_cases hz : S = 0
    · subst hz; rfl
    · simp [hz]
  · rw [if_neg ht]
    have hn : decide (t ≠ -1) = true := decide_eq_true (by omega)
    have hm : decide ((S : Int) % 2 = 1) = decide (S % 2 = 1) := by
      by_cases h : S % 2 = 1
      · rw [decide_eq_true h]; exact decide_eq_true (by omega)
      · rw [decide_eq_false h]; exact decide_eq_false (by omega)
    have hl : (decide (15 ≤ t) || decide ((S : Int) < 2 ^ (t + 1).toNat)) = !decide (S / 2 ^ (t + 1).toNat ≠ 0) := by
      have hpos : 0 < 2 ^ (t + 1).toNat := Nat.pow_pos (by decide)
      have hd : (S / 2 ^ (t + 1).toNat = 0) ↔ S < 2 ^ (t + 1).toNat := by rw [Nat.div_eq_zero_iff]; omega
      have hc : ((S : Int) < 2 ^ (t + 1).toNat) ↔ S < 2 ^ (t + 1).toNat := by rw [pow_nat]; exact Int.ofNat_lt
      by_cases hlt : S < 2 ^ (t + 1).toNat
      · rw [decide_eq_true (hc.2 hlt), Bool.or_true, decide_eq_false (fun h => h (hd.2 hlt))]; rfl
      · have h15 : ¬ 15 ≤ t := by
          intro h
          obtain ⟨m, hm, h0⟩ := pow16 (k := (t + 1).toNat) (by omega)
          have : 65536 ≤ 65536 * m := Nat.le_mul_of_pos_right _ h0
          omega
        rw [decide_eq_false h15, decide_eq_false (fun h => hlt (hc.1 h)), decide_eq_true (show S / 2 ^ (t + 1).toNat ≠ 0 from fun h => hlt (hd.1 h))]; rfl
    rw [hn, hm, hl]
    simp
theorem wrap16_id {s : Int} (h0 : 0 ≤ s) (h1 : s ≤ 65535) : IntKind.u16.wrap s = s := by rw [IntKind.wrap_u16]; omega
set_option maxHeartbeats 1600000 in
theorem implWin_any (t s : Int) (w : World) (ht : (Lit.int .i64 t).wf = true) (hs : (Lit.int .i64 s).wf = true) :
    Calls Try.prog 71 #[.agg #[.int .i64 t, .int .i64 s]] w fun e w' => e = .returned (.bool (winB t s)) ∧ Below w.heap.size w w' := by
  have HB : Hid (Below w.heap.size w (w.alloc (.cells #[.int .i64 t, .int .i64 s] 23))) := (Below.refl _ _).alloc (Nat.le_refl _) _
  clear ht hs
  by_cases h1 : t < -1
  · have HF : Hid (winB t s = false) := by show _ = _; unfold winB inB; simp; omega
    go_enter Try.func71, Try.ntmps71
    go_wp2_with fail
    go_ret
    exact ⟨by rw [HF.out]; rfl, HB.out⟩
  by_cases h2 : 9999 < t
  · have HF : Hid (winB t s = false) := by show _ = _; unfold winB inB; simp; omega
    have h1' : ¬ t < -1 := h1
    go_enter Try.func71, Try.ntmps71
    go_wp2_with fail
    go_ret
    exact ⟨by rw [HF.out]; rfl, HB.out⟩
  by_cases h3 : s < 0
  · have HF : Hid (winB t s = false) := by show _ = _; unfold winB inB; simp; omega
    go_enter Try.func71, Try.ntmps71
    go_wp2_with fail
    go_ret
    exact ⟨by rw [HF.out]; rfl, HB.out⟩
  by_cases h4 : 65535 < s
  · have HF : Hid (winB t s = false) := by show _ = _; unfold winB inB; simp; omega
    go_enter Try.func71, Try.ntmps71
    go_wp2_with fail
    go_ret
    exact ⟨by rw [HF.out]; rfl, HB.out⟩
  have k1 : -1 ≤ t := by omega
  have k2 : t ≤ 9999 := by omega
  have k3 : 0 ≤ s := by omega
  have k4 : s ≤ 65535 := by omega
  have HE : Hid (winB t s = ((decide (s.toNat / 2 ^ (0 : Int).toNat % 2 = 1) == decide (t ≠ -1)) && !decide (s.toNat / 2 ^ (t + 1).toNat ≠ 0))) := winB_bits k1 k2 k3 k4
  have H1 : Hid (∀ w, Calls Try.prog 88 #[.int .u16 s, .int .i64 0] w fun e w' => e = .returned (.bool (decide (s.toNat / 2 ^ (0 : Int).toNat % 2 = 1))) ∧ w' = w) := fun w => has_at s 0 w k3 k4 (by decide) (by decide)
  have hw16 := wrap16_id k3 k4
  have hm16 : s % 65536 = s := by omega
  by_cases h5 : t = -1
  · subst h5
    have H2 : Hid (∀ w, Calls Try.prog 89 #[.int .u16 s, .int .i64 0] w fun e w' => e = .returned (.bool (decide (s.toNat / 2 ^ (-1 + 1 : Int).toNat ≠ 0))) ∧ w' = w) := fun w => hasFrom_at s 0 w k3 k4 (by decide) (by decide)
    generalize decide (s.toNat / 2 ^ (0 : Int).toNat % 2 = 1) = b1 at HE H1
    generalize decide (s.toNat / 2 ^ (-1 + 1 : Int).toNat ≠ 0) = b2 at HE H2
    have HF : Hid (winB (-1) s = (!b1 && !b2)) := by show _ = _; rw [HE.out]; cases b1 <;> rfl
    clear HE h1 h2 k1 k2
    cases b1
    · go_enter Try.func71, Try.ntmps71
      go_wp2_with (first | (go_at_call 88; refine (H1.out _).mono ?_; rintro e w' ⟨rfl, rfl⟩) | (go_at_call 89; refine (H2.out _).mono ?_; rintro e w' ⟨rfl, rfl⟩))
      go_ret
      exact ⟨by rw [HF.out]; rfl, HB.out⟩
    · go_enter Try.func71, Try.ntmps71
      go_wp2_with (first | (go_at_call 88; refine (H1.out _).mono ?_; rintro e w' ⟨rfl, rfl⟩) | (go_at_call 89; refine (H2.out _).mono ?_; rintro e w' ⟨rfl, rfl⟩))
      go_ret
      exact ⟨by rw [HF.out]; rfl, HB.out⟩
  · have H2 : Hid (∀ w, Calls Try.prog 89 #[.int .u16 s, .int .i64 (t + 1)] w fun e w' => e = .returned (.bool (decide (s.toNat / 2 ^ (t + 1).toNat ≠ 0))) ∧ w' = w) := fun w => hasFrom_at s (t + 1) w k3 k4 (by omega) (by omega)
    have hw64 : wrap64 (t + 1) = t + 1 := by unfold wrap64; omega
    have HN : Hid ((t != -1) = true) := by show _ = _; rw [bne_iff_ne]; exact h5
    generalize decide (s.toNat / 2 ^ (0 : Int).toNat % 2 = 1) = b1 at HE H1
    generalize decide (s.toNat / 2 ^ (t + 1).toNat ≠ 0) = b2 at HE H2
    have HF : Hid (winB t s = (b1 && !b2)) := by show _ = _; rw [HE.out, decide_eq_true h5]; cases b1 <;> rfl
    clear HE
    cases b1
    · go_enter Try.func71, Try.ntmps71
      go_wp2_with (first | (go_at_call 88; refine (H1.out _).mono ?_; rintro e w' ⟨rfl, rfl⟩) | (go_at_call 89; refine (H2.out _).mono ?_; rintro e w' ⟨rfl, rfl⟩))
      go_ret
      exact ⟨by rw [HF.out]; first | rfl | (show Ending.returned (Value.bool (!(t != -1) && !b2)) = _; rw [HN.out]; rfl), HB.out⟩
    · go_enter Try.func71, Try.ntmps71
      go_wp2_with (first | (go_at_call 88; refine (H1.out _).mono ?_; rintro e w' ⟨rfl, rfl⟩) | (go_at_call 89; refine (H2.out _).mono ?_; rintro e w' ⟨rfl, rfl⟩))
      go_ret
      refine ⟨?_, HB.out⟩
      rw [HF.out]
      show Ending.returned (Value.bool (t != -1 && !b2)) = _
      rw [HN.out]
end Go.Proofs.Ytnjihmailppjkaa
