/- Chapter 7's functions, the program's: bits of 16. -/
import Derived.Test.YtmbaipednonhpaaWin7
import Derived.Laws.BitsAllLaws
namespace Go.Proofs.Ytmbaipednonhpaa
open Go.RowKit
set_option linter.unusedVariables false
theorem implNew_any (w : World) : Calls Try.prog 10 #[] w fun e w' => e = .returned (.agg #[.int .i64 (-1), .int .i64 0]) ∧ Below w.heap.size w w' := by
  go_enter Try.func10, Try.ntmps10
  go_wp2
  refine bodyPost_ret (results_cell_row rfl _ _ (w.heap.size) 27 #[.int .i64 (-1), .int .i64 0] (0, 0) _ rfl ?_ Try.underlying27 rfl winSize) rfl ?_
  · exact heap_alloc_new w _
  · exact ⟨rfl, (Below.refl _ _).alloc (Nat.le_refl _) _⟩
theorem pow16 {k : Nat} (h : 16 ≤ k) : ∃ m, 2 ^ k = 65536 * m ∧ 0 < m := ⟨2 ^ (k - 16), by rw [show (65536 : Nat) = 2 ^ 16 from rfl, ← Nat.pow_add]; congr 1; omega, Nat.pow_pos (by decide)⟩
theorem min_div {S : Nat} (hS : S < 65536) (k : Nat) : S / 2 ^ min k 16 = S / 2 ^ k := by
  by_cases h : k ≤ 16
  · rw [Nat.min_eq_left h]
  · rw [Nat.min_eq_right (by omega)]
    obtain ⟨m, hm, h0⟩ := pow16 (k := k) (by omega)
    rw [hm, Nat.div_eq_of_lt (show S < 2 ^ 16 from hS), Nat.div_eq_of_lt (Nat.lt_of_lt_of_le hS (Nat.le_mul_of_pos_right _ h0))]
theorem mul_zero16 {S k : Nat} (h : 16 ≤ k) : S * 2 ^ k % 65536 = 0 := by
  obtain ⟨m, hm, h0⟩ := pow16 h
  rw [hm, Nat.mul_left_comm, Nat.mul_mod_right]
theorem min_mul (S k : Nat) : S * 2 ^ min k 16 % 65536 = S * 2 ^ k % 65536 := by
  by_cases h : k ≤ 16
  · rw [Nat.min_eq_left h]
  · rw [mul_zero16 (k := k) (by omega), mul_zero16 (by omega)]
theorem bits16 {a b : Nat} (ha : a < 65536) (hb : b < 65536) : bits .and .u16 (a : Int) (b : Int) = ((a &&& b : Nat) : Int) ∧ bits .or .u16 (a : Int) (b : Int) = ((a ||| b : Nat) : Int) :=
  bits_nat .u16 16 (by decide) (fun n h1 h2 => by rw [IntKind.wrap_u16]; have : n < 65536 := h2; omega) a b ha hb
theorem eq_one {n : Nat} : ((n : Int) == 1) = decide (n = 1) := by
  by_cases h : n = 1
  · subst h; rfl
  · rw [decide_eq_false h, beq_eq_false_iff_ne]; omega
theorem ne_zero {n : Nat} : ((n : Int) != 0) = decide (n ≠ 0) := by
  by_cases h : n = 0
  · subst h; rfl
  · rw [decide_eq_true h, bne_iff_ne]; omega
theorem has_any (S k : Nat) (w : World) (hS : S < 65536) (hk : k < 20000) :
    Calls Try.prog 26 #[.int .u16 (S : Int), .int .i64 (k : Int)] w fun e w' => e = .returned (.bool (decide (S / 2 ^ k % 2 = 1))) ∧ w' = w := by
  have HE : Hid (bits BinOp.and IntKind.u16 ((S : Int) / 2 ^ min k 16) 1 = ((S / 2 ^ k % 2 : Nat) : Int)) := by
    show _ = _
    rw [div_nat, min_div hS]
    have h1 : S / 2 ^ k < 65536 := Nat.lt_of_le_of_lt (Nat.div_le_self _ _) hS
    have := (bits16 (b := 1) h1 (by decide)).1
    rw [Nat.and_one_is_mod] at this
    exact this
  go_enter Try.func26, Try.ntmps26
  go_wp2
  go_ret
  refine ⟨?_, rfl⟩
  show Ending.returned (Value.bool (bits BinOp.and IntKind.u16 ((S : Int) / 2 ^ min k 16) 1 == 1)) = _
  rw [HE.out, eq_one]
theorem hasFrom_any (S k : Nat) (w : World) (hS : S < 65536) (hk : k < 20000) :
    Calls Try.prog 27 #[.int .u16 (S : Int), .int .i64 (k : Int)] w fun e w' => e = .returned (.bool (decide (S / 2 ^ k ≠ 0))) ∧ w' = w := by
  go_enter Try.func27, Try.ntmps27
  go_wp2
  go_ret
  refine ⟨?_, rfl⟩
  show Ending.returned (Value.bool ((S : Int) / 2 ^ min k 16 != 0)) = _
  rw [div_nat, min_div hS, ne_zero]
theorem with_any (S k : Nat) (w : World) (hS : S < 65536) (hk : k < 16) :
    Calls Try.prog 25 #[.int .u16 (S : Int), .int .i64 (k : Int)] w fun e w' => e = .returned (.int .u16 ((S ||| 2 ^ k : Nat) : Int)) ∧ w' = w := by
  have HE : Hid (bits BinOp.or IntKind.u16 (S : Int) (IntKind.u16.wrap (2 ^ k)) = ((S ||| 2 ^ k : Nat) : Int)) := by
    show _ = _
    have hp := pow_smallN (k := k) (by omega)
    have hw : IntKind.u16.wrap (2 ^ k) = ((2 ^ k : Nat) : Int) := by
      rw [IntKind.wrap_u16, pow_nat]
      generalize (2 ^ k : Nat) = P at hp ⊢
      omega
    rw [hw]
    exact (bits16 hS (by omega)).2
  go_enter Try.func25, Try.ntmps25
  go_wp2
  go_ret
  refine ⟨?_, rfl⟩
  show Ending.returned (Value.int .u16 (bits BinOp.or IntKind.u16 (S : Int) (IntKind.u16.wrap (2 ^ k)))) = _
  rw [HE.out]
theorem moved_any (S k : Nat) (w : World) (hS : S < 65536) (hk : k < 20000) :
    Calls Try.prog 24 #[.int .u16 (S : Int), .int .i64 (k : Int)] w fun e w' => e = .returned (.int .u16 ((S * 2 ^ k % 65536 : Nat) : Int)) ∧ w' = w := by
  go_enter Try.func24, Try.ntmps24
  go_wp2
  go_ret
  refine ⟨?_, rfl⟩
  show Ending.returned (Value.int .u16 (IntKind.u16.wrap ((S : Int) * 2 ^ min k 16))) = _
  rw [mul_nat, IntKind.wrap_u16, ← min_mul S k]
  simp
/-- The same, at the caller's numbers. -/
theorem has_at (s d : Int) (w : World) (h0 : 0 ≤ s) (h1 : s ≤ 65535) (h2 : 0 ≤ d) (h3 : d < 20000) :
    Calls Try.prog 26 #[.int .u16 s, .int .i64 d] w fun e w' => e = .returned (.bool (decide (s.toNat / 2 ^ d.toNat % 2 = 1))) ∧ w' = w := by
  have := has_any s.toNat d.toNat w (by omega) (by omega)
  rwa [Int.toNat_of_nonneg h0, Int.toNat_of_nonneg h2] at this
theorem hasFrom_at (s d : Int) (w : World) (h0 : 0 ≤ s) (h1 : s ≤ 65535) (h2 : 0 ≤ d) (h3 : d < 20000) :
    Calls Try.prog 27 #[.int .u16 s, .int .i64 d] w fun e w' => e = .returned (.bool (decide (s.toNat / 2 ^ d.toNat ≠ 0))) ∧ w' = w := by
  have := hasFrom_any s.toNat d.toNat w (by omega) (by omega)
  rwa [Int.toNat_of_nonneg h0, Int.toNat_of_nonneg h2] at this
theorem with_at (s d : Int) (w : World) (h0 : 0 ≤ s) (h1 : s ≤ 65535) (h2 : 0 ≤ d) (h3 : d < 16) :
    Calls Try.prog 25 #[.int .u16 s, .int .i64 d] w fun e w' => e = .returned (.int .u16 ((s.toNat ||| 2 ^ d.toNat : Nat) : Int)) ∧ w' = w := by
  have := with_any s.toNat d.toNat w (by omega) (by omega)
  rwa [Int.toNat_of_nonneg h0, Int.toNat_of_nonneg h2] at this
theorem moved_at (s d : Int) (w : World) (h0 : 0 ≤ s) (h1 : s ≤ 65535) (h2 : 0 ≤ d) (h3 : d < 20000) :
    Calls Try.prog 24 #[.int .u16 s, .int .i64 d] w fun e w' => e = .returned (.int .u16 ((s.toNat * 2 ^ d.toNat % 65536 : Nat) : Int)) ∧ w' = w := by
  have := moved_any s.toNat d.toNat w (by omega) (by omega)
  rwa [Int.toNat_of_nonneg h0, Int.toNat_of_nonneg h2] at this
/-- WindowOk, as the program asks it. -/
theorem winB_bits {t s : Int} (h1 : -1 ≤ t) (h2 : t ≤ 9999) (h3 : 0 ≤ s) (h4 : s ≤ 65535) :
    winB t s = ((decide (s.toNat / 2 ^ (0 : Int).toNat % 2 = 1) == decide (t ≠ -1)) && !decide (s.toNat / 2 ^ (t + 1).toNat ≠ 0)) := by
  have e1 : inB t (-1) 9999 = true := by unfold inB; simp; omega
  have e2 : inB s 0 65535 = true := by unfold inB; simp; omega
  obtain ⟨S, rfl⟩ := Int.eq_ofNat_of_zero_le h3
  have e3 : ((0 : Int).toNat) = 0 := rfl
  unfold winB
  rw [e1, e2, Bool.true_and, Bool.true_and, e3, Nat.pow_zero, Nat.div_one, Int.toNat_natCast]
  by_cases ht : t < 0
  · have : t = -1 := by omega
    subst this
    rw [if_pos ht, show ((-1 : Int) + 1).toNat = 0 from rfl, Nat.pow_zero, Nat.div_one]
    by_cases hz : S = 0
    · subst hz; rfl
    · simp [hz]
  · rw [if_neg ht]
    have hn : decide (t ≠ -1) = true := decide_eq_true (by omega)
    have hm : decide ((S : Int) % 2 = 1) = decide (S % 2 = 1) := by
      by_cases h : S % 2 = 1
      · rw [decide_eq_true h]; exact decide_eq_true (by omega)
      · rw [decide_eq_false h]; exact decide_eq_false (by omega)
    have hl : (decide (15 ≤ t) || decide ((S : Int) < 2 ^ (t + 1).toNat)) = !decide (S / 2 ^ (t + 1).toNat ≠ 0) := by
      have hpos : 0 < 2 ^ (t + 1).toNat := Nat.pow_pos (by decide)
      have hd : (S / 2 ^ (t + 1).toNat = 0) ↔ S < 2 ^ (t + 1).toNat := by rw [Nat.div_eq_zero_iff]; omega
      have hc : ((S : Int) < 2 ^ (t + 1).toNat) ↔ S < 2 ^ (t + 1).toNat := by rw [pow_nat]; exact Int.ofNat_lt
      by_cases hlt : S < 2 ^ (t + 1).toNat
      · rw [decide_eq_true (hc.2 hlt), Bool.or_true, decide_eq_false (fun h => h (hd.2 hlt))]; rfl
      · have h15 : ¬ 15 ≤ t := by
          intro h
          obtain ⟨m, hm, h0⟩ := pow16 (k := (t + 1).toNat) (by omega)
          have : 65536 ≤ 65536 * m := Nat.le_mul_of_pos_right _ h0
          omega
        rw [decide_eq_false h15, decide_eq_false (fun h => hlt (hc.1 h)), decide_eq_true (show S / 2 ^ (t + 1).toNat ≠ 0 from fun h => hlt (hd.1 h))]; rfl
    rw [hn, hm, hl]
    simp
theorem wrap16_id {s : Int} (h0 : 0 ≤ s) (h1 : s ≤ 65535) : IntKind.u16.wrap s = s := by rw [IntKind.wrap_u16]; omega
set_option maxHeartbeats 1600000 in
theorem implWin_any (t s : Int) (w : World) (ht : (Lit.int .i64 t).wf = true) (hs : (Lit.int .i64 s).wf = true) :
    Calls Try.prog 13 #[.agg #[.int .i64 t, .int .i64 s]] w fun e w' => e = .returned (.bool (winB t s)) ∧ Below w.heap.size w w' := by
  have HB : Hid (Below w.heap.size w (w.alloc (.cells #[.int .i64 t, .int .i64 s] 27))) := (Below.refl _ _).alloc (Nat.le_refl _) _
  clear ht hs
  by_cases h1 : t < -1
  · have HF : Hid (winB t s = false) := by show _ = _; unfold winB inB; simp; omega
    go_enter Try.func13, Try.ntmps13
    go_wp2_with fail
    go_ret
    exact ⟨by rw [HF.out]; rfl, HB.out⟩
  by_cases h2 : 9999 < t
  · have HF : Hid (winB t s = false) := by show _ = _; unfold winB inB; simp; omega
    have h1' : ¬ t < -1 := h1
    go_enter Try.func13, Try.ntmps13
    go_wp2_with fail
    go_ret
    exact ⟨by rw [HF.out]; rfl, HB.out⟩
  by_cases h3 : s < 0
  · have HF : Hid (winB t s = false) := by show _ = _; unfold winB inB; simp; omega
    go_enter Try.func13, Try.ntmps13
    go_wp2_with fail
    go_ret
    exact ⟨by rw [HF.out]; rfl, HB.out⟩
  by_cases h4 : 65535 < s
  · have HF : Hid (winB t s = false) := by show _ = _; unfold winB inB; simp; omega
    go_enter Try.func13, Try.ntmps13
    go_wp2_with fail
    go_ret
    exact ⟨by rw [HF.out]; rfl, HB.out⟩
  have k1 : -1 ≤ t := by omega
  have k2 : t ≤ 9999 := by omega
  have k3 : 0 ≤ s := by omega
  have k4 : s ≤ 65535 := by omega
  have HE : Hid (winB t s = ((decide (s.toNat / 2 ^ (0 : Int).toNat % 2 = 1) == decide (t ≠ -1)) && !decide (s.toNat / 2 ^ (t + 1).toNat ≠ 0))) := winB_bits k1 k2 k3 k4
  have H1 : Hid (∀ w, Calls Try.prog 26 #[.int .u16 s, .int .i64 0] w fun e w' => e = .returned (.bool (decide (s.toNat / 2 ^ (0 : Int).toNat % 2 = 1))) ∧ w' = w) := fun w => has_at s 0 w k3 k4 (by decide) (by decide)
  have hw16 := wrap16_id k3 k4
  have hm16 : s % 65536 = s := by omega
  by_cases h5 : t = -1
  · subst h5
    have H2 : Hid (∀ w, Calls Try.prog 27 #[.int .u16 s, .int .i64 0] w fun e w' => e = .returned (.bool (decide (s.toNat / 2 ^ (-1 + 1 : Int).toNat ≠ 0))) ∧ w' = w) := fun w => hasFrom_at s 0 w k3 k4 (by decide) (by decide)
    generalize decide (s.toNat / 2 ^ (0 : Int).toNat % 2 = 1) = b1 at HE H1
    generalize decide (s.toNat / 2 ^ (-1 + 1 : Int).toNat ≠ 0) = b2 at HE H2
    have HF : Hid (winB (-1) s = (!b1 && !b2)) := by show _ = _; rw [HE.out]; cases b1 <;> rfl
    clear HE h1 h2 k1 k2
    cases b1
    · go_enter Try.func13, Try.ntmps13
      go_wp2_with (first | (go_at_call 26; refine (H1.out _).mono ?_; rintro e w' ⟨rfl, rfl⟩) | (go_at_call 27; refine (H2.out _).mono ?_; rintro e w' ⟨rfl, rfl⟩))
      go_ret
      exact ⟨by rw [HF.out]; rfl, HB.out⟩
    · go_enter Try.func13, Try.ntmps13
      go_wp2_with (first | (go_at_call 26; refine (H1.out _).mono ?_; rintro e w' ⟨rfl, rfl⟩) | (go_at_call 27; refine (H2.out _).mono ?_; rintro e w' ⟨rfl, rfl⟩))
      go_ret
      exact ⟨by rw [HF.out]; rfl, HB.out⟩
  · have H2 : Hid (∀ w, Calls Try.prog 27 #[.int .u16 s, .int .i64 (t + 1)] w fun e w' => e = .returned (.bool (decide (s.toNat / 2 ^ (t + 1).toNat ≠ 0))) ∧ w' = w) := fun w => hasFrom_at s (t + 1) w k3 k4 (by omega) (by omega)
    have hw64 : wrap64 (t + 1) = t + 1 := by unfold wrap64; omega
    have HN : Hid ((t != -1) = true) := by show _ = _; rw [bne_iff_ne]; exact h5
    generalize decide (s.toNat / 2 ^ (0 : Int).toNat % 2 = 1) = b1 at HE H1
    generalize decide (s.toNat / 2 ^ (t + 1).toNat ≠ 0) = b2 at HE H2
    have HF : Hid (winB t s = (b1 && !b2)) := by show _ = _; rw [HE.out, decide_eq_true h5]; cases b1 <;> rfl
    clear HE
    cases b1
    · go_enter Try.func13, Try.ntmps13
      go_wp2_with (first | (go_at_call 26; refine (H1.out _).mono ?_; rintro e w' ⟨rfl, rfl⟩) | (go_at_call 27; refine (H2.out _).mono ?_; rintro e w' ⟨rfl, rfl⟩))
      go_ret
      exact ⟨by rw [HF.out]; first | rfl | (show Ending.returned (Value.bool (!(t != -1) && !b2)) = _; rw [HN.out]; rfl), HB.out⟩
    · go_enter Try.func13, Try.ntmps13
      go_wp2_with (first | (go_at_call 26; refine (H1.out _).mono ?_; rintro e w' ⟨rfl, rfl⟩) | (go_at_call 27; refine (H2.out _).mono ?_; rintro e w' ⟨rfl, rfl⟩))
      go_ret
      refine ⟨?_, HB.out⟩
      rw [HF.out]
      show Ending.returned (Value.bool (t != -1 && !b2)) = _
      rw [HN.out]
set_option maxHeartbeats 1600000 in
theorem implFresh_any (t s q : Int) (w : World) (ht : (Lit.int .i64 t).wf = true) (hs : (Lit.int .i64 s).wf = true) (hq : (Lit.int .i64 q).wf = true) :
    Calls Try.prog 12 #[.agg #[.int .i64 t, .int .i64 s], .int .i64 q] w fun e w' => e = .returned (.bool (freshB t s q)) ∧ Below w.heap.size w w' := by
  have HB0 : Hid (Below w.heap.size w (w.alloc (.cells #[.int .i64 t, .int .i64 s] 27))) := (Below.refl _ _).alloc (Nat.le_refl _) _
  have hbx := heap_alloc_new w (.cells #[.int .i64 t, .int .i64 s] 27)
  have HW : Hid (∀ w, Calls Try.prog 13 #[.agg #[.int .i64 t, .int .i64 s]] w fun e w' => e = .returned (.bool (winB t s)) ∧ Below w.heap.size w w') := fun w => implWin_any t s w ht hs
  clear ht hs hq
  obtain ⟨d1, HD1⟩ : ∃ d, Hid (winB t s = d) := ⟨_, rfl⟩
  have HE : Hid (freshB t s q = (d1 && (inB q 0 9999 && (decide (t < q) || (decide (t - q < 16) && decide (s.toNat / 2 ^ (t - q).toNat % 2 = 0)))))) := by show _ = _; unfold freshB; rw [HD1.out]
  go_enter Try.func12, Try.ntmps12
  go_wp2_with fail
  refine (HW.out _).mono ?_
  rintro e w1 ⟨rfl, hb1⟩
  rw [HD1.out]
  have hb2 := (hb1.block w.heap.size (by simp)).trans hbx
  have c0 : w1.cell? ⟨w.heap.size, 0, none⟩ = some (.int .i64 t) := (cell_of_row _ _ 0 _ _ _ hb2).trans rfl
  have c1 : w1.cell? ⟨w.heap.size, 1, none⟩ = some (.int .i64 s) := (cell_of_row _ _ 1 _ _ _ hb2).trans rfl
  have HB : Hid (Below w.heap.size w w1) := HB0.out.trans (hb1.mono (by simp))
  clear hb1 hb2 hbx HB0 HW
  cases d1
  · have HF : Hid (freshB t s q = false) := by show _ = _; rw [HE.out]; rfl
    go_wp2
    go_ret
    exact ⟨by rw [HF.out]; rfl, HB.out⟩
  · by_cases hq1 : q < 0
    · have HF : Hid (freshB t s q = false) := by show _ = _; rw [HE.out]; unfold inB; simp; omega
      go_wp2_with fail
      go_ret
      exact ⟨by rw [HF.out]; rfl, HB.out⟩
    by_cases hq2 : 9999 < q
    · have HF : Hid (freshB t s q = false) := by show _ = _; rw [HE.out]; unfold inB; simp; omega
      go_wp2_with fail
      go_ret
      exact ⟨by rw [HF.out]; rfl, HB.out⟩
    obtain ⟨⟨h1, h2⟩, h3, h4⟩ := winB_range HD1.out
    have hin : Hid (inB q 0 9999 = true) := by show _ = _; unfold inB; simp; omega
    have hw64 : wrap64 (t - q) = t - q := by unfold wrap64; omega
    by_cases hlt : t < q
    · have HF : Hid (freshB t s q = true) := by show _ = _; rw [HE.out, hin.out]; simp [hlt]
      have hn : t - q < 0 := by omega
      clear hlt
      go_wp2_with fail
      go_ret
      exact ⟨by rw [HF.out]; rfl, HB.out⟩
    · have hn : ¬ t - q < 0 := by omega
      by_cases h16 : t - q < 16
      · have H1 : Hid (∀ w, Calls Try.prog 26 #[.int .u16 s, .int .i64 (t - q)] w fun e w' => e = .returned (.bool (decide (s.toNat / 2 ^ (t - q).toNat % 2 = 1))) ∧ w' = w) := fun w => has_at s (t - q) w h3 h4 (by omega) (by omega)
        have hw16 := wrap16_id h3 h4
        have hm16 : s % 65536 = s := by omega
        have HF : Hid (freshB t s q = !decide (s.toNat / 2 ^ (t - q).toNat % 2 = 1)) := by
          show _ = _
          rw [HE.out, hin.out, decide_eq_false hlt, decide_eq_true h16]
          generalize s.toNat / 2 ^ (t - q).toNat = D
          by_cases h : D % 2 = 0
          · simp [h]
          · have : D % 2 = 1 := by omega
            simp [this]
        generalize decide (s.toNat / 2 ^ (t - q).toNat % 2 = 1) = b1 at H1 HF
        clear hlt
        go_wp2_with (go_at_call 26; refine (H1.out _).mono ?_; rintro e w' ⟨rfl, rfl⟩)
        go_ret
        refine ⟨?_, HB.out⟩
        rw [HF.out]
        show Ending.returned (Value.bool (decide (t - q < 0) || !b1)) = _
        rw [decide_eq_false (show ¬ t - q < 0 by omega)]
        rfl
      · have HF : Hid (freshB t s q = false) := by show _ = _; rw [HE.out, decide_eq_false hlt, decide_eq_false h16]; simp
        clear hlt
        go_wp2_with fail
        go_ret
        refine ⟨?_, HB.out⟩
        rw [HF.out]
        show Ending.returned (Value.bool (decide (t - q < 0))) = _
        rw [decide_eq_false (show ¬ t - q < 0 by omega)]
set_option maxHeartbeats 3200000 in
theorem implNoted_any (t s q : Int) (w : World) (ht : (Lit.int .i64 t).wf = true) (hs : (Lit.int .i64 s).wf = true) (hq : (Lit.int .i64 q).wf = true) :
    Calls Try.prog 11 #[.agg #[.int .i64 t, .int .i64 s], .int .i64 q] w fun e w' => e = .returned (.tuple #[.agg #[.int .i64 (notedT t s q), .int .i64 (notedV t s q)], .bool (freshB t s q)]) ∧ Below w.heap.size w w' := by
  have HB0 : Hid (Below w.heap.size w ((w.alloc (.cells #[.int .i64 t, .int .i64 s] 27)).alloc (.cells #[.int .i64 0, .int .i64 0] 27))) := ((Below.refl _ _).alloc (Nat.le_refl _) _).alloc (by simp) _
  have hbx : ((w.alloc (.cells #[.int .i64 t, .int .i64 s] 27)).alloc (.cells #[.int .i64 0, .int .i64 0] 27)).heap[w.heap.size]? = some (.cells #[.int .i64 t, .int .i64 s] 27 (0, 0)) := (heap_alloc_old _ _ (by simp)).trans (heap_alloc_new w _)
  have hrx : ((w.alloc (.cells #[.int .i64 t, .int .i64 s] 27)).alloc (.cells #[.int .i64 0, .int .i64 0] 27)).heap[w.heap.size + 1]? = some (.cells #[.int .i64 0, .int .i64 0] 27 (0, 0)) := by have := heap_alloc_new (w.alloc (.cells #[.int .i64 t, .int .i64 s] 27)) (.cells #[.int .i64 0, .int .i64 0] 27); simpa using this
  have HW : Hid (∀ w, Calls Try.prog 12 #[.agg #[.int .i64 t, .int .i64 s], .int .i64 q] w fun e w' => e = .returned (.bool (freshB t s q)) ∧ Below w.heap.size w w') := fun w => implFresh_any t s q w ht hs hq
  clear ht hs hq
  obtain ⟨d1, HD1⟩ : ∃ d, Hid (freshB t s q = d) := ⟨_, rfl⟩
  obtain ⟨T, V, HT, hT, hV⟩ : ∃ T V, Hid (T = notedT t s q ∧ V = notedV t s q) ∧ T = notedT t s q ∧ V = notedV t s q := ⟨_, _, ⟨rfl, rfl⟩, rfl, rfl⟩
  rw [← hT, ← hV]
  clear hT hV
  go_enter Try.func11, Try.ntmps11
  go_wp2_with fail
  refine (HW.out _).mono ?_
  rintro e w1 ⟨rfl, hb1⟩
  rw [HD1.out]
  have hb2 := (hb1.block w.heap.size (by simp <;> omega)).trans hbx
  have hr2 := (hb1.block (w.heap.size + 1) (by simp)).trans hrx
  have c0 : w1.cell? ⟨w.heap.size, 0, none⟩ = some (.int .i64 t) := (cell_of_row _ _ 0 _ _ _ hb2).trans rfl
  have c1 : w1.cell? ⟨w.heap.size, 1, none⟩ = some (.int .i64 s) := (cell_of_row _ _ 1 _ _ _ hb2).trans rfl
  have r0 : w1.cell? ⟨w.heap.size + 1, 0, none⟩ = some (.int .i64 0) := (cell_of_row _ _ 0 _ _ _ hr2).trans rfl
  have r1 : w1.cell? ⟨w.heap.size + 1, 1, none⟩ = some (.int .i64 0) := (cell_of_row _ _ 1 _ _ _ hr2).trans rfl
  have f0 : w1.frozen? ⟨w.heap.size + 1, 0, none⟩ = false := frozen_of_row _ _ 0 _ _ hr2
  have f1 : w1.frozen? ⟨w.heap.size + 1, 1, none⟩ = false := frozen_of_row _ _ 1 _ _ hr2
  have HB : Hid (Below w.heap.size w w1) := HB0.out.trans (hb1.mono (by simp <;> omega))
  have HR : Hid (w1.heap[w.heap.size + 1]? = some (.cells #[.int .i64 0, .int .i64 0] 27 (0, 0))) := hr2
  clear hb1 hb2 hr2 hbx hrx HB0 HW
  cases d1
  · have HF : Hid (T = t ∧ V = s) := by
      refine ⟨HT.out.1.trans ?_, HT.out.2.trans ?_⟩
      · unfold notedT; rw [HD1.out]; rfl
      · unfold notedV; rw [HD1.out]; rfl
    go_wp2
    refine bodyPost_ret (res_win rfl _ _ (w.heap.size + 1) 27 #[.int .i64 t, .int .i64 s] (0, 0) _ rfl (store2 HR.out _ _) Try.underlying27 rfl winSize) rfl ?_
    exact ⟨by rw [HF.out.1, HF.out.2, HD1.out]; rfl, below_two HB.out (by omega) _ _⟩
  · obtain ⟨⟨h1, h2⟩, ⟨h3, h4⟩, ⟨hq1, hq2⟩, h16⟩ := freshB_range HD1.out
    have hwin : winB t s = true := by have := HD1.out; unfold freshB at this; simp only [Bool.and_eq_true] at this; exact this.1
    have hw16 := wrap16_id h3 h4
    have hm16 : s % 65536 = s := by omega
    by_cases hle : q ≤ t
    · have h16' := h16 hle
      have hgt : ¬ t < q := by omega
      have hz : wrap64 (t - t) = 0 := by unfold wrap64; omega
      have hz2 : t - t = 0 := by omega
      have hw64 : wrap64 (t - q) = t - q := by unfold wrap64; omega
      obtain ⟨M, hM⟩ : ∃ M, M = ((s.toNat * 2 ^ (0 : Int).toNat % 65536 : Nat) : Int) := ⟨_, rfl⟩
      have hMs : M = s := by rw [hM, show ((0 : Int).toNat) = 0 from rfl, Nat.pow_zero, Nat.mul_one]; omega
      have H1 : Hid (∀ w, Calls Try.prog 24 #[.int .u16 s, .int .i64 0] w fun e w' => e = .returned (.int .u16 s) ∧ w' = w) := fun w => by have := moved_at s 0 w h3 h4 (by decide) (by decide); rwa [← hM, hMs] at this
      have hp := pow_smallN (k := (t - q).toNat) (by omega)
      have hor : s.toNat ||| 2 ^ (t - q).toNat < 2 ^ 16 := Nat.or_lt_two_pow (by omega) (by omega)
      obtain ⟨P, hP⟩ : ∃ P, P = ((s.toNat ||| 2 ^ (t - q).toNat : Nat) : Int) := ⟨_, rfl⟩
      have hP0 : 0 ≤ P ∧ P < 65536 := by omega
      obtain ⟨hP1, hP2⟩ := hP0
      have hP3 : wrap64 P = P := by unfold wrap64; omega
      have hP4 : IntKind.i64.wrap P = P := by rw [IntKind.wrap_i64]; omega
      have H2 : Hid (∀ w, Calls Try.prog 25 #[.int .u16 s, .int .i64 (t - q)] w fun e w' => e = .returned (.int .u16 P) ∧ w' = w) := fun w => by have := with_at s (t - q) w h3 h4 (by omega) (by omega); rwa [← hP] at this
      have HF : Hid (T = t ∧ V = P) := by
        refine ⟨HT.out.1.trans ?_, HT.out.2.trans ?_⟩
        · unfold notedT; rw [HD1.out, if_pos rfl, if_pos hle]
        · unfold notedV notedS; rw [HD1.out, if_pos rfl, if_pos hle, hP]
      clear hM hMs hp hor hP h16 hle hwin
      go_wp2_with (first | (go_at_call 24; refine (H1.out _).mono ?_; rintro e w' ⟨rfl, rfl⟩) | (go_at_call 25; refine (H2.out _).mono ?_; rintro e w' ⟨rfl, rfl⟩))
      refine bodyPost_ret (res_win rfl _ _ (w.heap.size + 1) 27 #[.int .i64 t, .int .i64 P] (0, 0) _ rfl (store2 HR.out _ _) Try.underlying27 rfl winSize) rfl ?_
      exact ⟨by rw [HF.out.1, HF.out.2, HD1.out]; rfl, below_two HB.out (by omega) _ _⟩
    · have hgt : t < q := by omega
      have hz : wrap64 (q - q) = 0 := by unfold wrap64; omega
      have hz2 : q - q = 0 := by omega
      have hw64 : wrap64 (q - t) = q - t := by unfold wrap64; omega
      obtain ⟨M, hM⟩ : ∃ M, M = ((s.toNat * 2 ^ (q - t).toNat % 65536 : Nat) : Int) := ⟨_, rfl⟩
      have hM0 : 0 ≤ M ∧ M ≤ 65535 := by omega
      have H1 : Hid (∀ w, Calls Try.prog 24 #[.int .u16 s, .int .i64 (q - t)] w fun e w' => e = .returned (.int .u16 M) ∧ w' = w) := fun w => by have := moved_at s (q - t) w h3 h4 (by omega) (by omega); rwa [← hM] at this
      have hor : M.toNat ||| 2 ^ (0 : Int).toNat < 2 ^ 16 := Nat.or_lt_two_pow (by omega) (by decide)
      obtain ⟨P, hP⟩ : ∃ P, P = ((M.toNat ||| 2 ^ (0 : Int).toNat : Nat) : Int) := ⟨_, rfl⟩
      have hP0 : 0 ≤ P ∧ P < 65536 := by omega
      obtain ⟨hP1, hP2⟩ := hP0
      have hP3 : wrap64 P = P := by unfold wrap64; omega
      have hP4 : IntKind.i64.wrap P = P := by rw [IntKind.wrap_i64]; omega
      have H2 : Hid (∀ w, Calls Try.prog 25 #[.int .u16 M, .int .i64 0] w fun e w' => e = .returned (.int .u16 P) ∧ w' = w) := fun w => by have := with_at M 0 w hM0.1 hM0.2 (by decide) (by decide); rwa [← hP] at this
      have HF : Hid (T = q ∧ V = P) := by
        refine ⟨HT.out.1.trans ?_, HT.out.2.trans ?_⟩
        · unfold notedT; rw [HD1.out, if_pos rfl, if_neg hle]
        · unfold notedV notedS
          rw [HD1.out, if_pos rfl, if_neg hle, hP, hM, Int.toNat_natCast, show 2 ^ ((0 : Int).toNat) = 1 from rfl]
          by_cases hc : 0 ≤ t ∧ q - t < 16
          · rw [if_pos hc]
          · rw [if_neg hc]
            have hz3 : s.toNat * 2 ^ (q - t).toNat % 65536 = 0 := by
              by_cases ht0 : 0 ≤ t
              · exact mul_zero16 (by omega)
              · have : s = 0 := by unfold winB at hwin; rw [if_pos (by omega)] at hwin; simp only [Bool.and_eq_true, decide_eq_true_eq] at hwin; exact hwin.2.2
                rw [this]; simp
            rw [hz3]; rfl
      clear hM hM0 hor hP h16 hle hwin
      go_wp2_with (first | (go_at_call 24; refine (H1.out _).mono ?_; rintro e w' ⟨rfl, rfl⟩) | (go_at_call 25; refine (H2.out _).mono ?_; rintro e w' ⟨rfl, rfl⟩))
      refine bodyPost_ret (res_win rfl _ _ (w.heap.size + 1) 27 #[.int .i64 q, .int .i64 P] (0, 0) _ rfl (store2 HR.out _ _) Try.underlying27 rfl winSize) rfl ?_
      exact ⟨by rw [HF.out.1, HF.out.2, HD1.out]; rfl, below_two HB.out (by omega) _ _⟩
end Go.Proofs.Ytmbaipednonhpaa
