/- The contract of chapter 16's RoutesOk, the specification's. -/
import Derived.Test.YtclnhjkmhemebaaSpec16
namespace Go.Proofs.Ytclnhjkmhemebaa
open Go.RowKit
set_option linter.unusedVariables false
theorem rts_next (rs : List Rt) (f k : Nat) : rtsFrom rs (f + 1) k = (rtOk rs k && rtsFrom rs f (k + 1)) := rfl
theorem rtIn_hit {rs : List Rt} {r : Rt} : ∀ {k m : Nat}, m < k → (rs.getD m Rt.zero).n = r.n → (rs.getD m Rt.zero).b = r.b → rtIn rs r k = true
  | 0, m, h, _, _ => by omega
  | k + 1, m, h, e, e' => by
    rw [rtIn]
    rcases Nat.eq_or_lt_of_le (Nat.le_of_lt_succ h) with rfl | h1
    · rw [decide_eq_true e, decide_eq_true e']; simp
    · rw [rtIn_hit h1 e e']; rfl
theorem wrap_pow {n : Nat} (h : n ≤ 8) : wrap64 (2 ^ n) = 2 ^ n ∧ (2 : Int) ^ n ≠ 0 := by
  rcases (show n = 0 ∨ n = 1 ∨ n = 2 ∨ n = 3 ∨ n = 4 ∨ n = 5 ∨ n = 6 ∨ n = 7 ∨ n = 8 by omega) with rfl | rfl | rfl | rfl | rfl | rfl | rfl | rfl | rfl <;> exact ⟨by unfold wrap64; omega, by decide⟩
def rtA (r : Rt) : Bool := inB r.b 0 8 && (inB r.n 0 255 && (inB r.t 0 9 && decide (r.n % 2 ^ shB r = 0)))
theorem rtOk_bad {rs : List Rt} {k : Nat} (h : rtA (rs.getD k Rt.zero) = false) : rtOk rs k = false := by
  unfold rtOk; unfold rtA at h; rw [h]; rfl
theorem rtOk_twice {rs : List Rt} {k : Nat} (h : rtIn rs (rs.getD k Rt.zero) k = true) : rtOk rs k = false := by
  unfold rtOk; rw [h]; simp
theorem rtOk_yes {rs : List Rt} {k : Nat} (h : rtA (rs.getD k Rt.zero) = true) (h2 : rtIn rs (rs.getD k Rt.zero) k = false) : rtOk rs k = true := by
  unfold rtOk; unfold rtA at h; rw [h, h2]; rfl
set_option maxHeartbeats 3200000 in
set_option maxRecDepth 20000 in
theorem specRoutes_any (a : Option Addr) (cap : Nat) (rs : List Rt) (w : World) (hl : rs.length ≤ 1048576) (hr : RowRt w.heap.size w a rs) :
    Calls Try.prog 54 #[.slice a rs.length cap] w fun e w' => e = .returned (.bool (rtsB rs)) ∧ Below w.heap.size w w' := by
  have HR : Hid (RowRt w.heap.size w a rs) := hr
  clear hr
  obtain ⟨V, HV⟩ : ∃ V, Hid (rtsFrom rs rs.length 0 = V) := ⟨_, rfl⟩
  have HP : Hid (rtsB rs = (V && decide (rs.length ≤ 8))) := by show _ = _; unfold rtsB; rw [HV.out]
  rw [HP.out]
  go_enter Try.func54, Try.ntmps54
  go_wp2
  go_loopw [3] (fun i wr => ∃ k : Nat, k ≤ rs.length ∧ i = .int .i64 (k : Int) ∧ Hid (rtsFrom rs (rs.length - k) k = V) ∧ Hid (Below w.heap.size w wr)) (fun i _ => rs.length - (intOf i).toNat)
  case atStart => exact ⟨0, Nat.zero_le _, rfl, HV, Below.refl _ _⟩
  case round =>
    obtain ⟨k, hk, rfl, HF, HBE⟩ := hrel
    by_cases hlt : k < rs.length
    · obtain ⟨b, off, rfl⟩ := HR.out.addr hlt
      have hi0 : (0 : Int) ≤ (k : Int) := by omega
      have hi1 : (k : Int) < (rs.length : Int) := by omega
      have C1 := HR.out.at HBE.out (i := k) hlt
      have HFD : Hid (rtsFrom rs (rs.length - k) k = (rtOk rs k && rtsFrom rs (rs.length - (k + 1)) (k + 1))) := by
        show _ = _
        rw [show rs.length - k = (rs.length - (k + 1)) + 1 by omega, rts_next]
      obtain ⟨y, HY⟩ : ∃ y, Hid (rs.getD k Rt.zero = y) := ⟨_, rfl⟩
      rw [HY.out] at C1
      obtain ⟨hb, c0, c1, c2⟩ := C1
      have HBX : Hid (Below w.heap.size w (wr.alloc (.cells #[.int .i64 y.n, .int .i64 y.b, .int .i64 y.t] 44))) := HBE.out.alloc HBE.out.size _
      have HBL : Hid ((wr.alloc (.cells #[.int .i64 y.n, .int .i64 y.b, .int .i64 y.t] 44)).heap[wr.heap.size]? = some (.cells #[.int .i64 y.n, .int .i64 y.b, .int .i64 y.t] 44 (0, 0))) := heap_alloc_new wr _
      have hgb : wr.heap.size < (wr.alloc (.cells #[.int .i64 y.n, .int .i64 y.b, .int .i64 y.t] 44)).heap.size := by simp
      obtain ⟨d0, h0⟩ : ∃ d, inB y.b 0 8 = d := ⟨_, rfl⟩
      obtain ⟨d1, h1⟩ : ∃ d, inB y.n 0 255 = d := ⟨_, rfl⟩
      obtain ⟨d2, h2⟩ : ∃ d, inB y.t 0 9 = d := ⟨_, rfl⟩
      cases d0
      · cases d1 <;> cases d2
        all_goals
          have HV0 : Hid (V = false) := by show _ = _; rw [← HF.out, HFD.out, rtOk_bad (by rw [HY.out]; unfold rtA; rw [h0]; rfl)]; rfl
          go_wp2_with fail
          repeat (go_at_call 83; refine (specIn_any _ _ _ _).mono ?_; rintro e w' ⟨rfl, rfl⟩; (first | rw [h0] | rw [h1] | rw [h2]); go_wp2_with fail)
          go_ret
          exact ⟨by rw [HV0.out]; rfl, HBX.out⟩
      · have H0 := h0
        unfold inB at H0
        simp at H0
        cases d1
        · cases d2
          all_goals
            have HV0 : Hid (V = false) := by show _ = _; rw [← HF.out, HFD.out, rtOk_bad (by rw [HY.out]; unfold rtA; rw [h0, h1]; rfl)]; rfl
            go_wp2_with fail
            repeat (go_at_call 83; refine (specIn_any _ _ _ _).mono ?_; rintro e w' ⟨rfl, rfl⟩; (first | rw [h0] | rw [h1] | rw [h2]); go_wp2_with fail)
            go_ret
            exact ⟨by rw [HV0.out]; rfl, HBX.out⟩
        · have H1 := h1
          unfold inB at H1
          simp at H1
          cases d2
          · have HV0 : Hid (V = false) := by show _ = _; rw [← HF.out, HFD.out, rtOk_bad (by rw [HY.out]; unfold rtA; rw [h0, h1, h2]; rfl)]; rfl
            go_wp2_with fail
            repeat (go_at_call 83; refine (specIn_any _ _ _ _).mono ?_; rintro e w' ⟨rfl, rfl⟩; (first | rw [h0] | rw [h1] | rw [h2]); go_wp2_with fail)
            go_ret
            exact ⟨by rw [HV0.out]; rfl, HBX.out⟩
          · have hwp := wrap_pow (n := (8 - y.b).toNat) (by omega)
            have hwq : wrap64 (2 ^ (8 - y.b).toNat) = 2 ^ shB y := hwp.1
            have hwn : ¬ (2 : Int) ^ shB y = 0 := hwp.2
            clear hwp
            obtain ⟨d3, h3⟩ : ∃ d, (y.n % 2 ^ shB y != 0) = d := ⟨_, rfl⟩
            cases d3
            · have HA : Hid (rtA y = true) := by show _ = _; unfold rtA; rw [h0, h1, h2, decide_eq_true (by simpa using h3)]; rfl
              go_wp2_with fail
              repeat (go_at_call 83; refine (specIn_any _ _ _ _).mono ?_; rintro e w' ⟨rfl, rfl⟩; (first | rw [h0] | rw [h1] | rw [h2]); go_wp2_with fail)
              obtain ⟨wb, hwb⟩ : ∃ wb, (wr.alloc (.cells #[.int .i64 y.n, .int .i64 y.b, .int .i64 y.t] 44)) = wb := ⟨_, rfl⟩
              obtain ⟨gb, hgbe⟩ : ∃ gb, wr.heap.size = gb := ⟨_, rfl⟩
              rw [hwb] at HBX HBL hgb ⊢
              rw [hgbe] at HBL hgb ⊢
              clear hwb hgbe c0 c1 c2 h0 h1 h2 h3 H0 H1 hwq hwn
              go_loopw [5] (fun i2 w2 => ∃ m : Nat, m ≤ k ∧ i2 = .int .i64 (m : Int) ∧ Hid (rtIn rs y m = false) ∧ Hid (Below wb.heap.size wb w2)) (fun i2 _ => k - (intOf i2).toNat)
              case atStart => exact ⟨0, Nat.zero_le _, rfl, rfl, Below.refl _ _⟩
              case round =>
                obtain ⟨m, hm, rfl, HCM, HB2⟩ := hrel
                by_cases hmk : m < k
                · obtain ⟨S, hS0, hNE, HK⟩ := below_classB HB2.out (Nat.le_refl _)
                  have C2 := fun s : Hw S => HR.out.at (HBX.out.trans ((HK.out.2 _ s.ok).mono HBX.out.size)) (i := m) (by omega)
                  have b0 := fun s : Hw S => (cell_of_row _ gb 0 _ _ _ (((HK.out.2 _ s.ok).block gb hgb).trans HBL.out)).trans rfl
                  have b1 := fun s : Hw S => (cell_of_row _ gb 1 _ _ _ (((HK.out.2 _ s.ok).block gb hgb).trans HBL.out)).trans rfl
                  have HM1 : Hid ((rs.getD m Rt.zero).n = y.n → (rs.getD m Rt.zero).b = y.b → rtIn rs y k = true) := fun e e' => rtIn_hit hmk e e'
                  have HM2 : Hid (rtIn rs y (m + 1) = (rtIn rs y m || (decide ((rs.getD m Rt.zero).n = y.n) && decide ((rs.getD m Rt.zero).b = y.b)))) := rfl
                  generalize rs.getD m Rt.zero = x at C2 HM1 HM2
                  have d0 := fun s : Hw S => (C2 s).2.1
                  have d1 := fun s : Hw S => (C2 s).2.2.1
                  clear C2
                  have hm0 : (0 : Int) ≤ (m : Int) := by omega
                  have hm1 : (m : Int) < (rs.length : Int) := by omega
                  have hmk' : (m : Int) < (k : Int) := by omega
                  by_cases hxn : x.n = y.n
                  · have hd0 : (x.n == y.n) = true := by simp [hxn]
                    by_cases hxb : x.b = y.b
                    · have hd1 : (x.b == y.b) = true := by simp [hxb]
                      have HV0 : Hid (V = false) := by show _ = _; rw [← HF.out, HFD.out, rtOk_twice (by rw [HY.out]; exact HM1.out hxn hxb)]; rfl
                      clear hxn hxb HM1 HM2
                      go_wp2
                      refine wp_region_held (S := S) (by kernel_rfl) (by kernel_rfl) hS0 ?_
                      repeat (go_big_quiet_step (fail))
                      refine wpQuiet_nil ?_
                      rintro _ ⟨sw, rfl⟩
                      have HB2 : Hid _ := HK.out.2 _ sw.ok
                      have HE2 : Hid (Below w.heap.size w sw.w) := HBX.out.trans (HB2.out.mono HBX.out.size)
                      clear HK d0 d1 b0 b1
                      go_wp2
                      go_ret
                      exact ⟨by rw [HV0.out]; rfl, HE2.out⟩
                    · have hd1 : (x.b == y.b) = false := by simp [hxb]
                      have HXB : Hid (¬ x.b = y.b) := hxb
                      clear hxb hxn
                      have HC2 : Hid (rtIn rs y (m + 1) = false) := by show _ = _; rw [HM2.out, HCM.out, decide_eq_false HXB.out]; simp
                      clear HM1 HM2 HCM
                      go_wp2
                      refine wp_region_held (S := S) (by kernel_rfl) (by kernel_rfl) hS0 ?_
                      repeat (go_big_quiet_step (fail))
                      refine wpQuiet_nil ?_
                      rintro _ ⟨sw, rfl⟩
                      have HB2 : Hid _ := HK.out.2 _ sw.ok
                      clear HK d0 d1 b0 b1
                      go_wp2
                      go_roundw
                      case rel => exact ⟨m + 1, by omega, by go_num, HC2, HB2⟩
                      case measure => simp [intOf]; omega
                  · have hd0 : (x.n == y.n) = false := by simp [hxn]
                    have HXN : Hid (¬ x.n = y.n) := hxn
                    clear hxn
                    have HC2 : Hid (rtIn rs y (m + 1) = false) := by show _ = _; rw [HM2.out, HCM.out, decide_eq_false HXN.out]; simp
                    clear HM1 HM2 HCM
                    go_wp2
                    refine wp_region_held (S := S) (by kernel_rfl) (by kernel_rfl) hS0 ?_
                    repeat (go_big_quiet_step (fail))
                    refine wpQuiet_nil ?_
                    rintro _ ⟨sw, rfl⟩
                    have HB2 : Hid _ := HK.out.2 _ sw.ok
                    clear HK d0 d1 b0 b1
                    go_wp2
                    go_roundw
                    case rel => exact ⟨m + 1, by omega, by go_num, HC2, HB2⟩
                    case measure => simp [intOf]; omega
                · obtain rfl : m = k := by omega
                  have HN : Hid (rtsFrom rs (rs.length - (m + 1)) (m + 1) = V) := by show _ = _; rw [← HF.out, HFD.out, rtOk_yes (by rw [HY.out]; exact HA.out) (by rw [HY.out]; exact HCM.out)]; rfl
                  have HE2 : Hid (Below w.heap.size w wr) := HBX.out.trans (HB2.out.mono HBX.out.size)
                  clear HCM
                  go_wp2
                  go_roundw
                  case rel => exact ⟨m + 1, by omega, by go_num, HN, HE2⟩
                  case measure => simp [intOf]; omega
            · have HV0 : Hid (V = false) := by show _ = _; rw [← HF.out, HFD.out, rtOk_bad (by rw [HY.out]; unfold rtA; rw [h0, h1, h2, decide_eq_false (by simpa using h3)]; rfl)]; rfl
              go_wp2_with fail
              repeat (go_at_call 83; refine (specIn_any _ _ _ _).mono ?_; rintro e w' ⟨rfl, rfl⟩; (first | rw [h0] | rw [h1] | rw [h2]); go_wp2_with fail)
              go_ret
              exact ⟨by rw [HV0.out]; rfl, HBX.out⟩
    · obtain rfl : k = rs.length := by omega
      have HE : Hid (V = true) := by show _ = _; rw [← HF.out, Nat.sub_self]; rfl
      clear HF
      by_cases h3 : rs.length ≤ 8
      · have h3' : (rs.length : Int) ≤ 8 := by omega
        have HQ : Hid ((V && decide (rs.length ≤ 8)) = true) := by show _ = _; rw [HE.out, decide_eq_true h3]; rfl
        clear h3
        go_wp2
        go_ret
        exact ⟨by rw [HQ.out]; rfl, HBE.out⟩
      · have h3' : ¬ (rs.length : Int) ≤ 8 := by omega
        have HQ : Hid ((V && decide (rs.length ≤ 8)) = false) := by show _ = _; rw [HE.out, decide_eq_false h3]; rfl
        clear h3
        go_wp2
        go_ret
        exact ⟨by rw [HQ.out]; rfl, HBE.out⟩
end Go.Proofs.Ytclnhjkmhemebaa
