/- The contracts of chapter 15's PoolOk and Leased, the specification's. -/
import Derived.Test.YtclnhjkmhemebaaSpec15
namespace Go.Proofs.Ytclnhjkmhemebaa
open Go.RowKit
set_option linter.unusedVariables false
theorem pool_next (ls : List Ls) (f k : Nat) : poolFrom ls (f + 1) k = (plOk ls k && poolFrom ls f (k + 1)) := rfl
theorem cidIn_hit {ls : List Ls} {c : Int} : ∀ {k m : Nat}, m < k → (ls.getD m Ls.zero).c = c → cidIn ls c k = true
  | 0, m, h, _ => by omega
  | k + 1, m, h, e => by
    rw [cidIn]
    rcases Nat.eq_or_lt_of_le (Nat.le_of_lt_succ h) with rfl | h1
    · rw [decide_eq_true e]; simp
    · rw [cidIn_hit h1 e]; rfl
theorem plOk_out {ls : List Ls} {k : Nat} (h : inB (ls.getD k Ls.zero).p 10 12 = false) : plOk ls k = false := by
  unfold plOk; unfold inB at h; rw [h]; rfl
theorem plOk_low {ls : List Ls} {k : Nat} (hk : k ≠ 0) (h : (ls.getD k Ls.zero).p ≤ (ls.getD (k - 1) Ls.zero).p) : plOk ls k = false := by
  unfold plOk; rw [decide_eq_false hk, decide_eq_false (Int.not_lt.2 h)]; simp
theorem plOk_twice {ls : List Ls} {k : Nat} (h : cidIn ls (ls.getD k Ls.zero).c k = true) : plOk ls k = false := by
  unfold plOk; rw [h]; simp
theorem plOk_yes {ls : List Ls} {k : Nat} (h0 : inB (ls.getD k Ls.zero).p 10 12 = true) (h1 : k = 0 ∨ (ls.getD (k - 1) Ls.zero).p < (ls.getD k Ls.zero).p) (h2 : cidIn ls (ls.getD k Ls.zero).c k = false) : plOk ls k = true := by
  unfold plOk; unfold inB at h0; rw [h0, h2]
  rcases h1 with h | h
  · rw [decide_eq_true h]; rfl
  · rw [decide_eq_true h]; simp
set_option maxHeartbeats 3200000 in
set_option maxRecDepth 20000 in
theorem specPool_any (a : Option Addr) (cap : Nat) (ls : List Ls) (w : World) (hl : ls.length ≤ 1048576) (hr : RowLs w.heap.size w a ls) :
    Calls Try.prog 31 #[.slice a ls.length cap] w fun e w' => e = .returned (.bool (poolB ls)) ∧ Below w.heap.size w w' := by
  have HR : Hid (RowLs w.heap.size w a ls) := hr
  clear hr
  obtain ⟨V, HV⟩ : ∃ V, Hid (poolFrom ls ls.length 0 = V) := ⟨_, rfl⟩
  have HP : Hid (poolB ls = (V && decide (ls.length ≤ 3))) := by show _ = _; unfold poolB; rw [HV.out]
  rw [HP.out]
  go_enter Try.func31, Try.ntmps31
  go_wp2
  go_loopw [3] (fun i wr => ∃ k : Nat, k ≤ ls.length ∧ i = .int .i64 (k : Int) ∧ Hid (poolFrom ls (ls.length - k) k = V) ∧ Below w.heap.size w wr) (fun i _ => ls.length - (intOf i).toNat)
  case atStart => exact ⟨0, Nat.zero_le _, rfl, HV, Below.refl _ _⟩
  case round =>
    obtain ⟨k, hk, rfl, HF, hbel⟩ := hrel
    by_cases hlt : k < ls.length
    · obtain ⟨b, off, rfl⟩ := HR.out.addr hlt
      have hi0 : (0 : Int) ≤ (k : Int) := by omega
      have hi1 : (k : Int) < (ls.length : Int) := by omega
      obtain ⟨S, hS0, hNE, HK⟩ := below_classB hbel (Nat.le_refl _)
      have C1 := fun s : Hw S => HR.out.at (HK.out.2 _ s.ok) (i := k) hlt
      have HFD : Hid (poolFrom ls (ls.length - k) k = (plOk ls k && poolFrom ls (ls.length - (k + 1)) (k + 1))) := by
        show _ = _
        rw [show ls.length - k = (ls.length - (k + 1)) + 1 by omega, pool_next]
      obtain ⟨y, HY⟩ : ∃ y, Hid (ls.getD k Ls.zero = y) := ⟨_, rfl⟩
      rw [HY.out] at C1
      have c0 := fun s : Hw S => (C1 s).2.1
      have c1 := fun s : Hw S => (C1 s).2.2
      clear C1
      obtain ⟨d0, hd0⟩ : ∃ d, inB y.p 10 12 = d := ⟨_, rfl⟩
      have HI0 : Hid (inB y.p 10 12 = d0) := hd0
      have HI : ∀ wz : World, Calls Try.prog 83 #[.int .i64 y.p, .int .i64 10, .int .i64 12] wz fun e w' => e = .returned (.bool d0) ∧ Below wz.heap.size wz w' := fun wz => by have := specInB_any y.p 10 12 wz; rw [hd0] at this; exact this
      clear hd0
      cases d0 with
      | false =>
        go_wp2
        refine wp_region_held (S := S) (by kernel_rfl) (by kernel_rfl) hS0 ?_
        repeat (go_big_quiet_step ((go_at_call 83; exact Calls.held (HI _) (HK.out.1 _))))
        refine wpQuiet_nil ?_
        rintro _ ⟨sw, rfl⟩
        have hB := HK.out.2 _ sw.ok
        have HV0 : Hid (V = false) := by show _ = _; rw [← HF.out, HFD.out, plOk_out (by rw [HY.out]; exact HI0.out)]; rfl
        clear HK c0 c1
        go_wp2
        go_ret
        exact ⟨by rw [HV0.out]; rfl, hB⟩
      | true =>
        rcases Nat.eq_zero_or_pos k with hk0 | hk0
        · have hg : decide (0 < k) = false := by rw [hk0]; rfl
          have HK0 : Hid (k = 0) := hk0
          clear hk0
          go_wp2
          refine wp_region_held (S := S) (by kernel_rfl) (by kernel_rfl) hS0 ?_
          repeat (go_big_quiet_step ((go_at_call 83; exact Calls.held (HI _) (HK.out.1 _))))
          refine wpQuiet_nil ?_
          rintro _ ⟨sw, rfl⟩
          have hB := HK.out.2 _ sw.ok
          clear HK c0 c1
          go_wp2
          go_loopw [4] (fun i2 w2 => ∃ m : Nat, m ≤ k ∧ i2 = .int .i64 (m : Int) ∧ Hid (cidIn ls y.c m = false) ∧ Below w.heap.size w w2) (fun i2 _ => k - (intOf i2).toNat)
          case atStart => exact ⟨0, Nat.zero_le _, rfl, rfl, hB⟩
          case round =>
            obtain ⟨m, hm, rfl, HCM, hb2⟩ := hrel
            by_cases hmk : m < k
            · obtain ⟨S, hS0, hNE, HK⟩ := below_classB hb2 (Nat.le_refl _)
              have C1 := fun s : Hw S => HR.out.at (HK.out.2 _ s.ok) (i := k) hlt
              have C2 := fun s : Hw S => HR.out.at (HK.out.2 _ s.ok) (i := m) (by omega)
              rw [HY.out] at C1
              have HM1 : Hid ((ls.getD m Ls.zero).c = y.c → cidIn ls y.c k = true) := fun e => cidIn_hit hmk e
              have HM2 : Hid (cidIn ls y.c (m + 1) = (cidIn ls y.c m || decide ((ls.getD m Ls.zero).c = y.c))) := rfl
              generalize ls.getD m Ls.zero = x at C2 HM1 HM2
              have c1 := fun s : Hw S => (C1 s).2.2
              have d1 := fun s : Hw S => (C2 s).2.2
              clear C1 C2
              have hm0 : (0 : Int) ≤ (m : Int) := by omega
              have hm1 : (m : Int) < (ls.length : Int) := by omega
              have hmk' : (m : Int) < (k : Int) := by omega
              by_cases hxy : x.c = y.c
              · have hd : (x.c == y.c) = true := by simp [hxy]
                have HV0 : Hid (V = false) := by show _ = _; rw [← HF.out, HFD.out, plOk_twice (by rw [HY.out]; exact HM1.out hxy)]; rfl
                clear hxy HM1 HM2
                go_wp2
                refine wp_region_held (S := S) (by kernel_rfl) (by kernel_rfl) hS0 ?_
                repeat (go_big_quiet_step (fail))
                refine wpQuiet_nil ?_
                rintro _ ⟨sw, rfl⟩
                have hB := HK.out.2 _ sw.ok
                clear HK c1 d1
                go_wp2
                go_ret
                exact ⟨by rw [HV0.out]; rfl, hB⟩
              · have hd : (x.c == y.c) = false := by simp [hxy]
                have HC2 : Hid (cidIn ls y.c (m + 1) = false) := by show _ = _; rw [HM2.out, HCM.out, decide_eq_false hxy]; rfl
                clear hxy HM1 HM2 HCM
                go_wp2
                refine wp_region_held (S := S) (by kernel_rfl) (by kernel_rfl) hS0 ?_
                repeat (go_big_quiet_step (fail))
                refine wpQuiet_nil ?_
                rintro _ ⟨sw, rfl⟩
                have hB := HK.out.2 _ sw.ok
                clear HK c1 d1
                go_wp2
                go_roundw
                case rel => exact ⟨m + 1, by omega, by go_num, HC2, hB⟩
                case measure => simp [intOf]; omega
            · obtain rfl : m = k := by omega
              have HN : Hid (poolFrom ls (ls.length - (m + 1)) (m + 1) = V) := by show _ = _; rw [← HF.out, HFD.out, plOk_yes (by rw [HY.out]; exact HI0.out) (.inl HK0.out) (by rw [HY.out]; exact HCM.out)]; rfl
              clear HCM
              go_wp2
              go_roundw
              case rel => exact ⟨m + 1, by omega, by go_num, HN, hb2⟩
              case measure => simp [intOf]; omega
        · obtain ⟨j, hj⟩ : ∃ j, k = j + 1 := ⟨k - 1, by omega⟩
          have hg : decide (0 < k) = true := decide_eq_true hk0
          have hj0 : (0 : Int) ≤ (j : Int) := by omega
          have hj1 : (j : Int) < (ls.length : Int) := by omega
          have hjk : (k : Int) - 1 = (j : Int) := by omega
          have HJK : Hid (k - 1 = j) := by show _ = _; omega
          have C2 := fun s : Hw S => HR.out.at (HK.out.2 _ s.ok) (i := j) (by omega)
          have HKN : Hid (k ≠ 0) := by show _ ≠ _; omega
          obtain ⟨z, HZ⟩ : ∃ z, Hid (ls.getD j Ls.zero = z) := ⟨_, rfl⟩
          rw [HZ.out] at C2
          have d0 := fun s : Hw S => (C2 s).2.1
          clear C2 hj hk0
          by_cases hzy : z.p < y.p
          · have HZY : Hid ((ls.getD (k - 1) Ls.zero).p < (ls.getD k Ls.zero).p) := by show _ < _; rw [HJK.out, HZ.out, HY.out]; exact hzy
            have hzy' : decide (y.p ≤ z.p) = false := decide_eq_false (by omega)
            clear hzy
            go_wp2
            refine wp_region_held (S := S) (by kernel_rfl) (by kernel_rfl) hS0 ?_
            repeat (go_big_quiet_step ((go_at_call 83; exact Calls.held (HI _) (HK.out.1 _))))
            refine wpQuiet_nil ?_
            rintro _ ⟨sw, rfl⟩
            have hB := HK.out.2 _ sw.ok
            clear HK c0 c1 d0
            go_wp2
            go_loopw [4] (fun i2 w2 => ∃ m : Nat, m ≤ k ∧ i2 = .int .i64 (m : Int) ∧ Hid (cidIn ls y.c m = false) ∧ Below w.heap.size w w2) (fun i2 _ => k - (intOf i2).toNat)
            case atStart => exact ⟨0, Nat.zero_le _, rfl, rfl, hB⟩
            case round =>
              obtain ⟨m, hm, rfl, HCM, hb2⟩ := hrel
              by_cases hmk : m < k
              · obtain ⟨S, hS0, hNE, HK⟩ := below_classB hb2 (Nat.le_refl _)
                have C1 := fun s : Hw S => HR.out.at (HK.out.2 _ s.ok) (i := k) hlt
                have C2 := fun s : Hw S => HR.out.at (HK.out.2 _ s.ok) (i := m) (by omega)
                rw [HY.out] at C1
                have HM1 : Hid ((ls.getD m Ls.zero).c = y.c → cidIn ls y.c k = true) := fun e => cidIn_hit hmk e
                have HM2 : Hid (cidIn ls y.c (m + 1) = (cidIn ls y.c m || decide ((ls.getD m Ls.zero).c = y.c))) := rfl
                generalize ls.getD m Ls.zero = x at C2 HM1 HM2
                have c1 := fun s : Hw S => (C1 s).2.2
                have d1 := fun s : Hw S => (C2 s).2.2
                clear C1 C2
                have hm0 : (0 : Int) ≤ (m : Int) := by omega
                have hm1 : (m : Int) < (ls.length : Int) := by omega
                have hmk' : (m : Int) < (k : Int) := by omega
                by_cases hxy : x.c = y.c
                · have hd : (x.c == y.c) = true := by simp [hxy]
                  have HV0 : Hid (V = false) := by show _ = _; rw [← HF.out, HFD.out, plOk_twice (by rw [HY.out]; exact HM1.out hxy)]; rfl
                  clear hxy HM1 HM2
                  go_wp2
                  refine wp_region_held (S := S) (by kernel_rfl) (by kernel_rfl) hS0 ?_
                  repeat (go_big_quiet_step (fail))
                  refine wpQuiet_nil ?_
                  rintro _ ⟨sw, rfl⟩
                  have hB := HK.out.2 _ sw.ok
                  clear HK c1 d1
                  go_wp2
                  go_ret
                  exact ⟨by rw [HV0.out]; rfl, hB⟩
                · have hd : (x.c == y.c) = false := by simp [hxy]
                  have HC2 : Hid (cidIn ls y.c (m + 1) = false) := by show _ = _; rw [HM2.out, HCM.out, decide_eq_false hxy]; rfl
                  clear hxy HM1 HM2 HCM
                  go_wp2
                  refine wp_region_held (S := S) (by kernel_rfl) (by kernel_rfl) hS0 ?_
                  repeat (go_big_quiet_step (fail))
                  refine wpQuiet_nil ?_
                  rintro _ ⟨sw, rfl⟩
                  have hB := HK.out.2 _ sw.ok
                  clear HK c1 d1
                  go_wp2
                  go_roundw
                  case rel => exact ⟨m + 1, by omega, by go_num, HC2, hB⟩
                  case measure => simp [intOf]; omega
              · obtain rfl : m = k := by omega
                have HN : Hid (poolFrom ls (ls.length - (m + 1)) (m + 1) = V) := by show _ = _; rw [← HF.out, HFD.out, plOk_yes (by rw [HY.out]; exact HI0.out) (.inr HZY.out) (by rw [HY.out]; exact HCM.out)]; rfl
                clear HCM
                go_wp2
                go_roundw
                case rel => exact ⟨m + 1, by omega, by go_num, HN, hb2⟩
                case measure => simp [intOf]; omega
          · have HZY : Hid ((ls.getD k Ls.zero).p ≤ (ls.getD (k - 1) Ls.zero).p) := by show _ ≤ _; rw [HJK.out, HZ.out, HY.out]; omega
            have hzy' : decide (y.p ≤ z.p) = true := decide_eq_true (by omega)
            clear hzy
            go_wp2
            refine wp_region_held (S := S) (by kernel_rfl) (by kernel_rfl) hS0 ?_
            repeat (go_big_quiet_step ((go_at_call 83; exact Calls.held (HI _) (HK.out.1 _))))
            refine wpQuiet_nil ?_
            rintro _ ⟨sw, rfl⟩
            have hB := HK.out.2 _ sw.ok
            have HV0 : Hid (V = false) := by show _ = _; rw [← HF.out, HFD.out, plOk_low HKN.out HZY.out]; rfl
            clear HK c0 c1
            go_wp2
            go_ret
            exact ⟨by rw [HV0.out]; rfl, hB⟩
    · obtain rfl : k = ls.length := by omega
      have HE : Hid (V = true) := by show _ = _; rw [← HF.out, Nat.sub_self]; rfl
      clear HF
      by_cases h3 : ls.length ≤ 3
      · have h3' : (ls.length : Int) ≤ 3 := by omega
        have HQ : Hid ((V && decide (ls.length ≤ 3)) = true) := by show _ = _; rw [HE.out, decide_eq_true h3]; rfl
        clear h3
        go_wp2
        go_ret
        exact ⟨by rw [HQ.out]; rfl, hbel⟩
      · have h3' : ¬ (ls.length : Int) ≤ 3 := by omega
        have HQ : Hid ((V && decide (ls.length ≤ 3)) = false) := by show _ = _; rw [HE.out, decide_eq_false h3]; rfl
        clear h3
        go_wp2
        go_ret
        exact ⟨by rw [HQ.out]; rfl, hbel⟩
end Go.Proofs.Ytclnhjkmhemebaa
