/- The contracts of the two readers of a number's bytes (chapter 1). -/
import Derived.Test.YthjaeajhldjapaaProg
import Derived.Test.YthjaeajhldjapaaPlain
import Derived.Test.YthjaeajhldjapaaPlainRead
import Derived.Test.YthjaeajhldjapaaVarW
import Derived.WalkKit
import Derived.WalkLawsBesides
import Derived.WalkSpells
import Derived.Deep.DeepMust
import Derived.Deep.DeepFit
import Derived.Deep.QuietTactic
import Derived.BigQuiet
import Derived.Deep.RegionHeld3
import Derived.Deep.DrawnRows
namespace Go.Proofs.Ythjaeajhldjapaa
open Go.RowKit Go.PlainAid
attribute [local go_sem ↓] Go.wp_at_zero Go.wp_at_succ

/-- What ReadVar hands back. -/
def rvVal : Option (Int × Nat) → Value
  | none => .tuple #[.int .i64 0, .int .i64 0, .bool false]
  | some (n, k) => .tuple #[.int .i64 n, .int .i64 k, .bool true]

theorem implRead_no (s : ByteArray) (a : Int) (w : World) (hs : s.size ≤ 1048576) (h : a < 0 ∨ (s.size : Int) < a) :
    Calls Try.prog 26 #[.string s, .int .i64 a] w fun e w' => e = .returned (rvVal none) ∧ w = w' := by
  rcases h with h | h
  · go_enter Try.func26, Try.ntmps26
    go_wp2
    go_ret3
    exact ⟨rfl, rfl⟩
  · have h' : ¬ a < 0 := by omega
    go_enter Try.func26, Try.ntmps26
    go_wp2
    go_ret3
    exact ⟨rfl, rfl⟩

theorem specRead_no (s : ByteArray) (a : Int) (w : World) (hs : s.size ≤ 1048576) (h : a < 0 ∨ (s.size : Int) < a) :
    Calls Try.prog 18 #[.string s, .int .i64 a] w fun e w' => e = .returned (rvVal none) ∧ w = w' := by
  rcases h with h | h
  · go_enter Try.func18, Try.ntmps18
    go_wp2
    go_ret3
    exact ⟨rfl, rfl⟩
  · have h' : 0 ≤ a := by omega
    have hd : decide (a ≤ (s.size : Int)) = false := by simp; omega
    go_enter Try.func18, Try.ntmps18
    go_wp2
    go_ret3
    exact ⟨rfl, rfl⟩

theorem endOf_no (n next : Int) (l : Bool) (w : World) (h : l = true ∨ 1000000000 < n) :
    Calls Try.prog 28 #[.int .i64 n, .int .i64 next, .bool l] w fun e w' => e = .returned (.tuple #[.int .i64 0, .int .i64 0, .bool false]) ∧ w = w' := by
  cases l with
  | true =>
    go_enter Try.func28, Try.ntmps28
    go_wp2
    go_ret3
    exact ⟨rfl, rfl⟩
  | false =>
    have h' : 1000000000 < n := by simpa using h
    clear h
    go_enter Try.func28, Try.ntmps28
    go_wp2
    go_ret3
    exact ⟨rfl, rfl⟩
theorem endOf_yes (n next : Int) (l : Bool) (w : World) (hl : l = false) (h : n ≤ 1000000000) :
    Calls Try.prog 28 #[.int .i64 n, .int .i64 next, .bool l] w fun e w' => e = .returned (.tuple #[.int .i64 n, .int .i64 next, .bool true]) ∧ w = w' := by
  have h' : ¬ 1000000000 < n := by omega
  subst hl
  go_enter Try.func28, Try.ntmps28
  go_wp2
  go_ret3
  exact ⟨rfl, rfl⟩

set_option maxHeartbeats 800000 in
set_option maxRecDepth 20000 in
theorem implRead_yes (s : ByteArray) (a : Nat) (w : World) (hs : s.size ≤ 1048576) (h : a ≤ s.size) :
    Calls Try.prog 26 #[.string s, .int .i64 a] w fun e w' => e = .returned (rvVal (rvOut s a)) ∧ w = w' := by
  have h0 : ¬ (a : Int) < 0 := by omega
  have h1 : ¬ (s.size : Int) < (a : Int) := by omega
  go_enter Try.func26, Try.ntmps26
  go_wp2
  clear h0 h1
  go_loop [7, 8, 9] (fun n p i => ∃ (k : Nat) (acc : Int), k ≤ 5 ∧ a + k ≤ s.size ∧ n = .int .i64 acc ∧ p = .int .i64 (pw k) ∧ i = .int .i64 ((a + k : Nat) : Int) ∧ 0 ≤ acc ∧ acc < pw k ∧ rvOut s a = rvGo s a (5 - k) k acc)
    (fun _ _ i => s.size - (intOf i).toNat)
  case atStart => exact ⟨0, 0, by omega, by omega, rfl, rfl, rfl, by omega, by decide, rfl⟩
  case round =>
    obtain ⟨k, acc, hk, hak, rfl, rfl, rfl, hacc0, hacc1, hrv⟩ := hrel
    have HR : Hid (rvOut s a = rvGo s a (5 - k) k acc) := hrv
    clear hrv
    have hg := get_bt s
    by_cases hlt : a + k < s.size
    · have hb0 := bt_nonneg s (a + k)
      have hb1 := bt_le s (a + k)
      by_cases hk5 : k < 5
      · have hp := pw_lt hk5
        have hm := mul_bd (x := bt s (a + k) % 128) (p := pw k) (by omega) (by omega) (by omega)
        by_cases hb128 : bt s (a + k) < 128
        · by_cases hbad : (bt s (a + k) = 0 ∧ 0 < k) ∨ 1000000000 < acc + bt s (a + k) % 128 * pw k
          · have hv : Hid (rvOut s a = none) := HR.out.trans (rv_bad hk5 hlt hb128 hbad)
            clear HR
            by_cases hz : bt s (a + k) = 0
            · have hk0 : 0 < k := by rw [hz] at hbad; simp at hbad; omega
              go_wp2_with fail
              refine (endOf_no _ _ _ _ (Or.inl (by simp; omega))).mono ?_
              rintro e w' ⟨rfl, rfl⟩
              go_wp2
              go_ret3
              exact ⟨by rw [hv.out]; rfl, rfl⟩
            · have hz' : (bt s (a + k) == 0) = false := by simpa using hz
              have hbig : 1000000000 < acc + bt s (a + k) % 128 * pw k := by omega
              go_wp2_with fail
              refine (endOf_no _ _ _ _ (Or.inr hbig)).mono ?_
              rintro e w' ⟨rfl, rfl⟩
              go_wp2
              go_ret3
              exact ⟨by rw [hv.out]; rfl, rfl⟩
          · have hv : Hid (rvOut s a = _) := HR.out.trans (rv_good hk5 hlt hb128 hbad)
            clear HR
            by_cases hz : bt s (a + k) = 0
            · have hk0 : k < 1 := by omega
              have hx : Hid (acc + bt s (a + k) % 128 * pw k = acc) := by rw [hz]; simp [Hid]
              have hle : acc ≤ 1000000000 := by omega
              go_wp2_with fail
              refine (endOf_yes _ _ _ _ (by simp; omega) hle).mono ?_
              rintro e w' ⟨rfl, rfl⟩
              go_wp2
              go_ret3
              exact ⟨by rw [hv.out, hx.out]; rfl, rfl⟩
            · have hz' : (bt s (a + k) == 0) = false := by simpa using hz
              have hbig : acc + bt s (a + k) % 128 * pw k ≤ 1000000000 := by omega
              go_wp2_with fail
              refine (endOf_yes _ _ _ _ rfl hbig).mono ?_
              rintro e w' ⟨rfl, rfl⟩
              go_wp2
              go_ret3
              exact ⟨by rw [hv.out]; rfl, rfl⟩
        · have hv : Hid (rvOut s a = _) := HR.out.trans (rv_more hk5 hlt (by omega))
          have hps := pw_succ k
          have hP : Hid (pw (k + 1) = pw k * 128) := hps
          clear HR hps
          go_wp2
          go_round
          case rel => exact ⟨k + 1, acc + bt s (a + k) % 128 * pw k, by omega, by omega, rfl, by rw [hP.out], by go_num, by omega, by rw [hP.out]; omega, hv.out⟩
          case measure => simp [intOf]; omega
      · have hv : Hid (rvOut s a = none) := HR.out.trans (rv_out (by omega))
        obtain rfl : k = 5 := by omega
        have hp := pw_five
        have hpg : 1000000000 < pw 5 := by omega
        clear HR hp
        go_wp2
        go_ret3
        exact ⟨by rw [hv.out]; rfl, rfl⟩
    · have hv : Hid (rvOut s a = none) := HR.out.trans (rv_end (by omega))
      clear HR
      go_wp2
      go_ret3
      exact ⟨by rw [hv.out]; rfl, rfl⟩

theorem l01Var_int (x : Int) (w : World) (h0 : 0 ≤ x) (h1 : x ≤ 9223372036854775807) :
    Calls Try.prog 14 #[.int .i64 x] w fun e w' => e = .returned (.string (strOfNums (vb x.toNat))) ∧ Below w.heap.size w w' := by
  have := l01Var_any x.toNat w (by omega)
  rwa [show ((x.toNat : Nat) : Int) = x by omega] at this

set_option maxHeartbeats 800000 in
set_option maxRecDepth 20000 in
theorem specRead_yes (s : ByteArray) (a : Nat) (w : World) (hs : s.size ≤ 1048576) (h : a ≤ s.size) :
    Calls Try.prog 18 #[.string s, .int .i64 a] w fun e w' => e = .returned (rvVal (rvOut s a)) ∧ Below w.heap.size w w' := by
  have h0 : (0 : Int) ≤ (a : Int) := by omega
  have h1 : (a : Int) ≤ (s.size : Int) := by omega
  go_enter Try.func18, Try.ntmps18
  go_wp2_with (go_at_call 20; refine (l01In_yes _ _ _ _ h0 h1).mono ?_; rintro e w' ⟨rfl, rfl⟩)
  clear h0 h1
  go_loop [7, 8, 9] (fun n p i => ∃ (k : Nat) (acc : Int), k ≤ 5 ∧ a + k ≤ s.size ∧ n = .int .i64 acc ∧ p = .int .i64 (pw k) ∧ i = .int .i64 ((a + k : Nat) : Int) ∧ 0 ≤ acc ∧ acc < pw k ∧ rvOut s a = rvGo s a (5 - k) k acc ∧ acc = val (nums (tk s a k)) ∧ ∀ x ∈ nums (tk s a k), 128 ≤ x ∧ x ≤ 255)
    (fun _ _ i => s.size - (intOf i).toNat)
  case atStart => exact ⟨0, 0, by omega, by omega, rfl, rfl, rfl, by omega, by decide, rfl, rfl, by simp [tk, nums]⟩
  case round =>
    obtain ⟨k, acc, hk, hak, rfl, rfl, rfl, hacc0, hacc1, hrv, hval, hall⟩ := hrel
    have HR : Hid (rvOut s a = rvGo s a (5 - k) k acc) := hrv
    have HV : Hid (acc = val (nums (tk s a k))) := hval
    have HA : Hid (∀ x ∈ nums (tk s a k), 128 ≤ x ∧ x ≤ 255) := hall
    clear hrv hval hall
    have hg := get_bt s
    by_cases hlt : a + k < s.size
    · have hb0 := bt_nonneg s (a + k)
      have hb1 := bt_le s (a + k)
      by_cases hk5 : k < 5
      · have hp := pw_lt hk5
        have hm := mul_bd (x := bt s (a + k) % 128) (p := pw k) (by omega) (by omega) (by omega)
        by_cases hb128 : bt s (a + k) < 128
        · by_cases hbig : 1000000000 < acc + bt s (a + k) % 128 * pw k
          · have hv : Hid (rvOut s a = none) := HR.out.trans (rv_bad hk5 hlt hb128 (Or.inr hbig))
            clear HR HV HA
            go_wp2
            go_quiet (fail)
            go_wp2
            go_ret3
            exact ⟨by rw [hv.out]; rfl, below_drewN (Below.refl _ _) _⟩
          · have hd : decide (1000000000 < acc + bt s (a + k) % 128 * pw k) = false := by simpa using hbig
            have hle : acc + bt s (a + k) % 128 * pw k ≤ 1000000000 := by omega
            go_wp2
            have hx0 : 0 ≤ acc + bt s (a + k) % 128 * pw k := by omega
            have hx1 : acc + bt s (a + k) % 128 * pw k ≤ 9223372036854775807 := by omega
            have hsl : ∀ wx, (Instr.slice 9 (.string s) (some (.int .i64 (a : Int))) (some (.int .i64 ((a : Int) + (k : Int) + 1))) none).run Try.prog wx = .ok (.string (s.extract a (a + k + 1))) wx := by
              intro wx
              rw [run_slice_string wx 9 s .i64 .i64 (a : Int) ((a : Int) + (k : Int) + 1) Try.underlying9 (by omega) (by omega) (by omega), show ((a : Int)).toNat = a by omega, show ((a : Int) + (k : Int) + 1).toNat = a + k + 1 by omega]
            have hwr : IntKind.i64.wrap ((a : Int) + (k : Int) + 1) = (a : Int) + (k : Int) + 1 := IntWalk.i64_in _ ⟨by omega, by omega⟩
            go_region_held3 (fun _ => True) (trivial) ((go_at_call 14; refine (l01Var_int _ _ hx0 hx1).mono ?_; rintro e w' ⟨rfl, hb⟩))
            have hsame := same_bytes hlt hb128 HV.out HA.out
            have hB : Below w.heap.size w w' := (Below.refl w.heap.size w).drew.trans hb
            have HS : Hid (((strOfNums (vb (acc + bt s (a + k) % 128 * pw k).toNat)).toList == (s.extract a (a + k + 1)).toList) = decide (¬ (bt s (a + k) = 0 ∧ 0 < k))) := hsame
            clear hsame HV HA hb
            go_wp2
            · have ht : (!((strOfNums (vb (acc + bt s (a + k) % 128 * pw k).toNat)).toList == (s.extract a (a + k + 1)).toList)) = true := by assumption
              rw [HS.out] at ht
              have hv := HR.out.trans (rv_bad hk5 hlt hb128 (Or.inl (by simp at ht; omega)))
              go_ret3
              exact ⟨by rw [hv]; rfl, hB⟩
            · have ht : (!((strOfNums (vb (acc + bt s (a + k) % 128 * pw k).toNat)).toList == (s.extract a (a + k + 1)).toList)) = false := by assumption
              rw [HS.out] at ht
              have ht' : ¬ (bt s (a + k) = 0 ∧ 0 < k) := by simpa using ht
              have hv := HR.out.trans (rv_good hk5 hlt hb128 (by omega))
              go_ret3
              exact ⟨by rw [hv]; rfl, hB⟩
        · have hv : Hid (rvOut s a = _) := HR.out.trans (rv_more hk5 hlt (by omega))
          have hP : Hid (pw (k + 1) = pw k * 128) := pw_succ k
          have hV' : Hid (_ = val (nums (tk s a (k + 1)))) := val_next hlt HV.out
          have hA' : Hid (∀ x ∈ nums (tk s a (k + 1)), 128 ≤ x ∧ x ≤ 255) := all_snoc hlt (by omega) HA.out
          clear HR HV HA
          go_wp2
          go_round
          case rel => exact ⟨k + 1, acc + bt s (a + k) % 128 * pw k, by omega, by omega, rfl, by rw [hP.out], by go_num, by omega, by rw [hP.out]; omega, hv.out, hV'.out, hA'.out⟩
          case measure => simp [intOf]; omega
      · have hv : Hid (rvOut s a = none) := HR.out.trans (rv_out (by omega))
        clear HR HV HA
        have hd : decide ((a : Int) + (k : Int) < (a : Int) + 5) = false := by simp; omega
        go_wp2
        go_ret3
        exact ⟨by rw [hv.out]; rfl, Below.refl _ _⟩
    · have hv : Hid (rvOut s a = none) := HR.out.trans (rv_end (by omega))
      clear HR HV HA
      go_wp2
      go_ret3
      exact ⟨by rw [hv.out]; rfl, Below.refl _ _⟩

/-- ReadVar at whatever place. -/
def RV (s : ByteArray) (a : Int) : Option (Int × Nat) := if 0 ≤ a ∧ a ≤ (s.size : Int) then rvOut s a.toNat else none

theorem implRead (s : ByteArray) (a : Int) (w : World) (hs : s.size ≤ 1048576) :
    Calls Try.prog 26 #[.string s, .int .i64 a] w fun e w' => e = .returned (rvVal (RV s a)) ∧ w = w' := by
  by_cases h : 0 ≤ a ∧ a ≤ (s.size : Int)
  · obtain ⟨n, rfl⟩ : ∃ n : Nat, a = (n : Int) := ⟨a.toNat, by omega⟩
    rw [RV, if_pos h]
    exact implRead_yes s n w hs (by omega)
  · rw [RV, if_neg h]
    exact implRead_no s a w hs (by omega)
theorem specRead (s : ByteArray) (a : Int) (w : World) (hs : s.size ≤ 1048576) :
    Calls Try.prog 18 #[.string s, .int .i64 a] w fun e w' => e = .returned (rvVal (RV s a)) ∧ Below w.heap.size w w' := by
  by_cases h : 0 ≤ a ∧ a ≤ (s.size : Int)
  · obtain ⟨n, rfl⟩ : ∃ n : Nat, a = (n : Int) := ⟨a.toNat, by omega⟩
    rw [RV, if_pos h]
    exact specRead_yes s n w hs (by omega)
  · rw [RV, if_neg h]
    exact (specRead_no s a w hs (by omega)).mono fun e w' ⟨h1, h2⟩ => ⟨h1, h2 ▸ Below.refl _ _⟩

theorem implRead_none (s : ByteArray) (a : Int) (w : World) (hs : s.size ≤ 1048576) (h : RV s a = none) :
    Calls Try.prog 26 #[.string s, .int .i64 a] w fun e w' => e = .returned (.tuple #[.int .i64 0, .int .i64 0, .bool false]) ∧ w = w' := by
  have := implRead s a w hs; rw [h] at this; exact this
theorem implRead_some (s : ByteArray) (a : Int) (w : World) (hs : s.size ≤ 1048576) (n : Int) (k : Nat) (h : RV s a = some (n, k)) :
    Calls Try.prog 26 #[.string s, .int .i64 a] w fun e w' => e = .returned (.tuple #[.int .i64 n, .int .i64 k, .bool true]) ∧ w = w' := by
  have := implRead s a w hs; rw [h] at this; exact this
theorem specRead_none (s : ByteArray) (a : Int) (w : World) (hs : s.size ≤ 1048576) (h : RV s a = none) :
    Calls Try.prog 18 #[.string s, .int .i64 a] w fun e w' => e = .returned (.tuple #[.int .i64 0, .int .i64 0, .bool false]) ∧ Below w.heap.size w w' := by
  have := specRead s a w hs; rw [h] at this; exact this
theorem specRead_some (s : ByteArray) (a : Int) (w : World) (hs : s.size ≤ 1048576) (n : Int) (k : Nat) (h : RV s a = some (n, k)) :
    Calls Try.prog 18 #[.string s, .int .i64 a] w fun e w' => e = .returned (.tuple #[.int .i64 n, .int .i64 k, .bool true]) ∧ Below w.heap.size w w' := by
  have := specRead s a w hs; rw [h] at this; exact this

/-- What is read lies within the limits. -/
theorem rvGo_bd (s : ByteArray) (a : Nat) : ∀ (f k : Nat) (acc : Int) (n : Int) (j : Nat), 0 ≤ acc → rvGo s a f k acc = some (n, j) → 0 ≤ n ∧ n ≤ 1000000000 ∧ j ≤ s.size
  | 0, _, _, _, _, _, h => by simp [rvGo] at h
  | f + 1, k, acc, n, j, h0, h => by
    have hp := pw_pos k
    have hm := mul_bd (x := bt s (a + k) % 128) (p := pw k) (by omega) (by omega) (by omega)
    rw [rvGo] at h
    split at h
    · split at h
      · split at h
        · simp at h
        · simp at h; omega
      · exact rvGo_bd s a f (k + 1) _ n j (by omega) h
    · simp at h
theorem RV_bd {s : ByteArray} {a n : Int} {k : Nat} (h : RV s a = some (n, k)) : 0 ≤ n ∧ n ≤ 1000000000 ∧ k ≤ s.size := by
  unfold RV at h
  split at h
  · exact rvGo_bd s _ 5 0 0 n k (by omega) h
  · simp at h
end Go.Proofs.Ythjaeajhldjapaa
