/- The contracts of the two readers of a number's bytes (chapter 1). -/
import Derived.Test.YtffnadnndmmliaaProg
import Derived.Test.YtffnadnndmmliaaPlain
import Derived.Test.YtffnadnndmmliaaVarW
import Derived.WalkKit
import Derived.WalkLawsBesides
import Derived.WalkSpells
import Derived.Deep.DeepMust
import Derived.Deep.DeepFit
import Derived.Deep.QuietTactic
import Derived.BigQuiet
import Derived.Deep.RegionHeld3
import Derived.Deep.DrawnRows
import Derived.Test.YtffnadnndmmliaaPlainTerm
import Derived.Test.YtffnadnndmmliaaPlainText
namespace Go.Proofs.Ytffnadnndmmliaa
open Go.RowKit Go.PlainAid
attribute [local go_sem ↓] Go.wp_at_zero Go.wp_at_succ

/-- What ReadVar hands back. -/
def rvVal : Option (Int × Nat) → Value
  | none => .tuple #[.int .i64 0, .int .i64 0, .bool false]
  | some (n, k) => .tuple #[.int .i64 n, .int .i64 k, .bool true]

theorem implRead_no (s : ByteArray) (a : Int) (w : World) (hs : s.size ≤ 1048576) (h : a < 0 ∨ (s.size : Int) < a) :
    Calls Try.prog 182 #[.string s, .int .i64 a] w fun e w' => e = .returned (rvVal none) ∧ w = w' := by
  rcases h with h | h
  · go_enter Try.func182, Try.ntmps182
    go_wp2
    go_ret3
    exact ⟨rfl, rfl⟩
  · have h' : ¬ a < 0 := by omega
    go_enter Try.func182, Try.ntmps182
    go_wp2
    go_ret3
    exact ⟨rfl, rfl⟩

theorem specRead_no (s : ByteArray) (a : Int) (w : World) (hs : s.size ≤ 1048576) (h : a < 0 ∨ (s.size : Int) < a) :
    Calls Try.prog 147 #[.string s, .int .i64 a] w fun e w' => e = .returned (rvVal none) ∧ w = w' := by
  rcases h with h | h
  · go_enter Try.func147, Try.ntmps147
    go_wp2
    go_ret3
    exact ⟨rfl, rfl⟩
  · have h' : 0 ≤ a := by omega
    have hd : decide (a ≤ (s.size : Int)) = false := by simp; omega
    go_enter Try.func147, Try.ntmps147
    go_wp2
    go_ret3
    exact ⟨rfl, rfl⟩

theorem endOf_no (n next : Int) (l : Bool) (w : World) (h : l = true ∨ 1000000000 < n) :
    Calls Try.prog 194 #[.int .i64 n, .int .i64 next, .bool l] w fun e w' => e = .returned (.tuple #[.int .i64 0, .int .i64 0, .bool false]) ∧ w = w' := by
  cases l with
  | true =>
    go_enter Try.func194, Try.ntmps194
    go_wp2
    go_ret3
    exact ⟨rfl, rfl⟩
  | false =>
    have h' : 1000000000 < n := by simpa using h
    clear h
    go_enter Try.func194, Try.ntmps194
    go_wp2
    go_ret3
    exact ⟨rfl, rfl⟩
theorem endOf_yes (n next : Int) (l : Bool) (w : World) (hl : l = false) (h : n ≤ 1000000000) :
    Calls Try.prog 194 #[.int .i64 n, .int .i64 next, .bool l] w fun e w' => e = .returned (.tuple #[.int .i64 n, .int .i64 next, .bool true]) ∧ w = w' := by
  have h' : ¬ 1000000000 < n := by omega
  subst hl
  go_enter Try.func194, Try.ntmps194
  go_wp2
  go_ret3
  exact ⟨rfl, rfl⟩

set_option maxHeartbeats 800000 in
set_option maxRecDepth 20000 in
theorem implRead_yes (s : ByteArray) (a : Nat) (w : World) (hs : s.size ≤ 1048576) (h : a ≤ s.size) :
    Calls Try.prog 182 #[.string s, .int .i64 a] w fun e w' => e = .returned (rvVal (rvOut s a)) ∧ w = w' := by
  have h0 : ¬ (a : Int) < 0 := by omega
  have h1 : ¬ (s.size : Int) < (a : Int) := by omega
  go_enter Try.func182, Try.ntmps182
  go_wp2
  clear h0 h1
  go_loop [7, 8, 9] (fun n p i => ∃ (k : Nat) (acc : Int), k ≤ 5 ∧ a + k ≤ s.size ∧ n = .int .i64 acc ∧ p = .int .i64 (pw k) ∧ i = .int .i64 ((a + k : Nat) : Int) ∧ 0 ≤ acc ∧ acc < pw k ∧ rvOut s a = rvGo s a (5 - k) k acc)
    (fun _ _ i => s.size - (intOf i).toNat)
  case atStart => exact ⟨0, 0, by omega, by omega, rfl, rfl, rfl, by omega, by decide, rfl⟩
  case round =>
    obtain ⟨k, acc, hk, hak, rfl, rfl, rfl, hacc0, hacc1, hrv⟩ := hrel
    have HR : Hid (rvOut s a = rvGo s a (5 - k) k acc) := hrv
    clear hrv
    have hg := get_bt s
    by_cases hlt : a + k < s.size
    · have hb0 := bt_nonneg s (a + k)
      have hb1 := bt_le s (a + k)
      by_cases hk5 : k < 5
      · have hp := pw_lt hk5
        have hm := mul_bd (x := bt s (a + k) % 128) (p := pw k) (by omega) (by omega) (by omega)
        by_cases hb128 : bt s (a + k) < 128
        · by_cases hbad : (bt s (a + k) = 0 ∧ 0 < k) ∨ 1000000000 < acc + bt s (a + k) % 128 * pw k
          · have hv : Hid (rvOut s a = none) := HR.out.trans (rv_bad hk5 hlt hb128 hbad)
            clear HR
            by_cases hz : bt s (a + k) = 0
            · have hk0 : 0 < k := by rw [hz] at hbad; simp at hbad; omega
              go_wp2_with fail
              refine (endOf_no _ _ _ _ (Or.inl (by simp; omega))).mono ?_
              rintro e w' ⟨rfl, rfl⟩
              go_wp2
              go_ret3
              exact ⟨by rw [hv.out]; rfl, rfl⟩
            · have hz' : (bt s (a + k) == 0) = false := by simpa using hz
              have hbig : 1000000000 < acc + bt s (a + k) % 128 * pw k := by omega
              go_wp2_with fail
              refine (endOf_no _ _ _ _ (Or.inr hbig)).mono ?_
              rintro e w' ⟨rfl, rfl⟩
              go_wp2
              go_ret3
              exact ⟨by rw [hv.out]; rfl, rfl⟩
          · have hv : Hid (rvOut s a = _) := HR.out.trans (rv_good hk5 hlt hb128 hbad)
            clear HR
            by_cases hz : bt s (a + k) = 0
            · have hk0 : k < 1 := by omega
              have hx : Hid (acc + bt s (a + k) % 128 * pw k = acc) := by rw [hz]; simp [Hid]
              have hle : acc ≤ 1000000000 := by omega
              go_wp2_with fail
              refine (endOf_yes _ _ _ _ (by simp; omega) hle).mono ?_
              rintro e w' ⟨rfl, rfl⟩
              go_wp2
              go_ret3
              exact ⟨by rw [hv.out, hx.out]; rfl, rfl⟩
            · have hz' : (bt s (a + k) == 0) = false := by simpa using hz
              have hbig : acc + bt s (a + k) % 128 * pw k ≤ 1000000000 := by omega
              go_wp2_with fail
              refine (endOf_yes _ _ _ _ rfl hbig).mono ?_
              rintro e w' ⟨rfl, rfl⟩
              go_wp2
              go_ret3
              exact ⟨by rw [hv.out]; rfl, rfl⟩
        · have hv : Hid (rvOut s a = _) := HR.out.trans (rv_more hk5 hlt (by omega))
          have hps := pw_succ k
          have hP : Hid (pw (k + 1) = pw k * 128) := hps
          clear HR hps
          go_wp2
          go_round
          case rel => exact ⟨k + 1, acc + bt s (a + k) % 128 * pw k, by omega, by omega, rfl, by rw [hP.out], by go_num, by omega, by rw [hP.out]; omega, hv.out⟩
          case measure => simp [intOf]; omega
      · have hv : Hid (rvOut s a = none) := HR.out.trans (rv_out (by omega))
        obtain rfl : k = 5 := by omega
        have hp := pw_five
        have hpg : 1000000000 < pw 5 := by omega
        clear HR hp
        go_wp2
        go_ret3
        exact ⟨by rw [hv.out]; rfl, rfl⟩
    · have hv : Hid (rvOut s a = none) := HR.out.trans (rv_end (by omega))
      clear HR
      go_wp2
      go_ret3
      exact ⟨by rw [hv.out]; rfl, rfl⟩

theorem l01Var_int (x : Int) (w : World) (h0 : 0 ≤ x) (h1 : x ≤ 9223372036854775807) :
    Calls Try.prog 160 #[.int .i64 x] w fun e w' => e = .returned (.string (strOfNums (vb x.toNat))) ∧ Below w.heap.size w w' := by
  have := l01Var_any x.toNat w (by omega)
  rwa [show ((x.toNat : Nat) : Int) = x by omega] at this

set_option maxHeartbeats 800000 in
set_option maxRecDepth 20000 in
theorem specRead_yes (s : ByteArray) (a : Nat) (w : World) (hs : s.size ≤ 1048576) (h : a ≤ s.size) :
    Calls Try.prog 147 #[.string s, .int .i64 a] w fun e w' => e = .returned (rvVal (rvOut s a)) ∧ Below w.heap.size w w' := by
  have h0 : (0 : Int) ≤ (a : Int) := by omega
  have h1 : (a : Int) ≤ (s.size : Int) := by omega
  go_enter Try.func147, Try.ntmps147
  go_wp2_with (go_at_call 99; refine (l01In_yes _ _ _ _ h0 h1).mono ?_; rintro e w' ⟨rfl, rfl⟩)
  clear h0 h1
  go_loop [7, 8, 9] (fun n p i => ∃ (k : Nat) (acc : Int), k ≤ 5 ∧ a + k ≤ s.size ∧ n = .int .i64 acc ∧ p = .int .i64 (pw k) ∧ i = .int .i64 ((a + k : Nat) : Int) ∧ 0 ≤ acc ∧ acc < pw k ∧ rvOut s a = rvGo s a (5 - k) k acc ∧ acc = val (nums (tk s a k)) ∧ ∀ x ∈ nums (tk s a k), 128 ≤ x ∧ x ≤ 255)
    (fun _ _ i => s.size - (intOf i).toNat)
  case atStart => exact ⟨0, 0, by omega, by omega, rfl, rfl, rfl, by omega, by decide, rfl, rfl, by simp [tk, nums]⟩
  case round =>
    obtain ⟨k, acc, hk, hak, rfl, rfl, rfl, hacc0, hacc1, hrv, hval, hall⟩ := hrel
    have HR : Hid (rvOut s a = rvGo s a (5 - k) k acc) := hrv
    have HV : Hid (acc = val (nums (tk s a k))) := hval
    have HA : Hid (∀ x ∈ nums (tk s a k), 128 ≤ x ∧ x ≤ 255) := hall
    clear hrv hval hall
    have hg := get_bt s
    by_cases hlt : a + k < s.size
    · have hb0 := bt_nonneg s (a + k)
      have hb1 := bt_le s (a + k)
      by_cases hk5 : k < 5
      · have hp := pw_lt hk5
        have hm := mul_bd (x := bt s (a + k) % 128) (p := pw k) (by omega) (by omega) (by omega)
        by_cases hb128 : bt s (a + k) < 128
        · by_cases hbig : 1000000000 < acc + bt s (a + k) % 128 * pw k
          · have hv : Hid (rvOut s a = none) := HR.out.trans (rv_bad hk5 hlt hb128 (Or.inr hbig))
            clear HR HV HA
            go_wp2
            go_quiet (fail)
            go_wp2
            go_ret3
            exact ⟨by rw [hv.out]; rfl, below_drewN (Below.refl _ _) _⟩
          · have hd : decide (1000000000 < acc + bt s (a + k) % 128 * pw k) = false := by simpa using hbig
            have hle : acc + bt s (a + k) % 128 * pw k ≤ 1000000000 := by omega
            go_wp2
            have hx0 : 0 ≤ acc + bt s (a + k) % 128 * pw k := by omega
            have hx1 : acc + bt s (a + k) % 128 * pw k ≤ 9223372036854775807 := by omega
            have hsl : ∀ wx, (Instr.slice 9 (.string s) (some (.int .i64 (a : Int))) (some (.int .i64 ((a : Int) + (k : Int) + 1))) none).run Try.prog wx = .ok (.string (s.extract a (a + k + 1))) wx := by
              intro wx
              rw [run_slice_string wx 9 s .i64 .i64 (a : Int) ((a : Int) + (k : Int) + 1) Try.underlying9 (by omega) (by omega) (by omega), show ((a : Int)).toNat = a by omega, show ((a : Int) + (k : Int) + 1).toNat = a + k + 1 by omega]
            have hwr : IntKind.i64.wrap ((a : Int) + (k : Int) + 1) = (a : Int) + (k : Int) + 1 := IntWalk.i64_in _ ⟨by omega, by omega⟩
            go_region_held3 (fun _ => True) (trivial) ((go_at_call 160; refine (l01Var_int _ _ hx0 hx1).mono ?_; rintro e w' ⟨rfl, hb⟩))
            have hsame := same_bytes hlt hb128 HV.out HA.out
            have hB : Below w.heap.size w w' := (Below.refl w.heap.size w).drew.trans hb
            have HS : Hid (((strOfNums (vb (acc + bt s (a + k) % 128 * pw k).toNat)).toList == (s.extract a (a + k + 1)).toList) = decide (¬ (bt s (a + k) = 0 ∧ 0 < k))) := hsame
            clear hsame HV HA hb
            go_wp2
            · have ht : (!((strOfNums (vb (acc + bt s (a + k) % 128 * pw k).toNat)).toList == (s.extract a (a + k + 1)).toList)) = true := by assumption
              rw [HS.out] at ht
              have hv := HR.out.trans (rv_bad hk5 hlt hb128 (Or.inl (by simp at ht; omega)))
              go_ret3
              exact ⟨by rw [hv]; rfl, hB⟩
            · have ht : (!((strOfNums (vb (acc + bt s (a + k) % 128 * pw k).toNat)).toList == (s.extract a (a + k + 1)).toList)) = false := by assumption
              rw [HS.out] at ht
              have ht' : ¬ (bt s (a + k) = 0 ∧ 0 < k) := by simpa using ht
              have hv := HR.out.trans (rv_good hk5 hlt hb128 (by omega))
              go_ret3
              exact ⟨by rw [hv]; rfl, hB⟩
        · have hv : Hid (rvOut s a = _) := HR.out.trans (rv_more hk5 hlt (by omega))
          have hP : Hid (pw (k + 1) = pw k * 128) := pw_succ k
          have hV' : Hid (_ = val (nums (tk s a (k + 1)))) := val_next hlt HV.out
          have hA' : Hid (∀ x ∈ nums (tk s a (k + 1)), 128 ≤ x ∧ x ≤ 255) := all_snoc hlt (by omega) HA.out
          clear HR HV HA
          go_wp2
          go_round
          case rel => exact ⟨k + 1, acc + bt s (a + k) % 128 * pw k, by omega, by omega, rfl, by rw [hP.out], by go_num, by omega, by rw [hP.out]; omega, hv.out, hV'.out, hA'.out⟩
          case measure => simp [intOf]; omega
      · have hv : Hid (rvOut s a = none) := HR.out.trans (rv_out (by omega))
        clear HR HV HA
        have hd : decide ((a : Int) + (k : Int) < (a : Int) + 5) = false := by simp; omega
        go_wp2
        go_ret3
        exact ⟨by rw [hv.out]; rfl, Below.refl _ _⟩
    · have hv : Hid (rvOut s a = none) := HR.out.trans (rv_end (by omega))
      clear HR HV HA
      go_wp2
      go_ret3
      exact ⟨by rw [hv.out]; rfl, Below.refl _ _⟩

/-- ReadVar at whatever place. -/
def RV (s : ByteArray) (a : Int) : Option (Int × Nat) := if 0 ≤ a ∧ a ≤ (s.size : Int) then rvOut s a.toNat else none

theorem implRead (s : ByteArray) (a : Int) (w : World) (hs : s.size ≤ 1048576) :
    Calls Try.prog 182 #[.string s, .int .i64 a] w fun e w' => e = .returned (rvVal (RV s a)) ∧ w = w' := by
  by_cases h : 0 ≤ a ∧ a ≤ (s.size : Int)
  · obtain ⟨n, rfl⟩ : ∃ n : Nat, a = (n : Int) := ⟨a.toNat, by omega⟩
    rw [RV, if_pos h]
    exact implRead_yes s n w hs (by omega)
  · rw [RV, if_neg h]
    exact implRead_no s a w hs (by omega)
theorem specRead (s : ByteArray) (a : Int) (w : World) (hs : s.size ≤ 1048576) :
    Calls Try.prog 147 #[.string s, .int .i64 a] w fun e w' => e = .returned (rvVal (RV s a)) ∧ Below w.heap.size w w' := by
  by_cases h : 0 ≤ a ∧ a ≤ (s.size : Int)
  · obtain ⟨n, rfl⟩ : ∃ n : Nat, a = (n : Int) := ⟨a.toNat, by omega⟩
    rw [RV, if_pos h]
    exact specRead_yes s n w hs (by omega)
  · rw [RV, if_neg h]
    exact (specRead_no s a w hs (by omega)).mono fun e w' ⟨h1, h2⟩ => ⟨h1, h2 ▸ Below.refl _ _⟩

theorem implRead_none (s : ByteArray) (a : Int) (w : World) (hs : s.size ≤ 1048576) (h : RV s a = none) :
    Calls Try.prog 182 #[.string s, .int .i64 a] w fun e w' => e = .returned (.tuple #[.int .i64 0, .int .i64 0, .bool false]) ∧ w = w' := by
  have := implRead s a w hs; rw [h] at this; exact this
theorem implRead_some (s : ByteArray) (a : Int) (w : World) (hs : s.size ≤ 1048576) (n : Int) (k : Nat) (h : RV s a = some (n, k)) :
    Calls Try.prog 182 #[.string s, .int .i64 a] w fun e w' => e = .returned (.tuple #[.int .i64 n, .int .i64 k, .bool true]) ∧ w = w' := by
  have := implRead s a w hs; rw [h] at this; exact this
theorem specRead_none (s : ByteArray) (a : Int) (w : World) (hs : s.size ≤ 1048576) (h : RV s a = none) :
    Calls Try.prog 147 #[.string s, .int .i64 a] w fun e w' => e = .returned (.tuple #[.int .i64 0, .int .i64 0, .bool false]) ∧ Below w.heap.size w w' := by
  have := specRead s a w hs; rw [h] at this; exact this
theorem specRead_some (s : ByteArray) (a : Int) (w : World) (hs : s.size ≤ 1048576) (n : Int) (k : Nat) (h : RV s a = some (n, k)) :
    Calls Try.prog 147 #[.string s, .int .i64 a] w fun e w' => e = .returned (.tuple #[.int .i64 n, .int .i64 k, .bool true]) ∧ Below w.heap.size w w' := by
  have := specRead s a w hs; rw [h] at this; exact this

/-- What is read lies within the limits. -/
theorem rvGo_bd (s : ByteArray) (a : Nat) : ∀ (f k : Nat) (acc : Int) (n : Int) (j : Nat), 0 ≤ acc → rvGo s a f k acc = some (n, j) → 0 ≤ n ∧ n ≤ 1000000000 ∧ j ≤ s.size
  | 0, _, _, _, _, _, h => by simp [rvGo] at h
  | f + 1, k, acc, n, j, h0, h => by
    have hp := pw_pos k
    have hm := mul_bd (x := bt s (a + k) % 128) (p := pw k) (by omega) (by omega) (by omega)
    rw [rvGo] at h
    split at h
    · split at h
      · split at h
        · simp at h
        · simp at h; omega
      · exact rvGo_bd s a f (k + 1) _ n j (by omega) h
    · simp at h
theorem RV_bd {s : ByteArray} {a n : Int} {k : Nat} (h : RV s a = some (n, k)) : 0 ≤ n ∧ n ≤ 1000000000 ∧ k ≤ s.size := by
  unfold RV at h
  split at h
  · exact rvGo_bd s _ 5 0 0 n k (by omega) h
  · simp at h
end Go.Proofs.Ytffnadnndmmliaa

namespace Go.Proofs.Ytffnadnndmmliaa
open Go.RowKit Go.PlainAid
set_option linter.unusedVariables false

/-- The bytes of a number that was read are its own. -/
theorem rvGo_bytes (s : ByteArray) (a : Nat) : ∀ (f k : Nat) (acc : Int) (n : Int) (j : Nat), a + k ≤ s.size → acc = val (nums (tk s a k)) → (∀ x ∈ nums (tk s a k), 128 ≤ x ∧ x ≤ 255) → rvGo s a f k acc = some (n, j) → a ≤ j ∧ j ≤ s.size ∧ nums (tk s a (j - a)) = vb n.toNat
  | 0, _, _, _, _, _, _, _, h => by simp [rvGo] at h
  | f + 1, k, acc, n, j, hk, hacc, hall, h => by
    rw [rvGo] at h
    split at h
    case isFalse => simp at h
    case isTrue hlt =>
      split at h
      case isTrue hb =>
        split at h
        case isTrue => simp at h
        case isFalse hx =>
          simp at h
          obtain ⟨rfl, rfl⟩ := h
          have hl : (nums (tk s a k)).length = k := by unfold nums; rw [List.length_map, tk_len s a k (by omega)]
          have hn : nums (tk s a (k + 1)) = nums (tk s a k) ++ [bt s (a + k)] := by
            rw [tk_succ s a k hlt]; unfold nums; rw [List.map_append, List.map_singleton, get_bt]
          have hc := (canon (nums (tk s a k)) (bt s (a + k)) hall (bt_nonneg _ _) hb).2 (by rw [hl]; exact fun h => hx (.inl h))
          rw [val_snoc, hl, ← hacc, ← hn] at hc
          exact ⟨by omega, by omega, by rw [show a + k + 1 - a = k + 1 by omega]; exact hc.symm⟩
      case isFalse hb =>
        exact rvGo_bytes s a f (k + 1) _ n j (by omega) (val_next hlt hacc) (all_snoc hlt (by omega) hall) h
theorem RV_bytes {s : ByteArray} {a : Nat} {n : Int} {j : Nat} (h : RV s a = some (n, j)) : a ≤ j ∧ j ≤ s.size ∧ nums (tk s a (j - a)) = vb n.toNat := by
  unfold RV at h
  split at h
  · rename_i hr
    exact rvGo_bytes s a 5 0 0 n j (by omega) (by simp [tk, nums, val]) (by simp [tk, nums]) h
  · simp at h
theorem tk_add (s : ByteArray) (a b c : Nat) (h1 : a ≤ b) (h2 : b ≤ c) : tk s a (c - a) = tk s a (b - a) ++ tk s b (c - b) := by
  unfold tk
  rw [show c - a = (b - a) + (c - b) by omega, List.take_add, List.drop_drop, show a + (b - a) = b by omega]
theorem nums_add (s : ByteArray) (a b c : Nat) (h1 : a ≤ b) (h2 : b ≤ c) : nums (tk s a (c - a)) = nums (tk s a (b - a)) ++ nums (tk s b (c - b)) := by
  rw [tk_add s a b c h1 h2]; unfold nums; rw [List.map_append]

/-- Put, where it can be. -/
def putR (ns : List Nd) (x : Nd) (e c : Nat) : Option (List Nd × Nat × Nat × Nat) := if putK ns x < 0 then none else some (putA ns x, (putK ns x).toNat, e, c)
/-- The specification's way: f is how much deeper it may go; what is read, its place, where it ends, how many terms it has. -/
def rdS (s : ByteArray) : Nat → List Nd → Nat → Option (List Nd × Nat × Nat × Nat)
  | 0, _, _ => none
  | f + 1, ns, p =>
    match RV s p with
    | none => none
    | some (kind, q) =>
      if inB kind 1 9 = false then none
      else if kind = 1 then
        match RV s q with
        | none => none
        | some (z, e) => putR ns ⟨1, z, 0, 0⟩ e 1
      else
        match rdS s f ns q with
        | none => none
        | some (ns1, x, m, c1) =>
          if oneK kind = true then putR ns1 ⟨kind, 0, x, 0⟩ m (1 + c1)
          else
            match rdS s f ns1 m with
            | none => none
            | some (ns2, y, e, c2) => putR ns2 ⟨kind, 0, x, y⟩ e (1 + c1 + c2)
/-- nextNumber. -/
def numI (s : ByteArray) (p : Nat) : Int × Nat := match RV s p with | none => (-1, p) | some (n, q) => (n, q)
def putI (ns : List Nd) (x : Nd) (e l : Nat) : List Nd × Int × Nat × Nat := (putA ns x, putK ns x, e, l)
/-- The program's way: l terms are left; f is how often it may go on. -/
def rdI (s : ByteArray) : Nat → List Nd → Nat → Nat → List Nd × Int × Nat × Nat
  | 0, ns, p, l => (ns, -1, p, l)
  | f + 1, ns, p, l =>
    if l = 0 then (ns, -1, p, 0)
    else
      let n := numI s p
      if inB n.1 1 9 = false then putI ns ⟨n.1, 0, 0, 0⟩ n.2 (l - 1)
      else if n.1 = 1 then
        let z := numI s n.2
        putI ns ⟨1, z.1, 0, 0⟩ z.2 (l - 1)
      else
        let r := rdI s f ns n.2 (l - 1)
        if oneK n.1 = true then putI r.1 ⟨n.1, 0, r.2.1, 0⟩ r.2.2.1 r.2.2.2
        else if r.2.1 < 0 then putI r.1 ⟨n.1, 0, r.2.1, 0⟩ r.2.2.1 r.2.2.2
        else
          let r2 := rdI s f r.1 r.2.2.1 r.2.2.2
          putI r2.1 ⟨n.1, 0, r.2.1, r2.2.1⟩ r2.2.2.1 r2.2.2.2
theorem putK_bad {ns : List Nd} {x : Nd} (h : nodeB x ns.length = false) : putK ns x = -1 := by unfold putK; rw [if_neg (by simp [h])]
theorem putK_ge (ns : List Nd) (x : Nd) : putK ns x = -1 ∨ 0 ≤ putK ns x := by
  unfold putK
  split
  · split
    · right; omega
    · rcases findN_range ns x with h | h
      · exact .inl h
      · exact .inr h.1
  · exact .inl rfl
theorem nodeB_noKind {x : Nd} {k : Int} (h : inB x.k 1 9 = false) : nodeB x k = false := by unfold nodeB; rw [if_pos h]
theorem nodeB_neg {z k : Int} (h : z < 0) : nodeB ⟨1, z, 0, 0⟩ k = false := by
  cases hb : nodeB ⟨1, z, 0, 0⟩ k with
  | false => rfl
  | true => rcases nodeB_true hb with h1 | h1 | h1 <;> simp at h1 <;> omega
theorem nodeB_negA {kind a b k : Int} (hk : kind ≠ 1) (h : a < 0) : nodeB ⟨kind, 0, a, b⟩ k = false := by
  cases hb : nodeB ⟨kind, 0, a, b⟩ k with
  | false => rfl
  | true => rcases nodeB_true hb with h1 | h1 | h1 <;> simp at h1 <;> omega
theorem nodeB_negB {kind a b k : Int} (hk : kind ≠ 1) (ho : oneK kind = false) (h : b < 0) : nodeB ⟨kind, 0, a, b⟩ k = false := by
  cases hb : nodeB ⟨kind, 0, a, b⟩ k with
  | false => rfl
  | true =>
    rcases nodeB_true hb with h1 | h1 | h1 <;> simp at h1
    · omega
    · rw [ho] at h1; simp at h1
    · omega
/-- Where the program's way answers, the specification's does, at any depth that is as great. -/
theorem rd_A (s : ByteArray) : ∀ (f F : Nat) (ns : List Nd) (p l : Nat) (ns' : List Nd) (k : Int) (e l' : Nat), l ≤ F → rdI s f ns p l = (ns', k, e, l') → 0 ≤ k → ∃ c, rdS s F ns p = some (ns', k.toNat, e, c) ∧ c + l' = l
  | 0, F, ns, p, l, ns', k, e, l', hF, h, hk => by simp [rdI] at h; omega
  | f + 1, F, ns, p, l, ns', k, e, l', hF, h, hk => by
    rw [rdI] at h
    by_cases hl : l = 0
    · rw [if_pos hl] at h; simp at h; omega
    rw [if_neg hl] at h
    obtain ⟨F, rfl⟩ : ∃ F', F = F' + 1 := ⟨F - 1, by omega⟩
    rw [rdS]
    cases hr : RV s p with
    | none =>
      simp only [numI, hr] at h
      rw [if_pos (by rfl)] at h
      have := putK_bad (ns := ns) (x := ⟨-1, 0, 0, 0⟩) (nodeB_noKind rfl)
      simp [putI] at h
      omega
    | some nq =>
      obtain ⟨kind, q⟩ := nq
      simp only [numI, hr] at h ⊢
      cases hi : inB kind 1 9 with
      | false =>
        rw [if_pos hi] at h
        have := putK_bad (ns := ns) (x := ⟨kind, 0, 0, 0⟩) (nodeB_noKind hi)
        simp [putI] at h
        omega
      | true =>
        rw [if_neg (by simp [hi])] at h
        rw [if_neg (by simp)]
        by_cases h1 : kind = 1
        · rw [if_pos h1] at h ⊢
          cases hz : RV s q with
          | none =>
            simp only [hz] at h
            have := putK_bad (ns := ns) (x := ⟨1, -1, 0, 0⟩) (nodeB_neg (by omega))
            simp [putI] at h
            omega
          | some ze =>
            obtain ⟨z, e2⟩ := ze
            simp only [hz, putI, Prod.mk.injEq] at h ⊢
            obtain ⟨rfl, rfl, rfl, rfl⟩ := h
            unfold putR
            rw [if_neg (by omega)]
            exact ⟨1, rfl, by omega⟩
        · rw [if_neg h1] at h ⊢
          obtain ⟨ns1, x, m, l1, hq⟩ : ∃ ns1 x m l1, rdI s f ns q (l - 1) = (ns1, x, m, l1) := ⟨_, _, _, _, rfl⟩
          rw [hq] at h
          simp only at h
          by_cases hx : x < 0
          · have h5 : putK ns1 ⟨kind, 0, x, 0⟩ = -1 := putK_bad (nodeB_negA h1 hx)
            cases ho : oneK kind <;> simp [ho, hx, putI] at h <;> omega
          · obtain ⟨c1, hs1, hc1⟩ := rd_A s f F ns q (l - 1) ns1 x m l1 (by omega) hq (by omega)
            rw [hs1]
            simp only
            cases ho : oneK kind with
            | true =>
              rw [if_pos ho] at h
              rw [if_pos rfl]
              simp only [putI, Prod.mk.injEq] at h
              obtain ⟨rfl, rfl, rfl, rfl⟩ := h
              unfold putR
              rw [show ((x.toNat : Nat) : Int) = x by omega, if_neg (by omega)]
              exact ⟨1 + c1, rfl, by omega⟩
            | false =>
              rw [if_neg (by simp [ho]), if_neg hx] at h
              rw [if_neg (by simp)]
              obtain ⟨ns2, y, e2, l2, hq2⟩ : ∃ ns2 y e2 l2, rdI s f ns1 m l1 = (ns2, y, e2, l2) := ⟨_, _, _, _, rfl⟩
              rw [hq2] at h
              simp only [putI, Prod.mk.injEq] at h
              obtain ⟨rfl, rfl, rfl, rfl⟩ := h
              by_cases hy : y < 0
              · have h5 : putK ns2 ⟨kind, 0, x, y⟩ = -1 := putK_bad (nodeB_negB h1 ho hy)
                omega
              · obtain ⟨c2, hs2, hc2⟩ := rd_A s f F ns1 m l1 ns2 y e2 l2 (by omega) hq2 (by omega)
                rw [hs2]
                simp only
                unfold putR
                rw [show ((x.toNat : Nat) : Int) = x by omega, show ((y.toNat : Nat) : Int) = y by omega, if_neg (by omega)]
                exact ⟨1 + c1 + c2, rfl, by omega⟩
/-- Where the specification's way answers with as many terms as are left, the program's does. -/
theorem rd_B (s : ByteArray) : ∀ (F f : Nat) (ns : List Nd) (p l : Nat) (ns' : List Nd) (k e c : Nat), rdS s F ns p = some (ns', k, e, c) → c ≤ l → l ≤ f → rdI s f ns p l = (ns', (k : Int), e, l - c) ∧ 1 ≤ c
  | 0, f, ns, p, l, ns', k, e, c, h, hc, hf => by simp [rdS] at h
  | F + 1, f, ns, p, l, ns', k, e, c, h, hc, hf => by
    rw [rdS] at h
    cases hr : RV s p with
    | none => simp [hr] at h
    | some nq =>
      obtain ⟨kind, q⟩ := nq
      simp only [hr] at h
      cases hi : inB kind 1 9 with
      | false => simp [hi] at h
      | true =>
        rw [if_neg (by simp [hi])] at h
        by_cases h1 : kind = 1
        · rw [if_pos h1] at h
          cases hz : RV s q with
          | none => simp [hz] at h
          | some ze =>
            obtain ⟨z, e2⟩ := ze
            simp only [hz, putR] at h
            by_cases hp : putK ns ⟨1, z, 0, 0⟩ < 0
            · simp [hp] at h
            · rw [if_neg hp] at h
              simp at h
              obtain ⟨rfl, rfl, rfl, rfl⟩ := h
              obtain ⟨f, rfl⟩ : ∃ f', f = f' + 1 := ⟨f - 1, by omega⟩
              refine ⟨?_, Nat.le_refl _⟩
              rw [rdI, if_neg (by omega)]
              simp only [numI, hr]
              rw [if_neg (by simp [hi]), if_pos h1]
              simp only [hz, putI]
              rw [show (((putK ns ⟨1, z, 0, 0⟩).toNat : Nat) : Int) = putK ns ⟨1, z, 0, 0⟩ by omega]
        · rw [if_neg h1] at h
          cases hs1 : rdS s F ns q with
          | none => simp [hs1] at h
          | some r1 =>
            obtain ⟨ns1, x, m, c1⟩ := r1
            simp only [hs1] at h
            cases ho : oneK kind with
            | true =>
              rw [if_pos ho] at h
              unfold putR at h
              by_cases hp : putK ns1 ⟨kind, 0, (x : Int), 0⟩ < 0
              · rw [if_pos hp] at h; simp at h
              · rw [if_neg hp] at h
                simp at h
                obtain ⟨rfl, rfl, rfl, rfl⟩ := h
                obtain ⟨f, rfl⟩ : ∃ f', f = f' + 1 := ⟨f - 1, by omega⟩
                obtain ⟨hI, hc1⟩ := rd_B s F f ns q (l - 1) ns1 x m c1 hs1 (by omega) (by omega)
                refine ⟨?_, by omega⟩
                rw [rdI, if_neg (by omega)]
                simp only [numI, hr]
                rw [if_neg (by simp [hi]), if_neg h1, hI]
                simp only
                rw [if_pos ho]
                simp only [putI]
                rw [show (((putK ns1 ⟨kind, 0, (x : Int), 0⟩).toNat : Nat) : Int) = putK ns1 ⟨kind, 0, (x : Int), 0⟩ by omega, show l - 1 - c1 = l - (1 + c1) by omega]
            | false =>
              rw [if_neg (by simp [ho])] at h
              cases hs2 : rdS s F ns1 m with
              | none => simp [hs2] at h
              | some r2 =>
                obtain ⟨ns2, y, e2, c2⟩ := r2
                simp only [hs2] at h
                unfold putR at h
                by_cases hp : putK ns2 ⟨kind, 0, (x : Int), (y : Int)⟩ < 0
                · rw [if_pos hp] at h; simp at h
                · rw [if_neg hp] at h
                  simp at h
                  obtain ⟨rfl, rfl, rfl, rfl⟩ := h
                  obtain ⟨f, rfl⟩ : ∃ f', f = f' + 1 := ⟨f - 1, by omega⟩
                  obtain ⟨hI, hc1⟩ := rd_B s F f ns q (l - 1) ns1 x m c1 hs1 (by omega) (by omega)
                  obtain ⟨hI2, hc2⟩ := rd_B s F f ns1 m (l - 1 - c1) ns2 y e2 c2 hs2 (by omega) (by omega)
                  refine ⟨?_, by omega⟩
                  rw [rdI, if_neg (by omega)]
                  simp only [numI, hr]
                  rw [if_neg (by simp [hi]), if_neg h1, hI]
                  simp only
                  rw [if_neg (by simp [ho]), if_neg (by omega), hI2]
                  simp only [putI]
                  rw [show (((putK ns2 ⟨kind, 0, (x : Int), (y : Int)⟩).toNat : Nat) : Int) = putK ns2 ⟨kind, 0, (x : Int), (y : Int)⟩ by omega, show l - 1 - c1 - c2 = l - (1 + c1 + c2) by omega]
end Go.Proofs.Ytffnadnndmmliaa
