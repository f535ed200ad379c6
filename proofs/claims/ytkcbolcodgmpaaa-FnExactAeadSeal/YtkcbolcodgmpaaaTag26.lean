/- What a tag is of (chapter 26): TagInput of both sides. -/
import Derived.Test.YtkcbolcodgmpaaaRowC
import Derived.Test.YtkcbolcodgmpaaaLow24
import Derived.Test.YtkcbolcodgmpaaaRepW
import Derived.Test.YtkcbolcodgmpaaaPlain
import Derived.WalkKit
import Derived.WalkLawsBesides
import Derived.WalkSpells
import Derived.OwnWalk
namespace Go.Proofs.Ytkcbolcodgmpaaa
open Go.RowKit Go.PlainAid
set_option maxRecDepth 20000
set_option linter.unusedVariables false
theorem zero_long (n : Nat) : longT n 0 = zeroT n := by
  apply Go.WideShapes.bytes_inj
  unfold longT zeroT
  rw [strOfNums_data]
  induction n with
  | zero => rfl
  | succ n ih =>
    have h : bytesV (n + 1) (fun _ => 0) = 0 :: bytesV n (fun _ => 0) := by
      unfold bytesV
      rw [List.range_succ_eq_map, List.map_cons, List.map_map]; rfl
    rw [h, List.map_cons, ih]; rfl
theorem zeroT_size (n : Nat) : (zeroT n).size = n := by rw [← zero_long]; exact longT_size n 0
def padN (n : Nat) : Nat := (16 - n % 16) % 16
def padT (t : ByteArray) : ByteArray := t ++ zeroT (padN t.size)
theorem padT_size (t : ByteArray) : (padT t).size ≤ t.size + 15 := by unfold padT; rw [sz_app, zeroT_size]; unfold padN; omega
def eightT (n : Nat) : ByteArray := strOfNums (bytesV 8 (lowB n))
theorem eightT_size (n : Nat) : (eightT n).size = 8 := strOf_size _ _
def tagIn (a b : ByteArray) : ByteArray := padT a ++ padT b ++ eightT a.size ++ eightT b.size
theorem app_assoc3 (a b c d : ByteArray) : a ++ b ++ (c ++ d) = a ++ b ++ c ++ d := by
  apply Go.WideShapes.bytes_inj
  simp only [dat_app, List.append_assoc]
set_option maxHeartbeats 800000 in
theorem specPad_any (t : ByteArray) (w : World) (ht : t.size ≤ 1048576) :
    Calls Try.prog 29 #[.string t] w fun e w' => e = .returned (.string (padT t)) ∧ Below w.heap.size w w' := by
  have H0 := (show Calls Try.prog 48 #[.int .i64 ((padN t.size : Nat) : Int), .int .u8 0] w fun e w' => e = .returned (.string (zeroT (padN t.size))) ∧ Below w.heap.size w w' from by have h := long_any (padN t.size) 0 w (by unfold padN; omega) (by omega); rw [zero_long] at h; exact h)
  have e1 : IntKind.i64.wrap (16 - ((t.size : Nat) : Int) % 16) = 16 - ((t.size : Nat) : Int) % 16 := by rw [IntKind.wrap_i64]; omega
  have e2 : (16 - ((t.size : Nat) : Int) % 16) % 16 = ((padN t.size : Nat) : Int) := by unfold padN; omega
  have HE : Hid (padT t = t ++ zeroT (padN t.size)) := rfl
  have hz : (zeroT (padN t.size)).size < 16 := by rw [zeroT_size]; unfold padN; omega
  have H : Hid _ := H0
  clear H0
  generalize padN t.size = p at H e2 HE hz
  go_enter Try.func29, Try.ntmps29
  go_wp2_with fail
  refine Calls.mono H.out ?_
  rintro e w1 ⟨rfl, hb1⟩
  go_wp2
  go_ret
  exact ⟨by rw [HE.out]; rfl, hb1⟩
set_option maxHeartbeats 800000 in
theorem implPad_any (t : ByteArray) (w : World) (ht : t.size ≤ 1048576) :
    Calls Try.prog 43 #[.string t] w fun e w' => e = .returned (.string (padT t)) ∧ Below w.heap.size w w' := by
  have H0 := rep_zero (padN t.size) w (by unfold padN; omega)
  have e1 : IntKind.i64.wrap (16 - ((t.size : Nat) : Int) % 16) = 16 - ((t.size : Nat) : Int) % 16 := by rw [IntKind.wrap_i64]; omega
  have e2 : (16 - ((t.size : Nat) : Int) % 16) % 16 = ((padN t.size : Nat) : Int) := by unfold padN; omega
  have HE : Hid (padT t = t ++ zeroT (padN t.size)) := rfl
  have hz : (zeroT (padN t.size)).size < 16 := by rw [zeroT_size]; unfold padN; omega
  have H : Hid _ := H0
  clear H0
  generalize padN t.size = p at H e2 HE hz
  go_enter Try.func43, Try.ntmps43
  go_wp2_with fail
  refine Calls.mono H.out ?_
  rintro e w1 ⟨rfl, hb1⟩
  go_wp2
  go_ret
  exact ⟨by rw [HE.out]; rfl, hb1⟩
set_option maxHeartbeats 1600000 in
theorem eight_any (n : Nat) (w : World) (hn : n ≤ 9223372036854775807) :
    Calls Try.prog 30 #[.int .i64 (n : Int)] w fun e w' => e = .returned (.string (eightT n)) ∧ Below w.heap.size w w' := by
  obtain ⟨i0, hi, hz0, hz1, hz2⟩ := info_parts infoU8
  go_enter Try.func30, Try.ntmps30
  go_wp2
  go_loopw [3, 4] (fun v i wr => ∃ k : Nat, k ≤ 8 ∧ i = .int .i64 (k : Int) ∧ wr.ownsRow w.heap.size 5 1 v k ((bytesV k (lowB n)).map (Value.int .u8)) ∧ Below w.heap.size w wr)
    (fun _ i _ => 8 - (intOf i).toNat)
  case atStart => exact ⟨0, Nat.zero_le _, rfl, World.ownsRow_made _ _ _ (Nat.le_refl _) (by decide) rfl, (Below.refl _ _).alloc (Nat.le_refl _) _⟩
  case round =>
    obtain ⟨k, hk, rfl, hown, hbel⟩ := hrel
    have hsz := hbel.size
    by_cases hlt : k < 8
    · have hi1 : (k : Int) < 8 := by omega
      have hi0 : (0 : Int) ≤ (k : Int) := by omega
      have hw : IntKind.i64.wrap (8 * (k : Int)) = 8 * (k : Int) := by rw [IntKind.wrap_i64]; omega
      have hw2 : IntKind.u64.wrap (8 * (k : Int)) = 8 * (k : Int) := by rw [IntKind.wrap_u64]; omega
      have HE : Hid ((n : Int) / 2 ^ (8 * k) % 256 = ((lowB n k : Nat) : Int)) := by show _ = _; unfold lowB; push_cast; rfl
      have HS : Hid (bytesV (k + 1) (lowB n) = bytesV k (lowB n) ++ [((lowB n k : Nat) : Int)]) := bytesV_succ k _
      generalize hY : (n : Int) / 2 ^ (8 * k) % 256 = y at HE
      have HY : Hid _ := hY
      clear hY
      have HOW : Hid _ := hown.alloc (.cells #[.int .u8 y] 5)
      go_wp2_with (at_builtin; rw [HY.out]; refine wpList_append_own _ rfl _ _ 34 rfl w.heap.size 5 i0 (.int .u8 0) 1 1 Try.underlying34 hi hz0 hz1 hz2 rfl (by decide) _ _ _ rfl HOW.out ⟨wr.heap.size, 0, none⟩ 1 1 [.int .u8 y] rfl rfl (cell_one_new _ _ _) (by simp [Value.oneCell']) (by unfold maxLen; omega) (by omega) (by simp; omega) ?_)
      intro v' w1 hown' hgrow _
      have hB := below_app hown hbel hsz hgrow
      have ho : w1.ownsRow w.heap.size 5 1 v' (k + 1) ((bytesV (k + 1) (lowB n)).map (Value.int .u8)) := by rw [HS.out, List.map_append, ← HE.out]; exact hown'
      clear hown' hgrow hown hbel HOW
      go_wp2
      go_roundw
      case rel => exact ⟨k + 1, by omega, by go_num, ho, hB⟩
      case measure => simp [intOf]; omega
    · obtain rfl : k = 8 := by omega
      have hc := conv_own wr 34 9 5 Try.underlying34 Try.underlying5 Try.underlying9 (P := Try.prog) hown
      have HE : Hid (strOfNums (bytesV 8 (lowB n)) = eightT n) := rfl
      go_wp2
      go_ret
      exact ⟨by rw [← HE.out]; rfl, hbel⟩
set_option maxHeartbeats 1600000 in
theorem specTagIn_any (a b : ByteArray) (w : World) (ha : a.size ≤ 1048576) (hb : b.size ≤ 1048576) :
    Calls Try.prog 16 #[.string a, .string b] w fun e w' => e = .returned (.string (tagIn a b)) ∧ Below w.heap.size w w' := by
  have H1 : Hid (∀ wz, Calls Try.prog 29 #[.string a] wz fun e w' => e = .returned (.string (padT a)) ∧ Below wz.heap.size wz w') := fun wz => specPad_any a wz ha
  have H2 : Hid (∀ wz, Calls Try.prog 29 #[.string b] wz fun e w' => e = .returned (.string (padT b)) ∧ Below wz.heap.size wz w') := fun wz => specPad_any b wz hb
  have H3 : Hid (∀ wz, Calls Try.prog 30 #[.int .i64 (a.size : Int)] wz fun e w' => e = .returned (.string (eightT a.size)) ∧ Below wz.heap.size wz w') := fun wz => eight_any a.size wz (by omega)
  have H4 : Hid (∀ wz, Calls Try.prog 30 #[.int .i64 (b.size : Int)] wz fun e w' => e = .returned (.string (eightT b.size)) ∧ Below wz.heap.size wz w') := fun wz => eight_any b.size wz (by omega)
  have HE : Hid (tagIn a b = padT a ++ padT b ++ eightT a.size ++ eightT b.size) := rfl
  have z1 := padT_size a
  have z2 := padT_size b
  have z3 := eightT_size a.size
  have z4 := eightT_size b.size
  generalize padT a = pa at H1 HE z1
  generalize padT b = pb at H2 HE z2
  generalize eightT a.size = ea at H3 HE z3
  generalize eightT b.size = eb at H4 HE z4
  have z5 : (pa ++ pb).size = pa.size + pb.size := sz_app _ _
  have z6 : (pa ++ pb ++ ea).size = pa.size + pb.size + 8 := by rw [sz_app, z5, z3]
  go_enter Try.func16, Try.ntmps16
  go_wp2_with fail
  refine Calls.mono (H1.out _) ?_
  rintro e w1 ⟨rfl, hb1⟩
  go_wp2_with fail
  refine Calls.mono (H2.out _) ?_
  rintro e w2 ⟨rfl, hb2⟩
  go_wp2_with fail
  refine Calls.mono (H3.out _) ?_
  rintro e w3 ⟨rfl, hb3⟩
  go_wp2_with fail
  refine Calls.mono (H4.out _) ?_
  rintro e w4 ⟨rfl, hb4⟩
  have HB : Hid (Below w.heap.size w w4) := ((hb1.trans (hb2.mono hb1.size)).trans (hb3.mono (Nat.le_trans hb1.size hb2.size))).trans (hb4.mono (Nat.le_trans hb1.size (Nat.le_trans hb2.size hb3.size)))
  clear hb1 hb2 hb3 hb4
  go_wp2
  go_ret
  exact ⟨by rw [HE.out]; rfl, HB.out⟩
set_option maxHeartbeats 1600000 in
theorem implTagIn_any (a b : ByteArray) (w : World) (ha : a.size ≤ 1048576) (hb : b.size ≤ 1048576) :
    Calls Try.prog 20 #[.string a, .string b] w fun e w' => e = .returned (.string (tagIn a b)) ∧ Below w.heap.size w w' := by
  have H1 : Hid (∀ wz, Calls Try.prog 43 #[.string a] wz fun e w' => e = .returned (.string (padT a)) ∧ Below wz.heap.size wz w') := fun wz => implPad_any a wz ha
  have H2 : Hid (∀ wz, Calls Try.prog 43 #[.string b] wz fun e w' => e = .returned (.string (padT b)) ∧ Below wz.heap.size wz w') := fun wz => implPad_any b wz hb
  have H3 : Hid (∀ wz, Calls Try.prog 42 #[.int .u64 (a.size : Int), .int .i64 8] wz fun e w' => e = .returned (.string (eightT a.size)) ∧ Below wz.heap.size wz w') := fun wz => lowest_any a.size 8 wz (by omega) (by omega)
  have H4 : Hid (∀ wz, Calls Try.prog 42 #[.int .u64 (b.size : Int), .int .i64 8] wz fun e w' => e = .returned (.string (eightT b.size)) ∧ Below wz.heap.size wz w') := fun wz => lowest_any b.size 8 wz (by omega) (by omega)
  have HE : Hid (tagIn a b = padT a ++ padT b ++ (eightT a.size ++ eightT b.size)) := by show _ = _; rw [app_assoc3]; rfl
  have q1 : IntKind.u64.wrap ((a.size : Nat) : Int) = ((a.size : Nat) : Int) := by rw [IntKind.wrap_u64]; omega
  have q2 : IntKind.u64.wrap ((b.size : Nat) : Int) = ((b.size : Nat) : Int) := by rw [IntKind.wrap_u64]; omega
  have z1 := padT_size a
  have z2 := padT_size b
  have z3 := eightT_size a.size
  have z4 := eightT_size b.size
  generalize padT a = pa at H1 HE z1
  generalize padT b = pb at H2 HE z2
  generalize eightT a.size = ea at H3 HE z3
  generalize eightT b.size = eb at H4 HE z4
  have z5 : (pa ++ pb).size = pa.size + pb.size := sz_app _ _
  have z6 : (ea ++ eb).size = 16 := by rw [sz_app, z3, z4]
  go_enter Try.func20, Try.ntmps20
  go_wp2_with fail
  refine Calls.mono (H3.out _) ?_
  rintro e w1 ⟨rfl, hb1⟩
  go_wp2_with fail
  refine Calls.mono (H4.out _) ?_
  rintro e w2 ⟨rfl, hb2⟩
  go_wp2_with fail
  refine Calls.mono (H1.out _) ?_
  rintro e w3 ⟨rfl, hb3⟩
  go_wp2_with fail
  refine Calls.mono (H2.out _) ?_
  rintro e w4 ⟨rfl, hb4⟩
  have HB : Hid (Below w.heap.size w w4) := ((hb1.trans (hb2.mono hb1.size)).trans (hb3.mono (Nat.le_trans hb1.size hb2.size))).trans (hb4.mono (Nat.le_trans hb1.size (Nat.le_trans hb2.size hb3.size)))
  clear hb1 hb2 hb3 hb4
  go_wp2
  go_ret
  exact ⟨by rw [HE.out]; rfl, HB.out⟩
end Go.Proofs.Ytkcbolcodgmpaaa
