/- The specification's numbers of a curve (chapter 27): l27Less. -/
import Derived.Test.YtjhglbdknjoeeaaScoP
import Derived.Test.YtjhglbdknjoeeaaRowS
import Derived.Test.YtjhglbdknjoeeaaCar27
import Derived.Test.YtjhglbdknjoeeaaSpc27
import Derived.Laws.OwnMore
import Derived.Laws.MakeOwn
import Derived.Deep.QuietTactic
import Derived.BigQuiet
import Derived.WalkKit
import Derived.WalkLawsBesides
import Derived.WalkSpells
import Derived.BigRegion
import Derived.Laws.ShiftsVar
import Derived.Lib.Strings
import Derived.Below
import Derived.OwnWalk
import Derived.PlainAid
import Derived.Great.Walk
namespace Go.Proofs.Ytjhglbdknjoeeaa
open Go.RowKit Go.PlainAid
set_option maxRecDepth 20000
set_option linter.unusedVariables false
set_option linter.unusedSimpArgs false
theorem and_low (n : Int) (k : Nat) (hk : k < 63) : bits .and .i64 n (2 ^ k - 1 : Nat) = n % ((2 ^ k : Nat) : Int) := by
  have hp : (2 : Nat) ^ k ≤ 2 ^ 62 := Nat.pow_le_pow_right (by omega) (by omega)
  have hp0 : (2 : Nat) ^ k > 0 := Nat.pow_pos (by omega)
  have h1 : (BitVec.ofInt 64 ((2 ^ k - 1 : Nat) : Int)).toNat = 2 ^ k - 1 := by
    rw [BitVec.toNat_ofInt]; omega
  have key : (BitVec.ofInt 64 n &&& BitVec.ofInt 64 ((2 ^ k - 1 : Nat) : Int)).toNat = (n % ((2 ^ 64 : Nat) : Int)).toNat % 2 ^ k := by
    rw [BitVec.toNat_and, BitVec.toNat_ofInt, h1, Nat.and_two_pow_sub_one_eq_mod]
  show IntKind.i64.wrap ((BitVec.ofInt 64 n &&& BitVec.ofInt 64 ((2 ^ k - 1 : Nat) : Int)).toNat : Nat) = _
  rw [key, IntKind.wrap_i64]
  have hd : ((2 ^ k : Nat) : Int) ∣ ((2 ^ 64 : Nat) : Int) := Int.natCast_dvd_natCast.2 (Nat.pow_dvd_pow 2 (by omega))
  have hm : (n % ((2 ^ 64 : Nat) : Int)) % ((2 ^ k : Nat) : Int) = n % ((2 ^ k : Nat) : Int) := Int.emod_emod_of_dvd n hd
  have h0 : 0 ≤ n % ((2 ^ 64 : Nat) : Int) := Int.emod_nonneg _ (by decide)
  have hc : (((n % ((2 ^ 64 : Nat) : Int)).toNat % 2 ^ k : Nat) : Int) = n % ((2 ^ k : Nat) : Int) := by
    rw [Int.natCast_emod, Int.toNat_of_nonneg h0, hm]
  have h2 := Int.emod_lt_of_pos n (show (0 : Int) < ((2 ^ k : Nat) : Int) by omega)
  have h3 := Int.emod_nonneg n (show ((2 ^ k : Nat) : Int) ≠ 0 by omega)
  rw [hc]
  generalize n % ((2 ^ k : Nat) : Int) = r at h2 h3
  generalize (2 : Nat) ^ k = p at hp h2
  omega
theorem and1 (n : Int) : bits .and .i64 n 1 = n % 2 := and_low n 1 (by omega)
theorem and16 (n : Int) : bits .and .i64 n 65535 = n % 65536 := and_low n 16 (by omega)
theorem and15 (n : Int) : bits .and .i64 n 32767 = n % 32768 := and_low n 15 (by omega)
set_option maxHeartbeats 1600000 in
theorem sless_any (a : Option Addr) (ca : Nat) (t : List Int) (w : World) (hl : t.length = 16) (ra : RowI w.heap.size w a t) (bt : within 0 65535 t) :
    Calls Try.prog 74 #[.slice a 16 ca] w fun e w' => ∃ g cap, e = .returned (.tuple #[.slice (some ⟨g, 0, none⟩) 16 cap, .bool (decide (raw t 15 < 0))]) ∧ RowS w.heap.size w' g 16 cap (less t) ∧ Below w.heap.size w w' := by
  obtain ⟨i0, hi, hz0, hz1, hz2⟩ := info_parts infoIntS
  have RA : Hid (RowI w.heap.size w a t) := ra
  obtain ⟨b1, o1, rfl⟩ := ra.addr (show 0 < t.length by omega)
  clear ra
  have HBT : Hid (within 0 65535 t) := bt
  clear bt
  have hb := HBT.out 0 (by omega)
  obtain ⟨x0, hx0⟩ : ∃ x0, t.getD 0 0 = x0 := ⟨_, rfl⟩
  rw [hx0] at hb
  have HX0 : Hid (t.getD 0 0 = x0) := hx0
  clear hx0
  have hw : IntKind.i64.wrap (x0 - 65517) = x0 - 65517 := by rw [w64_wrap]; exact w64_id (by omega) (by omega)
  clear hb
  go_enter Try.func74, Try.ntmps74
  go_wp2_with (at_make; refine wpList_make_full _ rfl _ _ 24 rfl w.heap.size 3 i0 (.int .i64 0) 1 Try.underlying24 hi hz0 hz1 .i64 .i64 _ _ 16 rfl rfl rfl rfl (by rw [hz2]; omega) (by unfold maxLen; omega) (Nat.le_refl _) ?_; intro w2 hown2 hgrow2; have hB2 : Below w.heap.size w w2 := (Below.refl _ _).grown hgrow2 (Nat.le_refl _) (by simp); rw [made_ints] at hown2; have HO : Hid (RowS w.heap.size w2 w.heap.size 16 16 (List.replicate 16 0)) := hown2; have HB : Hid (Below w.heap.size w w2) := hB2; clear hown2 hgrow2 hB2; have c1 := (RA.out.at HB.out (show 0 < t.length by omega)).2; rw [HX0.out] at c1; have c1b := c1; rw [Nat.add_zero] at c1b; have c3 := HO.out.cell (i := 0) (by omega); have z3 := HO.out.froz 0)
  have HO2 : Hid (RowS w.heap.size (w2.setCell ⟨w.heap.size, 0, none⟩ (.int .i64 (x0 - 65517))) w.heap.size 16 16 (lesK t 0)) := by rw [← lesK_start, show raw t 0 = x0 - 65517 from by show t.getD 0 0 - 65517 = _; rw [HX0.out]]; exact HO.out.set 0 _
  have HB2 : Hid (Below w.heap.size w (w2.setCell ⟨w.heap.size, 0, none⟩ (.int .i64 (x0 - 65517)))) := HB.out.setCell (Nat.le_refl _) _
  clear HO HB
  go_loopw [5] (fun i wr => ∃ k : Nat, k ≤ 14 ∧ i = .int .i64 ((k + 1 : Nat) : Int) ∧ Hid (Below w.heap.size w wr) ∧ Hid (RowS w.heap.size wr w.heap.size 16 16 (lesK t k)))
    (fun i _ => 16 - (intOf i).toNat)
  case atStart => exact ⟨0, Nat.zero_le _, rfl, HB2, HO2⟩
  case round =>
    clear HB2 HO2 c1 c1b c3 z3 hw
    obtain ⟨k, hk, rfl, HB, HO⟩ := hrel
    by_cases hlt : k < 14
    · have hi0 : (0 : Int) ≤ ((k + 1 : Nat) : Int) := by omega
      have hi1 : ((k + 1 : Nat) : Int) < 15 := by omega
      have hi2 : ((k + 1 : Nat) : Int) < 16 := by omega
      have hkm : ((k + 1 : Nat) : Int) - 1 = (k : Int) := by omega
      have hwk : IntKind.i64.wrap (((k + 1 : Nat) : Int) - 1) = (k : Int) := by rw [hkm, w64_wrap]; exact w64_id (by omega) (by omega)
      have hk0 : (0 : Int) ≤ (k : Int) := by omega
      have hk2 : (k : Int) < 16 := by omega
      have c1 := (RA.out.at HB.out (show k + 1 < t.length by omega)).2
      have hb := HBT.out (k + 1) (by omega)
      have c2 := HO.out.cell (i := k) (by omega)
      rw [lesK_at t (show k < 16 by omega)] at c2
      have z2 := HO.out.froz k
      have c3 := HO.out.cell (i := k + 1) (by omega)
      have z3 := HO.out.froz (k + 1)
      have hr := raw_bd HBT.out hl k (by omega)
      have hn : raw t (k + 1) = t.getD (k + 1) 0 - 65535 + raw t k / 65536 := by show _ - (if k + 1 = 15 then (32767 : Int) else 65535) + _ = _; rw [if_neg (by omega)]
      have h1 := and1 (raw t k / 65536)
      rw [show raw t k / 65536 % 2 = - (raw t k / 65536) by omega] at h1
      have h16 := and16 (raw t k)
      have hw : IntKind.i64.wrap (t.getD (k + 1) 0 - 65535) = t.getD (k + 1) 0 - 65535 := by rw [w64_wrap]; exact w64_id (by omega) (by omega)
      have hw2 : IntKind.i64.wrap (t.getD (k + 1) 0 - 65535 - (- (raw t k / 65536))) = raw t (k + 1) := by rw [hn, w64_wrap, w64_id (by omega) (by omega)]; omega
      have HS := (HO.out.set (k + 1) (raw t (k + 1))).set k (raw t k % 65536)
      rw [lesK_step t (show k < 15 by omega)] at HS
      have HB2 : Hid (∀ v1 v2, Below w.heap.size w (((wr.setCell ⟨w.heap.size, k + 1, none⟩ v1).drew).setCell ⟨w.heap.size, k, none⟩ v2)) := fun v1 v2 => ((HB.out.setCell (Nat.le_refl _) _).drew).setCell (Nat.le_refl _) _
      have HS2 : Hid (RowS w.heap.size (((wr.setCell ⟨w.heap.size, k + 1, none⟩ (.int .i64 (raw t (k + 1)))).drew).setCell ⟨w.heap.size, k, none⟩ (.int .i64 (raw t k % 65536))) w.heap.size 16 16 (lesK t (k + 1))) := HS
      have hne : ¬ k = k + 1 := by omega
      have hne2 : ¬ k + 1 = k := by omega
      clear HS hn hb hr HO HB hkm
      generalize raw t (k + 1) = r1 at hw2 HS2
      generalize hq : raw t k / 65536 = q at h1 hw2
      generalize hm : raw t k % 65536 = rm at h16 HS2
      generalize raw t k = r0 at c2 hq hm h16
      generalize t.getD (k + 1) 0 = y at c1 hw hw2
      generalize -q = qn at h1 hw2
      clear hm
      go_wp2
      go_region
      all_goals
        go_wp2
        go_roundw
        case rel => exact ⟨k + 1, by omega, by go_num, HB2.out _ _, HS2⟩
        case measure => simp [intOf]; omega
    · obtain rfl : k = 14 := by omega
      have c1 := (RA.out.at HB.out (show 15 < t.length by omega)).2
      have hb := HBT.out 15 (by omega)
      have c2 := HO.out.cell (i := 14) (by omega)
      rw [lesK_at t (show 14 < 16 by omega)] at c2
      have z2 := HO.out.froz 14
      have c3 := HO.out.cell (i := 15) (by omega)
      have z3 := HO.out.froz 15
      have hr := raw_bd HBT.out hl 14 (by omega)
      have hr15 := raw_bd HBT.out hl 15 (by omega)
      have hn : raw t 15 = t.getD 15 0 - 32767 + raw t 14 / 65536 := rfl
      have h1 := and1 (raw t 14 / 65536)
      rw [show raw t 14 / 65536 % 2 = - (raw t 14 / 65536) by omega] at h1
      have h16 := and16 (raw t 14)
      have h15 := and1 (raw t 15 / 65536)
      have hw : IntKind.i64.wrap (t.getD 15 0 - 32767) = t.getD 15 0 - 32767 := by rw [w64_wrap]; exact w64_id (by omega) (by omega)
      have hw2 : IntKind.i64.wrap (t.getD 15 0 - 32767 - (- (raw t 14 / 65536))) = raw t 15 := by rw [hn, w64_wrap, w64_id (by omega) (by omega)]; omega
      have HD : Hid ((raw t 15 / 65536 % 2 == 1) = decide (raw t 15 < 0)) := by show _ = _; rw [Bool.eq_iff_iff, beq_iff_eq, decide_eq_true_iff]; omega
      have HS := (HO.out.set 15 (raw t 15)).set 14 (raw t 14 % 65536)
      rw [lesK_step t (show 14 < 15 by omega)] at HS
      have HB2 : Hid (∀ v1 v2, Below w.heap.size w (((wr.setCell ⟨w.heap.size, 15, none⟩ v1).drew).setCell ⟨w.heap.size, 14, none⟩ v2)) := fun v1 v2 => ((HB.out.setCell (Nat.le_refl _) _).drew).setCell (Nat.le_refl _) _
      have HS2 : Hid (RowS w.heap.size (((wr.setCell ⟨w.heap.size, 15, none⟩ (.int .i64 (raw t 15))).drew).setCell ⟨w.heap.size, 14, none⟩ (.int .i64 (raw t 14 % 65536))) w.heap.size 16 16 (less t)) := HS
      clear HS hn hb hr hr15 HO HB
      obtain ⟨D, hD⟩ : ∃ D, decide (raw t 15 < 0) = D := ⟨_, rfl⟩
      rw [hD] at HD
      have HDD : Hid (decide (raw t 15 < 0) = D) := hD
      clear hD
      generalize hq15 : raw t 15 / 65536 = q15 at h15 HD
      generalize q15 % 2 = b15 at h15 HD
      generalize raw t 15 = r1 at hq15 hw2 HS2
      generalize hq : raw t 14 / 65536 = q at h1 hw2
      generalize hm : raw t 14 % 65536 = rm at h16 HS2
      generalize raw t 14 = r0 at c2 hq hm h16
      generalize t.getD 15 0 = y at c1 hw hw2
      generalize -q = qn at h1 hw2
      clear hm
      go_wp2
      go_region
      all_goals
        go_wp2
        go_ret2
        exact ⟨_, _, by rw [HDD.out, ← HD.out]; rfl, HS2.out, HB2.out _ _⟩
end Go.Proofs.Ytjhglbdknjoeeaa
