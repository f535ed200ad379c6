/- The program's quarter and turns of chapter 24. -/
import Derived.Test.YtkcbolcodgmpaaaRot32
import Derived.WalkKit
import Derived.WalkLawsBesides
import Derived.WalkSpells
import Derived.BigRegion
import Derived.Deep.RegionHeld3
namespace Go.Proofs.Ytkcbolcodgmpaaa
open Go.RowKit
set_option maxRecDepth 20000
set_option maxHeartbeats 2000000 in
theorem quarter_any (g : Nat) (f : Nat → Nat) (a b c d : Nat) (w : World) (hf : Words f) (hr : RowAt w g ChaT .u32 16 f) (ha : a < 16) (hb : b < 16) (hc : c < 16) (hd : d < 16) :
    Calls Try.prog 62 #[.pointer (some ⟨g, 0, none⟩), .int .i64 (a : Int), .int .i64 (b : Int), .int .i64 (c : Int), .int .i64 (d : Int)] w
      fun e w' => e = .returned (.tuple #[]) ∧ w.grownBy w' (some g) ∧ RowAt w' g ChaT .u32 16 (quarter f a b c d) := by
  have H1 : Hid _ := addTurn_any g f a b d 16 w hf hr ha hb hd (by omega) (by omega)
  have HQ : Hid (quarter f a b c d = addTurn (addTurn (addTurn (addTurn f a b d 16) c d b 12) a b d 8) c d b 7) := rfl
  have W1 := hf.addTurn a b d 16
  generalize addTurn f a b d 16 = f1 at H1 HQ W1
  have W2 := W1.addTurn c d b 12
  have H2 : Hid (∀ w1, RowAt w1 g ChaT .u32 16 f1 → _) := fun w1 h => addTurn_any g f1 c d b 12 w1 W1 h hc hd hb (by omega) (by omega)
  generalize addTurn f1 c d b 12 = f2 at H2 HQ W2
  have W3 := W2.addTurn a b d 8
  have H3 : Hid (∀ w1, RowAt w1 g ChaT .u32 16 f2 → _) := fun w1 h => addTurn_any g f2 a b d 8 w1 W2 h ha hb hd (by omega) (by omega)
  generalize addTurn f2 a b d 8 = f3 at H3 HQ W3
  have H4 : Hid (∀ w1, RowAt w1 g ChaT .u32 16 f3 → _) := fun w1 h => addTurn_any g f3 c d b 7 w1 W3 h hc hd hb (by omega) (by omega)
  clear W1 W2 W3 hf hr ha hb hc hd
  go_enter Try.func62, Try.ntmps62
  go_wp2_with fail
  refine Calls.mono H1.out ?_
  rintro e w1 ⟨rfl, g1, r1⟩
  go_wp2_with fail
  refine Calls.mono (H2.out w1 r1) ?_
  rintro e w2 ⟨rfl, g2, r2⟩
  go_wp2_with fail
  refine Calls.mono (H3.out w2 r2) ?_
  rintro e w3 ⟨rfl, g3, r3⟩
  go_wp2_with fail
  refine Calls.mono (H4.out w3 r3) ?_
  rintro e w4 ⟨rfl, g4, r4⟩
  go_wp2
  go_end0
  exact ⟨rfl, gb_trans (gb_trans (gb_trans g1 g2) g3) g4, by rw [HQ.out]; exact r4⟩
set_option maxHeartbeats 2000000 in
theorem turnDown_any (g : Nat) (f : Nat → Nat) (w : World) (hf : Words f) (hr : RowAt w g ChaT .u32 16 f) :
    Calls Try.prog 52 #[.pointer (some ⟨g, 0, none⟩)] w
      fun e w' => e = .returned (.tuple #[]) ∧ w.grownBy w' (some g) ∧ RowAt w' g ChaT .u32 16 (downs f 4) := by
  go_enter Try.func52, Try.ntmps52
  go_wp2
  go_loopw [3] (fun i wr => ∃ k : Nat, k ≤ 4 ∧ i = .int .i64 (k : Int) ∧ w.grownBy wr (some g) ∧ RowAt wr g ChaT .u32 16 (downs f k))
    (fun i _ => 4 - (intOf i).toNat)
  case atStart => exact ⟨0, Nat.zero_le _, rfl, gb_refl _ _, hr⟩
  case round =>
    obtain ⟨k, hk, rfl, hG, hR⟩ := hrel
    by_cases hk4 : k < 4
    · have hlt : (k : Int) < 4 := by omega
      have H : Hid _ := quarter_any g (downs f k) k (k + 4) (k + 8) (k + 12) wr (hf.downs k) hR (by omega) (by omega) (by omega) (by omega)
      have HN : Hid (downs f (k + 1) = quarter (downs f k) k (k + 4) (k + 8) (k + 12)) := rfl
      have HG : Hid (w.grownBy wr (some g)) := hG
      clear hG hR hr hf
      go_wp2_with fail
      refine Calls.mono (by have h := H.out; push_cast at h; exact h) ?_
      rintro e w1 ⟨rfl, g1, r1⟩
      go_wp2
      go_roundw
      case rel => exact ⟨k + 1, by omega, by go_num, gb_trans HG.out g1, by rw [HN.out]; exact r1⟩
      case measure => simp [intOf]; omega
    · obtain rfl : k = 4 := by omega
      go_wp2
      go_end0
      exact ⟨rfl, hG, hR⟩
set_option maxHeartbeats 2000000 in
theorem turnAslant_any (g : Nat) (f : Nat → Nat) (w : World) (hf : Words f) (hr : RowAt w g ChaT .u32 16 f) :
    Calls Try.prog 53 #[.pointer (some ⟨g, 0, none⟩)] w
      fun e w' => e = .returned (.tuple #[]) ∧ w.grownBy w' (some g) ∧ RowAt w' g ChaT .u32 16 (aslants f 4) := by
  go_enter Try.func53, Try.ntmps53
  go_wp2
  go_loopw [3] (fun i wr => ∃ k : Nat, k ≤ 4 ∧ i = .int .i64 (k : Int) ∧ w.grownBy wr (some g) ∧ RowAt wr g ChaT .u32 16 (aslants f k))
    (fun i _ => 4 - (intOf i).toNat)
  case atStart => exact ⟨0, Nat.zero_le _, rfl, gb_refl _ _, hr⟩
  case round =>
    obtain ⟨k, hk, rfl, hG, hR⟩ := hrel
    by_cases hk4 : k < 4
    · have hlt : (k : Int) < 4 := by omega
      have H : Hid _ := quarter_any g (aslants f k) k (4 + (k + 1) % 4) (8 + (k + 2) % 4) (12 + (k + 3) % 4) wr (hf.aslants k) hR (by omega) (by omega) (by omega) (by omega)
      have HN : Hid (aslants f (k + 1) = quarter (aslants f k) k (4 + (k + 1) % 4) (8 + (k + 2) % 4) (12 + (k + 3) % 4)) := rfl
      have HG : Hid (w.grownBy wr (some g)) := hG
      clear hG hR hr hf
      go_wp2_with fail
      refine Calls.mono (by have h := H.out; push_cast at h; exact h) ?_
      rintro e w1 ⟨rfl, g1, r1⟩
      go_wp2
      go_roundw
      case rel => exact ⟨k + 1, by omega, by go_num, gb_trans HG.out g1, by rw [HN.out]; exact r1⟩
      case measure => simp [intOf]; omega
    · obtain rfl : k = 4 := by omega
      go_wp2
      go_end0
      exact ⟨rfl, hG, hR⟩
end Go.Proofs.Ytkcbolcodgmpaaa
