/- The base point and the clamped key (chapter 28): BasePoint, ClampKey of both sides. -/
import Derived.Test.YtjhglbdknjoeeabLow24
import Derived.Test.YtjhglbdknjoeeabLong01
import Derived.Test.YtjhglbdknjoeeabRowC
import Derived.Laws.BitsAllLaws
import Derived.WalkKit
import Derived.WalkLawsBesides
import Derived.WalkSpells
import Derived.BigRegion
namespace Go.Proofs.Ytjhglbdknjoeeab
open Go.RowKit Go.PlainAid
set_option maxRecDepth 20000
set_option linter.unusedVariables false
def baseT : ByteArray := strOfNums (bytesV 32 (lowB 9))
theorem base_long : baseT = ⟨#[9]⟩ ++ longT 31 0 := by
  apply Go.WideShapes.bytes_inj
  unfold baseT longT
  rw [dat_app, strOfNums_data, strOfNums_data]
  rfl
theorem implBase_any (w : World) :
    Calls Try.prog 10 #[] w fun e w' => e = .returned (.string baseT) ∧ Below w.heap.size w w' := by
  have HL : Hid (Calls Try.prog 29 #[.int .u64 9, .int .i64 32] w fun e w' => e = .returned (.string baseT) ∧ Below w.heap.size w w') := lowest_any 9 32 w (by omega) (by omega)
  generalize baseT = T at HL ⊢
  go_enter Try.func10, Try.ntmps10
  go_wp2_with fail
  refine Calls.mono HL.out ?_
  rintro e w1 ⟨rfl, hb1⟩
  go_wp2
  go_ret
  exact ⟨rfl, hb1⟩
theorem specBase_any (w : World) :
    Calls Try.prog 9 #[] w fun e w' => e = .returned (.string baseT) ∧ Below w.heap.size w w' := by
  have HL : Hid (Calls Try.prog 28 #[.int .i64 31, .int .u8 0] w fun e w' => e = .returned (.string (longT 31 0)) ∧ Below w.heap.size w w') := long_any 31 0 w (by omega) (by omega)
  have HE : Hid (baseT = ⟨#[9]⟩ ++ longT 31 0) := base_long
  have hz := longT_size 31 0
  generalize longT 31 0 = T at HL HE hz
  go_enter Try.func9, Try.ntmps9
  go_wp2_with fail
  refine Calls.mono HL.out ?_
  rintro e w1 ⟨rfl, hb1⟩
  go_wp2
  go_ret
  exact ⟨by rw [HE.out]; rfl, hb1⟩
def clF (t : ByteArray) : Nat → Nat := fun i => if i = 0 then btN t 0 - btN t 0 % 8 else if i = 31 then btN t 31 % 64 + 64 else btN t i
def clT (t : ByteArray) : ByteArray := if t.size = 32 then strOfNums (bytesV 32 (clF t)) else ByteArray.empty
theorem cl_upd (t : ByteArray) : upd (upd (btN t) 0 (btN t 0 - btN t 0 % 8)) 31 (btN t 31 % 64 + 64) = clF t := by
  funext i
  unfold upd clF
  by_cases h : i = 31
  · subst h; rw [if_pos rfl, if_neg (by omega), if_pos rfl]
  · rw [if_neg h]
    by_cases h0 : i = 0
    · rw [if_pos h0, if_pos h0]
    · rw [if_neg h0, if_neg h0, if_neg h]
theorem and248 : ∀ x, x < 256 → x &&& 248 = x - x % 8 := by decide
theorem and127 : ∀ x, x < 256 → (x &&& 127) ||| 64 = x % 64 + 64 := by decide
theorem and127lt : ∀ x, x < 256 → x &&& 127 < 256 := by decide
set_option maxHeartbeats 1000000 in
theorem specClamp_any (t : ByteArray) (w : World) (ht : t.size ≤ 1048576) :
    Calls Try.prog 16 #[.string t] w fun e w' => e = .returned (.string (clT t)) ∧ Below w.heap.size w w' := by
  by_cases h32 : t.size = 32
  · have hi : ((t.size : Nat) : Int) = 32 := by omega
    have HE : Hid (clT t = strOfNums (bytesV 32 (clF t))) := if_pos h32
    obtain ⟨cap, w1, hcv, hR1, hB1, hs1⟩ := bytes_mk t w
    rw [h32] at hcv hR1
    have c0 := hR1.c 0 (by omega)
    have z0 := hR1.z 0 (by omega)
    have x0 := btN_lt t 0
    have x31 := btN_lt t 31
    have a0 : bits .and .u8 ((btN t 0 : Nat) : Int) 248 = ((btN t 0 - btN t 0 % 8 : Nat) : Int) := by
      rw [← and248 _ x0]; exact u8_and_nat (btN t 0) 248 x0 (by decide)
    have a1 : bits .and .u8 ((btN t 31 : Nat) : Int) 127 = ((btN t 31 &&& 127 : Nat) : Int) := u8_and_nat (btN t 31) 127 x31 (by decide)
    have a2 : bits .or .u8 ((btN t 31 &&& 127 : Nat) : Int) 64 = ((btN t 31 % 64 + 64 : Nat) : Int) := by
      rw [← and127 _ x31]; exact u8_or_nat (btN t 31 &&& 127) 64 (and127lt _ x31) (by decide)
    have hR2 := hR1.set (show 0 < 32 by omega) (btN t 0 - btN t 0 % 8)
    have c1 := hR2.c 31 (by omega)
    have z1 := hR2.z 31 (by omega)
    rw [show upd (btN t) 0 (btN t 0 - btN t 0 % 8) 31 = btN t 31 from if_neg (by omega)] at c1
    have hR3 := hR2.set (show 31 < 32 by omega) (btN t 31 % 64 + 64)
    rw [cl_upd] at hR3
    have hB2 : Below w.heap.size w (w1.setCell ⟨w.heap.size, 0, none⟩ (.int .u8 ((btN t 0 - btN t 0 % 8 : Nat) : Int))) := hB1.setCell (Nat.le_refl _) _
    have HB3 : Hid (Below w.heap.size w ((w1.setCell ⟨w.heap.size, 0, none⟩ (.int .u8 ((btN t 0 - btN t 0 % 8 : Nat) : Int))).setCell ⟨w.heap.size, 31, none⟩ (.int .u8 ((btN t 31 % 64 + 64 : Nat) : Int)))) := hB2.setCell (Nat.le_refl _) _
    have hcv2 := hR3.conv (c := cap)
    clear hR1 hR2 hR3 hB1 hB2 x0 x31 h32 hs1
    generalize ((btN t 0 - btN t 0 % 8 : Nat) : Int) = v0 at *
    generalize ((btN t 31 % 64 + 64 : Nat) : Int) = v1 at *
    generalize ((btN t 31 &&& 127 : Nat) : Int) = v2 at *
    generalize ((btN t 0 : Nat) : Int) = y0 at *
    generalize ((btN t 31 : Nat) : Int) = y1 at *
    go_enter Try.func16, Try.ntmps16
    go_wp2
    go_ret
    exact ⟨by rw [HE.out]; rfl, HB3.out⟩
  · have hi : ¬ ((t.size : Nat) : Int) = 32 := by omega
    have hq : (((t.size : Nat) : Int) != 32) = true := by simp; omega
    have HE : Hid (clT t = ByteArray.empty) := if_neg h32
    go_enter Try.func16, Try.ntmps16
    go_wp2
    go_ret
    exact ⟨by rw [HE.out]; rfl, Below.refl _ _⟩
set_option maxHeartbeats 1000000 in
theorem implClamp_any (t : ByteArray) (w : World) (ht : t.size ≤ 1048576) :
    Calls Try.prog 25 #[.string t] w fun e w' => e = .returned (.string (clT t)) ∧ Below w.heap.size w w' := by
  by_cases h32 : t.size = 32
  · have hi : ((t.size : Nat) : Int) = 32 := by omega
    have HE : Hid (clT t = strOfNums (bytesV 32 (clF t))) := if_pos h32
    obtain ⟨cap, w1, hcv, hR1, hB1, hs1⟩ := bytes_mk t w
    rw [h32] at hcv hR1
    have c0 := hR1.c 0 (by omega)
    have z0 := hR1.z 0 (by omega)
    have x0 := btN_lt t 0
    have x31 := btN_lt t 31
    have hR2 := (hR1.set (show 0 < 32 by omega) (btN t 0 - btN t 0 % 8)).drew
    have c1 := hR2.c 31 (by omega)
    have z1 := hR2.z 31 (by omega)
    rw [show upd (btN t) 0 (btN t 0 - btN t 0 % 8) 31 = btN t 31 from if_neg (by omega)] at c1
    have hR3 := hR2.set (show 31 < 32 by omega) (btN t 31 % 64 + 64)
    rw [cl_upd] at hR3
    have hB2 : Below w.heap.size w ((w1.setCell ⟨w.heap.size, 0, none⟩ (.int .u8 ((btN t 0 - btN t 0 % 8 : Nat) : Int))).drew) := (hB1.setCell (Nat.le_refl _) _).drew
    have HB3 : Hid (Below w.heap.size w (((w1.setCell ⟨w.heap.size, 0, none⟩ (.int .u8 ((btN t 0 - btN t 0 % 8 : Nat) : Int))).drew).setCell ⟨w.heap.size, 31, none⟩ (.int .u8 ((btN t 31 % 64 + 64 : Nat) : Int)))) := hB2.setCell (Nat.le_refl _) _
    have hcv2 := hR3.conv (c := cap)
    have hcv3 : (convert 53 9 (.slice (some ⟨w.heap.size, 0, none⟩) 32 cap)).run Try.prog (((w1.setCell ⟨w.heap.size, 0, none⟩ (.int .u8 ((btN t 0 - btN t 0 % 8 : Nat) : Int))).setCell ⟨w.heap.size, 31, none⟩ (.int .u8 ((btN t 31 % 64 + 64 : Nat) : Int))).drew) = .ok (.string (strOfNums (bytesV 32 (clF t)))) (((w1.setCell ⟨w.heap.size, 0, none⟩ (.int .u8 ((btN t 0 - btN t 0 % 8 : Nat) : Int))).setCell ⟨w.heap.size, 31, none⟩ (.int .u8 ((btN t 31 % 64 + 64 : Nat) : Int))).drew) := hcv2
    have HV0 : Hid (((btN t 0 - btN t 0 % 8 : Nat) : Int) = ((btN t 0 : Nat) : Int) - ((btN t 0 : Nat) : Int) % 8) := by show _ = _; omega
    have HV1 : Hid (((btN t 31 % 64 + 64 : Nat) : Int) = ((btN t 31 : Nat) : Int) % 64 + 64) := by show _ = _; omega
    clear hR1 hR2 hR3 hB1 hB2 h32 hs1
    generalize ((btN t 0 - btN t 0 % 8 : Nat) : Int) = v0 at *
    generalize ((btN t 31 % 64 + 64 : Nat) : Int) = v1 at *
    generalize btN t 0 = y0 at *
    generalize btN t 31 = y1 at *
    go_enter Try.func25, Try.ntmps25
    go_wp2
    go_region
    all_goals
      rw [← HV0.out]
      go_upto_region 6 with fail
      rw [← HV1.out]
      go_wp2
      go_ret
      exact ⟨by rw [HE.out]; rfl, HB3.out⟩
  · have hi : ¬ ((t.size : Nat) : Int) = 32 := by omega
    have hq : (((t.size : Nat) : Int) != 32) = true := by simp; omega
    have HE : Hid (clT t = ByteArray.empty) := if_neg h32
    go_enter Try.func25, Try.ntmps25
    go_wp2
    go_ret
    exact ⟨by rw [HE.out]; rfl, Below.refl _ _⟩
end Go.Proofs.Ytjhglbdknjoeeab
