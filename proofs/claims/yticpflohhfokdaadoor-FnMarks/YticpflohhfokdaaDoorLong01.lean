/- A text of one byte, so many times (the specification's l01Long), and bytes 0. -/
import Derived.Test.YticpflohhfokdaaDoorRowC
import Derived.WalkKit
import Derived.WalkLawsBesides
import Derived.WalkSpells
namespace Go.Proofs.YticpflohhfokdaaDoor
open Go.RowKit Go.PlainAid
set_option maxRecDepth 20000
set_option linter.unusedVariables false
def longT (n b : Nat) : ByteArray := strOfNums (bytesV n (fun _ => b))
theorem longT_size (n b : Nat) : (longT n b).size = n := strOf_size _ _
def longTo (b k : Nat) : Nat → Nat := fun i => if i < k then b else 0
theorem longTo_upd (b k : Nat) : upd (longTo b k) k b = longTo b (k + 1) := by
  funext i
  unfold upd longTo
  by_cases h : i = k
  · subst h; rw [if_pos rfl, if_pos (by omega)]
  · rw [if_neg h]
    by_cases h2 : i < k
    · rw [if_pos h2, if_pos (by omega)]
    · rw [if_neg h2, if_neg (by omega)]
set_option maxHeartbeats 1000000 in
theorem long_any (n b : Nat) (w : World) (hn : n ≤ 1048576) (hb : b < 256) :
    Calls Tryd.prog 28 #[.int .i64 (n : Int), .int .u8 (b : Int)] w fun e w' => e = .returned (.string (longT n b)) ∧ Below w.heap.size w w' := by
  have HM := run_mkB w n (by omega)
  have HX : Hid (b < 256) := hb
  go_enter Tryd.func28, Tryd.ntmps28
  go_wp2
  go_loopw [6] (fun i wr => ∃ k : Nat, k ≤ n ∧ i = .int .i64 (k : Int) ∧ Below w.heap.size w wr ∧ RowAt wr w.heap.size 5 .u8 n (longTo b k))
    (fun i _ => n - (intOf i).toNat)
  case atStart => exact ⟨0, Nat.zero_le _, rfl, (Below.refl _ _).alloc (Nat.le_refl _) _, RowAt.ext (heap_alloc_new w _) (fun i _ => by unfold longTo; rw [if_neg (by omega)])⟩
  case round =>
    obtain ⟨k, hk, rfl, hB, hR⟩ := hrel
    by_cases hkc : k < n
    · have hi0 : (0 : Int) ≤ (k : Int) := by omega
      have hlt : (k : Int) < (n : Int) := by omega
      have c1 := hR.cell hkc
      have z1 := hR.froz k
      have HR : Hid (RowAt wr w.heap.size 5 .u8 n (longTo b k)) := hR
      have HB : Hid (Below w.heap.size w wr) := hB
      clear hR hB
      go_wp2
      go_roundw
      case rel => exact ⟨k + 1, by omega, by go_num, HB.out.setCell (Nat.le_refl _) _, by rw [← longTo_upd]; exact HR.out.set hkc _⟩
      case measure => simp [intOf]; omega
    · obtain rfl : k = n := by omega
      have hcv := conv_row (c := k) hR
      go_wp2
      go_ret
      exact ⟨by unfold longT; rw [← bytesV_ext (f := longTo b k) (g := fun _ => b) (fun i hi => by unfold longTo; rw [if_pos hi])]; rfl, hB⟩
end Go.Proofs.YticpflohhfokdaaDoor
