/- The program's words as a text, the highest byte first (chapter 21). -/
import Derived.Test.YthpkhbcahihbnaaDoorNum24
import Derived.Test.YthpkhbcahihbnaaDoorHigh21
import Derived.Test.YthpkhbcahihbnaaDoorStrC
import Derived.Test.YthpkhbcahihbnaaDoorBldW
import Derived.WalkKit
import Derived.WalkLawsBesides
import Derived.WalkSpells
import Derived.BigRegion
namespace Go.Proofs.YthpkhbcahihbnaaDoor
open Go.RowKit Go.PlainAid
set_option maxRecDepth 20000
set_option linter.unusedVariables false
set_option linter.unusedSimpArgs false
/-- The bytes of the first n words, each with its highest byte first. -/
def heL (f : Nat → Nat) : Nat → List Int
  | 0 => []
  | n + 1 => heL f n ++ bytesV 4 (highB (f n) 4)
theorem heL_len (f : Nat → Nat) : ∀ n, (heL f n).length = 4 * n
  | 0 => rfl
  | n + 1 => by rw [heL, List.length_append, heL_len f n, bytesV_len]; omega
theorem heL_bd (f : Nat → Nat) : ∀ n, ∀ x ∈ heL f n, 0 ≤ x ∧ x ≤ 255
  | 0, x, h => by simp [heL] at h
  | n + 1, x, h => by
    rw [heL, List.mem_append] at h
    rcases h with h | h
    · exact heL_bd f n x h
    · exact bytesV_bd (fun i _ => highB_lt _ _ _) x h
def heT (f : Nat → Nat) (n : Nat) : ByteArray := strOfNums (heL f n)
theorem heT_size (f : Nat → Nat) (n : Nat) : (heT f n).size = 4 * n := by unfold heT; rw [strOfNums_size, heL_len]
set_option maxHeartbeats 1600000 in
theorem textH_any (g cap n : Nat) (f : Nat → Nat) (w : World) (hf : Words f) (hn : n ≤ 16) (hr : RowC w g .u32 n f) :
    Calls Tryd.prog 27 #[.slice (some ⟨g, 0, none⟩) n cap, .func (.func 18) #[] #[]] w fun e w' => e = .returned (.string (heT f n)) ∧ Below w.heap.size w w' := by
  have HR : Hid (RowC w g .u32 n f) := hr
  have HF : Hid (Words f) := hf
  clear hr hf
  go_enter Tryd.func27, Tryd.ntmps27
  go_wp2
  go_loopw [10] (fun i wr => ∃ k : Nat, k ≤ n ∧ i = .int .i64 (k : Int) ∧ Hid (Bd w.heap.size w.heap.size (Lib.byteCells (heT f k).data.toList) wr) ∧ Below w.heap.size w wr)
    (fun i _ => n - (intOf i).toNat)
  case atStart => exact ⟨0, Nat.zero_le _, rfl, Lib.fresh_isBuilder _ _ w, (Below.refl _ _).alloc (Nat.le_refl _) _⟩
  case round =>
    obtain ⟨k, hk, rfl, HB, hB⟩ := hrel
    by_cases hlt : k < n
    · have hi0 : (0 : Int) ≤ (k : Int) := by omega
      have hi1 : (k : Int) < (n : Int) := by omega
      have c1 := (HR.out.below hB HR.out.lt hB.size).c k hlt
      have b1 := HF.out k
      have hw : IntKind.u64.wrap ((f k : Nat) : Int) = ((f k : Nat) : Int) := by rw [IntKind.wrap_u64]; omega
      have H1 : Hid (∀ wz, Calls Tryd.prog 18 #[.int .u64 ((f k : Nat) : Int), .int .i64 4] wz fun e w' => e = .returned (.string (strOfNums (bytesV 4 (highB (f k) 4)))) ∧ Below wz.heap.size wz w') := fun wz => highest_any (f k) 4 wz (by omega) (by omega)
      have HN : Hid (Lib.byteCells (heT f (k + 1)).data.toList = Lib.byteCells (heT f k).data.toList ++ Lib.strCells (strOfNums (bytesV 4 (highB (f k) 4)))) := by
        show _ = _
        unfold heT
        rw [← cells_str _ (heL_bd f (k + 1)), ← cells_str _ (heL_bd f k), strCells_nums (bytesV_bd (fun i _ => highB_lt _ _ _)), heL, List.map_append]
      have HL : Hid ((Lib.byteCells (heT f k).data.toList).length ≤ 64) := by
        show _ ≤ _
        unfold heT
        rw [← cells_str _ (heL_bd f k), List.length_map, heL_len]; omega
      have HZ : Hid ((strOfNums (bytesV 4 (highB (f k) 4))).size = 4) := by show _ = _; rw [strOfNums_size, bytesV_len]
      generalize ((f k : Nat) : Int) = y at c1 hw H1
      generalize strOfNums (bytesV 4 (highB (f k) 4)) = t at H1 HN HZ
      clear b1
      go_wp2_with fail
      refine Calls.mono (H1.out _) ?_
      rintro e w1 ⟨rfl, hb1⟩
      have HB1 : Hid (Bd w.heap.size w.heap.size (Lib.byteCells (heT f k).data.toList) w1) := bd_keep HB.out hb1
      have hB1 : Below w.heap.size w w1 := hB.trans (hb1.mono hB.size)
      clear hb1 HB hB
      go_wp2_with fail
      refine Calls.mono (bdWrite _ _ _ t w1 HB1.out (by have := HL.out; have := HZ.out; omega) hB1.size) ?_
      rintro e w2 ⟨rfl, hb2, hb3⟩
      have HB2 : Hid (Bd w.heap.size w.heap.size (Lib.byteCells (heT f (k + 1)).data.toList) w2) := by show Bd _ _ _ _; rw [HN.out]; exact hb2
      have hB2 : Below w.heap.size w w2 := hB1.trans hb3
      clear hb2 hb3 HB1 hB1
      go_wp2
      go_roundw
      case rel => exact ⟨k + 1, by omega, by go_num, HB2, hB2⟩
      case measure => simp [intOf]; omega
    · obtain rfl : k = n := by omega
      go_wp2_with fail
      refine Calls.mono (bdString _ _ _ _ HB.out hB.size) ?_
      rintro e w1 ⟨rfl, hb1⟩
      rw [str_back]
      go_wp2
      go_ret
      exact ⟨rfl, hB.trans hb1⟩
end Go.Proofs.YthpkhbcahihbnaaDoor
