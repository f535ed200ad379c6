/- Two texts of 16 bytes as numbers, added; what goes beyond is left out (chapter 25): of the program, of the specification. -/
import Derived.Test.YtopdjfgomclffaaRowC
import Derived.WalkKit
import Derived.WalkLawsBesides
import Derived.WalkSpells
import Derived.WalkSmall
import Derived.BigRegion
import Derived.Laws.Small
import Derived.Below
import Derived.OwnWalk
import Derived.PlainAid
namespace Go.Proofs.Ytopdjfgomclffaa
open Go.RowKit Go.PlainAid
set_option maxRecDepth 20000
set_option linter.unusedVariables false
set_option linter.unusedSimpArgs false
/-- What is carried ahead of byte k. -/
def adC (a b : Nat → Nat) : Nat → Nat
  | 0 => 0
  | k + 1 => (adC a b k + (a k + b k)) / 256
def adF (a b : Nat → Nat) (k : Nat) : Nat := (adC a b k + (a k + b k)) % 256
def adT (a b : ByteArray) : ByteArray := strOfNums (bytesV 16 (adF (btN a) (btN b)))
theorem adC_le {a b : Nat → Nat} (ha : ∀ i, a i < 256) (hb : ∀ i, b i < 256) : ∀ k, adC a b k ≤ 1
  | 0 => Nat.zero_le _
  | k + 1 => by
    have := adC_le ha hb k
    have := ha k
    have := hb k
    show (adC a b k + (a k + b k)) / 256 ≤ 1
    omega
def adTo (f : Nat → Nat) (k : Nat) : Nat → Nat := fun j => if j < k then f j else 0
theorem adTo_next (f : Nat → Nat) (k : Nat) : upd (adTo f k) k (f k) = adTo f (k + 1) := by
  funext j
  by_cases e : j = k
  · subst e; rw [upd_same]; unfold adTo; rw [if_pos (by omega)]
  · rw [upd_other _ _ e]; unfold adTo
    by_cases h : j < k
    · rw [if_pos h, if_pos (by omega)]
    · rw [if_neg h, if_neg (by omega)]
set_option maxHeartbeats 1600000 in
theorem implAdd_any (a b : ByteArray) (w : World) (ha : a.size = 16) (hb : b.size = 16) :
    Calls Try.prog 32 #[.string a, .string b] w fun e w' => e = .returned (.string (adT a b)) ∧ Below w.heap.size w w' := by
  have HM := run_mkB w 16 (by omega)
  rw [show ((16 : Nat) : Int) = 16 from rfl] at HM
  have HB : Hid (Below w.heap.size w (w.alloc (.cells (rowV .u8 16 (fun _ => 0)) 5))) := (Below.refl _ _).alloc (Nat.le_refl _) _
  have HO : Hid (RowAt (w.alloc (.cells (rowV .u8 16 (fun _ => 0)) 5)) w.heap.size 5 .u8 16 (adTo (adF (btN a) (btN b)) 0)) := RowAt.ext (heap_alloc_new w _) (fun i _ => (if_neg (by omega)).symm)
  have HE : Hid (strOfNums (bytesV 16 (adF (btN a) (btN b))) = adT a b) := rfl
  go_enter Try.func32, Try.ntmps32
  go_wp2
  generalize w.alloc (.cells (rowV .u8 16 (fun _ => 0)) 5) = w1 at HB HO ⊢
  clear HM
  go_loopw [6, 11] (fun c i wr => ∃ k : Nat, k ≤ 16 ∧ i = .int .i64 (k : Int) ∧ c = .int .i64 ((adC (btN a) (btN b) k : Nat) : Int) ∧ Hid (Below w.heap.size w wr) ∧ Hid (RowAt wr w.heap.size 5 .u8 16 (adTo (adF (btN a) (btN b)) k)))
    (fun _ i _ => 16 - (intOf i).toNat)
  case atStart => exact ⟨0, Nat.zero_le _, rfl, rfl, HB, HO⟩
  case round =>
    clear HB HO
    obtain ⟨k, hk, rfl, rfl, HB, HO⟩ := hrel
    by_cases hlt : k < 16
    · have hi0 : (0 : Int) ≤ (k : Int) := by omega
      have hi1 : (k : Int) < 16 := by omega
      have hi2 : (k : Int) < (a.size : Int) := by omega
      have hi3 : (k : Int) < (b.size : Int) := by omega
      have ga := get_bt a
      have gb := get_bt b
      have ea := btN_eq a k
      have eb := btN_eq b k
      have la := btN_lt a k
      have lb := btN_lt b k
      have lc := adC_le (btN_lt a) (btN_lt b) k
      have c1 := HO.out.cell hlt
      have z1 := HO.out.froz k
      have hnx := adTo_next (adF (btN a) (btN b)) k
      have hC : adC (btN a) (btN b) (k + 1) = (adC (btN a) (btN b) k + (btN a k + btN b k)) / 256 := rfl
      have hF : adF (btN a) (btN b) k = (adC (btN a) (btN b) k + (btN a k + btN b k)) % 256 := rfl
      have HO2 : Hid (RowAt (wr.setCell ⟨w.heap.size, k, none⟩ (.int .u8 ((adF (btN a) (btN b) k : Nat) : Int))) w.heap.size 5 .u8 16 (adTo (adF (btN a) (btN b)) (k + 1))) := by
        show RowAt _ _ _ _ _ _
        rw [← hnx]; exact HO.out.set hlt _
      have HB2 : Hid (Below w.heap.size w (wr.setCell ⟨w.heap.size, k, none⟩ (.int .u8 ((adF (btN a) (btN b) k : Nat) : Int)))) := HB.out.setCell (Nat.le_refl _) _
      rw [hF] at HO2 HB2
      have HC : Hid (adC (btN a) (btN b) (k + 1) = (adC (btN a) (btN b) k + (btN a k + btN b k)) / 256) := hC
      clear hnx hC hF HB HO
      generalize adC (btN a) (btN b) k = c at lc HC HO2 HB2
      generalize btN a k = x at ea la HC HO2 HB2
      generalize btN b k = y at eb lb HC HO2 HB2
      have w1 : IntKind.i64.wrap (x : Int) = (x : Int) := by rw [IntKind.wrap_i64]; omega
      have w2 : IntKind.i64.wrap (y : Int) = (y : Int) := by rw [IntKind.wrap_i64]; omega
      have w3 : IntKind.i64.wrap ((x : Int) + (y : Int)) = (x : Int) + (y : Int) := by rw [IntKind.wrap_i64]; omega
      have w4 : IntKind.i64.wrap ((c : Int) + ((x : Int) + (y : Int))) = (c : Int) + ((x : Int) + (y : Int)) := by rw [IntKind.wrap_i64]; omega
      have w5 : IntKind.u8.wrap ((c : Int) + ((x : Int) + (y : Int))) = (((c + (x + y)) % 256 : Nat) : Int) := by rw [IntKind.wrap_u8']; omega
      have w6 : ((c : Int) + ((x : Int) + (y : Int))) / 256 = (((c + (x + y)) / 256 : Nat) : Int) := by omega
      generalize (c + (x + y)) % 256 = u at w5 HO2 HB2
      generalize (c + (x + y)) / 256 = v at w6 HC
      go_wp2
      go_region
      all_goals
        go_wp2
        go_roundw
        case rel => exact ⟨k + 1, by omega, by go_num, by rw [HC.out], HB2.out.drew, HO2.out.drew⟩
        case measure => simp [intOf]; omega
    · obtain rfl : k = 16 := by omega
      have hO : RowAt wr w.heap.size 5 .u8 16 (adF (btN a) (btN b)) := HO.out.ext (fun i hi => if_pos hi)
      have hcv := conv_row (c := 16) hO
      rw [HE.out] at hcv
      clear hO
      go_wp2
      go_ret
      exact ⟨rfl, HB.out⟩
set_option maxHeartbeats 1600000 in
theorem specSum_any (a b : ByteArray) (w : World) (ha : a.size = 16) (hb : b.size = 16) :
    Calls Try.prog 41 #[.string a, .string b] w fun e w' => e = .returned (.string (adT a b)) ∧ Below w.heap.size w w' := by
  obtain ⟨i0, hi, hz0, hz1, hz2⟩ := info_parts infoU8
  have HE : Hid (strOfNums (bytesV 16 (adF (btN a) (btN b))) = adT a b) := rfl
  go_enter Try.func41, Try.ntmps41
  go_wp2
  go_loopw [5, 6, 7] (fun v c i wr => ∃ k : Nat, k ≤ 16 ∧ i = .int .i64 (k : Int) ∧ c = .int .i64 ((adC (btN a) (btN b) k : Nat) : Int) ∧ Hid (wr.ownsRow w.heap.size 5 1 v k ((bytesV k (adF (btN a) (btN b))).map (Value.int .u8))) ∧ Hid (Below w.heap.size w wr))
    (fun _ _ i _ => 16 - (intOf i).toNat)
  case atStart => exact ⟨0, Nat.zero_le _, rfl, rfl, World.ownsRow_made _ _ _ (Nat.le_refl _) (by decide) rfl, (Below.refl _ _).alloc (Nat.le_refl _) _⟩
  case round =>
    obtain ⟨k, hk, rfl, rfl, HO, HB⟩ := hrel
    by_cases hlt : k < 16
    · have hsz := HB.out.size
      have hi0 : (0 : Int) ≤ (k : Int) := by omega
      have hi1 : (k : Int) < 16 := by omega
      have hi2 : (k : Int) < (a.size : Int) := by omega
      have hi3 : (k : Int) < (b.size : Int) := by omega
      have ga := get_bt a
      have gb := get_bt b
      have ea := btN_eq a k
      have eb := btN_eq b k
      have la := btN_lt a k
      have lb := btN_lt b k
      have lc := adC_le (btN_lt a) (btN_lt b) k
      have HN : Hid ((bytesV k (adF (btN a) (btN b))).map (Value.int .u8) ++ [.int .u8 ((adF (btN a) (btN b) k : Nat) : Int)] = (bytesV (k + 1) (adF (btN a) (btN b))).map (Value.int .u8)) := by
        show _ = _
        rw [bytesV_succ, List.map_append]; rfl
      have hF : adF (btN a) (btN b) k = (adC (btN a) (btN b) k + (btN a k + btN b k)) % 256 := rfl
      rw [hF] at HN
      have HC : Hid (adC (btN a) (btN b) (k + 1) = (adC (btN a) (btN b) k + (btN a k + btN b k)) / 256) := rfl
      clear hF
      generalize adC (btN a) (btN b) k = c at lc HC HN
      generalize btN a k = x at ea la HC HN
      generalize btN b k = y at eb lb HC HN
      have w1 : IntKind.i64.wrap (x : Int) = (x : Int) := by rw [IntKind.wrap_i64]; omega
      have w2 : IntKind.i64.wrap (y : Int) = (y : Int) := by rw [IntKind.wrap_i64]; omega
      have w3 : IntKind.i64.wrap ((c : Int) + (x : Int)) = (c : Int) + (x : Int) := by rw [IntKind.wrap_i64]; omega
      have w4 : IntKind.i64.wrap ((c : Int) + (x : Int) + (y : Int)) = (c : Int) + (x : Int) + (y : Int) := by rw [IntKind.wrap_i64]; omega
      have w5 : IntKind.u8.wrap ((c : Int) + (x : Int) + (y : Int)) = (((c + (x + y)) % 256 : Nat) : Int) := by rw [IntKind.wrap_u8']; omega
      have w6 : ((c : Int) + (x : Int) + (y : Int)) / 256 = (((c + (x + y)) / 256 : Nat) : Int) := by omega
      generalize (c + (x + y)) % 256 = u at w5 HN
      generalize (c + (x + y)) / 256 = v at w6 HC
      go_wp2
      go_region
      all_goals
        have HBd : Hid (Below w.heap.size w wr.drew) := HB.out.drew
        have HOd : Hid (wr.drew.ownsRow w.heap.size 5 1 _ k ((bytesV k (adF (btN a) (btN b))).map (Value.int .u8))) := World.ownsRow.drew HO.out
        go_wp2_with (at_builtin; refine wpList_append_own _ rfl _ _ 22 rfl w.heap.size 5 i0 (.int .u8 0) 1 1 Try.underlying22 hi hz0 hz1 hz2 rfl (by decide) _ _ _ rfl (HOd.out.alloc _) ⟨wr.drew.heap.size, 0, none⟩ 1 1 [.int .u8 ((u : Nat) : Int)] rfl rfl (cell_one_new _ _ _) (by simp [Value.oneCell']) (by unfold maxLen; omega) (by omega) (by simp; omega) ?_)
        intro v' w1' hown' hgrow _
        have hB2 := below_app HOd.out HBd.out hsz hgrow
        rw [HN.out] at hown'
        have HO2 : Hid (w1'.ownsRow w.heap.size 5 1 v' (k + 1) ((bytesV (k + 1) (adF (btN a) (btN b))).map (Value.int .u8))) := hown'
        have HB2 : Hid (Below w.heap.size w w1') := hB2
        clear hown' hgrow hB2
        go_wp2
        go_roundw
        case rel => exact ⟨k + 1, by omega, by go_num, by rw [HC.out], HO2, HB2⟩
        case measure => simp [intOf]; omega
    · obtain rfl : k = 16 := by omega
      have hc := conv_own wr 22 9 5 Try.underlying22 Try.underlying5 Try.underlying9 (P := Try.prog) HO.out
      rw [HE.out] at hc
      clear HO
      go_wp2
      go_ret
      exact ⟨rfl, HB.out⟩
end Go.Proofs.Ytopdjfgomclffaa
