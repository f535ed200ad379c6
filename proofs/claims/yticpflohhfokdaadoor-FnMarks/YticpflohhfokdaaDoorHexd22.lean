/- hexed of the laws, in plain words. -/
import Derived.Test.YticpflohhfokdaaDoorRowC
import Derived.WalkKit
import Derived.WalkLawsBesides
import Derived.WalkSpells
import Derived.OwnWalk
namespace Go.Proofs.YticpflohhfokdaaDoor
open Go.RowKit Go.PlainAid
set_option maxRecDepth 20000
set_option linter.unusedVariables false
def dv (x : Int) : Int := if 97 ≤ x then x - 87 else x - 48
def hx2 (s : ByteArray) (j : Nat) : Int := (16 * dv (bt s (2 * j)) + dv (bt s (2 * j + 1))) % 256
def hexN2 (s : ByteArray) (m : Nat) : List Int := (List.range m).map (hx2 s)
def hexedT (s : ByteArray) : ByteArray := strOfNums (hexN2 s (s.size / 2))
theorem hexN2_succ (s : ByteArray) (m : Nat) : hexN2 s (m + 1) = hexN2 s m ++ [hx2 s m] := by unfold hexN2; rw [List.range_succ, List.map_append]; rfl
theorem hexN2_len (s : ByteArray) (m : Nat) : (hexN2 s m).length = m := by unfold hexN2; simp
/-- The number that k of two figures make. -/
def hpart (s : ByteArray) (j k : Nat) : Int := match k with | 0 => 0 | 1 => dv (bt s (2 * j)) | _ => 16 * dv (bt s (2 * j)) + dv (bt s (2 * j + 1))
theorem dv_bd {x : Int} (h0 : 0 ≤ x) (h1 : x ≤ 255) : -48 ≤ dv x ∧ dv x ≤ 168 := by unfold dv; split <;> omega
set_option maxHeartbeats 3200000 in
theorem hexed_any (s : ByteArray) (w : World) (hs : s.size ≤ 20000) :
    Calls Tryd.prog 9 #[.string s] w fun e w' => e = .returned (.string (hexedT s)) ∧ Below w.heap.size w w' := by
  obtain ⟨i0, hi, hz0, hz1, hz2⟩ := info_parts infoU8
  go_enter Tryd.func9, Tryd.ntmps9
  go_wp2
  go_loopw [3, 4] (fun v i wr => ∃ j : Nat, j ≤ s.size / 2 ∧ i = .int .i64 (2 * (j : Int)) ∧ wr.ownsRow w.heap.size 5 1 v j ((hexN2 s j).map (Value.int .u8)) ∧ Below w.heap.size w wr)
    (fun _ i _ => s.size + 2 - (intOf i).toNat)
  case atStart => exact ⟨0, Nat.zero_le _, rfl, World.ownsRow_made _ _ _ (Nat.le_refl _) (by decide) rfl, (Below.refl _ _).alloc (Nat.le_refl _) _⟩
  case round =>
    obtain ⟨j, hj, rfl, hown, hbel⟩ := hrel
    have hsz := hbel.size
    have HO : Hid (World.ownsRow _ _ _ _ _ _ _) := hown
    clear hown
    have hw1 : IntKind.i64.wrap (2 * (j : Int) + 1) = 2 * (j : Int) + 1 := by rw [IntKind.wrap_i64]; omega
    by_cases hlt : 2 * j + 1 < s.size
    · have hi1 : 2 * (j : Int) + 1 < (s.size : Int) := by omega
      go_wp2
      go_loop [5, 6] (fun n k => ∃ q : Nat, q ≤ 2 ∧ n = .int .i64 (hpart s j q) ∧ k = .int .i64 (q : Int)) (fun _ k => 2 - (intOf k).toNat)
      case atStart => exact ⟨0, by omega, rfl, rfl⟩
      case round =>
        obtain ⟨q, hq, rfl, rfl⟩ := hrel
        have hg := get_bt s
        rcases (show q = 0 ∨ q = 1 ∨ q = 2 by omega) with rfl | rfl | rfl
        · have ha0 : (0 : Int) ≤ 2 * (j : Int) := by omega
          have ha1 : 2 * (j : Int) < (s.size : Int) := by omega
          have ha2 : (2 * (j : Int)).toNat = 2 * j := by omega
          have hw2 : IntKind.i64.wrap (2 * (j : Int)) = 2 * (j : Int) := by rw [IntKind.wrap_i64]; omega
          have hb0 := bt_nonneg s (2 * j)
          have hb1 := bt_le s (2 * j)
          have HN : Hid (hpart s j 1 = dv (bt s (2 * j))) := rfl
          have HY : Hid (hpart s j 0 = 0) := rfl
          rw [HY.out]
          generalize hX : bt s (2 * j) = x at hb0 hb1 HN
          have hxw : IntKind.i64.wrap x = x := by rw [IntKind.wrap_i64]; omega
          by_cases h97 : 97 ≤ x
          · have hd : IntKind.i64.wrap (x - 87) = x - 87 := by rw [IntKind.wrap_i64]; omega
            have hdv : dv x = x - 87 := if_pos h97
            rw [hdv] at HN
            clear hdv
            go_wp2
            go_round
            case rel => exact ⟨1, by omega, by rw [HN.out], rfl⟩
            case measure => simp [intOf]
          · have hd : IntKind.i64.wrap (x - 48) = x - 48 := by rw [IntKind.wrap_i64]; omega
            have hdv : dv x = x - 48 := if_neg h97
            rw [hdv] at HN
            clear hdv
            go_wp2
            go_round
            case rel => exact ⟨1, by omega, by rw [HN.out], rfl⟩
            case measure => simp [intOf]
        · have ha0 : (0 : Int) ≤ 2 * (j : Int) + 1 := by omega
          have ha2 : (2 * (j : Int) + 1).toNat = 2 * j + 1 := by omega
          have hb0 := bt_nonneg s (2 * j + 1)
          have hb1 := bt_le s (2 * j + 1)
          have hyb := dv_bd (bt_nonneg s (2 * j)) (bt_le s (2 * j))
          have HN : Hid (hpart s j 2 = 16 * hpart s j 1 + dv (bt s (2 * j + 1))) := rfl
          have HY : Hid (hpart s j 1 = dv (bt s (2 * j))) := rfl
          rw [← HY.out] at hyb
          generalize hpart s j 1 = y at HN hyb ⊢
          clear HY
          generalize hX : bt s (2 * j + 1) = x at hb0 hb1 HN
          have hxw : IntKind.i64.wrap x = x := by rw [IntKind.wrap_i64]; omega
          by_cases h97 : 97 ≤ x
          · have hd : IntKind.i64.wrap (x - 87) = x - 87 := by rw [IntKind.wrap_i64]; omega
            have hdv : dv x = x - 87 := if_pos h97
            rw [hdv] at HN
            clear hdv
            have hn2 : IntKind.i64.wrap (16 * y) = 16 * y := by rw [IntKind.wrap_i64]; omega
            have hn : IntKind.i64.wrap (16 * y + (x - 87)) = 16 * y + (x - 87) := by rw [IntKind.wrap_i64]; omega
            go_wp2
            go_round
            case rel => exact ⟨2, by omega, by rw [HN.out], rfl⟩
            case measure => simp [intOf]
          · have hd : IntKind.i64.wrap (x - 48) = x - 48 := by rw [IntKind.wrap_i64]; omega
            have hdv : dv x = x - 48 := if_neg h97
            rw [hdv] at HN
            clear hdv
            have hn2 : IntKind.i64.wrap (16 * y) = 16 * y := by rw [IntKind.wrap_i64]; omega
            have hn : IntKind.i64.wrap (16 * y + (x - 48)) = 16 * y + (x - 48) := by rw [IntKind.wrap_i64]; omega
            go_wp2
            go_round
            case rel => exact ⟨2, by omega, by rw [HN.out], rfl⟩
            case measure => simp [intOf]
        · have hsq : s.size / 2 ≤ 10000 := by omega
          have HN : Hid (hpart s j 2 % 256 = hx2 s j) := rfl
          have HS : Hid (hexN2 s (j + 1) = hexN2 s j ++ [hx2 s j]) := hexN2_succ s j
          have hln := hexN2_len s j
          have hw3 : IntKind.i64.wrap (2 * (j : Int) + 2) = 2 * (j : Int) + 2 := by rw [IntKind.wrap_i64]; omega
          generalize hx2 s j = z at HN HS
          generalize hpart s j 2 = y at HN ⊢
          go_wp2_with (at_builtin; rw [HN.out]; refine wpList_append_own _ rfl _ _ 22 rfl w.heap.size 5 i0 (.int .u8 0) 1 1 Tryd.underlying22 hi hz0 hz1 hz2 rfl (by decide) _ _ _ rfl (HO.out.alloc _) ⟨wr.heap.size, 0, none⟩ 1 1 [.int .u8 z] rfl rfl (cell_one_new _ _ _) (by simp [Value.oneCell']) (by unfold maxLen; omega) (by omega) (by simp; omega) ?_)
          intro v' w1 hown' hgrow _
          have hB := below_app HO.out hbel hsz hgrow
          have ho : w1.ownsRow w.heap.size 5 1 v' (j + 1) ((hexN2 s (j + 1)).map (Value.int .u8)) := by rw [HS.out, List.map_append]; exact hown'
          clear hown' hgrow HO hbel
          go_wp2
          go_roundw
          case rel => exact ⟨j + 1, by omega, by go_num, ho, hB⟩
          case measure => simp [intOf]; omega
    · have hjj : j = s.size / 2 := by omega
      have hi1 : ¬ 2 * (j : Int) + 1 < (s.size : Int) := by omega
      have hc := conv_own wr 22 9 5 Tryd.underlying22 Tryd.underlying5 Tryd.underlying9 (P := Tryd.prog) HO.out
      have HE : Hid (hexedT s = strOfNums (hexN2 s j)) := by show _ = _; unfold hexedT; rw [hjj]
      clear HO hjj
      go_wp2
      go_ret
      exact ⟨by rw [HE.out]; rfl, hbel⟩
end Go.Proofs.YticpflohhfokdaaDoor
