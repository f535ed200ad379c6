/- The specification's numbers of a curve (chapter 27): l27Mul. -/
import Derived.Test.YtjhglbdknjoeeaaScar27
import Derived.Test.YtjhglbdknjoeeaaSmulP
import Derived.Laws.OwnMore
import Derived.Laws.MakeOwn
import Derived.Deep.QuietTactic
import Derived.BigQuiet
import Derived.WalkKit
import Derived.WalkLawsBesides
import Derived.WalkSpells
import Derived.BigRegion
import Derived.Laws.ShiftsVar
import Derived.Lib.Strings
import Derived.Below
import Derived.OwnWalk
import Derived.PlainAid
import Derived.Great.Walk
namespace Go.Proofs.Ytjhglbdknjoeeaa
open Go.RowKit Go.PlainAid
set_option maxRecDepth 20000
set_option linter.unusedVariables false
set_option linter.unusedSimpArgs false
set_option maxHeartbeats 3200000 in
theorem smul_any (a b : Option Addr) (ca cb : Nat) (l m : List Int) (w : World) (hl : l.length = 16) (hm : m.length = 16) (ra : RowI w.heap.size w a l) (rb : RowI w.heap.size w b m) (bl : within (-262144) 262144 l) (bm : within (-262144) 262144 m) :
    Calls Try.prog 71 #[.slice a 16 ca, .slice b 16 cb] w fun e w' => ∃ g cap r, e = .returned (.slice (some ⟨g, 0, none⟩) 16 cap) ∧ RowS w.heap.size w' g 16 cap r ∧ within (-38) 65573 r ∧ v16 r % fp = (v16 l * v16 m) % fp ∧ Below w.heap.size w w' := by
  obtain ⟨i0, hi, hz0, hz1, hz2⟩ := info_parts infoIntS
  have RA : Hid (RowI w.heap.size w a l) := ra
  have RB : Hid (RowI w.heap.size w b m) := rb
  obtain ⟨b1, o1, rfl⟩ := ra.addr (show 0 < l.length by omega)
  obtain ⟨b2, o2, rfl⟩ := rb.addr (show 0 < m.length by omega)
  clear ra rb
  have HBL : Hid (within (-262144) 262144 l) := bl
  have HBM : Hid (within (-262144) 262144 m) := bm
  clear bl bm
  go_enter Try.func71, Try.ntmps71
  go_wp2_with (at_make; refine wpList_make_full _ rfl _ _ 24 rfl w.heap.size 3 i0 (.int .i64 0) 1 Try.underlying24 hi hz0 hz1 .i64 .i64 _ _ 31 rfl rfl rfl rfl (by rw [hz2]; omega) (by unfold maxLen; omega) (Nat.le_refl _) ?_; intro w2 hown2 hgrow2)
  have hB2 : Below w.heap.size w w2 := (Below.refl _ _).grown hgrow2 (Nat.le_refl _) (by simp)
  rw [made_ints] at hown2
  have HO : Hid (RowS w.heap.size w2 w.heap.size 31 31 (List.replicate 31 0)) := hown2
  have HB : Hid (Below w.heap.size w w2) := hB2
  clear hown2 hgrow2 hB2
  have h00 : within (-(((0 : Nat) : Int) * MM)) (((0 : Nat) : Int) * MM) (List.replicate 31 0) := by
    intro k hk
    rw [List.getD_eq_getElem?_getD, List.getElem?_eq_getElem hk, List.getElem_replicate]; decide
  have hv0 : v16 (List.replicate 31 0) = v16 (l.take 0) * v16 m := by rw [v16_zero, List.take_zero]; show (0 : Int) = 0 * _; rw [Int.zero_mul]
  go_loopw [6] (fun i wr => ∃ (k : Nat) (t : List Int), k ≤ 16 ∧ i = .int .i64 (k : Int) ∧ Hid (Below w.heap.size w wr) ∧ Hid (RowS w.heap.size wr w.heap.size 31 31 t) ∧ Hid (within (-((k : Int) * MM)) ((k : Int) * MM) t) ∧ Hid (v16 t = v16 (l.take k) * v16 m))
    (fun i _ => 16 - (intOf i).toNat)
  case atStart => exact ⟨0, _, Nat.zero_le _, rfl, HB, HO, h00, hv0⟩
  case round =>
    clear HB HO h00 hv0
    obtain ⟨k, t, hk, rfl, HB, HO, HW, HV⟩ := hrel
    by_cases hlt : k < 16
    · have hi0 : (0 : Int) ≤ (k : Int) := by omega
      have hi1 : (k : Int) < 16 := by omega
      have BD : Bd31 (k + 0) k t := Bd31.start _ HO.out.len HW.out
      have HV1 : Hid (v16 t = v16 (l.take k) * v16 m + B16 ^ k * l.getD k 0 * v16 (m.take 0)) := by show _ = _; rw [HV.out, List.take_zero]; show _ = _ + _ * 0; rw [Int.mul_zero, Int.add_zero]
      clear HW HV
      go_wp2
      go_loopw [7] (fun i wr => ∃ (j : Nat) (u : List Int), j ≤ 16 ∧ i = .int .i64 (j : Int) ∧ Hid (Below w.heap.size w wr) ∧ Hid (RowS w.heap.size wr w.heap.size 31 31 u) ∧ Bd31 (k + j) k u ∧ Hid (v16 u = v16 (l.take k) * v16 m + B16 ^ k * l.getD k 0 * v16 (m.take j)))
        (fun i _ => 16 - (intOf i).toNat)
      case atStart => exact ⟨0, t, Nat.zero_le _, rfl, HB, HO, BD, HV1⟩
      case round =>
        clear HB HO BD HV1
        obtain ⟨j, u, hj, rfl, HB, HO, BD, HV1⟩ := hrel
        by_cases hlj : j < 16
        · have hj0 : (0 : Int) ≤ (j : Int) := by omega
          have hj1 : (j : Int) < 16 := by omega
          have c1 := (RA.out.at HB.out (show k < l.length by omega)).2
          have c2 := (RB.out.at HB.out (show j < m.length by omega)).2
          have c3 := HO.out.cell (i := k + j) (by omega)
          have z3 := HO.out.froz (k + j)
          have hb1 := HBL.out k (by omega)
          have hb2 := HBM.out j (by omega)
          have bl := BD.val hlt (show k + j < 31 by omega)
          have hp := prod_sg hb1.1 hb1.2 hb2.1 hb2.2
          have BD2 := BD.step (d := l.getD k 0 * m.getD j 0) (by omega) hp.1 hp.2
          have HV2 : Hid (v16 (addAt u (k + j) (l.getD k 0 * m.getD j 0)) = v16 (l.take k) * v16 m + B16 ^ k * l.getD k 0 * v16 (m.take (j + 1))) := smul_low BD.len hm hlt hlj HV1.out
          have hMM : MM = 68719476736 := rfl
          rw [hMM] at hp
          have hq : (k : Int) + (j : Int) = ((k + j : Nat) : Int) := by omega
          have hwq : IntKind.i64.wrap ((k : Int) + (j : Int)) = ((k + j : Nat) : Int) := by rw [hq, w64_wrap]; exact w64_id (by omega) (by omega)
          have hq0 : (0 : Int) ≤ ((k + j : Nat) : Int) := by omega
          have hq1 : ((k + j : Nat) : Int) < 31 := by omega
          have hw2 : IntKind.i64.wrap (l.getD k 0 * m.getD j 0) = l.getD k 0 * m.getD j 0 := by rw [w64_wrap]; exact w64_id (by omega) (by omega)
          have hw3 : IntKind.i64.wrap (u.getD (k + j) 0 + l.getD k 0 * m.getD j 0) = u.getD (k + j) 0 + l.getD k 0 * m.getD j 0 := by rw [w64_wrap]; exact w64_id (by omega) (by omega)
          have hu : addAt u (k + j) (l.getD k 0 * m.getD j 0) = u.set (k + j) (u.getD (k + j) 0 + l.getD k 0 * m.getD j 0) := rfl
          have HO2 : Hid (RowS w.heap.size (wr.setCell ⟨w.heap.size, k + j, none⟩ (.int .i64 (u.getD (k + j) 0 + l.getD k 0 * m.getD j 0))) w.heap.size 31 31 (addAt u (k + j) (l.getD k 0 * m.getD j 0))) := by rw [hu]; exact HO.out.set (k + j) _
          have HB2 : Hid (Below w.heap.size w (wr.setCell ⟨w.heap.size, k + j, none⟩ (.int .i64 (u.getD (k + j) 0 + l.getD k 0 * m.getD j 0)))) := HB.out.setCell (Nat.le_refl _) _
          rw [show k + j + 1 = k + (j + 1) by omega] at BD2
          clear hu HV1 BD HO HB bl hp hb1 hb2 hMM
          generalize addAt u (k + j) (l.getD k 0 * m.getD j 0) = u2 at BD2 HV2 HO2
          generalize hx : l.getD k 0 = x at c1 hw2 hw3 HO2 HB2
          generalize u.getD (k + j) 0 = v at c3 hw3 HO2 HB2
          generalize m.getD j 0 = y at c2 hw2 hw3 HO2 HB2
          generalize k + j = q at c3 z3 hwq hq0 hq1 HO2 HB2
          have HX : Hid (l.getD k 0 = x) := hx
          clear hq hx
          go_wp2
          go_region
          all_goals
            go_wp2
            go_roundw
            case rel => exact ⟨j + 1, u2, by omega, by go_num, HB2.out.drew, RowS.drew HO2.out, BD2, by show _ = _; rw [← HX.out]; exact HV2.out⟩
            case measure => simp [intOf]; omega
        · obtain rfl : j = 16 := by omega
          have HW2 : Hid (within (-(((k + 1 : Nat) : Int) * MM)) (((k + 1 : Nat) : Int) * MM) u) := BD.done
          have HV2 : Hid (v16 u = v16 (l.take (k + 1)) * v16 m) := smul_row hl hm hlt HV1.out
          clear BD HV1
          go_wp2
          go_roundw
          case rel => exact ⟨k + 1, u, by omega, by go_num, HB, HO, HW2, HV2⟩
          case measure => simp [intOf]; omega
    · obtain rfl : k = 16 := by omega
      rw [show ((16 : Nat) : Int) = 16 from rfl]
      have htl := HO.out.len
      have HV2 : Hid (v16 ((foldK t 15).take 16) % fp = (v16 l * v16 m) % fp) := by show _ = _; rw [fold31_mod htl, HV.out, List.take_of_length_le (show l.length ≤ 16 by omega)]
      have hw16 : within (-((16 : Int) * MM)) ((16 : Int) * MM) t := HW.out
      have HIN : Hid (within (-LIM) LIM ((foldK t 15).take 16)) := fold_in htl hw16
      have HO0 : Hid (RowS w.heap.size wr w.heap.size 31 31 (foldK t 0)) := by show RowS _ _ _ _ _ _; rw [foldK_zero htl]; exact HO.out
      clear HW HV HO
      have hw16b : ∀ q, q < 31 → -1099511627776 ≤ t.getD q 0 ∧ t.getD q 0 ≤ 1099511627776 := fun q hq => hw16 q (by omega)
      clear hw16
      go_wp2
      go_loopw [8] (fun i wr => ∃ k : Nat, k ≤ 15 ∧ i = .int .i64 (k : Int) ∧ Hid (Below w.heap.size w wr) ∧ Hid (RowS w.heap.size wr w.heap.size 31 31 (foldK t k)))
        (fun i _ => 15 - (intOf i).toNat)
      case atStart => exact ⟨0, Nat.zero_le _, rfl, HB, HO0⟩
      case round =>
        clear HB HO0
        obtain ⟨k, hk, rfl, HB, HO⟩ := hrel
        by_cases hlt : k < 15
        · have hi0 : (0 : Int) ≤ (k : Int) := by omega
          have hi1 : (k : Int) < 15 := by omega
          have hi2 : (k : Int) < 31 := by omega
          have hq : (k : Int) + 16 = ((k + 16 : Nat) : Int) := by omega
          have hwq : IntKind.i64.wrap ((k : Int) + 16) = ((k + 16 : Nat) : Int) := by rw [hq, w64_wrap]; exact w64_id (by omega) (by omega)
          have hq0 : (0 : Int) ≤ ((k + 16 : Nat) : Int) := by omega
          have hq1 : ((k + 16 : Nat) : Int) < 31 := by omega
          have c1 := HO.out.cell (i := k) (by omega)
          rw [foldK_get t k (show k < 31 by omega), if_neg (by omega)] at c1
          have z1 := HO.out.froz k
          have c2 := HO.out.cell (i := k + 16) (by omega)
          rw [foldK_get t k (show k + 16 < 31 by omega), if_neg (by omega)] at c2
          have hb1 := hw16b k (by omega)
          have hb2 := hw16b (k + 16) (by omega)
          have HN := foldK_next t hlt
          have hw1 : IntKind.i64.wrap (38 * t.getD (k + 16) 0) = 38 * t.getD (k + 16) 0 := by rw [w64_wrap]; exact w64_id (by omega) (by omega)
          have hw : IntKind.i64.wrap (t.getD k 0 + 38 * t.getD (k + 16) 0) = t.getD k 0 + 38 * t.getD (k + 16) 0 := by rw [w64_wrap]; exact w64_id (by omega) (by omega)
          have HO2 : Hid (RowS w.heap.size (wr.setCell ⟨w.heap.size, k, none⟩ (.int .i64 (t.getD k 0 + 38 * t.getD (k + 16) 0))) w.heap.size 31 31 (foldK t (k + 1))) := by rw [← HN]; exact HO.out.set k _
          have HB2 : Hid (Below w.heap.size w (wr.setCell ⟨w.heap.size, k, none⟩ (.int .i64 (t.getD k 0 + 38 * t.getD (k + 16) 0)))) := HB.out.setCell (Nat.le_refl _) _
          clear HN hb1 hb2 HO HB
          generalize t.getD k 0 = x at c1 hw HO2 HB2
          generalize t.getD (k + 16) 0 = y at c2 hw1 hw HO2 HB2
          generalize k + 16 = q at c2 hwq hq0 hq1
          clear hq
          go_wp2
          go_region
          all_goals
            go_wp2
            go_roundw
            case rel => exact ⟨k + 1, by omega, by go_num, HB2.out.drew, RowS.drew HO2.out⟩
            case measure => simp [intOf]; omega
        · obtain rfl : k = 15 := by omega
          rw [show ((15 : Nat) : Int) = 15 from rfl]
          have HP : Hid (RowS w.heap.size wr w.heap.size 16 31 ((foldK t 15).take 16)) := HO.out.front (by omega)
          clear HO hw16b
          generalize (foldK t 15).take 16 = X at HP HIN HV2
          have hX : X.length = 16 := HP.out.len
          have HC1 : Hid _ := scarry_any w.heap.size w.heap.size 31 X wr HP.out HIN.out
          go_wp2_with fail
          refine Calls.mono HC1.out ?_
          rintro e w3 ⟨rfl, hr3, hg3⟩
          have HB3 : Hid (Below w.heap.size w w3) := below_gb HB.out HB.out.size hg3 (Nat.le_refl _)
          have HC2 : Hid _ := scarry_any w.heap.size w.heap.size 31 (scar X) w3 hr3 (scar_in hX HIN.out)
          clear HC1 hr3 hg3 HB HP
          go_wp2_with fail
          refine Calls.mono HC2.out ?_
          rintro e w4 ⟨rfl, hr4, hg4⟩
          have HB4 : Hid (Below w.heap.size w w4) := below_gb HB3.out HB3.out.size hg4 (Nat.le_refl _)
          have HR4 : Hid (RowS w.heap.size w4 w.heap.size 16 31 (scar (scar X))) := hr4
          clear HC2 hr4 hg4 HB3
          have HZ1 : Hid (within (-38) 65573 (scar (scar X))) := two_in hX HIN.out
          have HZ2 : Hid (v16 (scar (scar X)) % fp = (v16 l * v16 m) % fp) := by show _ = _; rw [scar_mod (scar_len hX), scar_mod hX]; exact HV2.out
          have hZl : (scar (scar X)).length = 16 := scar_len (scar_len hX)
          generalize scar (scar X) = Y at HR4 HZ1 HZ2 hZl
          clear HIN HV2
          have HBC : Hid (Below w4.heap.size w4 (w4.alloc (.cells #[] 3))) := (Below.refl _ _).alloc (Nat.le_refl _) _
          have HOC : Hid (OwnInt w4.heap.size (w4.alloc (.cells #[] 3)) (.slice (some ⟨w4.heap.size, 0, none⟩) 0 0) []) := World.ownsRow_made _ _ _ (Nat.le_refl _) (by decide) rfl
          go_wp2_with (at_builtin; refine wpList_append_own _ rfl _ _ 24 rfl w4.heap.size 3 i0 (.int .i64 0) 1 8 Try.underlying24 hi hz0 hz1 hz2 rfl (by decide) _ 0 _ rfl HOC.out ⟨w.heap.size, 0, none⟩ 16 31 (Y.map (Value.int .i64)) rfl (by simp [hZl]) ?c1 ?c2 ?c3 ?c4 ?c5 ?_)
          case c1 => exact HR4.out.row.adds_later HBC.out
          case c2 => intro u hu; obtain ⟨x, _, rfl⟩ := List.mem_map.1 hu; rfl
          case c3 => unfold maxLen; omega
          case c4 => omega
          case c5 => simp
          intro v' w5 hown' hgrow _
          have ho : OwnInt w4.heap.size w5 v' Y := by unfold OwnInt; rw [hZl]; simpa using hown'
          have hb5 : Below w4.heap.size w4 w5 := HBC.out.grown hgrow (by simp) (fun k hk => by simp [Value.ownBlock] at hk; omega)
          obtain ⟨g0, cap0, rfl, hrs⟩ := ho.rowS (by omega)
          rw [hZl] at hrs ⊢
          have HR5 : Hid (RowS w.heap.size w5 g0 16 cap0 Y) := hrs.base HB4.out.size
          have HB5 : Hid (Below w.heap.size w w5) := HB4.out.trans (hb5.mono HB4.out.size)
          clear hown' hgrow ho hb5 hrs HOC HBC
          go_wp2
          go_ret
          exact ⟨_, _, Y, rfl, HR5.out, HZ1.out, HZ2.out, HB5.out⟩
end Go.Proofs.Ytjhglbdknjoeeaa
