/- The specification's numbers of a tag (chapter 25): l25Small, l25Above, l25Carry. -/
import Derived.Test.YtopdjfgomclffaaCarQ
import Derived.Test.YtopdjfgomclffaaAnd25
import Derived.Test.YtopdjfgomclffaaRowS
import Derived.Test.YtopdjfgomclffaaArrW
import Derived.Laws.OwnMore
import Derived.Laws.MakeOwn
import Derived.WalkKit
import Derived.WalkLawsBesides
import Derived.WalkSpells
import Derived.BigRegion
import Derived.Laws.ShiftsVar
import Derived.Below
import Derived.OwnWalk
import Derived.PlainAid
import Derived.Deep.RegionWith
import Derived.Great.Walk
namespace Go.Proofs.Ytopdjfgomclffaa
open Go.RowKit Go.PlainAid
set_option maxRecDepth 20000
set_option linter.unusedVariables false
set_option linter.unusedSimpArgs false
theorem small_any (w : World) : Calls Try.prog 43 #[] w fun e w' => e = .returned (.int .i64 67108863) ∧ w = w' := by
  go_enter Try.func43, Try.ntmps43
  go_wp2
  go_ret
  exact ⟨rfl, rfl⟩
theorem abP_step {l : List Int} (hl : l.length = 5) {k : Nat} (h1 : 1 ≤ k) (h5 : k < 5) (hne : l.getD k 0 ≠ 67108863) : abP l = false := by
  obtain ⟨a, b, c, d, e, rfl⟩ := five hl
  rcases (show k = 1 ∨ k = 2 ∨ k = 3 ∨ k = 4 by omega) with rfl | rfl | rfl | rfl <;> simp at hne <;> simp [abP, hne]
theorem abP_last {l : List Int} (hl : l.length = 5) (h : ∀ j, 1 ≤ j → j < 5 → l.getD j 0 = 67108863) : abP l = decide (67108859 ≤ l.getD 0 0) := by
  obtain ⟨a, b, c, d, e, rfl⟩ := five hl
  have h1 := h 1 (by omega) (by omega); have h2 := h 2 (by omega) (by omega); have h3 := h 3 (by omega) (by omega); have h4 := h 4 (by omega) (by omega)
  simp at h1 h2 h3 h4
  simp [abP, h1, h2, h3, h4]
set_option maxHeartbeats 800000 in
theorem above_any (a : Option Addr) (cap : Nat) (l : List Int) (w : World) (hl : l.length = 5) (hr : RowI w.heap.size w a l) :
    Calls Try.prog 44 #[.slice a 5 cap] w fun e w' => e = .returned (.bool (abP l)) ∧ Below w.heap.size w w' := by
  obtain ⟨b, off, rfl⟩ := hr.addr (show 0 < l.length by omega)
  have HR : Hid (RowI w.heap.size w (some ⟨b, off, none⟩) l) := hr
  have HS : Hid (∀ wz, Calls Try.prog 43 #[] wz fun e w' => e = .returned (.int .i64 67108863) ∧ wz = w') := fun wz => small_any wz
  clear hr
  go_enter Try.func44, Try.ntmps44
  go_wp2
  go_loopw [3] (fun i wr => ∃ k : Nat, 1 ≤ k ∧ k ≤ 5 ∧ i = .int .i64 (k : Int) ∧ Hid (Below w.heap.size w wr) ∧ Hid (∀ j, 1 ≤ j → j < k → l.getD j 0 = 67108863))
    (fun i _ => 5 - (intOf i).toNat)
  case atStart => exact ⟨1, Nat.le_refl _, by omega, rfl, Below.refl _ _, fun j h1 h2 => by omega⟩
  case round =>
    obtain ⟨k, h1, hk, rfl, HB, HK⟩ := hrel
    by_cases hlt : k < 5
    · have hi0 : (0 : Int) ≤ (k : Int) := by omega
      have hi1 : (k : Int) < 5 := by omega
      have c1 := (HR.out.at HB.out (show k < l.length by omega)).2
      obtain ⟨x, hx⟩ : ∃ x, l.getD k 0 = x := ⟨_, rfl⟩
      rw [hx] at c1
      by_cases he : x = 67108863
      · have HK2 : Hid (∀ j, 1 ≤ j → j < k + 1 → l.getD j 0 = 67108863) := fun j h1 h2 => by
          rcases (show j < k ∨ j = k by omega) with h | rfl
          · exact HK.out j h1 h
          · rw [hx, he]
        subst he
        clear hx
        go_wp2
        go_region_with (go_at_call 43; refine Calls.mono (HS.out _) ?_; rintro e wq ⟨rfl, rfl⟩)
        all_goals
          go_wp2
          go_roundw
          case rel => exact ⟨k + 1, by omega, by omega, by go_num, HB.out.drew, HK2⟩
          case measure => simp [intOf]; omega
      · have HF : Hid (abP l = false) := abP_step hl h1 hlt (by rw [hx]; exact he)
        clear hx
        go_wp2
        go_region_with (go_at_call 43; refine Calls.mono (HS.out _) ?_; rintro e wq ⟨rfl, rfl⟩)
        all_goals
          go_wp2
          go_ret
          exact ⟨by rw [HF.out]; rfl, HB.out.drew⟩
    · obtain rfl : k = 5 := by omega
      have c1 := (HR.out.at HB.out (show 0 < l.length by omega)).2
      have HE : Hid (abP l = decide (67108859 ≤ l.getD 0 0)) := abP_last hl HK.out
      rw [Nat.add_zero] at c1
      generalize l.getD 0 0 = x at c1 HE
      go_wp2
      go_region_with (go_at_call 43; refine Calls.mono (HS.out _) ?_; rintro e wq ⟨rfl, rfl⟩)
      all_goals
        go_wp2
        go_ret
        exact ⟨by rw [HE.out]; try rfl, HB.out.drew⟩
/-- The limbs when k of them are carried on, in place. -/
def stP (l : List Int) (k : Nat) : List Int := if k < 5 then sk l k else carP l
theorem stP_start {l : List Int} (hl : l.length = 5) : stP l 0 = l := by unfold stP; rw [if_pos (by decide)]; exact sk_start hl
theorem stP_len {l : List Int} (hl : l.length = 5) (k : Nat) : (stP l k).length = 5 := by
  unfold stP; split
  · exact sk_len hl (by omega)
  · exact carP_len hl
def carN : Nat → List Int → List Int
  | 0, l => l
  | n + 1, l => carP (carN n l)
theorem carN_bd {l : List Int} (h : bdP l) : ∀ n, bdP (carN n l)
  | 0 => h
  | n + 1 => carP_bd (carN_bd h n)
set_option maxHeartbeats 3200000 in
theorem scarry_any (B g cap : Nat) (l : List Int) (w : World) (hl : bdP l) (hr : RowS B w g 5 cap l) :
    Calls Try.prog 51 #[.slice (some ⟨g, 0, none⟩) 5 cap] w fun e w' => e = .returned (.tuple #[]) ∧ RowS B w' g 5 cap (carN 3 l) ∧ w.grownBy w' (some g) := by
  have HS : Hid (∀ wz, Calls Try.prog 43 #[] wz fun e w' => e = .returned (.int .i64 67108863) ∧ wz = w') := fun wz => small_any wz
  have HL : Hid (bdP l) := hl
  have HR0 : Hid (RowS B w g 5 cap l) := hr
  clear hl hr
  go_enter Try.func51, Try.ntmps51
  go_wp2
  go_loopw [2] (fun n wr => ∃ k : Nat, k ≤ 3 ∧ n = .int .i64 (k : Int) ∧ Hid (w.grownBy wr (some g)) ∧ Hid (RowS B wr g 5 cap (carN k l)))
    (fun n _ => 3 - (intOf n).toNat)
  case atStart => exact ⟨0, Nat.zero_le _, rfl, World.grownBy.refl _ _, HR0⟩
  case round =>
    clear HR0
    obtain ⟨n, hn, rfl, HG, HR⟩ := hrel
    by_cases hlt3 : n < 3
    · have hn3 : (n : Int) < 3 := by omega
      have HM : Hid (bdP (carN n l)) := carN_bd HL.out n
      have HNX : Hid (carN (n + 1) l = carP (carN n l)) := rfl
      generalize carN n l = m at HM HNX HR
      have hm5 : m.length = 5 := HM.out.1
      go_wp2
      go_loopw [3] (fun i wr => ∃ k : Nat, k ≤ 5 ∧ i = .int .i64 (k : Int) ∧ Hid (w.grownBy wr (some g)) ∧ Hid (RowS B wr g 5 cap (stP m k)))
        (fun i _ => 5 - (intOf i).toNat)
      case atStart => exact ⟨0, Nat.zero_le _, rfl, HG, by show RowS _ _ _ _ _ _; rw [stP_start hm5]; exact HR.out⟩
      case round =>
        clear HG HR
        obtain ⟨k, hk, rfl, HG, HR⟩ := hrel
        by_cases hlt : k < 5
        · have hst : stP m k = sk m k := if_pos hlt
          rw [hst] at HR
          have hi0 : (0 : Int) ≤ (k : Int) := by omega
          have hi1 : (k : Int) < 5 := by omega
          have c1 := HR.out.cell hlt
          have z1 := HR.out.froz k
          have hb := sk_bd HM.out hlt
          generalize hy : (sk m k).getD k 0 = y at c1 hb
          have ha1 := and26i y
          have HR2 : Hid (RowS B (wr.setCell ⟨g, k, none⟩ (.int .i64 (y % 67108864))) g 5 cap ((sk m k).set k (y % 67108864))) := HR.out.set k _
          have HG2 : Hid (w.grownBy (wr.setCell ⟨g, k, none⟩ (.int .i64 (y % 67108864))) (some g)) := gb_set HG.out _ _
          by_cases h4 : k < 4
          · have hn2 := sk_next hm5 h4 y hy
            have c2 := HR2.out.cell (i := k + 1) (by omega)
            rw [getD_set_other _ (by omega), sk_after hm5 hlt] at c2
            have z2 := HR2.out.froz (k + 1)
            have hx := bd_at HM.out (k + 1)
            generalize m.getD (k + 1) 0 = x at c2 hx hn2
            have hst2 : stP m (k + 1) = sk m (k + 1) := if_pos (by omega)
            have hw1 : IntKind.i64.wrap ((k : Int) + 1) = ((k + 1 : Nat) : Int) := by rw [IntKind.wrap_i64]; omega
            have hi2 : (0 : Int) ≤ ((k + 1 : Nat) : Int) := by omega
            have hi3 : ((k + 1 : Nat) : Int) < 5 := by omega
            have ht : (((k + 1 : Nat) : Int)).toNat = k + 1 := by omega
            have hw2 : IntKind.i64.wrap (x + y / 67108864) = x + y / 67108864 := by rw [IntKind.wrap_i64]; omega
            have h4i : (k : Int) < 4 := by omega
            have HR3 : Hid (RowS B ((wr.setCell ⟨g, k, none⟩ (.int .i64 (y % 67108864))).setCell ⟨g, k + 1, none⟩ (.int .i64 (x + y / 67108864))) g 5 cap (stP m (k + 1))) := by
              show RowS _ _ _ _ _ _
              rw [hst2, ← hn2]; exact HR2.out.set (k + 1) _
            have HG3 : Hid (w.grownBy ((wr.setCell ⟨g, k, none⟩ (.int .i64 (y % 67108864))).setCell ⟨g, k + 1, none⟩ (.int .i64 (x + y / 67108864))) (some g)) := gb_set HG2.out _ _
            clear hn2 hst2 hx hb hy hst HR HG HR2 HG2
            go_wp2
            go_region_with (go_at_call 43; refine Calls.mono (HS.out _) ?_; rintro e wq ⟨rfl, rfl⟩)
            all_goals
              go_wp2
              go_roundw
              case rel => exact ⟨k + 1, by omega, by go_num, gb_trans HG3.out (gb_drew _ _), RowS.drew HR3.out⟩
              case measure => simp [intOf]; omega
          · obtain rfl : k = 4 := by omega
            have he := sk_end hm5 y hy
            have hl2 : (lcar pb 0 m).1.length = 5 := lcar_len 0 hm5
            have hst2 : stP m (4 + 1) = carP m := if_neg (by omega)
            have hq : carP m = addP (5 * (lcar pb 0 m).2) (lcar pb 0 m).1 := rfl
            rw [← addP_set _ hl2, ← he.1, ← he.2] at hq
            have c2 := HR2.out.cell (i := 0) (by omega)
            have z2 := HR2.out.froz 0
            have hx := bd_at HM.out 0
            have hx0 : 0 ≤ ((sk m 4).set 4 (y % 67108864)).getD 0 0 ∧ ((sk m 4).set 4 (y % 67108864)).getD 0 0 < 67108864 := by
              rw [he.1]
              exact lok_le (by decide) (lcar_ok (bs := pb) 0 pb_pos hm5) _ (by rw [List.getD_eq_getElem?_getD, List.getElem?_eq_getElem (by omega)]; exact List.getElem_mem _)
            generalize ((sk m 4).set 4 (y % 67108864)).getD 0 0 = x at c2 hx0 hq
            have hw1 : IntKind.i64.wrap (5 * (y / 67108864)) = 5 * (y / 67108864) := by rw [IntKind.wrap_i64]; omega
            have hw2 : IntKind.i64.wrap (x + 5 * (y / 67108864)) = x + 5 * (y / 67108864) := by rw [IntKind.wrap_i64]; omega
            have HR3 : Hid (RowS B ((wr.setCell ⟨g, 4, none⟩ (.int .i64 (y % 67108864))).setCell ⟨g, 0, none⟩ (.int .i64 (x + 5 * (y / 67108864)))) g 5 cap (stP m (4 + 1))) := by
              show RowS _ _ _ _ _ _
              rw [hst2, hq]; exact HR2.out.set 0 _
            have HG3 : Hid (w.grownBy ((wr.setCell ⟨g, 4, none⟩ (.int .i64 (y % 67108864))).setCell ⟨g, 0, none⟩ (.int .i64 (x + 5 * (y / 67108864)))) (some g)) := gb_set HG2.out _ _
            clear hst2 hx hb hy hst HR HG HR2 HG2 he hq hl2 hx0
            go_wp2
            go_region_with (go_at_call 43; refine Calls.mono (HS.out _) ?_; rintro e wq ⟨rfl, rfl⟩)
            all_goals
              go_wp2
              go_roundw
              case rel => exact ⟨5, by omega, by go_num, gb_trans HG3.out (gb_drew _ _), RowS.drew HR3.out⟩
              case measure => simp [intOf]
        · obtain rfl : k = 5 := by omega
          have hst : stP m 5 = carP m := if_neg (by omega)
          rw [hst] at HR
          go_wp2
          go_roundw
          case rel => exact ⟨n + 1, by omega, by go_num, HG, by show RowS _ _ _ _ _ _; rw [HNX.out]; exact HR.out⟩
          case measure => simp [intOf]; omega
    · obtain rfl : n = 3 := by omega
      go_wp2
      refine bodyPost_end (results_none rfl _ _ _) rfl ?_
      exact ⟨rfl, HR.out, HG.out⟩
end Go.Proofs.Ytopdjfgomclffaa
