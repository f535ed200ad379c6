/- The specification's numbers of a tag (chapter 25): LimbsOk. -/
import Derived.Test.YtopdjfgomclffaaSca25
import Derived.Test.YtopdjfgomclffaaNum25
import Derived.Test.YtopdjfgomclffaaIn01
import Derived.WalkKit
import Derived.WalkLawsBesides
import Derived.WalkSpells
import Derived.BigRegion
import Derived.Laws.ShiftsVar
import Derived.Below
import Derived.OwnWalk
import Derived.PlainAid
import Derived.Deep.RegionWith
import Derived.Great.Walk
namespace Go.Proofs.Ytopdjfgomclffaa
open Go.RowKit Go.PlainAid
set_option maxRecDepth 20000
set_option linter.unusedVariables false
set_option linter.unusedSimpArgs false
set_option maxHeartbeats 1600000 in
theorem specLimbsOk_any (a : Option Addr) (ca : Nat) (l : List Int) (w : World) (hr : RowI w.heap.size w a l) (hm : l.length ≤ 1048576) :
    Calls Try.prog 21 #[.agg #[.slice a l.length ca]] w fun e w' => e = .returned (.bool (okP l)) ∧ Below w.heap.size w w' := by
  have hB0 : Below w.heap.size w (w.alloc (.cells #[.slice a l.length ca] 26)) := (Below.refl _ _).alloc (Nat.le_refl _) _
  have hA0 := heap_alloc_new w (.cells #[.slice a l.length ca] 26)
  have hr0 := hr.grown hB0
  by_cases hl : l.length = 5
  · rw [hl] at hB0 hA0 hr0 ⊢
    have HS : Hid (∀ wz, Calls Try.prog 43 #[] wz fun e w' => e = .returned (.int .i64 67108863) ∧ wz = w') := fun wz => small_any wz
    go_enter Try.func21, Try.ntmps21
    go_upto_region 1 with fail
    generalize w.alloc (.cells #[.slice a 5 ca] 26) = w0 at hB0 hA0 hr0 ⊢
    have HR : Hid (RowI w0.heap.size w0 a l) := hr0
    have HB : Hid (Below w.heap.size w w0) := hB0
    have hs0 : w.heap.size < w0.heap.size := (Array.getElem?_eq_some_iff.1 hA0).1
    obtain ⟨b, off, rfl⟩ := HR.out.addr (show 0 < l.length by omega)
    have a0 : w0.cell? ⟨w.heap.size, 0, none⟩ = some (.slice (some ⟨b, off, none⟩) 5 ca) := by rw [cell_of_row w0 _ 0 _ _ _ hA0]; rfl
    have HA : Hid (w0.cell? ⟨w.heap.size, 0, none⟩ = some (.slice (some ⟨b, off, none⟩) 5 ca)) := a0
    clear hr hr0 hB0 hA0
    go_wp2
    clear a0
    go_loopw [3] (fun i wr => ∃ k : Nat, k ≤ 5 ∧ i = .int .i64 (k : Int) ∧ Hid (∀ j, j < k → 0 ≤ l.getD j 0 ∧ l.getD j 0 ≤ 67108863) ∧ Hid (Below w0.heap.size w0 wr))
      (fun i _ => 5 - (intOf i).toNat)
    case atStart => exact ⟨0, Nat.zero_le _, rfl, fun j hj => absurd hj (by omega), Below.refl _ _⟩
    case round =>
      obtain ⟨k, hk, rfl, HJ, HW⟩ := hrel
      have a1 := (HW.out.cell (p := ⟨w.heap.size, 0, none⟩) hs0).trans HA.out
      by_cases hlt : k < 5
      · have hi0 : (0 : Int) ≤ (k : Int) := by omega
        have hi1 : (k : Int) < 5 := by omega
        have c1 := (HR.out.at HW.out (show k < l.length by omega)).2
        by_cases hin : 0 ≤ l.getD k 0 ∧ l.getD k 0 ≤ 67108863
        · have HC : Hid (∀ wz, _) := fun wz => specInN_yes (l.getD k 0) 0 67108863 wz hin
          have HJ2 : Hid (∀ j, j < k + 1 → 0 ≤ l.getD j 0 ∧ l.getD j 0 ≤ 67108863) := fun j hj => by
            by_cases e : j = k
            · subst e; exact hin
            · exact HJ.out j (by omega)
          clear hin HJ
          generalize l.getD k 0 = x at c1 HC
          go_wp2
          go_region_with (first | (go_at_call 43; refine Calls.mono (HS.out _) ?_; rintro e wq ⟨rfl, rfl⟩) | (go_at_call 42; refine Calls.mono (HC.out _) ?_; rintro e wq ⟨rfl, rfl⟩))
          all_goals
            go_wp2
            go_roundw
            case rel => exact ⟨k + 1, by omega, by go_num, HJ2, HW.out.drew⟩
            case measure => simp [intOf]; omega
        · have hok : okP l = false := okP_bad (k := k) (by omega) hin
          have HOK : Hid (okP l = false) := hok
          have HC : Hid (∀ wz, _) := fun wz => specInN_no (l.getD k 0) 0 67108863 wz hin
          clear hin HJ hok
          generalize l.getD k 0 = x at c1 HC
          go_wp2
          go_region_with (first | (go_at_call 43; refine Calls.mono (HS.out _) ?_; rintro e wq ⟨rfl, rfl⟩) | (go_at_call 42; refine Calls.mono (HC.out _) ?_; rintro e wq ⟨rfl, rfl⟩))
          all_goals
            go_wp2
            go_ret
            exact ⟨by rw [HOK.out]; rfl, HB.out.trans (HW.out.drew.mono HB.out.size)⟩
      · obtain rfl : k = 5 := by omega
        have hall : ∀ x ∈ l, 0 ≤ x ∧ x ≤ 67108863 := fun x hx => by
          obtain ⟨j, hj, rfl⟩ := List.getElem_of_mem hx
          have := HJ.out j (by omega)
          rw [List.getD_eq_getElem?_getD, List.getElem?_eq_getElem hj] at this
          exact this
        have HOK : Hid (okP l = !abP l) := by
          show _ = _
          unfold okP
          rw [hl, show (l.all fun x => decide (0 ≤ x ∧ x ≤ 67108863)) = true from List.all_eq_true.2 (fun x hx => decide_eq_true (hall x hx))]
          simp
        have HC : Hid _ := above_any (some ⟨b, off, none⟩) ca l wr hl (HR.out.grown HW.out)
        clear HJ hall
        generalize abP l = q at HC HOK
        go_wp2_with fail
        refine Calls.mono HC.out ?_
        rintro e w1 ⟨rfl, hb1⟩
        have HB1 : Hid (Below w.heap.size w w1) := (HB.out.trans (HW.out.mono HB.out.size)).trans (hb1.mono (HB.out.trans (HW.out.mono HB.out.size)).size)
        clear HC hb1
        go_wp2
        go_ret
        exact ⟨by rw [HOK.out]; rfl, HB1.out⟩
  · have hq : ((l.length : Int) != 5) = true := by simp; omega
    have hok : okP l = false := by
      cases h : okP l with
      | false => rfl
      | true => exact absurd (okP_len h) hl
    go_enter Try.func21, Try.ntmps21
    go_wp2
    go_ret
    exact ⟨by rw [hok]; rfl, hB0⟩
end Go.Proofs.Ytopdjfgomclffaa
