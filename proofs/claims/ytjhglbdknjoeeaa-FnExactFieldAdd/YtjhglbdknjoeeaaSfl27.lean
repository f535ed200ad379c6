/- The specification's numbers of a curve (chapter 27): FieldOk. -/
import Derived.Test.YtjhglbdknjoeeaaLes27
import Derived.Test.YtjhglbdknjoeeaaNum27
import Derived.Test.YtjhglbdknjoeeaaIn01
import Derived.Laws.OwnMore
import Derived.Laws.MakeOwn
import Derived.Deep.QuietTactic
import Derived.BigQuiet
import Derived.WalkKit
import Derived.WalkLawsBesides
import Derived.WalkSpells
import Derived.BigRegion
import Derived.Laws.ShiftsVar
import Derived.Lib.Strings
import Derived.Below
import Derived.OwnWalk
import Derived.PlainAid
import Derived.Great.Walk
namespace Go.Proofs.Ytjhglbdknjoeeaa
open Go.RowKit Go.PlainAid
set_option maxRecDepth 20000
set_option linter.unusedVariables false
set_option linter.unusedSimpArgs false
theorem okF_in {l : List Int} (h : okF l = true) : within 0 65535 l := by
  unfold okF at h
  rw [of_decide_eq_true h]; exact within_lok (canon_ok _)
set_option maxHeartbeats 1600000 in
theorem specFieldOk_any (a : Option Addr) (ca : Nat) (l : List Int) (w : World) (hr : RowI w.heap.size w a l) (hm : l.length ≤ 1048576) :
    Calls Try.prog 33 #[.agg #[.slice a l.length ca]] w fun e w' => e = .returned (.bool (okF l)) ∧ Below w.heap.size w w' := by
  have hB0 : Below w.heap.size w (w.alloc (.cells #[.slice a l.length ca] 26)) := (Below.refl _ _).alloc (Nat.le_refl _) _
  have hA0 := heap_alloc_new w (.cells #[.slice a l.length ca] 26)
  have hr0 := hr.grown hB0
  by_cases hl : l.length = 16
  · have hq : ((l.length : Int) != 16) = false := by rw [hl]; rfl
    clear hq
    rw [hl] at hB0 hA0 hr0 ⊢
    go_enter Try.func33, Try.ntmps33
    go_upto_region 1 with fail
    generalize w.alloc (.cells #[.slice a 16 ca] 26) = w0 at hB0 hA0 hr0 ⊢
    have HA : Hid (w0.heap[w.heap.size]? = some (.cells #[.slice a 16 ca] 26 (0, 0))) := hA0
    have HR : Hid (RowI w0.heap.size w0 a l) := hr0
    have HB : Hid (Below w.heap.size w w0) := hB0
    clear hA0 hr0 hB0
    have hs0 : w.heap.size < w0.heap.size := (Array.getElem?_eq_some_iff.1 HA.out).1
    obtain ⟨b, off, rfl⟩ := HR.out.addr (show 0 < l.length by omega)
    have a0 : w0.cell? ⟨w.heap.size, 0, none⟩ = some (.slice (some ⟨b, off, none⟩) 16 ca) := by rw [cell_of_row w0 _ 0 _ _ _ HA.out]; rfl
    clear hr
    go_wp2
    go_loop [3] (fun i => ∃ k : Nat, k ≤ 16 ∧ i = .int .i64 (k : Int) ∧ Hid (∀ j, j < k → 0 ≤ l.getD j 0 ∧ l.getD j 0 ≤ 65535))
      (fun i => 16 - (intOf i).toNat)
    case atStart => exact ⟨0, Nat.zero_le _, rfl, fun j hj => absurd hj (by omega)⟩
    case round =>
      obtain ⟨k, hk, rfl, HJ⟩ := hrel
      by_cases hlt : k < 16
      · have hi0 : (0 : Int) ≤ (k : Int) := by omega
        have hi1 : (k : Int) < 16 := by omega
        have c1 := (HR.out.at (Below.refl _ _) (show k < l.length by omega)).2
        by_cases hin : 0 ≤ l.getD k 0 ∧ l.getD k 0 ≤ 65535
        · have HC : Hid _ := specInN_yes (l.getD k 0) 0 65535 w0 hin
          have HJ2 : Hid (∀ j, j < k + 1 → 0 ≤ l.getD j 0 ∧ l.getD j 0 ≤ 65535) := fun j hj => by
            by_cases e : j = k
            · subst e; exact hin
            · exact HJ.out j (by omega)
          clear hin HJ
          generalize l.getD k 0 = x at c1 HC
          go_wp2_with fail
          refine Calls.mono HC.out ?_
          rintro e w1 ⟨rfl, rfl⟩
          clear HC
          go_wp2
          go_round
          case rel => exact ⟨k + 1, by omega, by go_num, HJ2⟩
          case measure => simp [intOf]; omega
        · have hok : okF l = false := by
            cases h : okF l with
            | false => rfl
            | true => exact absurd (okF_in h k (by omega)) hin
          have HC : Hid _ := specInN_no (l.getD k 0) 0 65535 w0 hin
          clear hin HJ
          generalize l.getD k 0 = x at c1 HC
          go_wp2_with fail
          refine Calls.mono HC.out ?_
          rintro e w1 ⟨rfl, rfl⟩
          clear HC
          go_wp2
          go_ret
          exact ⟨by rw [hok]; rfl, HB.out⟩
      · obtain rfl : k = 16 := by omega
        have hw : within 0 65535 l := fun j hj => HJ.out j (by omega)
        have hok : okF l = decide (raw l 15 < 0) := okF_spec hw hl
        have HC : Hid _ := sless_any (some ⟨b, off, none⟩) ca l w0 hl HR.out hw
        clear HJ hw
        rw [← hok] at HC
        have HK : Hid (okF l = okF l) := rfl
        clear hok
        go_wp2_with fail
        refine Calls.mono HC.out ?_
        rintro e w1 ⟨g, cap, rfl, hr1, hb1⟩
        have HB1 : Hid (Below w.heap.size w w1) := HB.out.trans (hb1.mono HB.out.size)
        clear HC hr1 hb1
        go_wp2
        go_ret
        exact ⟨rfl, HB1.out⟩
  · have hq : ((l.length : Int) != 16) = true := by simp; omega
    have hok : okF l = false := by
      cases h : okF l with
      | false => rfl
      | true => exact absurd (okF_len h) hl
    go_enter Try.func33, Try.ntmps33
    go_wp2
    go_ret
    exact ⟨by rw [hok]; rfl, hB0⟩
end Go.Proofs.Ytjhglbdknjoeeaa
