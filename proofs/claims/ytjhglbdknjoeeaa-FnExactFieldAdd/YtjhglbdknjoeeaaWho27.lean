/- The specification's numbers of a curve (chapter 27): l27Whole. -/
import Derived.Test.YtjhglbdknjoeeaaScar27
import Derived.Test.YtjhglbdknjoeeaaLes27
import Derived.Test.YtjhglbdknjoeeaaNum27
import Derived.Laws.OwnMore
import Derived.Laws.MakeOwn
import Derived.Deep.QuietTactic
import Derived.BigQuiet
import Derived.WalkKit
import Derived.WalkLawsBesides
import Derived.WalkSpells
import Derived.BigRegion
import Derived.Laws.ShiftsVar
import Derived.Lib.Strings
import Derived.Below
import Derived.OwnWalk
import Derived.PlainAid
import Derived.Great.Walk
namespace Go.Proofs.Ytjhglbdknjoeeaa
open Go.RowKit Go.PlainAid
set_option maxRecDepth 20000
set_option linter.unusedVariables false
set_option linter.unusedSimpArgs false
set_option maxHeartbeats 1600000 in
theorem swhole_any (a : Option Addr) (ca : Nat) (l : List Int) (w : World) (hl : l.length = 16) (ra : RowI w.heap.size w a l) (bl : within (-LIM) LIM l) :
    Calls Try.prog 67 #[.slice a 16 ca] w fun e w' => ∃ v, e = .returned (.agg #[v]) ∧ OwnInt w.heap.size w' v (canon (v16 l)) ∧ Below w.heap.size w w' := by
  obtain ⟨i0, hi, hz0, hz1, hz2⟩ := info_parts infoIntS
  obtain ⟨b, off, rfl⟩ := ra.addr (show 0 < l.length by omega)
  have HBL : Hid (within (-LIM) LIM l) := bl
  clear bl
  go_enter Try.func67, Try.ntmps67
  go_upto_region 1 with fail
  have hB0 : Below w.heap.size w (w.alloc (.cells #[.slice none 0 0] 26)) := (Below.refl _ _).alloc (Nat.le_refl _) _
  have hA0 := heap_alloc_new w (.cells #[.slice none 0 0] 26)
  generalize w.alloc (.cells #[.slice none 0 0] 26) = w0 at hB0 hA0 ⊢
  have hs0 : w.heap.size < w0.heap.size := (Array.getElem?_eq_some_iff.1 hA0).1
  have RA : Hid (RowI w0.heap.size w0 (some ⟨b, off, none⟩) l) := ra.grown hB0
  clear ra
  have HBC : Hid (Below w0.heap.size w0 (w0.alloc (.cells #[] 3))) := (Below.refl _ _).alloc (Nat.le_refl _) _
  have HOC : Hid (OwnInt w0.heap.size (w0.alloc (.cells #[] 3)) (.slice (some ⟨w0.heap.size, 0, none⟩) 0 0) []) := World.ownsRow_made _ _ _ (Nat.le_refl _) (by decide) rfl
  have HA0 : Hid (w0.heap[w.heap.size]? = some (.cells #[.slice none 0 0] 26 (0, 0))) := hA0
  have HB0 : Hid (Below w.heap.size w w0) := hB0
  clear hA0 hB0
  go_wp2_with (at_builtin; refine wpList_append_own _ rfl _ _ 24 rfl w0.heap.size 3 i0 (.int .i64 0) 1 8 Try.underlying24 hi hz0 hz1 hz2 rfl (by decide) _ 0 _ rfl HOC.out ⟨b, off, none⟩ 16 ca (l.map (Value.int .i64)) rfl (by simp [hl]) ?c1 ?c2 ?c3 ?c4 ?c5 ?_)
  case c1 => exact RA.out.adds_later HBC.out
  case c2 => intro u hu; obtain ⟨x, _, rfl⟩ := List.mem_map.1 hu; rfl
  case c3 => unfold maxLen; omega
  case c4 => omega
  case c5 => simp
  intro v' w2 hown' hgrow _
  have ho : OwnInt w0.heap.size w2 v' l := by unfold OwnInt; rw [hl]; simpa using hown'
  have hb2 : Below w0.heap.size w0 w2 := HBC.out.grown hgrow (by simp) (fun k hk => by simp [Value.ownBlock] at hk; omega)
  obtain ⟨g0, cap0, rfl, hrs⟩ := ho.rowS (by omega)
  rw [hl] at hrs ⊢
  have HR0 : Hid (RowS w0.heap.size w2 g0 16 cap0 (scarN l 0)) := hrs
  have HB2 : Hid (Below w.heap.size w w2) := HB0.out.trans (hb2.mono HB0.out.size)
  have HA2 : Hid (w2.heap[w.heap.size]? = some (.cells #[.slice none 0 0] 26 (0, 0))) := (hb2.block _ hs0).trans HA0.out
  clear hown' hgrow ho hb2 hrs HOC HBC RA HA0
  go_wp2
  go_loopw [4] (fun i wr => ∃ k : Nat, k ≤ 3 ∧ i = .int .i64 (k : Int) ∧ Hid (Below w.heap.size w wr) ∧ Hid (wr.heap[w.heap.size]? = some (.cells #[.slice none 0 0] 26 (0, 0))) ∧ Hid (RowS w0.heap.size wr g0 16 cap0 (scarN l k)))
    (fun i _ => 3 - (intOf i).toNat)
  case atStart => exact ⟨0, Nat.zero_le _, rfl, HB2, HA2, HR0⟩
  case round =>
    clear HB2 HA2 HR0
    obtain ⟨k, hk, rfl, HB, HA, HR⟩ := hrel
    by_cases hlt : k < 3
    · have hi1 : (k : Int) < 3 := by omega
      have HC : Hid _ := scarry_any w0.heap.size g0 cap0 (scarN l k) wr HR.out (scarN_in hl HBL.out k)
      go_wp2_with fail
      refine Calls.mono HC.out ?_
      rintro e w3 ⟨rfl, hr3, hg3⟩
      have hgl := HR.out.lt
      have HB3 : Hid (Below w.heap.size w w3) := below_gb HB.out HB.out.size hg3 (by omega)
      have HA3 : Hid (w3.heap[w.heap.size]? = some (.cells #[.slice none 0 0] 26 (0, 0))) := (hg3.block _ (Array.getElem?_eq_some_iff.1 HA.out).1 (by simp; omega)).trans HA.out
      have HR3 : Hid (RowS w0.heap.size w3 g0 16 cap0 (scarN l (k + 1))) := hr3
      clear HC hr3 hg3 HB HA HR
      go_wp2
      go_roundw
      case rel => exact ⟨k + 1, by omega, by go_num, HB3, HA3, HR3⟩
      case measure => simp [intOf]; omega
    · obtain rfl : k = 3 := by omega
      rw [show ((3 : Nat) : Int) = 3 from rfl]
      have hok : lok b16 (scarN l 3) := three_turns hl HBL.out
      have HW : Hid (lessN (scarN l 3) 2 = canon (v16 l)) := whole_is hl HBL.out
      generalize scarN l 3 = T at HR hok HW
      go_wp2
      go_loopw [3, 5] (fun v i wr => ∃ (k g cap : Nat), k ≤ 2 ∧ i = .int .i64 (k : Int) ∧ v = .slice (some ⟨g, 0, none⟩) 16 cap ∧ Hid (Below w.heap.size w wr) ∧ Hid (wr.heap[w.heap.size]? = some (.cells #[.slice none 0 0] 26 (0, 0))) ∧ Hid (RowS w0.heap.size wr g 16 cap (lessN T k)))
        (fun _ i _ => 2 - (intOf i).toNat)
      case atStart => exact ⟨0, g0, cap0, Nat.zero_le _, rfl, rfl, HB, HA, HR⟩
      case round =>
        clear HB HA HR
        obtain ⟨k, g, cap, hk, rfl, rfl, HB, HA, HR⟩ := hrel
        by_cases hlt : k < 2
        · have hi1 : (k : Int) < 2 := by omega
          have hokk := lessN_ok hok k
          have HC : Hid _ := sless_any (some ⟨g, 0, none⟩) cap (lessN T k) wr (lok_len hokk) HR.out.row (lok16_in hokk)
          have hN : lessN T (k + 1) = if raw (lessN T k) 15 < 0 then lessN T k else less (lessN T k) := rfl
          have hs0' := HB.out.size
          have hw0 : w0.heap.size ≤ wr.heap.size := Nat.le_trans HR.out.lt.1 (Nat.le_of_lt HR.out.lt.2)
          by_cases hneg : raw (lessN T k) 15 < 0
          · rw [decide_eq_true hneg] at HC
            rw [if_pos hneg] at hN
            clear hneg
            go_wp2_with fail
            refine Calls.mono HC.out ?_
            rintro e w3 ⟨g2, cap2, rfl, hr3, hb3⟩
            have HB3 : Hid (Below w.heap.size w w3) := HB.out.trans (hb3.mono HB.out.size)
            have HA3 : Hid (w3.heap[w.heap.size]? = some (.cells #[.slice none 0 0] 26 (0, 0))) := (hb3.block _ (Array.getElem?_eq_some_iff.1 HA.out).1).trans HA.out
            have HR3 : Hid (RowS w0.heap.size w3 g 16 cap (lessN T (k + 1))) := by show RowS _ _ _ _ _ _; rw [hN]; exact HR.out.next hb3
            clear HC hr3 hb3 HB HA HR hN
            go_wp2
            go_roundw
            case rel => exact ⟨k + 1, _, _, by omega, by go_num, rfl, HB3, HA3, HR3⟩
            case measure => simp [intOf]; omega
          · rw [decide_eq_false hneg] at HC
            rw [if_neg hneg] at hN
            clear hneg
            go_wp2_with fail
            refine Calls.mono HC.out ?_
            rintro e w3 ⟨g2, cap2, rfl, hr3, hb3⟩
            have HB3 : Hid (Below w.heap.size w w3) := HB.out.trans (hb3.mono HB.out.size)
            have HA3 : Hid (w3.heap[w.heap.size]? = some (.cells #[.slice none 0 0] 26 (0, 0))) := (hb3.block _ (Array.getElem?_eq_some_iff.1 HA.out).1).trans HA.out
            have HR3 : Hid (RowS w0.heap.size w3 g2 16 cap2 (lessN T (k + 1))) := by show RowS _ _ _ _ _ _; rw [hN]; exact hr3.base hw0
            clear HC hr3 hb3 HB HA HR hN
            go_wp2
            go_roundw
            case rel => exact ⟨k + 1, _, _, by omega, by go_num, rfl, HB3, HA3, HR3⟩
            case measure => simp [intOf]; omega
        · obtain rfl : k = 2 := by omega
          rw [HW.out] at HR
          have hgl := HR.out.lt
          have hs1 := HB.out.size
          have r0 : wr.cell? ⟨w.heap.size, 0, none⟩ = some (.slice none 0 0) := by rw [cell_of_row wr _ 0 _ _ _ HA.out]; rfl
          have r1 : wr.frozen? ⟨w.heap.size, 0, none⟩ = false := frozen_of_row wr _ 0 _ _ HA.out
          have HBF : Hid (Below w.heap.size w (wr.setCell ⟨w.heap.size, 0, none⟩ (.slice (some ⟨g, 0, none⟩) 16 cap))) := HB.out.setCell (Nat.le_refl _) _
          have HOF : Hid (OwnInt w.heap.size (wr.setCell ⟨w.heap.size, 0, none⟩ (.slice (some ⟨g, 0, none⟩) 16 cap)) (.slice (some ⟨g, 0, none⟩) 16 cap) (canon (v16 l))) := ((HR.out.other _ (by omega)).base (by omega)).own
          have HRF : Hid ((wr.setCell ⟨w.heap.size, 0, none⟩ (.slice (some ⟨g, 0, none⟩) 16 cap)).heap[w.heap.size]? = some (.cells #[.slice (some ⟨g, 0, none⟩) 16 cap] 26 (0, 0))) := by show _ = _; rw [heap_setCell_same wr w.heap.size 0 _ _ _ HA.out]; rfl
          clear HB HA HR
          go_wp2
          refine bodyPost_ret (results_cell_row rfl _ _ w.heap.size 26 #[.slice (some ⟨g, 0, none⟩) 16 cap] (0, 0) _ rfl ?_ Try.underlying26 rfl (sizeField1 _)) rfl ?_
          · exact HRF.out
          · exact ⟨_, rfl, HOF.out, HBF.out⟩
end Go.Proofs.Ytjhglbdknjoeeaa
