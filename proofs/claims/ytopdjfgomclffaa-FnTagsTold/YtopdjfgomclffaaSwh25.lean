/- The specification's numbers of a tag (chapter 25): l25Whole. -/
import Derived.Test.YtopdjfgomclffaaSca25
import Derived.Test.YtopdjfgomclffaaLok25
import Derived.WalkKit
import Derived.WalkLawsBesides
import Derived.WalkSpells
import Derived.BigRegion
import Derived.Laws.ShiftsVar
import Derived.Below
import Derived.OwnWalk
import Derived.PlainAid
import Derived.Deep.RegionWith
import Derived.Great.Walk
namespace Go.Proofs.Ytopdjfgomclffaa
open Go.RowKit Go.PlainAid
set_option maxRecDepth 20000
set_option linter.unusedVariables false
set_option linter.unusedSimpArgs false
theorem gb_block {w w' : World} {g k : Nat} {o : Obj} (h : w.grownBy w' (some g)) (hk : w.heap[k]? = some o) (hne : k ≠ g) : w'.heap[k]? = some o :=
  (h.block k (Array.getElem?_eq_some_iff.1 hk).1 (by simpa using hne)).trans hk
theorem carN_mod {l : List Int} (h : bdP l) : lval pb (carN 3 l) % pp = lval pb l % pp := by
  show lval pb (carP (carP (carP l))) % pp = _
  rw [carP_mod (carP_len (carP_len h.1)), carP_mod (carP_len h.1), carP_mod h.1]
set_option maxHeartbeats 3200000 in
theorem swhole_any (B g cap : Nat) (l : List Int) (w : World) (hl : bdP l) (hr : RowS B w g 5 cap l) :
    Calls Try.prog 36 #[.slice (some ⟨g, 0, none⟩) 5 cap] w fun e w' => e = .returned (.agg #[.slice (some ⟨g, 0, none⟩) 5 cap]) ∧ RowS B w' g 5 cap (canonP (lval pb l)) ∧ w.grownBy w' (some g) := by
  have HS : Hid (∀ wz, Calls Try.prog 43 #[] wz fun e w' => e = .returned (.int .i64 67108863) ∧ wz = w') := fun wz => small_any wz
  have hgl := hr.lt
  have hC := heap_alloc_new w (.cells #[.slice none 0 0] 26)
  have hb0 : Below w.heap.size w (w.alloc (.cells #[.slice none 0 0] 26)) := (Below.refl _ _).alloc (Nat.le_refl _) _
  have hr0 := hr.next hb0
  have hG0 := gb_below hb0 (some g)
  go_enter Try.func36, Try.ntmps36
  go_upto_region 1 with fail
  generalize w.alloc (.cells #[.slice none 0 0] 26) = w0 at hC hb0 hr0 hG0 ⊢
  clear hb0 hr
  go_wp2_with fail
  refine Calls.mono (scarry_any B g cap l w0 hl hr0) ?_
  rintro e w1 ⟨rfl, hr1, hg1⟩
  have hC1 := gb_block hg1 hC (by omega)
  have hG1 := gb_trans hG0 hg1
  have hlok : lok pb (carN 3 l) := three hl
  have hcan : canonP (lval pb (carN 3 l)) = canonP (lval pb l) := canonP_mod (carN_mod hl)
  have hc5 : (carN 3 l).length = 5 := lok_len hlok
  have HCAN : Hid (canonP (lval pb (carN 3 l)) = canonP (lval pb l)) := hcan
  clear hC hr0 hG0 hg1 hcan
  generalize carN 3 l = c at hr1 hlok hc5 HCAN
  go_wp2_with fail
  refine Calls.mono (above_any (some ⟨g, 0, none⟩) cap c w1 hc5 hr1.row) ?_
  rintro e w2 ⟨rfl, hb⟩
  have hr2 := hr1.next hb
  have hG2 := gb_trans hG1 (gb_below hb (some g))
  have hC2 := gb_block (gb_below hb (some g)) hC1 (by omega)
  have hgC : w.heap.size ≠ g := by omega
  clear hC1 hr1 hG1 hb
  have HR : Hid (RowS B w2 g 5 cap c) := hr2
  have HG : Hid (w.grownBy w2 (some g)) := hG2
  have HCC : Hid (w2.heap[w.heap.size]? = some (.cells #[.slice none 0 0] 26 (0, 0))) := hC2
  clear hr2 hG2 hC2
  have END : Hid (∀ (wz : World) (r : List Int), RowS B wz g 5 cap r → w.grownBy wz (some g) → wz.heap[w.heap.size]? = some (.cells #[.slice none 0 0] 26 (0, 0)) → r = canonP (lval pb l) →
      RowS B (wz.setCell ⟨w.heap.size, 0, none⟩ (.slice (some ⟨g, 0, none⟩) 5 cap)) g 5 cap (canonP (lval pb l)) ∧ w.grownBy (wz.setCell ⟨w.heap.size, 0, none⟩ (.slice (some ⟨g, 0, none⟩) 5 cap)) (some g) ∧ (wz.setCell ⟨w.heap.size, 0, none⟩ (.slice (some ⟨g, 0, none⟩) 5 cap)).heap[w.heap.size]? = some (.cells #[.slice (some ⟨g, 0, none⟩) 5 cap] 26 (0, 0)) ∧ wz.cell? ⟨w.heap.size, 0, none⟩ = some (.slice none 0 0) ∧ wz.frozen? ⟨w.heap.size, 0, none⟩ = false) := fun wz r h1 h2 h3 h4 => by
    subst h4
    refine ⟨h1.other _ (Ne.symm hgC), ⟨h2.os, h2.tape, h2.output, by simpa using h2.size, fun k hk hne => (Below.heap_setCell _ _ _ _ (by show k ≠ w.heap.size; omega)).trans (h2.block k hk hne)⟩, ?_, ?_, frozen_of_row wz _ 0 _ _ h3⟩
    · rw [heap_setCell_same wz w.heap.size 0 _ _ _ h3]; rfl
    · rw [cell_of_row wz _ 0 _ _ _ h3]; rfl
  cases hab : abP c with
  | false =>
    have hfin := END.out w2 c HR.out HG.out HCC.out (by rw [← HCAN.out]; exact (abP_no hlok hab).symm)
    obtain ⟨f1, f2, f3, f4, f5⟩ := hfin
    have F1 : Hid _ := f1
    have F2 : Hid _ := f2
    have F3 : Hid _ := f3
    clear f1 f2 f3 hab END HR HG HCC HCAN
    go_wp2
    refine bodyPost_ret (results_cell_row rfl _ _ w.heap.size 26 #[.slice (some ⟨g, 0, none⟩) 5 cap] (0, 0) _ rfl ?_ Try.underlying26 rfl (sizeLimbs1 _)) rfl ?_
    · exact F3.out
    · exact ⟨rfl, F1.out, F2.out⟩
  | true =>
    have HY : Hid (canonP (lval pb l) = [c.getD 0 0 - 67108859, 0, 0, 0, 0]) := HCAN.out.symm.trans (abP_yes hlok hab)
    have c1 := HR.out.cell (i := 0) (by omega)
    have z1 := HR.out.froz 0
    have hx := lok_le (by decide) hlok (c.getD 0 0) (by rw [List.getD_eq_getElem?_getD, List.getElem?_eq_getElem (by omega)]; exact List.getElem_mem _)
    generalize c.getD 0 0 = x at c1 hx HY
    have hw0 : IntKind.i64.wrap 67108859 = 67108859 := by decide
    have hw : IntKind.i64.wrap (x - 67108859) = x - 67108859 := by rw [IntKind.wrap_i64]; omega
    have HR3 : Hid (RowS B (w2.setCell ⟨g, 0, none⟩ (.int .i64 (x - 67108859))) g 5 cap (c.set 0 (x - 67108859))) := HR.out.set 0 _
    have HG3 : Hid (w.grownBy (w2.setCell ⟨g, 0, none⟩ (.int .i64 (x - 67108859))) (some g)) := gb_set HG.out _ _
    have HC3 : Hid ((w2.setCell ⟨g, 0, none⟩ (.int .i64 (x - 67108859))).heap[w.heap.size]? = some (.cells #[.slice none 0 0] 26 (0, 0))) := (Below.heap_setCell _ _ _ _ hgC).trans HCC.out
    have h0 : (c.set 0 (x - 67108859)).getD 0 0 = x - 67108859 := getD_set_same _ (by omega)
    have hs5 : (c.set 0 (x - 67108859)).length = 5 := by rw [List.length_set]; exact hc5
    clear hab HR HG HCC HCAN hx
    generalize c.set 0 (x - 67108859) = r0 at HR3 h0 hs5
    go_wp2
    go_region_with (go_at_call 43; refine Calls.mono (HS.out _) ?_; rintro e wq ⟨rfl, rfl⟩)
    all_goals
      have HR4 : Hid (RowS B (w2.setCell ⟨g, 0, none⟩ (.int .i64 (x - 67108859))).drew g 5 cap r0) := HR3.out.drew
      have HG4 : Hid (w.grownBy (w2.setCell ⟨g, 0, none⟩ (.int .i64 (x - 67108859))).drew (some g)) := gb_trans HG3.out (gb_drew _ _)
      have HC4 : Hid ((w2.setCell ⟨g, 0, none⟩ (.int .i64 (x - 67108859))).drew.heap[w.heap.size]? = some (.cells #[.slice none 0 0] 26 (0, 0))) := HC3.out
      clear HR3 HG3 HC3 c1 z1 hw hw0
      go_wp2
      go_loopw [3] (fun i wr => ∃ (k : Nat) (r : List Int), 1 ≤ k ∧ k ≤ 5 ∧ i = .int .i64 (k : Int) ∧ Hid (w.grownBy wr (some g)) ∧ Hid (RowS B wr g 5 cap r) ∧ Hid (wr.heap[w.heap.size]? = some (.cells #[.slice none 0 0] 26 (0, 0))) ∧ Hid (r.getD 0 0 = x - 67108859) ∧ Hid (∀ j, 1 ≤ j → j < k → r.getD j 0 = 0))
        (fun i _ => 5 - (intOf i).toNat)
      case atStart => exact ⟨1, r0, Nat.le_refl _, by omega, rfl, HG4, HR4, HC4, h0, fun j h1 h2 => by omega⟩
      case round =>
        clear HG4 HR4 HC4 h0
        obtain ⟨k, r, h1, hk, rfl, HG, HR, HC, H0, HZ⟩ := hrel
        by_cases hlt : k < 5
        · have hi0 : (0 : Int) ≤ (k : Int) := by omega
          have hi1 : (k : Int) < 5 := by omega
          have c2 := HR.out.cell hlt
          have z2 := HR.out.froz k
          have HR5 : Hid (RowS B (wr.setCell ⟨g, k, none⟩ (.int .i64 0)) g 5 cap (r.set k 0)) := HR.out.set k 0
          have HG5 : Hid (w.grownBy (wr.setCell ⟨g, k, none⟩ (.int .i64 0)) (some g)) := gb_set HG.out _ _
          have HC5 : Hid ((wr.setCell ⟨g, k, none⟩ (.int .i64 0)).heap[w.heap.size]? = some (.cells #[.slice none 0 0] 26 (0, 0))) := (Below.heap_setCell _ _ _ _ hgC).trans HC.out
          have H05 : Hid ((r.set k 0).getD 0 0 = x - 67108859) := by show _ = _; rw [getD_set_other _ (by omega)]; exact H0.out
          have HZ5 : Hid (∀ j, 1 ≤ j → j < k + 1 → (r.set k 0).getD j 0 = 0) := fun j h1 h2 => by
            by_cases e : k = j
            · subst e; exact getD_set_same _ (by rw [HR.out.len]; exact hlt)
            · rw [getD_set_other _ e]; exact HZ.out j h1 (by omega)
          clear HR HG HC H0 HZ
          go_wp2
          go_roundw
          case rel => exact ⟨k + 1, r.set k 0, by omega, by omega, by go_num, HG5, HR5, HC5, H05, HZ5⟩
          case measure => simp [intOf]; omega
        · obtain rfl : k = 5 := by omega
          have hr : r = canonP (lval pb l) := by
            rw [HY.out]
            obtain ⟨q0, q1, q2, q3, q4, rfl⟩ := five HR.out.len
            have e0 := H0.out
            have e1 := HZ.out 1 (by omega) (by omega); have e2 := HZ.out 2 (by omega) (by omega); have e3 := HZ.out 3 (by omega) (by omega); have e4 := HZ.out 4 (by omega) (by omega)
            simp at e0 e1 e2 e3 e4
            rw [e0, e1, e2, e3, e4]
          have hfin := END.out wr r HR.out HG.out HC.out hr
          obtain ⟨f1, f2, f3, f4, f5⟩ := hfin
          have F1 : Hid _ := f1
          have F2 : Hid _ := f2
          have F3 : Hid _ := f3
          clear f1 f2 f3 END HR HG HC H0 HZ hr
          go_wp2
          refine bodyPost_ret (results_cell_row rfl _ _ w.heap.size 26 #[.slice (some ⟨g, 0, none⟩) 5 cap] (0, 0) _ rfl ?_ Try.underlying26 rfl (sizeLimbs1 _)) rfl ?_
          · exact F3.out
          · exact ⟨rfl, F1.out, F2.out⟩
end Go.Proofs.Ytopdjfgomclffaa
