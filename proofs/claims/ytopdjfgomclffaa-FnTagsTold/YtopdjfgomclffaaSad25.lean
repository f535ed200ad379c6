/- The specification's numbers of a tag (chapter 25): AddLimbs. -/
import Derived.Test.YtopdjfgomclffaaMulQ
import Derived.Test.YtopdjfgomclffaaSwh25
import Derived.Test.YtopdjfgomclffaaSlo25
import Derived.Test.YtopdjfgomclffaaFld25
import Derived.Laws.OwnMore
import Derived.Laws.MakeOwn
import Derived.WalkKit
import Derived.WalkLawsBesides
import Derived.WalkSpells
import Derived.BigRegion
import Derived.Laws.ShiftsVar
import Derived.Below
import Derived.OwnWalk
import Derived.PlainAid
import Derived.Deep.RegionWith
import Derived.Great.Walk
namespace Go.Proofs.Ytopdjfgomclffaa
open Go.RowKit Go.PlainAid
set_option maxRecDepth 20000
set_option linter.unusedVariables false
set_option linter.unusedSimpArgs false
set_option maxHeartbeats 3200000 in
theorem specAddLimbs_any (a0 a1 : Option Addr) (c0 c1 : Nat) (n0 n1 : List Int) (w : World) (hr0 : RowI w.heap.size w a0 n0) (hr1 : RowI w.heap.size w a1 n1) (hm0 : n0.length ≤ 1048576) (hm1 : n1.length ≤ 1048576) :
    Calls Try.prog 19 #[.agg #[.slice a0 n0.length c0], .agg #[.slice a1 n1.length c1]] w fun e w' => ∃ v, e = .returned (.agg #[v]) ∧ OwnInt w.heap.size w' v (twoP n0 n1 (lval pb n0 + lval pb n1)) ∧ Below w.heap.size w w' := by
  have hA2 : (((w.alloc (.cells #[.slice a0 n0.length c0] 26)).alloc (.cells #[.slice a1 n1.length c1] 26)).alloc (.cells #[.slice none 0 0] 26)).heap[w.heap.size + 2]? = some (.cells #[.slice none 0 0] 26 (0, 0)) := by
    have := heap_alloc_new ((w.alloc (.cells #[.slice a0 n0.length c0] 26)).alloc (.cells #[.slice a1 n1.length c1] 26)) (.cells #[.slice none 0 0] 26)
    simpa using this
  have hA1 : (((w.alloc (.cells #[.slice a0 n0.length c0] 26)).alloc (.cells #[.slice a1 n1.length c1] 26)).alloc (.cells #[.slice none 0 0] 26)).heap[w.heap.size + 1]? = some (.cells #[.slice a1 n1.length c1] 26 (0, 0)) := by
    have := heap_alloc_new (w.alloc (.cells #[.slice a0 n0.length c0] 26)) (.cells #[.slice a1 n1.length c1] 26)
    exact (Lib.alloc_old _ _ _ (by simp)).trans (by simpa using this)
  have hA0 : (((w.alloc (.cells #[.slice a0 n0.length c0] 26)).alloc (.cells #[.slice a1 n1.length c1] 26)).alloc (.cells #[.slice none 0 0] 26)).heap[w.heap.size]? = some (.cells #[.slice a0 n0.length c0] 26 (0, 0)) := (Lib.alloc_old _ _ _ (by simp; omega)).trans <| (Lib.alloc_old _ _ _ (by simp)).trans (heap_alloc_new w _)
  have hB0 : Below w.heap.size w (((w.alloc (.cells #[.slice a0 n0.length c0] 26)).alloc (.cells #[.slice a1 n1.length c1] 26)).alloc (.cells #[.slice none 0 0] 26)) := (((Below.refl _ _).alloc (Nat.le_refl _) _).alloc (by simp) _).alloc (by simp; omega) _
  go_enter Try.func19, Try.ntmps19
  go_upto_region 1 with fail
  generalize (((w.alloc (.cells #[.slice a0 n0.length c0] 26)).alloc (.cells #[.slice a1 n1.length c1] 26)).alloc (.cells #[.slice none 0 0] 26)) = w0 at hA0 hA1 hA2 hB0 ⊢
  have hs0 : w.heap.size + 2 < w0.heap.size := (Array.getElem?_eq_some_iff.1 hA2).1
  have hq0 := hr0.grown hB0
  have hq1 := hr1.grown hB0
  clear hr0 hr1
  have e0 : w0.cell? ⟨w.heap.size, 0, none⟩ = some (.slice a0 n0.length c0) := by rw [cell_of_row w0 _ 0 _ _ _ hA0]; rfl
  go_wp2_with fail
  refine Calls.mono (specLimbsOk_any a0 c0 n0 w0 hq0 hm0) ?_
  rintro e w1 ⟨rfl, hb⟩
  clear e0
  have hs1 : w.heap.size + 2 < w1.heap.size := Nat.lt_of_lt_of_le hs0 hb.size
  replace hA0 := (hb.block w.heap.size (by omega)).trans hA0
  replace hA1 := (hb.block (w.heap.size + 1) (by omega)).trans hA1
  replace hA2 := (hb.block (w.heap.size + 2) (by omega)).trans hA2
  replace hq0 := hq0.grown hb
  replace hq1 := hq1.grown hb
  replace hB0 := hB0.trans (hb.mono hB0.size)
  clear hb hs0
  cases h0 : okP n0
  · have HI : Hid (twoP n0 n1 (lval pb n0 + lval pb n1) = []) := by show _ = _; unfold twoP; rw [h0]; rfl
    clear h0
    have HB : Hid (Below w.heap.size w (w1.setCell ⟨w.heap.size + 2, 0, none⟩ (.slice none 0 0))) := hB0.setCell (show w.heap.size ≤ w.heap.size + 2 by omega) _
    have HR : Hid ((w1.setCell ⟨w.heap.size + 2, 0, none⟩ (.slice none 0 0)).heap[w.heap.size + 2]? = some (.cells #[.slice none 0 0] 26 (0, 0))) := by show _ = _; rw [heap_setCell_same w1 (w.heap.size + 2) 0 _ _ _ hA2]; rfl
    have r0 : w1.cell? ⟨w.heap.size + 2, 0, none⟩ = some (.slice none 0 0) := by rw [cell_of_row w1 _ 0 _ _ _ hA2]; rfl
    have r1 : w1.frozen? ⟨w.heap.size + 2, 0, none⟩ = false := frozen_of_row w1 _ 0 _ _ hA2
    clear hA0 hA1 hA2 hB0
    go_wp2
    refine bodyPost_ret (results_cell_row rfl _ _ (w.heap.size + 2) 26 #[.slice none 0 0] (0, 0) _ rfl ?_ Try.underlying26 rfl (sizeLimbs1 _)) rfl ?_
    · exact HR.out
    · refine ⟨_, rfl, ?_, HB.out⟩
      rw [HI.out]
      exact ⟨rfl, .inl ⟨rfl, rfl⟩⟩
  · have e1 : w1.cell? ⟨w.heap.size + 1, 0, none⟩ = some (.slice a1 n1.length c1) := by rw [cell_of_row w1 _ 0 _ _ _ hA1]; rfl
    go_wp2_with fail
    refine Calls.mono (specLimbsOk_any a1 c1 n1 w1 hq1 hm1) ?_
    rintro e w2 ⟨rfl, hb⟩
    clear e1
    have hs2 : w.heap.size + 2 < w2.heap.size := Nat.lt_of_lt_of_le hs1 hb.size
    replace hA0 := (hb.block w.heap.size (by omega)).trans hA0
    replace hA1 := (hb.block (w.heap.size + 1) (by omega)).trans hA1
    replace hA2 := (hb.block (w.heap.size + 2) (by omega)).trans hA2
    replace hq0 := hq0.grown hb
    replace hq1 := hq1.grown hb
    replace hB0 := hB0.trans (hb.mono hB0.size)
    clear hb hs1
    cases h1 : okP n1
    · have HI : Hid (twoP n0 n1 (lval pb n0 + lval pb n1) = []) := by show _ = _; unfold twoP; rw [h0, h1]; rfl
      clear h0 h1
      have HB : Hid (Below w.heap.size w (w2.setCell ⟨w.heap.size + 2, 0, none⟩ (.slice none 0 0))) := hB0.setCell (show w.heap.size ≤ w.heap.size + 2 by omega) _
      have HR : Hid ((w2.setCell ⟨w.heap.size + 2, 0, none⟩ (.slice none 0 0)).heap[w.heap.size + 2]? = some (.cells #[.slice none 0 0] 26 (0, 0))) := by show _ = _; rw [heap_setCell_same w2 (w.heap.size + 2) 0 _ _ _ hA2]; rfl
      have r0 : w2.cell? ⟨w.heap.size + 2, 0, none⟩ = some (.slice none 0 0) := by rw [cell_of_row w2 _ 0 _ _ _ hA2]; rfl
      have r1 : w2.frozen? ⟨w.heap.size + 2, 0, none⟩ = false := frozen_of_row w2 _ 0 _ _ hA2
      clear hA0 hA1 hA2 hB0
      go_wp2
      refine bodyPost_ret (results_cell_row rfl _ _ (w.heap.size + 2) 26 #[.slice none 0 0] (0, 0) _ rfl ?_ Try.underlying26 rfl (sizeLimbs1 _)) rfl ?_
      · exact HR.out
      · refine ⟨_, rfl, ?_, HB.out⟩
        rw [HI.out]
        exact ⟨rfl, .inl ⟨rfl, rfl⟩⟩
    · have k0 := okP_lok h0
      have k1 := okP_lok h1
      have f5 : n0.length = 5 := lok_len k0
      have g5 : n1.length = 5 := lok_len k1
      have HI : Hid (twoP n0 n1 (lval pb n0 + lval pb n1) = canonP (lval pb n0 + lval pb n1)) := by show _ = _; unfold twoP; rw [h0, h1]; rfl
      obtain ⟨b0, o0, rfl⟩ := hq0.addr (show 0 < n0.length by omega)
      obtain ⟨b1, o1, rfl⟩ := hq1.addr (show 0 < n1.length by omega)
      have HA0 : Hid (w2.heap[w.heap.size]? = some (.cells #[.slice (some ⟨b0, o0, none⟩) n0.length c0] 26 (0, 0))) := hA0
      have HA1 : Hid (w2.heap[w.heap.size + 1]? = some (.cells #[.slice (some ⟨b1, o1, none⟩) n1.length c1] 26 (0, 0))) := hA1
      have HA2 : Hid (w2.heap[w.heap.size + 2]? = some (.cells #[.slice none 0 0] 26 (0, 0))) := hA2
      have HQ0 : Hid (RowI w2.heap.size w2 (some ⟨b0, o0, none⟩) n0) := hq0
      have HQ1 : Hid (RowI w2.heap.size w2 (some ⟨b1, o1, none⟩) n1) := hq1
      have HB0 : Hid (Below w.heap.size w w2) := hB0
      have HK0 : Hid (lok pb n0) := k0
      have HK1 : Hid (lok pb n1) := k1
      clear hA0 hA1 hA2 hq0 hq1 hB0 h0 h1 k0 k1
      obtain ⟨i0, hi, hz0, hz1, hz2⟩ := info_parts infoIntS
      go_wp2_with (at_make; refine wpList_make_full _ rfl _ _ 24 rfl w2.heap.size 3 i0 (.int .i64 0) 1 Try.underlying24 hi hz0 hz1 .i64 .i64 _ _ 5 rfl rfl rfl rfl (by rw [hz2]; omega) (by unfold maxLen; omega) (Nat.le_refl _) ?_; intro w3 hown3 hgrow3)
      have hB3 : Below w2.heap.size w2 w3 := (Below.refl _ _).grown hgrow3 (Nat.le_refl _) (by simp)
      rw [made_ints] at hown3
      have HO : Hid (RowS w2.heap.size w3 w2.heap.size 5 5 (List.replicate 5 0)) := hown3
      have HB : Hid (Below w2.heap.size w2 w3) := hB3
      clear hown3 hgrow3 hB3 hi hz0 hz1 hz2
      obtain ⟨V, hV⟩ : ∃ V, lval pb n0 + lval pb n1 = V := ⟨_, rfl⟩
      have HV : Hid (lval pb n0 + lval pb n1 = V) := hV
      have HVAL : Hid (canonP (lval pb (sumP n0 n1)) = canonP V) := by show _ = _; rw [← hV, sumP_val f5 g5]
      clear hV
      go_loopw [6] (fun i wr => ∃ k : Nat, k ≤ 5 ∧ i = .int .i64 (k : Int) ∧ Hid (Below w2.heap.size w2 wr) ∧ Hid (RowS w2.heap.size wr w2.heap.size 5 5 (fillP (sumP n0 n1) k)))
        (fun i _ => 5 - (intOf i).toNat)
      case atStart => exact ⟨0, Nat.zero_le _, rfl, HB, HO⟩
      case round =>
        clear HB HO
        obtain ⟨k, hk, rfl, HB, HO⟩ := hrel
        have hs5 : (sumP n0 n1).length = 5 := sumP_len f5 g5
        by_cases hlt : k < 5
        · have hi0 : (0 : Int) ≤ (k : Int) := by omega
          have hi1 : (k : Int) < 5 := by omega
          have hj0 : (k : Int) < (n0.length : Int) := by omega
          have hj1 : (k : Int) < (n1.length : Int) := by omega
          have e0 : wr.cell? ⟨w.heap.size, 0, none⟩ = some (.slice (some ⟨b0, o0, none⟩) n0.length c0) := by rw [cell_of_row wr _ 0 _ _ _ ((HB.out.block w.heap.size (by omega)).trans HA0.out)]; rfl
          have e1 : wr.cell? ⟨w.heap.size + 1, 0, none⟩ = some (.slice (some ⟨b1, o1, none⟩) n1.length c1) := by rw [cell_of_row wr _ 0 _ _ _ ((HB.out.block (w.heap.size + 1) (by omega)).trans HA1.out)]; rfl
          have c1' := (HQ0.out.at HB.out (show k < n0.length by omega)).2
          have c2' := (HQ1.out.at HB.out (show k < n1.length by omega)).2
          have c3' := HO.out.cell hlt
          have z3 := HO.out.froz k
          have hb1 := lok_at HK0.out hlt
          have hb2 := lok_at HK1.out hlt
          have HN := fillP_next hs5 hlt
          rw [sumP_at f5 g5 hlt] at HN
          generalize n0.getD k 0 = x at c1' hb1 HN
          generalize n1.getD k 0 = y at c2' hb2 HN
          have hw : IntKind.i64.wrap (x + y) = x + y := by rw [IntKind.wrap_i64]; omega
          have HO2 : Hid (RowS w2.heap.size (wr.setCell ⟨w2.heap.size, k, none⟩ (.int .i64 (x + y))) w2.heap.size 5 5 (fillP (sumP n0 n1) (k + 1))) := by rw [← HN]; exact HO.out.set k _
          have HB2 : Hid (Below w2.heap.size w2 (wr.setCell ⟨w2.heap.size, k, none⟩ (.int .i64 (x + y)))) := HB.out.setCell (Nat.le_refl _) _
          clear HN hb1 hb2 HO HB
          go_wp2
          go_region
          all_goals
            go_wp2
            go_roundw
            case rel => exact ⟨k + 1, by omega, by go_num, HB2.out.drew, RowS.drew HO2.out⟩
            case measure => simp [intOf]; omega
        · obtain rfl : k = 5 := by omega
          rw [fillP_all hs5] at HO
          have hw := swhole_any w2.heap.size w2.heap.size 5 (sumP n0 n1) wr (sumP_bd HK0.out HK1.out) HO.out
          rw [HVAL.out] at hw
          have HW : Hid _ := hw
          clear hw
          go_upto_region 8 with fail
          go_wp2_with fail
          refine Calls.mono HW.out ?_
          rintro e w5 ⟨rfl, hro, hg⟩
          have hA2 : w5.heap[w.heap.size + 2]? = some (.cells #[.slice none 0 0] 26 (0, 0)) := gb_block hg ((HB.out.block (w.heap.size + 2) (by omega)).trans HA2.out) (by omega)
          have hB5 : Below w.heap.size w w5 := (HB0.out.trans (HB.out.mono HB0.out.size)).grown hg (HB0.out.trans (HB.out.mono HB0.out.size)).size (fun k hk => by cases hk; exact HB0.out.size)
          have HBF : Hid (Below w.heap.size w (w5.setCell ⟨w.heap.size + 2, 0, none⟩ (.slice (some ⟨w2.heap.size, 0, none⟩) 5 5))) := hB5.setCell (show w.heap.size ≤ w.heap.size + 2 by omega) _
          have HRF : Hid ((w5.setCell ⟨w.heap.size + 2, 0, none⟩ (.slice (some ⟨w2.heap.size, 0, none⟩) 5 5)).heap[w.heap.size + 2]? = some (.cells #[.slice (some ⟨w2.heap.size, 0, none⟩) 5 5] 26 (0, 0))) := by show _ = _; rw [heap_setCell_same w5 (w.heap.size + 2) 0 _ _ _ hA2]; rfl
          have HOF : Hid (OwnInt w.heap.size (w5.setCell ⟨w.heap.size + 2, 0, none⟩ (.slice (some ⟨w2.heap.size, 0, none⟩) 5 5)) (.slice (some ⟨w2.heap.size, 0, none⟩) 5 5) (canonP V)) := OwnInt.base (hro.other _ (by omega)).own HB0.out.size
          have r0 : w5.cell? ⟨w.heap.size + 2, 0, none⟩ = some (.slice none 0 0) := by rw [cell_of_row w5 _ 0 _ _ _ hA2]; rfl
          have r1 : w5.frozen? ⟨w.heap.size + 2, 0, none⟩ = false := frozen_of_row w5 _ 0 _ _ hA2
          clear hA2 hB5 hg hro HW HO HB HA0 HA1 HA2 HQ0 HQ1 HB0
          go_wp2
          refine bodyPost_ret (results_cell_row rfl _ _ (w.heap.size + 2) 26 #[.slice (some ⟨w2.heap.size, 0, none⟩) 5 5] (0, 0) _ rfl ?_ Try.underlying26 rfl (sizeLimbs1 _)) rfl ?_
          · exact HRF.out
          · exact ⟨_, rfl, by rw [HI.out, HV.out]; exact HOF.out, HBF.out⟩
end Go.Proofs.Ytopdjfgomclffaa
