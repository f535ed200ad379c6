/- The program's numbers of a curve (chapter 27): times. -/
import Derived.Test.YtjhglbdknjoeeaaRed27
import Derived.Test.YtjhglbdknjoeeaaMulP
import Derived.Test.YtjhglbdknjoeeaaArrE
import Derived.WalkKit
import Derived.WalkLawsBesides
import Derived.WalkSpells
import Derived.BigRegion
import Derived.Laws.ShiftsVar
import Derived.Lib.Strings
import Derived.Below
import Derived.OwnWalk
import Derived.PlainAid
import Derived.Great.Walk
namespace Go.Proofs.Ytjhglbdknjoeeaa
open Go.RowKit Go.PlainAid
set_option maxRecDepth 20000
set_option linter.unusedVariables false
set_option linter.unusedSimpArgs false
set_option maxHeartbeats 3200000 in
theorem times_any (f g : List Int) (w : World) (hf : f.length = 16) (hg : g.length = 16) (bf : within 0 262143 f) (bg : within 0 262143 g) :
    Calls Try.prog 58 #[.agg (rowL .i64 f), .agg (rowL .i64 g)] w fun e w' => e = .returned (.agg (rowL .i64 (canon (v16 f * v16 g)))) ∧ Below w.heap.size w w' := by
  go_enter Try.func58, Try.ntmps58
  go_upto_region 1 with fail
  have hAr : (((w.alloc (.cells (rowL .i64 f) 63)).alloc (.cells (rowL .i64 g) 63)).alloc (.cells (rowL .i64 (List.replicate 16 0)) 63)).heap[w.heap.size + 2]? = some (.cells (rowL .i64 (List.replicate 16 0)) 63 (0, 0)) := by
    have := heap_alloc_new ((w.alloc (.cells (rowL .i64 f) 63)).alloc (.cells (rowL .i64 g) 63)) (.cells (rowL .i64 (List.replicate 16 0)) 63)
    simpa using this
  have hAg : (((w.alloc (.cells (rowL .i64 f) 63)).alloc (.cells (rowL .i64 g) 63)).alloc (.cells (rowL .i64 (List.replicate 16 0)) 63)).heap[w.heap.size + 1]? = some (.cells (rowL .i64 g) 63 (0, 0)) := by
    have := heap_alloc_new (w.alloc (.cells (rowL .i64 f) 63)) (.cells (rowL .i64 g) 63)
    exact (Lib.alloc_old _ _ _ (by simp)).trans (by simpa using this)
  have hAf : (((w.alloc (.cells (rowL .i64 f) 63)).alloc (.cells (rowL .i64 g) 63)).alloc (.cells (rowL .i64 (List.replicate 16 0)) 63)).heap[w.heap.size]? = some (.cells (rowL .i64 f) 63 (0, 0)) := (Lib.alloc_old _ _ _ (by simp; omega)).trans <| (Lib.alloc_old _ _ _ (by simp)).trans (heap_alloc_new w _)
  have hB0 : Below w.heap.size w (((w.alloc (.cells (rowL .i64 f) 63)).alloc (.cells (rowL .i64 g) 63)).alloc (.cells (rowL .i64 (List.replicate 16 0)) 63)) := (((Below.refl _ _).alloc (Nat.le_refl _) _).alloc (by simp) _).alloc (by simp; omega) _
  rw [← zeroFn] at hAr hAg hAf hB0
  generalize (((w.alloc (.cells (rowL .i64 f) 63)).alloc (.cells (rowL .i64 g) 63)).alloc (.cells #[.int .i64 0, .int .i64 0, .int .i64 0, .int .i64 0, .int .i64 0, .int .i64 0, .int .i64 0, .int .i64 0, .int .i64 0, .int .i64 0, .int .i64 0, .int .i64 0, .int .i64 0, .int .i64 0, .int .i64 0, .int .i64 0] 63)) = w0 at hAr hAg hAf hB0 ⊢
  rw [zeroFn] at hAr
  have HR : Hid (RowZ w0 (w.heap.size + 2) 63 .i64 (List.replicate 16 0)) := hAr
  have HG : Hid (RowZ w0 (w.heap.size + 1) 63 .i64 g) := hAg
  have HF : Hid (RowZ w0 w.heap.size 63 .i64 f) := hAf
  have HB : Hid (Below w.heap.size w w0) := hB0
  clear hAr hAg hAf hB0
  go_upto_region 2 with fail
  have hs0 : w.heap.size + 2 < w0.heap.size := HR.out.lt
  have hH : ((w0.alloc (.cells (rowL .i64 (List.replicate 16 0)) 63)).alloc (.cells (rowL .i64 (List.replicate 16 0)) 63)).heap[w0.heap.size + 1]? = some (.cells (rowL .i64 (List.replicate 16 0)) 63 (0, 0)) := by
    have := heap_alloc_new (w0.alloc (.cells (rowL .i64 (List.replicate 16 0)) 63)) (.cells (rowL .i64 (List.replicate 16 0)) 63)
    simpa using this
  have hL : ((w0.alloc (.cells (rowL .i64 (List.replicate 16 0)) 63)).alloc (.cells (rowL .i64 (List.replicate 16 0)) 63)).heap[w0.heap.size]? = some (.cells (rowL .i64 (List.replicate 16 0)) 63 (0, 0)) := (Lib.alloc_old _ _ _ (by simp)).trans (heap_alloc_new w0 _)
  have hR : ((w0.alloc (.cells (rowL .i64 (List.replicate 16 0)) 63)).alloc (.cells (rowL .i64 (List.replicate 16 0)) 63)).heap[w.heap.size + 2]? = some (.cells (rowL .i64 (List.replicate 16 0)) 63 (0, 0)) := (Lib.alloc_old _ _ _ (by simp; omega)).trans ((Lib.alloc_old _ _ _ (by omega)).trans HR.out)
  have hG : ((w0.alloc (.cells (rowL .i64 (List.replicate 16 0)) 63)).alloc (.cells (rowL .i64 (List.replicate 16 0)) 63)).heap[w.heap.size + 1]? = some (.cells (rowL .i64 g) 63 (0, 0)) := (Lib.alloc_old _ _ _ (by simp; omega)).trans ((Lib.alloc_old _ _ _ (by omega)).trans HG.out)
  have hF : ((w0.alloc (.cells (rowL .i64 (List.replicate 16 0)) 63)).alloc (.cells (rowL .i64 (List.replicate 16 0)) 63)).heap[w.heap.size]? = some (.cells (rowL .i64 f) 63 (0, 0)) := (Lib.alloc_old _ _ _ (by simp; omega)).trans ((Lib.alloc_old _ _ _ (by omega)).trans HF.out)
  have hB : Below w.heap.size w ((w0.alloc (.cells (rowL .i64 (List.replicate 16 0)) 63)).alloc (.cells (rowL .i64 (List.replicate 16 0)) 63)) := (HB.out.alloc HB.out.size _).alloc (by simp; omega) _
  rw [← zeroFn] at hH hL hR hG hF hB
  generalize ((w0.alloc (.cells #[.int .i64 0, .int .i64 0, .int .i64 0, .int .i64 0, .int .i64 0, .int .i64 0, .int .i64 0, .int .i64 0, .int .i64 0, .int .i64 0, .int .i64 0, .int .i64 0, .int .i64 0, .int .i64 0, .int .i64 0, .int .i64 0] 63)).alloc (.cells #[.int .i64 0, .int .i64 0, .int .i64 0, .int .i64 0, .int .i64 0, .int .i64 0, .int .i64 0, .int .i64 0, .int .i64 0, .int .i64 0, .int .i64 0, .int .i64 0, .int .i64 0, .int .i64 0, .int .i64 0, .int .i64 0] 63)) = w1 at hH hL hR hG hF hB ⊢
  rw [zeroFn] at hH hL hR
  clear HR HG HF HB
  generalize hq5 : w0.heap.size = g5 at hs0 hH hL hR hG hF ⊢
  have HL1 : Hid (RowZ w1 g5 63 .i64 (List.replicate 16 0)) := hL
  have HH1 : Hid (RowZ w1 (g5 + 1) 63 .i64 (List.replicate 16 0)) := hH
  have HR1 : Hid (RowZ w1 (w.heap.size + 2) 63 .i64 (List.replicate 16 0)) := hR
  have HG1 : Hid (RowZ w1 (w.heap.size + 1) 63 .i64 g) := hG
  have HB1 : Hid (Below w.heap.size w w1) := hB
  clear hL hH hR hG hB hq5
  refine wp_region_lit ?_
  refine wpl_load rfl _ _ rfl _ rfl w.heap.size (rowL .i64 f) rfl 63 (0, 0) hF _ Try.underlying63 rfl (sizeFnL hf) ?_
  try simp only [Act.put, List.getElem_toArray, List.getElem_cons_succ, List.getElem_cons_zero, List.setIfInBounds_toArray, List.set_cons_succ, List.set_cons_zero]
  clear hF
  have HBF : Hid (within 0 262143 f) := bf
  have HBG : Hid (within 0 262143 g) := bg
  clear bf bg
  go_wp2
  go_loopw [15] (fun i wr => ∃ (k : Nat) (low high : List Int), k ≤ 16 ∧ i = .int .i64 (k : Int) ∧ Hid (Below w.heap.size w wr) ∧ Hid (RowZ wr (w.heap.size + 1) 63 .i64 g) ∧ Hid (RowZ wr (w.heap.size + 2) 63 .i64 (List.replicate 16 0)) ∧ Hid (RowZ wr g5 63 .i64 low) ∧ Hid (RowZ wr (g5 + 1) 63 .i64 high) ∧ low.length = 16 ∧ high.length = 16 ∧ Hid (within 0 ((k : Int) * MM) low) ∧ Hid (within 0 ((k : Int) * MM) high) ∧ Hid (v16 low + B16 ^ 16 * v16 high = v16 (f.take k) * v16 g))
    (fun i _ => 16 - (intOf i).toNat)
  case atStart =>
    have h0 : within 0 (((0 : Nat) : Int) * MM) (List.replicate 16 0) := by
      intro k hk
      rw [List.getD_eq_getElem?_getD, List.getElem?_eq_getElem hk, List.getElem_replicate]; decide
    exact ⟨0, _, _, Nat.zero_le _, rfl, HB1, HG1, HR1, HL1, HH1, rfl, rfl, h0, h0, by show _ = _; rw [v16_zero, List.take_zero]; show (0 : Int) + _ * 0 = 0 * _; rw [Int.mul_zero, Int.zero_mul]; rfl⟩
  case round =>
    clear HB1 HG1 HR1 HL1 HH1
    obtain ⟨k, low, high, hk, rfl, HB, HG, HR, HL, HH, hll, hhl, WL, WH, HV⟩ := hrel
    by_cases hlt : k < 16
    · have hi0 : (0 : Int) ≤ (k : Int) := by omega
      have hi1 : (k : Int) < 16 := by omega
      have hix := index_row 63 16 Try.underlying63 f hf (k := k) (by omega)
      have hJ : (16 : Int) - (k : Int) = ((16 - k : Nat) : Int) := by omega
      have hwJ : IntKind.i64.wrap ((16 : Int) - (k : Int)) = ((16 - k : Nat) : Int) := by rw [hJ, w64_wrap]; exact w64_id (by omega) (by omega)
      have hJ1 : ((16 - k : Nat) : Int) ≤ 16 := by omega
      have bx := HBF.out k (by omega)
      generalize hx : f.getD k 0 = x at hix bx
      generalize hJJ : 16 - k = J at hwJ hJ1
      have HJk : Hid (J = 16 - k) := hJJ.symm
      have HV1 : Hid (v16 low + B16 ^ 16 * v16 high = v16 (f.take k) * v16 g + B16 ^ k * x * v16 (g.take 0)) := by show _ = _; rw [HV.out, List.take_zero]; show _ = _ + _ * 0; rw [Int.mul_zero, Int.add_zero]
      have BL : Bd16 (k + 0) k low := Bd16.start _ hll WL.out
      clear HV WL hJJ hJ
      go_upto_region 6 with fail
      go_loopw [23] (fun i wr => ∃ (j : Nat) (lo : List Int), j ≤ J ∧ i = .int .i64 (j : Int) ∧ Hid (Below w.heap.size w wr) ∧ Hid (RowZ wr (w.heap.size + 1) 63 .i64 g) ∧ Hid (RowZ wr (w.heap.size + 2) 63 .i64 (List.replicate 16 0)) ∧ Hid (RowZ wr g5 63 .i64 lo) ∧ Hid (RowZ wr (g5 + 1) 63 .i64 high) ∧ Bd16 (k + j) k lo ∧ Hid (v16 lo + B16 ^ 16 * v16 high = v16 (f.take k) * v16 g + B16 ^ k * x * v16 (g.take j)))
        (fun i _ => J - (intOf i).toNat)
      case atStart => exact ⟨0, low, Nat.zero_le _, rfl, HB, HG, HR, HL, HH, BL, HV1⟩
      case round =>
        clear HB HG HR HL HV1 BL HH
        obtain ⟨j, lo, hj, rfl, HB, HG, HR, HL, HH, BL, HV1⟩ := hrel
        by_cases hlj : j < J
        · have hJk := HJk.out
          have hj0 : (0 : Int) ≤ (j : Int) := by omega
          have hj1 : (j : Int) < (J : Int) := by omega
          have c2 := HG.out.cell (i := j) (by omega)
          have by' := HBG.out j (by omega)
          have hll2 := BL.len
          have c1 := HL.out.cell (i := k + j) (by omega)
          have z1 := HL.out.froz (k + j)
          have bl := BL.val (by omega) (by omega)
          have hp := prod_bd bx.1 bx.2 by'.1 by'.2
          have BL2 := BL.step (d := x * g.getD j 0) (by omega) hp.1 hp.2
          have HV2 : Hid (v16 (addAt lo (k + j) (x * g.getD j 0)) + B16 ^ 16 * v16 high = v16 (f.take k) * v16 g + B16 ^ k * x * v16 (g.take (j + 1))) := mul_low hll2 hg (by omega) HV1.out
          have hq : (k : Int) + (j : Int) = ((k + j : Nat) : Int) := by omega
          have hwq : IntKind.i64.wrap ((k : Int) + (j : Int)) = ((k + j : Nat) : Int) := by rw [hq, w64_wrap]; exact w64_id (by omega) (by omega)
          have hq0 : (0 : Int) ≤ ((k + j : Nat) : Int) := by omega
          have hq1 : ((k + j : Nat) : Int) < 16 := by omega
          have hMM : MM = 68719476736 := rfl
          rw [hMM] at hp
          have hw2 : IntKind.i64.wrap (x * g.getD j 0) = x * g.getD j 0 := by rw [w64_wrap]; exact w64_id (by omega) (by omega)
          have hw3 : IntKind.i64.wrap (lo.getD (k + j) 0 + x * g.getD j 0) = lo.getD (k + j) 0 + x * g.getD j 0 := by rw [w64_wrap]; exact w64_id (by omega) (by omega)
          have hu : addAt lo (k + j) (x * g.getD j 0) = lo.set (k + j) (lo.getD (k + j) 0 + x * g.getD j 0) := rfl
          have HL2 : Hid (RowZ (wr.setCell ⟨g5, k + j, none⟩ (.int .i64 (lo.getD (k + j) 0 + x * g.getD j 0))) g5 63 .i64 (addAt lo (k + j) (x * g.getD j 0))) := by rw [hu]; exact HL.out.set (k + j) _
          have HH2 : Hid (RowZ (wr.setCell ⟨g5, k + j, none⟩ (.int .i64 (lo.getD (k + j) 0 + x * g.getD j 0))) (g5 + 1) 63 .i64 high) := HH.out.other _ (by omega)
          have HG2 : Hid (RowZ (wr.setCell ⟨g5, k + j, none⟩ (.int .i64 (lo.getD (k + j) 0 + x * g.getD j 0))) (w.heap.size + 1) 63 .i64 g) := HG.out.other _ (by omega)
          have HR2 : Hid (RowZ (wr.setCell ⟨g5, k + j, none⟩ (.int .i64 (lo.getD (k + j) 0 + x * g.getD j 0))) (w.heap.size + 2) 63 .i64 (List.replicate 16 0)) := HR.out.other _ (by omega)
          have HB2 : Hid (Below w.heap.size w (wr.setCell ⟨g5, k + j, none⟩ (.int .i64 (lo.getD (k + j) 0 + x * g.getD j 0)))) := HB.out.setCell (show w.heap.size ≤ g5 by omega) _
          rw [show k + j + 1 = k + (j + 1) by omega] at BL2
          clear hu HV1 BL HL HH HG HR HB bl hp by' hll2 hMM
          generalize addAt lo (k + j) (x * g.getD j 0) = lo2 at BL2 HV2 HL2
          generalize lo.getD (k + j) 0 = v at c1 hw3 HL2 HH2 HG2 HR2 HB2
          generalize g.getD j 0 = y at c2 hw2 hw3 HL2 HH2 HG2 HR2 HB2
          generalize k + j = q at c1 z1 hwq hq0 hq1 HL2 HH2 HG2 HR2 HB2
          clear hq hJk
          go_wp2
          go_roundw
          case rel => exact ⟨j + 1, lo2, by omega, by go_num, HB2, HG2, HR2, HL2, HH2, BL2, HV2⟩
          case measure => simp [intOf]; omega
        · have hJk := HJk.out
          obtain rfl : j = J := by omega
          have hs2 : 16 - j = k := by omega
          have WL : Hid (within 0 (((k + 1 : Nat) : Int) * MM) lo) := BL.done
          have hll2 := BL.len
          clear BL hll
          have BH : Bd16 0 k high := Bd16.start _ hhl WH.out
          clear WH
          have HV2 : Hid (v16 lo + B16 ^ 16 * v16 high = v16 (f.take k) * v16 g + B16 ^ k * x * v16 (g.take (16 - k + 0))) := by show _ = _; rw [Nat.add_zero, ← hJk]; exact HV1.out
          clear HV1
          by_cases hk0 : k = 0
          · subst hk0
            obtain rfl : j = 16 := by omega
            clear hJk hs2
            go_upto_region 11 with fail
            go_loopw [43] (fun i wr => ∃ (t : Nat) (hi' : List Int), t ≤ 0 ∧ i = .int .i64 (t : Int) ∧ Hid (Below w.heap.size w wr) ∧ Hid (RowZ wr (w.heap.size + 1) 63 .i64 g) ∧ Hid (RowZ wr (w.heap.size + 2) 63 .i64 (List.replicate 16 0)) ∧ Hid (RowZ wr g5 63 .i64 lo) ∧ Hid (RowZ wr (g5 + 1) 63 .i64 hi') ∧ Bd16 t 0 hi' ∧ Hid (v16 lo + B16 ^ 16 * v16 hi' = v16 (f.take 0) * v16 g + B16 ^ 0 * x * v16 (g.take (16 - 0 + t))))
              (fun i _ => 0 - (intOf i).toNat)
            case atStart => exact ⟨0, high, Nat.zero_le _, rfl, HB, HG, HR, HL, HH, BH, HV2⟩
            case round =>
              clear HB HG HR HL HV2 BH HH
              obtain ⟨t, hi', ht, rfl, HB, HG, HR, HL, HH, BH, HV1⟩ := hrel
              obtain rfl : t = 0 := by omega
              have WH : Hid (within 0 (((0 + 1 : Nat) : Int) * MM) hi') := BH.done
              have hhl2 := BH.len
              have HV3 : Hid (v16 lo + B16 ^ 16 * v16 hi' = v16 (f.take (0 + 1)) * v16 g) := mul_row hf hg hlt (by rw [hx]; exact HV1.out)
              clear HV1 BH
              go_wp2
              go_roundw
              case rel => exact ⟨0 + 1, lo, hi', by omega, by go_num, HB, HG, HR, HL, HH, hll2, hhl2, WL, WH, HV3⟩
              case measure => simp [intOf]
          · have hne : ¬ j = 16 := by omega
            have hne2 : (j : Int) < 16 := by omega
            have hj0 : (0 : Int) ≤ (j : Int) := by omega
            have HS2 : Hid (16 - j = k) := hs2
            clear hJk hs2
            go_upto_region 11 with fail
            rw [HS2.out]
            clear hne hne2
            go_loopw [43] (fun i wr => ∃ (t : Nat) (hi' : List Int), t ≤ k ∧ i = .int .i64 (t : Int) ∧ Hid (Below w.heap.size w wr) ∧ Hid (RowZ wr (w.heap.size + 1) 63 .i64 g) ∧ Hid (RowZ wr (w.heap.size + 2) 63 .i64 (List.replicate 16 0)) ∧ Hid (RowZ wr g5 63 .i64 lo) ∧ Hid (RowZ wr (g5 + 1) 63 .i64 hi') ∧ Bd16 t k hi' ∧ Hid (v16 lo + B16 ^ 16 * v16 hi' = v16 (f.take k) * v16 g + B16 ^ k * x * v16 (g.take (16 - k + t))))
              (fun i _ => k - (intOf i).toNat)
            case atStart => exact ⟨0, high, Nat.zero_le _, rfl, HB, HG, HR, HL, HH, BH, HV2⟩
            case round =>
              clear HB HG HR HL HV2 BH HH
              obtain ⟨t, hi', ht, rfl, HB, HG, HR, HL, HH, BH, HV1⟩ := hrel
              by_cases hlt2 : t < k
              · have hJk := HJk.out
                have ht0 : (0 : Int) ≤ (t : Int) := by omega
                have ht1 : (t : Int) < (k : Int) := by omega
                have ht2 : (t : Int) < 16 := by omega
                have c2 := HG.out.cell (i := j + t) (by omega)
                have by' := HBG.out (j + t) (by omega)
                have hhl2 := BH.len
                have c1 := HH.out.cell (i := t) (by omega)
                have z1 := HH.out.froz t
                have bl := BH.val (by omega) (by omega)
                have hp := prod_bd bx.1 bx.2 by'.1 by'.2
                have BH2 := BH.step (d := x * g.getD (j + t) 0) (by omega) hp.1 hp.2
                have HV2 : Hid (v16 lo + B16 ^ 16 * v16 (addAt hi' t (x * g.getD (j + t) 0)) = v16 (f.take k) * v16 g + B16 ^ k * x * v16 (g.take (16 - k + (t + 1)))) := by have h := mul_high hhl2 hg (by omega) hlt2 HV1.out; rw [← hJk] at h; rw [← hJk]; exact h
                have hMM : MM = 68719476736 := rfl
                rw [hMM] at hp
                have hw2 : IntKind.i64.wrap (x * g.getD (j + t) 0) = x * g.getD (j + t) 0 := by rw [w64_wrap]; exact w64_id (by omega) (by omega)
                have hw3 : IntKind.i64.wrap (hi'.getD t 0 + x * g.getD (j + t) 0) = hi'.getD t 0 + x * g.getD (j + t) 0 := by rw [w64_wrap]; exact w64_id (by omega) (by omega)
                have hu : addAt hi' t (x * g.getD (j + t) 0) = hi'.set t (hi'.getD t 0 + x * g.getD (j + t) 0) := rfl
                have HH2 : Hid (RowZ (wr.setCell ⟨g5 + 1, t, none⟩ (.int .i64 (hi'.getD t 0 + x * g.getD (j + t) 0))) (g5 + 1) 63 .i64 (addAt hi' t (x * g.getD (j + t) 0))) := by rw [hu]; exact HH.out.set t _
                have HL2 : Hid (RowZ (wr.setCell ⟨g5 + 1, t, none⟩ (.int .i64 (hi'.getD t 0 + x * g.getD (j + t) 0))) g5 63 .i64 lo) := HL.out.other _ (by omega)
                have HG2 : Hid (RowZ (wr.setCell ⟨g5 + 1, t, none⟩ (.int .i64 (hi'.getD t 0 + x * g.getD (j + t) 0))) (w.heap.size + 1) 63 .i64 g) := HG.out.other _ (by omega)
                have HR2 : Hid (RowZ (wr.setCell ⟨g5 + 1, t, none⟩ (.int .i64 (hi'.getD t 0 + x * g.getD (j + t) 0))) (w.heap.size + 2) 63 .i64 (List.replicate 16 0)) := HR.out.other _ (by omega)
                have HB2 : Hid (Below w.heap.size w (wr.setCell ⟨g5 + 1, t, none⟩ (.int .i64 (hi'.getD t 0 + x * g.getD (j + t) 0)))) := HB.out.setCell (show w.heap.size ≤ g5 + 1 by omega) _
                clear hu HV1 BH HL HH HG HR HB bl hp by' hhl2 hMM
                generalize addAt hi' t (x * g.getD (j + t) 0) = hi2 at BH2 HV2 HH2
                generalize hi'.getD t 0 = v at c1 hw3 HL2 HH2 HG2 HR2 HB2
                generalize g.getD (j + t) 0 = y at c2 hw2 hw3 HL2 HH2 HG2 HR2 HB2
                clear hJk
                go_wp2
                go_roundw
                case rel => exact ⟨t + 1, hi2, by omega, by go_num, HB2, HG2, HR2, HL2, HH2, BH2, HV2⟩
                case measure => simp [intOf]; omega
              · obtain rfl : t = k := by omega
                have WH : Hid (within 0 (((t + 1 : Nat) : Int) * MM) hi') := BH.done
                have hhl2 := BH.len
                have HV3 : Hid (v16 lo + B16 ^ 16 * v16 hi' = v16 (f.take (t + 1)) * v16 g) := mul_row hf hg hlt (by rw [hx]; exact HV1.out)
                clear HV1 BH
                go_wp2
                go_roundw
                case rel => exact ⟨t + 1, lo, hi', by omega, by go_num, HB, HG, HR, HL, HH, hll2, hhl2, WL, WH, HV3⟩
                case measure => simp [intOf]; omega
    · obtain rfl : k = 16 := by omega
      have hmod := mul_mod hll hhl _ (show v16 low + B16 ^ 16 * v16 high = v16 f * v16 g by have h := HV.out; rw [List.take_of_length_le (show f.length ≤ 16 by omega)] at h; exact h)
      clear HV
      have WL2 : within 0 1099511627776 low := WL.out
      have WH2 : within 0 1099511627776 high := WH.out
      clear WL WH
      go_wp2
      go_loopw [58] (fun i wr => ∃ k : Nat, k ≤ 16 ∧ i = .int .i64 (k : Int) ∧ Hid (Below w.heap.size w wr) ∧ Hid (RowZ wr (w.heap.size + 2) 63 .i64 (List.replicate 16 0)) ∧ Hid (RowZ wr g5 63 .i64 (zipTo (fun x y => 1 * x + 38 * y) low high k)) ∧ Hid (RowZ wr (g5 + 1) 63 .i64 high))
        (fun i _ => 16 - (intOf i).toNat)
      case atStart => exact ⟨0, Nat.zero_le _, rfl, HB, HR, HL, HH⟩
      case round =>
        clear HB HG HR HL HH
        obtain ⟨k, hk, rfl, HB, HR, HF, HG⟩ := hrel
        have hfg : low.length = high.length := by omega
        by_cases hlt : k < 16
        · have hi0 : (0 : Int) ≤ (k : Int) := by omega
          have hi1 : (k : Int) < 16 := by omega
          have c1 := HF.out.cell (i := k) (by rw [zipTo_len _ hfg (by omega)]; omega)
          rw [zipTo_at _ hfg (by omega)] at c1
          have z1 := HF.out.froz k
          have c2 := HG.out.cell (i := k) (by omega)
          have b1 := WL2 k (by omega)
          have b2 := WH2 k (by omega)
          have HN := zipTo_next (fun x y => 1 * x + 38 * y) hfg (k := k) (by omega)
          have HE : Hid (1 * low.getD k 0 + 38 * high.getD k 0 = low.getD k 0 + 38 * high.getD k 0) := by show _ = _; omega
          rw [HE.out] at HN
          have hw1 : IntKind.i64.wrap (38 * high.getD k 0) = 38 * high.getD k 0 := by rw [w64_wrap]; exact w64_id (by omega) (by omega)
          have hw : IntKind.i64.wrap (low.getD k 0 + 38 * high.getD k 0) = low.getD k 0 + 38 * high.getD k 0 := by rw [w64_wrap]; exact w64_id (by omega) (by omega)
          have HF2 : Hid (RowZ (wr.setCell ⟨g5, k, none⟩ (.int .i64 (low.getD k 0 + 38 * high.getD k 0))) g5 63 .i64 (zipTo (fun x y => 1 * x + 38 * y) low high (k + 1))) := by rw [← HN]; exact HF.out.set k _
          have HG2 : Hid (RowZ (wr.setCell ⟨g5, k, none⟩ (.int .i64 (low.getD k 0 + 38 * high.getD k 0))) (g5 + 1) 63 .i64 high) := HG.out.other _ (by omega)
          have HR2 : Hid (RowZ (wr.setCell ⟨g5, k, none⟩ (.int .i64 (low.getD k 0 + 38 * high.getD k 0))) (w.heap.size + 2) 63 .i64 (List.replicate 16 0)) := HR.out.other _ (by omega)
          have HB2 : Hid (Below w.heap.size w (wr.setCell ⟨g5, k, none⟩ (.int .i64 (low.getD k 0 + 38 * high.getD k 0)))) := HB.out.setCell (show w.heap.size ≤ g5 by omega) _
          clear HN HE b1 b2 HF HG HR HB
          generalize low.getD k 0 = x at c1 hw HF2 HG2 HR2 HB2
          generalize high.getD k 0 = y at c2 hw1 hw HF2 HG2 HR2 HB2
          go_wp2
          go_region
          all_goals
            go_wp2
            go_roundw
            case rel => exact ⟨k + 1, by omega, by go_num, HB2.out.drew, RowZ.drew HR2.out, RowZ.drew HF2.out, RowZ.drew HG2.out⟩
            case measure => simp [intOf]; omega
        · obtain rfl : k = 16 := by omega
          have hX : (zipA (fun x y => 1 * x + 38 * y) low high).length = 16 := by rw [zipA_len _ hfg, hll]
          have hz : zipTo (fun x y => 1 * x + 38 * y) low high 16 = zipA (fun x y => 1 * x + 38 * y) low high := by have h := zipTo_all (fun x y => 1 * x + 38 * y) hfg; rw [hll] at h; exact h
          rw [hz] at HF
          have hsm : small (zipA (fun x y => 1 * x + 38 * y) low high) := within_small (lo := 0) (hi := 42880953483264) (within_zip hfg WL2 WH2 (fun x y h1 h2 h3 h4 => ⟨by show _ ≤ 1 * x + 38 * y; omega, by show 1 * x + 38 * y ≤ _; omega⟩)) (by decide) (by decide)
          have hval : canon (lval fb (zipA (fun x y => 1 * x + 38 * y) low high)) = canon (v16 f * v16 g) := canon_mod hmod
          clear hz WL2 WH2 hmod
          generalize zipA (fun x y => 1 * x + 38 * y) low high = X at HF hX hsm hval
          go_upto_region 21 with fail
          refine wp_region_lit ?_
          refine wpl_load rfl _ _ rfl _ rfl g5 (rowL .i64 X) rfl 63 (0, 0) HF.out _ Try.underlying63 rfl (sizeFnL hX) ?_
          try simp only [Act.put, List.getElem_toArray, List.getElem_cons_succ, List.getElem_cons_zero, List.setIfInBounds_toArray, List.set_cons_succ, List.set_cons_zero]
          go_wp2_with fail
          refine Calls.mono (reduced_any X _ hX) ?_
          rintro e wq ⟨r, rfl, hr, hb⟩
          rename_i hq
          refine hq _ _ ?_
          clear hq
          try simp only [Act.put, List.getElem_toArray, List.getElem_cons_succ, List.getElem_cons_zero, List.setIfInBounds_toArray, List.set_cons_succ, List.set_cons_zero]
          have hrv : r = canon (v16 f * v16 g) := (hr.2 hsm).trans (hval)
          have hrl : r.length = 16 := by rw [hrv]; exact canon_len _
          have hres := HR.out.next hb
          have hBq := HB.out.trans (hb.mono HB.out.size)
          refine wpList_store_rowTo rfl _ _ _ rfl rfl (w.heap.size + 2) (rowL .i64 r) rfl rfl 63 (rowL .i64 (List.replicate 16 0)) hres (sizeFnL hrl) (by rw [rowL_size, rowL_size, hrl]; rfl) (rowL_one _ _) ?_
          try simp only [Act.put, List.getElem_toArray, List.getElem_cons_succ, List.getElem_cons_zero, List.setIfInBounds_toArray, List.set_cons_succ, List.set_cons_zero]
          have hR : (wq.setRow (w.heap.size + 2) (rowL .i64 r)).heap[w.heap.size + 2]? = some (.cells (rowL .i64 r) 63 (0, 0)) := setRow_heap _ _ _ _ _ _ hres
          have hBB := below_setRow hBq (show w.heap.size ≤ w.heap.size + 2 by omega) (rowL .i64 r)
          generalize wq.setRow (w.heap.size + 2) (rowL .i64 r) = wz at hR hBB ⊢
          go_wp2
          refine bodyPost_ret (results_cell_row rfl _ _ (w.heap.size + 2) 63 (rowL .i64 r) (0, 0) _ rfl ?_ Try.underlying63 rfl (sizeFnL hrl)) rfl ?_
          · exact hR
          · exact ⟨by rw [hrv], hBB⟩
end Go.Proofs.Ytjhglbdknjoeeaa
