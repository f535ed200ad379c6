/- The program's numbers of a curve (chapter 27): inverted. -/
import Derived.Test.YtjhglbdknjoeeaaTim27
import Derived.Test.YtjhglbdknjoeeaaPowP
import Derived.WalkKit
import Derived.WalkLawsBesides
import Derived.WalkSpells
import Derived.BigRegion
import Derived.Laws.ShiftsVar
import Derived.Lib.Strings
import Derived.Below
import Derived.OwnWalk
import Derived.PlainAid
import Derived.Great.Walk
namespace Go.Proofs.Ytjhglbdknjoeeaa
open Go.RowKit Go.PlainAid
set_option maxRecDepth 20000
set_option linter.unusedVariables false
set_option linter.unusedSimpArgs false
theorem oneFn : (#[.int .i64 1, .int .i64 0, .int .i64 0, .int .i64 0, .int .i64 0, .int .i64 0, .int .i64 0, .int .i64 0, .int .i64 0, .int .i64 0, .int .i64 0, .int .i64 0, .int .i64 0, .int .i64 0, .int .i64 0, .int .i64 0] : Array Value) = rowL .i64 one16 := rfl
theorem wk_canon (v : Int) : within 0 262143 (canon v) := within_mono (within_lok (canon_ok v)) (by decide) (by decide)
set_option maxHeartbeats 3200000 in
theorem inverted_any (a : Int) (w : World) :
    Calls Try.prog 61 #[.agg (rowL .i64 (canon a))] w fun e w' => e = .returned (.agg (rowL .i64 (canon (ivp a 255)))) ∧ Below w.heap.size w w' := by
  obtain ⟨f, hfe⟩ : ∃ f, canon a = f := ⟨_, rfl⟩
  have hfl : f.length = 16 := by rw [← hfe]; exact canon_len _
  have HT : Hid (∀ (x y : Int) (wz : World), Calls Try.prog 58 #[.agg (rowL .i64 (canon x)), .agg (rowL .i64 (canon y))] wz fun e w' => e = .returned (.agg (rowL .i64 (canon (x * y)))) ∧ Below wz.heap.size wz w') := fun x y wz => by
    have h := times_any (canon x) (canon y) wz (canon_len _) (canon_len _) (wk_canon x) (wk_canon y)
    rw [canon_mul] at h; exact h
  rw [hfe]
  have HFE : Hid (f = canon a) := hfe.symm
  clear hfe
  go_enter Try.func61, Try.ntmps61
  go_upto_region 1 with fail
  have hAr : ((w.alloc (.cells (rowL .i64 f) 63)).alloc (.cells (rowL .i64 (List.replicate 16 0)) 63)).heap[w.heap.size + 1]? = some (.cells (rowL .i64 (List.replicate 16 0)) 63 (0, 0)) := by
    have := heap_alloc_new (w.alloc (.cells (rowL .i64 f) 63)) (.cells (rowL .i64 (List.replicate 16 0)) 63)
    simpa using this
  have hAf : ((w.alloc (.cells (rowL .i64 f) 63)).alloc (.cells (rowL .i64 (List.replicate 16 0)) 63)).heap[w.heap.size]? = some (.cells (rowL .i64 f) 63 (0, 0)) := (Lib.alloc_old _ _ _ (by simp)).trans (heap_alloc_new w _)
  have hB0 : Below w.heap.size w ((w.alloc (.cells (rowL .i64 f) 63)).alloc (.cells (rowL .i64 (List.replicate 16 0)) 63)) := ((Below.refl _ _).alloc (Nat.le_refl _) _).alloc (by simp) _
  rw [← zeroFn] at hAr hAf hB0
  generalize ((w.alloc (.cells (rowL .i64 f) 63)).alloc (.cells #[.int .i64 0, .int .i64 0, .int .i64 0, .int .i64 0, .int .i64 0, .int .i64 0, .int .i64 0, .int .i64 0, .int .i64 0, .int .i64 0, .int .i64 0, .int .i64 0, .int .i64 0, .int .i64 0, .int .i64 0, .int .i64 0] 63)) = w0 at hAr hAf hB0 ⊢
  rw [zeroFn] at hAr
  have HR : Hid (RowZ w0 (w.heap.size + 1) 63 .i64 (List.replicate 16 0)) := hAr
  have HF : Hid (RowZ w0 w.heap.size 63 .i64 f) := hAf
  have HB : Hid (Below w.heap.size w w0) := hB0
  clear hAr hAf hB0
  refine wp_region_lit ?_
  refine Go.Great.wpList_runTo rfl _ rfl (.agg (rowL .i64 one16)) w0 (by rw [← oneFn]; unfold execOp; go_simp) ?_
  try simp only [Act.put, List.getElem_toArray, List.getElem_cons_succ, List.getElem_cons_zero, List.setIfInBounds_toArray, List.set_cons_succ, List.set_cons_zero]
  refine Go.Great.wpList_allocTo rfl _ rfl (.pointer (some ⟨w0.heap.size, 0, none⟩)) (.cells (rowL .i64 (List.replicate 16 0)) 63) (by rw [← zeroFn]; unfold execOp; go_simp) ?_
  try simp only [Act.put, List.getElem_toArray, List.getElem_cons_succ, List.getElem_cons_zero, List.setIfInBounds_toArray, List.set_cons_succ, List.set_cons_zero]
  have hN := heap_alloc_new w0 (.cells (rowL .i64 (List.replicate 16 0)) 63)
  refine wpList_store_rowTo rfl _ _ _ rfl rfl (w0.heap.size) (rowL .i64 one16) rfl rfl 63 (rowL .i64 (List.replicate 16 0)) hN (sizeFnL (rfl : one16.length = 16)) (by rw [rowL_size, rowL_size]; rfl) (rowL_one _ _) ?_
  try simp only [Act.put, List.getElem_toArray, List.getElem_cons_succ, List.getElem_cons_zero, List.setIfInBounds_toArray, List.set_cons_succ, List.set_cons_zero]
  have hs0 : w.heap.size + 1 < w0.heap.size := HR.out.lt
  have HP1 : Hid (RowZ ((w0.alloc (.cells (rowL .i64 (List.replicate 16 0)) 63)).setRow w0.heap.size (rowL .i64 one16)) w0.heap.size 63 .i64 (canon (ivp a 0))) := setRow_heap _ _ _ _ _ _ hN
  have HF1 : Hid (RowZ ((w0.alloc (.cells (rowL .i64 (List.replicate 16 0)) 63)).setRow w0.heap.size (rowL .i64 one16)) w.heap.size 63 .i64 f) := (setRow_other _ _ _ _ (by omega)).trans ((Lib.alloc_old _ _ _ (by omega)).trans HF.out)
  have HR1 : Hid (RowZ ((w0.alloc (.cells (rowL .i64 (List.replicate 16 0)) 63)).setRow w0.heap.size (rowL .i64 one16)) (w.heap.size + 1) 63 .i64 (List.replicate 16 0)) := (setRow_other _ _ _ _ (by omega)).trans ((Lib.alloc_old _ _ _ (by omega)).trans HR.out)
  have HB1 : Hid (Below w.heap.size w ((w0.alloc (.cells (rowL .i64 (List.replicate 16 0)) 63)).setRow w0.heap.size (rowL .i64 one16))) := below_setRow (HB.out.alloc HB.out.size _) HB.out.size _
  generalize (w0.alloc (.cells (rowL .i64 (List.replicate 16 0)) 63)).setRow w0.heap.size (rowL .i64 one16) = w1 at HP1 HF1 HR1 HB1 ⊢
  generalize w0.heap.size = g3 at hs0 HP1 ⊢
  clear hN HF HR HB
  go_wp2
  go_loopw [4] (fun i wr => ∃ k : Nat, k ≤ 255 ∧ i = .int .i64 (254 - (k : Int)) ∧ Hid (Below w.heap.size w wr) ∧ Hid (RowZ wr w.heap.size 63 .i64 f) ∧ Hid (RowZ wr (w.heap.size + 1) 63 .i64 (List.replicate 16 0)) ∧ Hid (RowZ wr g3 63 .i64 (canon (ivp a k))))
    (fun i _ => (intOf i + 1).toNat)
  case atStart => exact ⟨0, Nat.zero_le _, rfl, HB1, HF1, HR1, HP1⟩
  case round =>
    clear HB1 HF1 HR1 HP1
    obtain ⟨k, hk, rfl, HB, HF, HR, HP⟩ := hrel
    by_cases hlt : k < 255
    · have HS : Hid (ivp a (k + 1) = ivp a k * ivp a k * (if 254 - k = 4 ∨ 254 - k = 2 then 1 else a)) := rfl
      have hb0 : (0 : Int) ≤ 254 - (k : Int) := by omega
      generalize hb : 254 - (k : Int) = b at hb0
      have hwb : IntKind.i64.wrap (b - 1) = b - 1 := by rw [w64_wrap]; exact w64_id (by omega) (by omega)
      have hnx : (254 : Int) - ((k + 1 : Nat) : Int) = b - 1 := by omega
      have hpl : (canon (ivp a k)).length = 16 := canon_len _
      go_upto_region 5 with fail
      refine wp_region_lit ?_
      refine wpl_load rfl _ _ rfl _ rfl g3 (rowL .i64 (canon (ivp a k))) rfl 63 (0, 0) HP.out _ Try.underlying63 rfl (sizeFnL hpl) ?_
      try simp only [Act.put, List.getElem_toArray, List.getElem_cons_succ, List.getElem_cons_zero, List.setIfInBounds_toArray, List.set_cons_succ, List.set_cons_zero]
      refine wpl_load rfl _ _ rfl _ rfl g3 (rowL .i64 (canon (ivp a k))) rfl 63 (0, 0) HP.out _ Try.underlying63 rfl (sizeFnL hpl) ?_
      try simp only [Act.put, List.getElem_toArray, List.getElem_cons_succ, List.getElem_cons_zero, List.setIfInBounds_toArray, List.set_cons_succ, List.set_cons_zero]
      go_wp2_with fail
      refine Calls.mono (HT.out (ivp a k) (ivp a k) _) ?_
      rintro e w2 ⟨rfl, hb2⟩
      rename_i hq
      refine hq _ _ ?_
      clear hq
      try simp only [Act.put, List.getElem_toArray, List.getElem_cons_succ, List.getElem_cons_zero, List.setIfInBounds_toArray, List.set_cons_succ, List.set_cons_zero]
      have hp2 := HP.out.next hb2
      have hf2 := HF.out.next hb2
      have hr2 := HR.out.next hb2
      have hB2 := HB.out.trans (hb2.mono HB.out.size)
      refine wpList_store_rowTo rfl _ _ _ rfl rfl (g3) (rowL .i64 (canon (ivp a k * ivp a k))) rfl rfl 63 (rowL .i64 (canon (ivp a k))) hp2 (sizeFnL (canon_len (ivp a k * ivp a k))) (by rw [rowL_size, rowL_size, canon_len, canon_len]) (rowL_one _ _) ?_
      try simp only [Act.put, List.getElem_toArray, List.getElem_cons_succ, List.getElem_cons_zero, List.setIfInBounds_toArray, List.set_cons_succ, List.set_cons_zero]
      have HP3 : Hid (RowZ (w2.setRow g3 (rowL .i64 (canon (ivp a k * ivp a k)))) g3 63 .i64 (canon (ivp a k * ivp a k))) := setRow_heap _ _ _ _ _ _ hp2
      have HF3 : Hid (RowZ (w2.setRow g3 (rowL .i64 (canon (ivp a k * ivp a k)))) w.heap.size 63 .i64 f) := (setRow_other _ _ _ _ (by omega)).trans hf2
      have HR3 : Hid (RowZ (w2.setRow g3 (rowL .i64 (canon (ivp a k * ivp a k)))) (w.heap.size + 1) 63 .i64 (List.replicate 16 0)) := (setRow_other _ _ _ _ (by omega)).trans hr2
      have HB3 : Hid (Below w.heap.size w (w2.setRow g3 (rowL .i64 (canon (ivp a k * ivp a k))))) := below_setRow hB2 (by omega) _
      generalize w2.setRow g3 (rowL .i64 (canon (ivp a k * ivp a k))) = w3 at HP3 HF3 HR3 HB3 ⊢
      clear hp2 hf2 hr2 hB2 hb2 HP HF HR HB hpl
      generalize ivp a k * ivp a k = Q at HS HP3
      by_cases h4 : b = 4
      · have HE : Hid (ivp a (k + 1) = Q) := by show _ = _; rw [HS.out, if_pos (by omega), Int.mul_one]
        subst h4
        clear HS
        go_wp2
        go_roundw
        case rel => exact ⟨k + 1, by omega, by rw [hnx]; rfl, HB3, HF3, HR3, by rw [HE.out]; exact HP3⟩
        case measure => simp [intOf]
      · by_cases h2 : b = 2
        · have HE : Hid (ivp a (k + 1) = Q) := by show _ = _; rw [HS.out, if_pos (by omega), Int.mul_one]
          subst h2
          clear HS
          go_wp2
          go_roundw
          case rel => exact ⟨k + 1, by omega, by rw [hnx]; rfl, HB3, HF3, HR3, by rw [HE.out]; exact HP3⟩
          case measure => simp [intOf]
        · have HE : Hid (ivp a (k + 1) = Q * a) := by show _ = _; rw [HS.out, if_neg (by omega)]
          clear HS
          have h4b : (b != 4) = true := by simp [h4]
          have h2b : (b != 2) = true := by simp [h2]
          go_upto_region 7 with fail
          refine wp_region_lit ?_
          refine wpl_load rfl _ _ rfl _ rfl g3 (rowL .i64 (canon Q)) rfl 63 (0, 0) HP3.out _ Try.underlying63 rfl (sizeFnL (canon_len Q)) ?_
          try simp only [Act.put, List.getElem_toArray, List.getElem_cons_succ, List.getElem_cons_zero, List.setIfInBounds_toArray, List.set_cons_succ, List.set_cons_zero]
          refine wpl_load rfl _ _ rfl _ rfl w.heap.size (rowL .i64 f) rfl 63 (0, 0) HF3.out _ Try.underlying63 rfl (sizeFnL hfl) ?_
          try simp only [Act.put, List.getElem_toArray, List.getElem_cons_succ, List.getElem_cons_zero, List.setIfInBounds_toArray, List.set_cons_succ, List.set_cons_zero]
          have HT2 : Hid (∀ wz, Calls Try.prog 58 #[.agg (rowL .i64 (canon Q)), .agg (rowL .i64 f)] wz fun e w' => e = .returned (.agg (rowL .i64 (canon (Q * a)))) ∧ Below wz.heap.size wz w') := fun wz => by rw [HFE.out]; exact HT.out Q a wz
          go_wp2_with fail
          refine Calls.mono (HT2.out _) ?_
          rintro e w4 ⟨rfl, hb2⟩
          rename_i hq
          refine hq _ _ ?_
          clear hq
          try simp only [Act.put, List.getElem_toArray, List.getElem_cons_succ, List.getElem_cons_zero, List.setIfInBounds_toArray, List.set_cons_succ, List.set_cons_zero]
          have hp2 := HP3.out.next hb2
          have hf2 := HF3.out.next hb2
          have hr2 := HR3.out.next hb2
          have hB2 := HB3.out.trans (hb2.mono HB3.out.size)
          refine wpList_store_rowTo rfl _ _ _ rfl rfl (g3) (rowL .i64 (canon (Q * a))) rfl rfl 63 (rowL .i64 (canon Q)) hp2 (sizeFnL (canon_len (Q * a))) (by rw [rowL_size, rowL_size, canon_len, canon_len]) (rowL_one _ _) ?_
          try simp only [Act.put, List.getElem_toArray, List.getElem_cons_succ, List.getElem_cons_zero, List.setIfInBounds_toArray, List.set_cons_succ, List.set_cons_zero]
          have HP5 : Hid (RowZ (w4.setRow g3 (rowL .i64 (canon (Q * a)))) g3 63 .i64 (canon (Q * a))) := setRow_heap _ _ _ _ _ _ hp2
          have HF5 : Hid (RowZ (w4.setRow g3 (rowL .i64 (canon (Q * a)))) w.heap.size 63 .i64 f) := (setRow_other _ _ _ _ (by omega)).trans hf2
          have HR5 : Hid (RowZ (w4.setRow g3 (rowL .i64 (canon (Q * a)))) (w.heap.size + 1) 63 .i64 (List.replicate 16 0)) := (setRow_other _ _ _ _ (by omega)).trans hr2
          have HB5 : Hid (Below w.heap.size w (w4.setRow g3 (rowL .i64 (canon (Q * a))))) := below_setRow hB2 (by omega) _
          generalize w4.setRow g3 (rowL .i64 (canon (Q * a))) = w5 at HP5 HF5 HR5 HB5 ⊢
          clear hp2 hf2 hr2 hB2 hb2 HP3 HF3 HR3 HB3
          go_wp2
          go_roundw
          case rel => exact ⟨k + 1, by omega, by rw [hnx], HB5, HF5, HR5, by rw [HE.out]; exact HP5⟩
          case measure => simp [intOf]; omega
    · obtain rfl : k = 255 := by omega
      have hpl : (canon (ivp a 255)).length = 16 := canon_len _
      obtain ⟨r, hr⟩ : ∃ r, canon (ivp a 255) = r := ⟨_, rfl⟩
      rw [hr] at HP hpl
      have HE : Hid (canon (ivp a 255) = r) := hr
      clear hr
      go_upto_region 8 with fail
      refine wp_region_lit ?_
      refine wpl_load rfl _ _ rfl _ rfl g3 (rowL .i64 r) rfl 63 (0, 0) HP.out _ Try.underlying63 rfl (sizeFnL hpl) ?_
      try simp only [Act.put, List.getElem_toArray, List.getElem_cons_succ, List.getElem_cons_zero, List.setIfInBounds_toArray, List.set_cons_succ, List.set_cons_zero]
      refine wpList_store_rowTo rfl _ _ _ rfl rfl (w.heap.size + 1) (rowL .i64 r) rfl rfl 63 (rowL .i64 (List.replicate 16 0)) HR.out (sizeFnL hpl) (by rw [rowL_size, rowL_size, hpl]; rfl) (rowL_one _ _) ?_
      try simp only [Act.put, List.getElem_toArray, List.getElem_cons_succ, List.getElem_cons_zero, List.setIfInBounds_toArray, List.set_cons_succ, List.set_cons_zero]
      have hR : (wr.setRow (w.heap.size + 1) (rowL .i64 r)).heap[w.heap.size + 1]? = some (.cells (rowL .i64 r) 63 (0, 0)) := setRow_heap _ _ _ _ _ _ HR.out
      have hBB := below_setRow HB.out (show w.heap.size ≤ w.heap.size + 1 by omega) (rowL .i64 r)
      generalize wr.setRow (w.heap.size + 1) (rowL .i64 r) = wz at hR hBB ⊢
      go_wp2
      refine bodyPost_ret (results_cell_row rfl _ _ (w.heap.size + 1) 63 (rowL .i64 r) (0, 0) _ rfl ?_ Try.underlying63 rfl (sizeFnL hpl)) rfl ?_
      · exact hR
      · exact ⟨by rw [HE.out], hBB⟩
end Go.Proofs.Ytjhglbdknjoeeaa
