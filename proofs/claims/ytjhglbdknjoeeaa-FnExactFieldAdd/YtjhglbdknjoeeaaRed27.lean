/- The program's numbers of a curve (chapter 27): reduced. -/
import Derived.Test.YtjhglbdknjoeeaaCar27
import Derived.Test.YtjhglbdknjoeeaaPowP
import Derived.WalkKit
import Derived.WalkLawsBesides
import Derived.WalkSpells
import Derived.BigRegion
import Derived.Laws.ShiftsVar
import Derived.Lib.Strings
import Derived.Below
import Derived.OwnWalk
import Derived.PlainAid
import Derived.Great.Walk
namespace Go.Proofs.Ytjhglbdknjoeeaa
open Go.RowKit Go.PlainAid
set_option maxRecDepth 20000
set_option linter.unusedVariables false
set_option linter.unusedSimpArgs false
/-- The limbs that a row of cells holds. -/
def cellsOf (o : Option Obj) : List Int := match o with
  | some (.cells cs _ _) => cs.toList.map intOf
  | _ => []
theorem cellsOf_row {w : World} {g : Nat} {t : TypeId} {l : List Int} (h : RowZ w g t .i64 l) : cellsOf w.heap[g]? = l := by
  unfold RowZ at h
  rw [h]
  simp only [cellsOf, rowL, List.map_map]
  rw [show (intOf ∘ Value.int .i64) = id from rfl, List.map_id]
theorem addH_set {l : List Int} (d : Int) (h : l.length = 16) : l.set 0 (l.getD 0 0 + d) = addH d l := by
  cases l with
  | nil => cases h
  | cons x l => rfl
theorem canon_ok' {r : List Int} {v : Int} (h : r = canon v) : lok fb r := by rw [h]; exact canon_ok v
theorem head_small {l : List Int} (h : lok fb l) : 0 ≤ l.getD 0 0 ∧ l.getD 0 0 < 65536 := by
  have hs := lok_small fb_le h
  have hl := lok_len h
  cases l with
  | nil => cases hl
  | cons x l => exact hs x (by simp)
/-- What reduced answers, in words. -/
def RedOf (l r : List Int) : Prop := (∃ v, r = canon v) ∧ (small l → r = canon (lval fb l))
theorem red_yes {l f : List Int} (hf : lok fb f) (hm : small l → lval fb f % fp = lval fb l % fp) (h : (lcar fb 0 (addH 19 f)).2 ≠ 0) : RedOf l (lcar fb 0 (addH 19 f)).1 :=
  ⟨⟨_, fin_yes hf h⟩, fun hs => (fin_yes hf h).trans (canon_mod (hm hs))⟩
theorem red_no {l f : List Int} (hf : lok fb f) (hm : small l → lval fb f % fp = lval fb l % fp) (h : (lcar fb 0 (addH 19 f)).2 = 0) : RedOf l f :=
  ⟨⟨_, fin_no hf h⟩, fun hs => (fin_no hf h).trans (canon_mod (hm hs))⟩
set_option maxHeartbeats 3200000 in
theorem reduced_any (l : List Int) (w : World) (hl : l.length = 16) :
    Calls Try.prog 91 #[.agg (rowL .i64 l)] w fun e w' => ∃ r, e = .returned (.agg (rowL .i64 r)) ∧ RedOf l r ∧ Below w.heap.size w w' := by
  have HL : Hid (l.length = 16) := hl
  have HC : Hid (∀ (m : List Int) (wz : World), m.length = 16 → Calls Try.prog 106 #[.agg (rowL .i64 m)] wz fun e w' => e = .returned (.tuple #[.agg (rowL .i64 (lcw fb 0 m).1), .int .i64 (lcw fb 0 m).2]) ∧ Below wz.heap.size wz w') := fun m wz h => carried_any m wz h
  go_enter Try.func91, Try.ntmps91
  go_upto_region 1 with fail
  have hA1 : ((w.alloc (.cells (rowL .i64 l) 63)).alloc (.cells (rowL .i64 (List.replicate 16 0)) 63)).heap[w.heap.size + 1]? = some (.cells (rowL .i64 (List.replicate 16 0)) 63 (0, 0)) := by
    have := heap_alloc_new (w.alloc (.cells (rowL .i64 l) 63)) (.cells (rowL .i64 (List.replicate 16 0)) 63)
    simpa using this
  have hA0 : ((w.alloc (.cells (rowL .i64 l) 63)).alloc (.cells (rowL .i64 (List.replicate 16 0)) 63)).heap[w.heap.size]? = some (.cells (rowL .i64 l) 63 (0, 0)) := (Lib.alloc_old _ _ _ (by simp)).trans (heap_alloc_new w _)
  have hB0 : Below w.heap.size w ((w.alloc (.cells (rowL .i64 l) 63)).alloc (.cells (rowL .i64 (List.replicate 16 0)) 63)) := ((Below.refl _ _).alloc (Nat.le_refl _) _).alloc (by simp) _
  rw [← zeroFn] at hA1 hA0 hB0
  generalize ((w.alloc (.cells (rowL .i64 l) 63)).alloc (.cells #[.int .i64 0, .int .i64 0, .int .i64 0, .int .i64 0, .int .i64 0, .int .i64 0, .int .i64 0, .int .i64 0, .int .i64 0, .int .i64 0, .int .i64 0, .int .i64 0, .int .i64 0, .int .i64 0, .int .i64 0, .int .i64 0] 63)) = w0 at hA1 hA0 hB0 ⊢
  rw [zeroFn] at hA1
  have hs0 : w.heap.size + 1 < w0.heap.size := (Array.getElem?_eq_some_iff.1 hA1).1
  refine wp_region_lit ?_
  refine wpl_load rfl _ _ rfl _ rfl w.heap.size (rowL .i64 l) rfl 63 (0, 0) hA0 _ Try.underlying63 rfl (sizeFnL hl) ?_
  try simp only [Act.put, List.getElem_toArray, List.getElem_cons_succ, List.getElem_cons_zero, List.setIfInBounds_toArray, List.set_cons_succ, List.set_cons_zero]
  go_wp2_with fail
  refine Calls.mono (HC.out l _ hl) ?_
  rintro e w1 ⟨rfl, hb⟩
  rename_i hq
  refine hq _ _ ?_
  clear hq
  try simp only [Act.put, List.getElem_toArray, List.getElem_cons_succ, List.getElem_cons_zero, List.setIfInBounds_toArray, List.set_cons_succ, List.set_cons_zero]
  refine Go.Great.wpList_runTo rfl _ rfl (.tuple #[.agg (rowL .i64 (lcw fb 0 l).1), .int .i64 (lcw fb 0 l).2]) w1 (by unfold execOp; go_simp) ?_
  try simp only [Act.put, List.getElem_toArray, List.getElem_cons_succ, List.getElem_cons_zero, List.setIfInBounds_toArray, List.set_cons_succ, List.set_cons_zero]
  refine Go.Great.wpList_runTo rfl _ rfl (.agg (rowL .i64 (lcw fb 0 l).1)) w1 (by unfold execOp; go_simp) ?_
  try simp only [Act.put, List.getElem_toArray, List.getElem_cons_succ, List.getElem_cons_zero, List.setIfInBounds_toArray, List.set_cons_succ, List.set_cons_zero]
  refine Go.Great.wpList_runTo rfl _ rfl (.int .i64 (lcw fb 0 l).2) w1 (by unfold execOp; go_simp) ?_
  try simp only [Act.put, List.getElem_toArray, List.getElem_cons_succ, List.getElem_cons_zero, List.setIfInBounds_toArray, List.set_cons_succ, List.set_cons_zero]
  have hA0' := (hb.block w.heap.size (by omega)).trans hA0
  have hA1' := (hb.block (w.heap.size + 1) (by omega)).trans hA1
  have hB1 := hB0.trans (hb.mono hB0.size)
  have hm : (lcw fb 0 l).1.length = 16 := lcw_len 0 hl
  refine wpList_store_rowTo rfl _ _ _ rfl rfl (w.heap.size) (rowL .i64 (lcw fb 0 l).1) rfl rfl 63 (rowL .i64 l) hA0' (sizeFnL hm) (by rw [rowL_size, rowL_size, hm, hl]) (rowL_one _ _) ?_
  try simp only [Act.put, List.getElem_toArray, List.getElem_cons_succ, List.getElem_cons_zero, List.setIfInBounds_toArray, List.set_cons_succ, List.set_cons_zero]
  have HR1 : Hid (RowZ (w1.setRow w.heap.size (rowL .i64 (lcw fb 0 l).1)) w.heap.size 63 .i64 (lcw fb 0 l).1) := setRow_heap _ _ _ _ _ _ hA0'
  have HU1 : Hid (RowZ (w1.setRow w.heap.size (rowL .i64 (lcw fb 0 l).1)) (w.heap.size + 1) 63 .i64 (List.replicate 16 0)) := (setRow_other _ _ _ _ (by omega)).trans hA1'
  have HB1 : Hid (Below w.heap.size w (w1.setRow w.heap.size (rowL .i64 (lcw fb 0 l).1))) := below_setRow hB1 (Nat.le_refl _) _
  have hov := cw_over hl
  have hok : lok fb (lcw fb 0 l).1 := lcw_ok 0 fb_pos hl
  have hmod : small l → (lval fb (lcw fb 0 l).1 + 19 * (lcw fb 0 l).2) % fp = lval fb l % fp := fun hs => by have h := fold_mod hl; rw [addH_val _ (lcar_len 0 hl)] at h; rw [cw_small hs]; exact h
  generalize w1.setRow w.heap.size (rowL .i64 (lcw fb 0 l).1) = w2 at HR1 HU1 HB1 ⊢
  generalize (lcw fb 0 l).1 = f0 at HR1 hok hmod
  generalize (lcw fb 0 l).2 = ov0 at hov hmod ⊢
  clear hA0 hA1 hB0 hb hA0' hA1' hB1 hm hs0
  go_wp2
  go_loopw [3] (fun o wr => ∃ (f : List Int) (ov : Int), o = .int .i64 ov ∧ Hid (Below w.heap.size w wr) ∧ Hid (RowZ wr w.heap.size 63 .i64 f) ∧ Hid (RowZ wr (w.heap.size + 1) 63 .i64 (List.replicate 16 0)) ∧ lok fb f ∧ (-281474976710656 ≤ ov ∧ ov ≤ 281474976710656) ∧ Hid (small l → (lval fb f + 19 * ov) % fp = lval fb l % fp))
    (fun o wr => frank (cellsOf wr.heap[w.heap.size]?) (intOf o))
  case atStart => exact ⟨f0, ov0, rfl, HB1, HR1, HU1, hok, hov, hmod⟩
  case round =>
    clear HB1 HR1 HU1 hok hov hmod
    obtain ⟨f, ov, rfl, HB, HR, HU, hok, hov, HM⟩ := hrel
    have hfl : f.length = 16 := lok_len hok
    have hf0 := head_small hok
    by_cases h0 : ov = 0
    · subst h0
      have HM2 : Hid (small l → lval fb f % fp = lval fb l % fp) := fun hs => by have := HM.out hs; rw [Int.mul_zero, Int.add_zero] at this; exact this
      clear HM hov
      go_upto_region 5 with fail
      refine wp_region_lit ?_
      refine wpl_load rfl _ _ rfl _ rfl w.heap.size (rowL .i64 f) rfl 63 (0, 0) HR.out _ Try.underlying63 rfl (sizeFnL hfl) ?_
      try simp only [Act.put, List.getElem_toArray, List.getElem_cons_succ, List.getElem_cons_zero, List.setIfInBounds_toArray, List.set_cons_succ, List.set_cons_zero]
      refine Go.Great.wpList_allocTo rfl _ rfl (.pointer (some ⟨wr.heap.size, 0, none⟩)) (.cells (rowL .i64 (List.replicate 16 0)) 63) (by rw [← zeroFn]; unfold execOp; go_simp) ?_
      try simp only [Act.put, List.getElem_toArray, List.getElem_cons_succ, List.getElem_cons_zero, List.setIfInBounds_toArray, List.set_cons_succ, List.set_cons_zero]
      have hN := heap_alloc_new wr (.cells (rowL .i64 (List.replicate 16 0)) 63)
      refine wpList_store_rowTo rfl _ _ _ rfl rfl (wr.heap.size) (rowL .i64 f) rfl rfl 63 (rowL .i64 (List.replicate 16 0)) hN (sizeFnL hfl) (by rw [rowL_size, rowL_size, hfl]; rfl) (rowL_one _ _) ?_
      try simp only [Act.put, List.getElem_toArray, List.getElem_cons_succ, List.getElem_cons_zero, List.setIfInBounds_toArray, List.set_cons_succ, List.set_cons_zero]
      have hgs : w.heap.size + 1 < wr.heap.size := HU.out.lt
      have HX3 : Hid (RowZ ((wr.alloc (.cells (rowL .i64 (List.replicate 16 0)) 63)).setRow wr.heap.size (rowL .i64 f)) wr.heap.size 63 .i64 f) := setRow_heap _ _ _ _ _ _ hN
      have HR3 : Hid (RowZ ((wr.alloc (.cells (rowL .i64 (List.replicate 16 0)) 63)).setRow wr.heap.size (rowL .i64 f)) w.heap.size 63 .i64 f) := (setRow_other _ _ _ _ (by omega)).trans ((Lib.alloc_old _ _ _ (by omega)).trans HR.out)
      have HU3 : Hid (RowZ ((wr.alloc (.cells (rowL .i64 (List.replicate 16 0)) 63)).setRow wr.heap.size (rowL .i64 f)) (w.heap.size + 1) 63 .i64 (List.replicate 16 0)) := (setRow_other _ _ _ _ (by omega)).trans ((Lib.alloc_old _ _ _ (by omega)).trans HU.out)
      have HB3 : Hid (Below w.heap.size w ((wr.alloc (.cells (rowL .i64 (List.replicate 16 0)) 63)).setRow wr.heap.size (rowL .i64 f))) := below_setRow (HB.out.alloc HB.out.size _) (by omega) _
      generalize (wr.alloc (.cells (rowL .i64 (List.replicate 16 0)) 63)).setRow wr.heap.size (rowL .i64 f) = w3 at HX3 HR3 HU3 HB3 ⊢
      generalize hg : wr.heap.size = g at HX3 hgs ⊢
      clear hN HB HR HU hg
      have c1 := HX3.out.cell (i := 0) (by omega)
      have z1 := HX3.out.froz 0
      have hw : IntKind.i64.wrap (f.getD 0 0 + 19) = f.getD 0 0 + 19 := by rw [w64_wrap]; exact w64_id (by omega) (by omega)
      have HX4 : Hid (RowZ (w3.setCell ⟨g, 0, none⟩ (.int .i64 (f.getD 0 0 + 19))) g 63 .i64 (addH 19 f)) := by rw [← addH_set 19 hfl]; exact HX3.out.set 0 _
      have HR4 : Hid (RowZ (w3.setCell ⟨g, 0, none⟩ (.int .i64 (f.getD 0 0 + 19))) w.heap.size 63 .i64 f) := HR3.out.other _ (by omega)
      have HU4 : Hid (RowZ (w3.setCell ⟨g, 0, none⟩ (.int .i64 (f.getD 0 0 + 19))) (w.heap.size + 1) 63 .i64 (List.replicate 16 0)) := HU3.out.other _ (by omega)
      have HB4 : Hid (Below w.heap.size w (w3.setCell ⟨g, 0, none⟩ (.int .i64 (f.getD 0 0 + 19)))) := HB3.out.setCell (show w.heap.size ≤ g by omega) _
      clear HX3 HR3 HU3 HB3
      generalize f.getD 0 0 = x0 at c1 hw hf0 HX4 HR4 HU4 HB4
      go_upto_region 7 with fail
      generalize w3.setCell ⟨g, 0, none⟩ (.int .i64 (x0 + 19)) = w4 at HX4 HR4 HU4 HB4 ⊢
      clear c1 z1 hw hf0
      have hal : (addH 19 f).length = 16 := by rw [addH_len, hfl]
      have hcs : lcw fb 0 (addH 19 f) = lcar fb 0 (addH 19 f) := cw_small (addH_small hok (by decide) (by decide))
      refine wp_region_lit ?_
      refine wpl_load rfl _ _ rfl _ rfl g (rowL .i64 (addH 19 f)) rfl 63 (0, 0) HX4.out _ Try.underlying63 rfl (sizeFnL hal) ?_
      try simp only [Act.put, List.getElem_toArray, List.getElem_cons_succ, List.getElem_cons_zero, List.setIfInBounds_toArray, List.set_cons_succ, List.set_cons_zero]
      go_wp2_with fail
      refine Calls.mono (HC.out (addH 19 f) _ hal) ?_
      rintro e w5 ⟨rfl, hb⟩
      rename_i hq
      refine hq _ _ ?_
      clear hq
      try simp only [Act.put, List.getElem_toArray, List.getElem_cons_succ, List.getElem_cons_zero, List.setIfInBounds_toArray, List.set_cons_succ, List.set_cons_zero]
      rw [hcs]
      refine Go.Great.wpList_runTo rfl _ rfl (.tuple #[.agg (rowL .i64 (lcar fb 0 (addH 19 f)).1), .int .i64 (lcar fb 0 (addH 19 f)).2]) w5 (by unfold execOp; go_simp) ?_
      try simp only [Act.put, List.getElem_toArray, List.getElem_cons_succ, List.getElem_cons_zero, List.setIfInBounds_toArray, List.set_cons_succ, List.set_cons_zero]
      refine Go.Great.wpList_runTo rfl _ rfl (.agg (rowL .i64 (lcar fb 0 (addH 19 f)).1)) w5 (by unfold execOp; go_simp) ?_
      try simp only [Act.put, List.getElem_toArray, List.getElem_cons_succ, List.getElem_cons_zero, List.setIfInBounds_toArray, List.set_cons_succ, List.set_cons_zero]
      refine Go.Great.wpList_runTo rfl _ rfl (.int .i64 (lcar fb 0 (addH 19 f)).2) w5 (by unfold execOp; go_simp) ?_
      try simp only [Act.put, List.getElem_toArray, List.getElem_cons_succ, List.getElem_cons_zero, List.setIfInBounds_toArray, List.set_cons_succ, List.set_cons_zero]
      have HR5 : Hid (RowZ w5 w.heap.size 63 .i64 f) := HR4.out.next hb
      have HU5 : Hid (RowZ w5 (w.heap.size + 1) 63 .i64 (List.replicate 16 0)) := HU4.out.next hb
      have HB5 : Hid (Below w.heap.size w w5) := HB4.out.trans (hb.mono HB4.out.size)
      have hgs5 : w.heap.size + 1 < w5.heap.size := HU5.out.lt
      clear HX4 HR4 HU4 HB4 hb hcs
      have hml : (lcar fb 0 (addH 19 f)).1.length = 16 := lcar_len 0 hal
      have HYES : Hid ((lcar fb 0 (addH 19 f)).2 ≠ 0 → RedOf l (lcar fb 0 (addH 19 f)).1) := fun h => red_yes hok HM2.out h
      have HNO : Hid ((lcar fb 0 (addH 19 f)).2 = 0 → RedOf l f) := fun h => red_no hok HM2.out h
      generalize (lcar fb 0 (addH 19 f)).1 = m at hml HYES ⊢
      generalize (lcar fb 0 (addH 19 f)).2 = ov at HYES HNO ⊢
      refine Go.Great.wpList_allocTo rfl _ rfl (.pointer (some ⟨w5.heap.size, 0, none⟩)) (.cells (rowL .i64 (List.replicate 16 0)) 63) (by rw [← zeroFn]; unfold execOp; go_simp) ?_
      try simp only [Act.put, List.getElem_toArray, List.getElem_cons_succ, List.getElem_cons_zero, List.setIfInBounds_toArray, List.set_cons_succ, List.set_cons_zero]
      have hN := heap_alloc_new w5 (.cells (rowL .i64 (List.replicate 16 0)) 63)
      refine wpList_store_rowTo rfl _ _ _ rfl rfl (w5.heap.size) (rowL .i64 m) rfl rfl 63 (rowL .i64 (List.replicate 16 0)) hN (sizeFnL hml) (by rw [rowL_size, rowL_size, hml]; rfl) (rowL_one _ _) ?_
      try simp only [Act.put, List.getElem_toArray, List.getElem_cons_succ, List.getElem_cons_zero, List.setIfInBounds_toArray, List.set_cons_succ, List.set_cons_zero]
      have HX6 : Hid (RowZ ((w5.alloc (.cells (rowL .i64 (List.replicate 16 0)) 63)).setRow w5.heap.size (rowL .i64 m)) w5.heap.size 63 .i64 m) := setRow_heap _ _ _ _ _ _ hN
      have HR6 : Hid (RowZ ((w5.alloc (.cells (rowL .i64 (List.replicate 16 0)) 63)).setRow w5.heap.size (rowL .i64 m)) w.heap.size 63 .i64 f) := (setRow_other _ _ _ _ (by omega)).trans ((Lib.alloc_old _ _ _ (by omega)).trans HR5.out)
      have HU6 : Hid (RowZ ((w5.alloc (.cells (rowL .i64 (List.replicate 16 0)) 63)).setRow w5.heap.size (rowL .i64 m)) (w.heap.size + 1) 63 .i64 (List.replicate 16 0)) := (setRow_other _ _ _ _ (by omega)).trans ((Lib.alloc_old _ _ _ (by omega)).trans HU5.out)
      have HB6 : Hid (Below w.heap.size w ((w5.alloc (.cells (rowL .i64 (List.replicate 16 0)) 63)).setRow w5.heap.size (rowL .i64 m))) := below_setRow (HB5.out.alloc HB5.out.size _) HB5.out.size _
      generalize (w5.alloc (.cells (rowL .i64 (List.replicate 16 0)) 63)).setRow w5.heap.size (rowL .i64 m) = w6 at HX6 HR6 HU6 HB6 ⊢
      generalize w5.heap.size = g6 at HX6 ⊢
      clear hN HR5 HU5 HB5 hgs5
      by_cases hov : ov = 0
      · subst hov
        have HG : Hid (RedOf l f) := HNO.out rfl
        clear HYES HNO
        go_upto_region 10 with fail
        refine wp_region_lit ?_
        refine wpl_load rfl _ _ rfl _ rfl w.heap.size (rowL .i64 f) rfl 63 (0, 0) HR6.out _ Try.underlying63 rfl (sizeFnL hfl) ?_
        try simp only [Act.put, List.getElem_toArray, List.getElem_cons_succ, List.getElem_cons_zero, List.setIfInBounds_toArray, List.set_cons_succ, List.set_cons_zero]
        refine wpList_store_rowTo rfl _ _ _ rfl rfl (w.heap.size + 1) (rowL .i64 f) rfl rfl 63 (rowL .i64 (List.replicate 16 0)) HU6.out (sizeFnL hfl) (by rw [rowL_size, rowL_size, hfl]; rfl) (rowL_one _ _) ?_
        try simp only [Act.put, List.getElem_toArray, List.getElem_cons_succ, List.getElem_cons_zero, List.setIfInBounds_toArray, List.set_cons_succ, List.set_cons_zero]
        have hR : (w6.setRow (w.heap.size + 1) (rowL .i64 f)).heap[w.heap.size + 1]? = some (.cells (rowL .i64 f) 63 (0, 0)) := setRow_heap _ _ _ _ _ _ HU6.out
        have hBB := below_setRow HB6.out (show w.heap.size ≤ w.heap.size + 1 by omega) (rowL .i64 f)
        generalize w6.setRow (w.heap.size + 1) (rowL .i64 f) = wz at hR hBB ⊢
        go_wp2
        refine bodyPost_ret (results_cell_row rfl _ _ (w.heap.size + 1) 63 (rowL .i64 f) (0, 0) _ rfl ?_ Try.underlying63 rfl (sizeFnL hfl)) rfl ?_
        · exact hR
        · exact ⟨f, rfl, HG.out, hBB⟩
      · have HG : Hid (RedOf l m) := HYES.out hov
        clear HYES HNO
        go_upto_region 9 with fail
        refine wp_region_lit ?_
        refine wpl_load rfl _ _ rfl _ rfl g6 (rowL .i64 m) rfl 63 (0, 0) HX6.out _ Try.underlying63 rfl (sizeFnL hml) ?_
        try simp only [Act.put, List.getElem_toArray, List.getElem_cons_succ, List.getElem_cons_zero, List.setIfInBounds_toArray, List.set_cons_succ, List.set_cons_zero]
        refine wpList_store_rowTo rfl _ _ _ rfl rfl (w.heap.size + 1) (rowL .i64 m) rfl rfl 63 (rowL .i64 (List.replicate 16 0)) HU6.out (sizeFnL hml) (by rw [rowL_size, rowL_size, hml]; rfl) (rowL_one _ _) ?_
        try simp only [Act.put, List.getElem_toArray, List.getElem_cons_succ, List.getElem_cons_zero, List.setIfInBounds_toArray, List.set_cons_succ, List.set_cons_zero]
        have hR : (w6.setRow (w.heap.size + 1) (rowL .i64 m)).heap[w.heap.size + 1]? = some (.cells (rowL .i64 m) 63 (0, 0)) := setRow_heap _ _ _ _ _ _ HU6.out
        have hBB := below_setRow HB6.out (show w.heap.size ≤ w.heap.size + 1 by omega) (rowL .i64 m)
        generalize w6.setRow (w.heap.size + 1) (rowL .i64 m) = wz at hR hBB ⊢
        go_wp2
        refine bodyPost_ret (results_cell_row rfl _ _ (w.heap.size + 1) 63 (rowL .i64 m) (0, 0) _ rfl ?_ Try.underlying63 rfl (sizeFnL hml)) rfl ?_
        · exact hR
        · exact ⟨m, rfl, HG.out, hBB⟩
    · have hrk := rank_less hok h0 (by omega) (by omega)
      have hD : cellsOf wr.heap[w.heap.size]? = f := cellsOf_row HR.out
      have c1 := HR.out.cell (i := 0) (by omega)
      have z1 := HR.out.froz 0
      have hw1 : IntKind.i64.wrap (19 * ov) = 19 * ov := by rw [w64_wrap]; exact w64_id (by omega) (by omega)
      have hw : IntKind.i64.wrap (f.getD 0 0 + 19 * ov) = f.getD 0 0 + 19 * ov := by rw [w64_wrap]; exact w64_id (by omega) (by omega)
      have HX4 : Hid (RowZ (wr.setCell ⟨w.heap.size, 0, none⟩ (.int .i64 (f.getD 0 0 + 19 * ov))) w.heap.size 63 .i64 (addH (19 * ov) f)) := by rw [← addH_set (19 * ov) hfl]; exact HR.out.set 0 _
      have HU4 : Hid (RowZ (wr.setCell ⟨w.heap.size, 0, none⟩ (.int .i64 (f.getD 0 0 + 19 * ov))) (w.heap.size + 1) 63 .i64 (List.replicate 16 0)) := HU.out.other _ (by omega)
      have HB4 : Hid (Below w.heap.size w (wr.setCell ⟨w.heap.size, 0, none⟩ (.int .i64 (f.getD 0 0 + 19 * ov)))) := HB.out.setCell (Nat.le_refl _) _
      have hsm : small (addH (19 * ov) f) := addH_small hok (by omega) (by omega)
      have hal : (addH (19 * ov) f).length = 16 := by rw [addH_len, hfl]
      have HM2 : Hid (small l → (lval fb (lcar fb 0 (addH (19 * ov) f)).1 + 19 * (lcar fb 0 (addH (19 * ov) f)).2) % fp = lval fb l % fp) := fun hs => by have h := fold_mod hal; rw [addH_val _ (lcar_len 0 hal), addH_val _ hfl] at h; rw [h]; exact HM.out hs
      clear HB HR HU HM
      generalize f.getD 0 0 = x0 at c1 hw hf0 HX4 HU4 HB4
      go_upto_region 4 with fail
      generalize wr.setCell ⟨w.heap.size, 0, none⟩ (.int .i64 (x0 + 19 * ov)) = w4 at HX4 HU4 HB4 ⊢
      clear c1 z1 hw hw1 hf0
      have hcs : lcw fb 0 (addH (19 * ov) f) = lcar fb 0 (addH (19 * ov) f) := cw_small hsm
      have hok2 : lok fb (lcar fb 0 (addH (19 * ov) f)).1 := lcar_ok 0 fb_pos hal
      refine wp_region_lit ?_
      refine wpl_load rfl _ _ rfl _ rfl w.heap.size (rowL .i64 (addH (19 * ov) f)) rfl 63 (0, 0) HX4.out _ Try.underlying63 rfl (sizeFnL hal) ?_
      try simp only [Act.put, List.getElem_toArray, List.getElem_cons_succ, List.getElem_cons_zero, List.setIfInBounds_toArray, List.set_cons_succ, List.set_cons_zero]
      go_wp2_with fail
      refine Calls.mono (HC.out (addH (19 * ov) f) _ hal) ?_
      rintro e w5 ⟨rfl, hb⟩
      rename_i hq
      refine hq _ _ ?_
      clear hq
      try simp only [Act.put, List.getElem_toArray, List.getElem_cons_succ, List.getElem_cons_zero, List.setIfInBounds_toArray, List.set_cons_succ, List.set_cons_zero]
      rw [hcs]
      refine Go.Great.wpList_runTo rfl _ rfl (.tuple #[.agg (rowL .i64 (lcar fb 0 (addH (19 * ov) f)).1), .int .i64 (lcar fb 0 (addH (19 * ov) f)).2]) w5 (by unfold execOp; go_simp) ?_
      try simp only [Act.put, List.getElem_toArray, List.getElem_cons_succ, List.getElem_cons_zero, List.setIfInBounds_toArray, List.set_cons_succ, List.set_cons_zero]
      refine Go.Great.wpList_runTo rfl _ rfl (.agg (rowL .i64 (lcar fb 0 (addH (19 * ov) f)).1)) w5 (by unfold execOp; go_simp) ?_
      try simp only [Act.put, List.getElem_toArray, List.getElem_cons_succ, List.getElem_cons_zero, List.setIfInBounds_toArray, List.set_cons_succ, List.set_cons_zero]
      refine Go.Great.wpList_runTo rfl _ rfl (.int .i64 (lcar fb 0 (addH (19 * ov) f)).2) w5 (by unfold execOp; go_simp) ?_
      try simp only [Act.put, List.getElem_toArray, List.getElem_cons_succ, List.getElem_cons_zero, List.setIfInBounds_toArray, List.set_cons_succ, List.set_cons_zero]
      have hX5 := HX4.out.next hb
      have hU5 := HU4.out.next hb
      have hB5 := HB4.out.trans (hb.mono HB4.out.size)
      clear HX4 HU4 HB4 hb hcs hsm
      have hml : (lcar fb 0 (addH (19 * ov) f)).1.length = 16 := lcar_len 0 hal
      generalize (lcar fb 0 (addH (19 * ov) f)).1 = m at hml hok2 HM2 hrk ⊢
      generalize (lcar fb 0 (addH (19 * ov) f)).2 = ov2 at HM2 hrk ⊢
      refine wpList_store_rowTo rfl _ _ _ rfl rfl (w.heap.size) (rowL .i64 m) rfl rfl 63 (rowL .i64 (addH (19 * ov) f)) hX5 (sizeFnL hml) (by rw [rowL_size, rowL_size, hml, hal]) (rowL_one _ _) ?_
      try simp only [Act.put, List.getElem_toArray, List.getElem_cons_succ, List.getElem_cons_zero, List.setIfInBounds_toArray, List.set_cons_succ, List.set_cons_zero]
      have HX6 : Hid (RowZ (w5.setRow w.heap.size (rowL .i64 m)) w.heap.size 63 .i64 m) := setRow_heap _ _ _ _ _ _ hX5
      have HU6 : Hid (RowZ (w5.setRow w.heap.size (rowL .i64 m)) (w.heap.size + 1) 63 .i64 (List.replicate 16 0)) := (setRow_other _ _ _ _ (by omega)).trans hU5
      have HB6 : Hid (Below w.heap.size w (w5.setRow w.heap.size (rowL .i64 m))) := below_setRow hB5 (Nat.le_refl _) _
      generalize w5.setRow w.heap.size (rowL .i64 m) = w6 at HX6 HU6 HB6 ⊢
      clear hX5 hU5 hB5
      go_wp2
      go_roundw
      case rel => exact ⟨m, ov2, rfl, HB6, HX6, HU6, hok2, ⟨by omega, by omega⟩, HM2⟩
      case measure =>
        rw [cellsOf_row HX6.out, hD]
        exact hrk.1
end Go.Proofs.Ytjhglbdknjoeeaa
