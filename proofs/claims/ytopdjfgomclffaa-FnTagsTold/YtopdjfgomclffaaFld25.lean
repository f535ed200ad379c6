/- The program's numbers of a tag (chapter 25): ofBoth, AddLimbs, MulLimbs. -/
import Derived.Test.YtopdjfgomclffaaLok25
import Derived.Test.YtopdjfgomclffaaAsl25
import Derived.Test.YtopdjfgomclffaaAdd25
import Derived.Test.YtopdjfgomclffaaTim25
import Derived.WalkKit
import Derived.WalkLawsBesides
import Derived.WalkSpells
import Derived.BigRegion
import Derived.Laws.ShiftsVar
import Derived.Below
import Derived.OwnWalk
import Derived.PlainAid
import Derived.Great.Walk
namespace Go.Proofs.Ytopdjfgomclffaa
open Go.RowKit Go.PlainAid
set_option maxRecDepth 20000
set_option linter.unusedVariables false
set_option linter.unusedSimpArgs false
/-- What two numbers make, when both are right. -/
def twoP (n0 n1 : List Int) (v : Int) : List Int := if okP n0 && okP n1 then canonP v else []
theorem twoP_len (n0 n1 : List Int) (v : Int) : (twoP n0 n1 v).length ≤ 2097152 := by
  unfold twoP
  split
  · rw [canonP_len]; omega
  · exact Nat.zero_le _
set_option maxHeartbeats 3200000 in
theorem with_plus (a0 a1 : Option Addr) (c0 c1 : Nat) (n0 n1 : List Int) (w : World) (hr0 : RowI w.heap.size w a0 n0) (hr1 : RowI w.heap.size w a1 n1) :
    Calls Try.prog 26 #[.agg #[.slice a0 n0.length c0], .agg #[.slice a1 n1.length c1], .func (.func 28) #[] #[]] w fun e w' => ∃ v, e = .returned (.agg #[v]) ∧ OwnInt w.heap.size w' v (twoP n0 n1 (lval pb n0 + lval pb n1)) ∧ Below w.heap.size w w' := by
  go_enter Try.func26, Try.ntmps26
  go_upto_region 1 with fail
  have hA2 : (((w.alloc (.cells #[.slice a0 n0.length c0] 26)).alloc (.cells #[.slice a1 n1.length c1] 26)).alloc (.cells #[.slice none 0 0] 26)).heap[w.heap.size + 2]? = some (.cells #[.slice none 0 0] 26 (0, 0)) := by
    have := heap_alloc_new ((w.alloc (.cells #[.slice a0 n0.length c0] 26)).alloc (.cells #[.slice a1 n1.length c1] 26)) (.cells #[.slice none 0 0] 26)
    simpa using this
  have hA1 : (((w.alloc (.cells #[.slice a0 n0.length c0] 26)).alloc (.cells #[.slice a1 n1.length c1] 26)).alloc (.cells #[.slice none 0 0] 26)).heap[w.heap.size + 1]? = some (.cells #[.slice a1 n1.length c1] 26 (0, 0)) := by
    have := heap_alloc_new (w.alloc (.cells #[.slice a0 n0.length c0] 26)) (.cells #[.slice a1 n1.length c1] 26)
    exact (Lib.alloc_old _ _ _ (by simp)).trans (by simpa using this)
  have hA0 : (((w.alloc (.cells #[.slice a0 n0.length c0] 26)).alloc (.cells #[.slice a1 n1.length c1] 26)).alloc (.cells #[.slice none 0 0] 26)).heap[w.heap.size]? = some (.cells #[.slice a0 n0.length c0] 26 (0, 0)) := (Lib.alloc_old _ _ _ (by simp; omega)).trans <| (Lib.alloc_old _ _ _ (by simp)).trans (heap_alloc_new w _)
  have hB0 : Below w.heap.size w (((w.alloc (.cells #[.slice a0 n0.length c0] 26)).alloc (.cells #[.slice a1 n1.length c1] 26)).alloc (.cells #[.slice none 0 0] 26)) := (((Below.refl _ _).alloc (Nat.le_refl _) _).alloc (by simp) _).alloc (by simp; omega) _
  generalize (((w.alloc (.cells #[.slice a0 n0.length c0] 26)).alloc (.cells #[.slice a1 n1.length c1] 26)).alloc (.cells #[.slice none 0 0] 26)) = w0 at hA0 hA1 hA2 hB0 ⊢
  have hs0 : w.heap.size + 2 < w0.heap.size := (Array.getElem?_eq_some_iff.1 hA2).1
  have hq0 := hr0.grown hB0
  have hq1 := hr1.grown hB0
  clear hr0 hr1
  refine wp_region_lit ?_
  refine wpl_load rfl _ _ rfl _ rfl (w.heap.size) #[.slice a0 n0.length c0] rfl 26 (0, 0) hA0 _ Try.underlying26 rfl (sizeLimbs1 _) ?_
  try simp only [Act.put, List.getElem_toArray, List.getElem_cons_succ, List.getElem_cons_zero, List.setIfInBounds_toArray, List.set_cons_succ, List.set_cons_zero]
  go_wp2_with fail
  refine Calls.mono (number_any a0 c0 n0 w0 (hq0)) ?_
  rintro e w1 ⟨m, rfl, hlm, hem, hb⟩
  rename_i hq
  refine hq _ _ ?_
  clear hq
  try simp only [Act.put, List.getElem_toArray, List.getElem_cons_succ, List.getElem_cons_zero, List.setIfInBounds_toArray, List.set_cons_succ, List.set_cons_zero]
  refine Go.Great.wpList_runTo rfl _ rfl (.tuple #[.agg (rowL .u64 m), .bool (okP n0)]) w1 (by unfold execOp; go_simp) ?_
  try simp only [Act.put, List.getElem_toArray, List.getElem_cons_succ, List.getElem_cons_zero, List.setIfInBounds_toArray, List.set_cons_succ, List.set_cons_zero]
  refine Go.Great.wpList_runTo rfl _ rfl (.agg (rowL .u64 m)) w1 (by unfold execOp; go_simp) ?_
  try simp only [Act.put, List.getElem_toArray, List.getElem_cons_succ, List.getElem_cons_zero, List.setIfInBounds_toArray, List.set_cons_succ, List.set_cons_zero]
  refine Go.Great.wpList_runTo rfl _ rfl (.bool (okP n0)) w1 (by unfold execOp; go_simp) ?_
  try simp only [Act.put, List.getElem_toArray, List.getElem_cons_succ, List.getElem_cons_zero, List.setIfInBounds_toArray, List.set_cons_succ, List.set_cons_zero]
  have hA1' := (hb.block (w.heap.size + 1) (by omega)).trans hA1
  have hA2' := (hb.block (w.heap.size + 2) (by omega)).trans hA2
  have hq1' := hq1.grown hb
  have hB1 := hB0.trans (hb.mono hB0.size)
  have hs1 : w.heap.size + 2 < w1.heap.size := Nat.lt_of_lt_of_le hs0 hb.size
  clear hA0 hA1 hA2 hq0 hq1 hb hB0 hs0
  refine Go.Great.wpList_allocTo rfl _ rfl (.pointer (some ⟨w1.heap.size, 0, none⟩)) (.cells (rowL .u64 z5) 52) (by rw [← zeroPn]; unfold execOp; go_simp) ?_
  try simp only [Act.put, List.getElem_toArray, List.getElem_cons_succ, List.getElem_cons_zero, List.setIfInBounds_toArray, List.set_cons_succ, List.set_cons_zero]
  have hN := heap_alloc_new w1 (.cells (rowL .u64 z5) 52)
  refine wpList_store_rowTo rfl _ _ _ rfl rfl (w1.heap.size) (rowL .u64 m) rfl rfl 52 (rowL .u64 z5) hN (sizePnL hlm) (by simp only [rowL_size]; exact hlm.symm) (rowL_one _ _) ?_
  try simp only [Act.put, List.getElem_toArray, List.getElem_cons_succ, List.getElem_cons_zero, List.setIfInBounds_toArray, List.set_cons_succ, List.set_cons_zero]
  have hM2 : RowZ ((w1.alloc (.cells (rowL .u64 z5) 52)).setRow w1.heap.size (rowL .u64 m)) w1.heap.size 52 .u64 m := setRow_heap _ _ _ _ _ _ hN
  have hB2 : Below w.heap.size w ((w1.alloc (.cells (rowL .u64 z5) 52)).setRow w1.heap.size (rowL .u64 m)) := below_setRow (hB1.alloc hB1.size _) hB1.size _
  have hb2 : Below w1.heap.size w1 ((w1.alloc (.cells (rowL .u64 z5) 52)).setRow w1.heap.size (rowL .u64 m)) := below_setRow ((Below.refl _ _).alloc (Nat.le_refl _) _) (Nat.le_refl _) _
  have hA12 := (hb2.block (w.heap.size + 1) (by omega)).trans hA1'
  have hA22 := (hb2.block (w.heap.size + 2) (by omega)).trans hA2'
  have hq12 := hq1'.grown hb2
  have hgs := hb2.size
  generalize (w1.alloc (.cells (rowL .u64 z5) 52)).setRow w1.heap.size (rowL .u64 m) = w2 at hM2 hB2 hb2 hA12 hA22 hq12 hgs ⊢
  generalize hg7 : w1.heap.size = g7 at hM2 hs1 hgs ⊢
  clear hN hb2 hA1' hA2' hq1' hB1 hg7
  have hl7 : g7 < w2.heap.size := hM2.lt
  go_upto_region 2 with fail
  refine wp_region_lit ?_
  refine wpl_load rfl _ _ rfl _ rfl (w.heap.size + 1) #[.slice a1 n1.length c1] rfl 26 (0, 0) hA12 _ Try.underlying26 rfl (sizeLimbs1 _) ?_
  try simp only [Act.put, List.getElem_toArray, List.getElem_cons_succ, List.getElem_cons_zero, List.setIfInBounds_toArray, List.set_cons_succ, List.set_cons_zero]
  go_wp2_with fail
  refine Calls.mono (number_any a1 c1 n1 w2 (hq12)) ?_
  rintro e w3 ⟨k, rfl, hlk, hek, hb⟩
  rename_i hq
  refine hq _ _ ?_
  clear hq
  try simp only [Act.put, List.getElem_toArray, List.getElem_cons_succ, List.getElem_cons_zero, List.setIfInBounds_toArray, List.set_cons_succ, List.set_cons_zero]
  refine Go.Great.wpList_runTo rfl _ rfl (.tuple #[.agg (rowL .u64 k), .bool (okP n1)]) w3 (by unfold execOp; go_simp) ?_
  try simp only [Act.put, List.getElem_toArray, List.getElem_cons_succ, List.getElem_cons_zero, List.setIfInBounds_toArray, List.set_cons_succ, List.set_cons_zero]
  refine Go.Great.wpList_runTo rfl _ rfl (.agg (rowL .u64 k)) w3 (by unfold execOp; go_simp) ?_
  try simp only [Act.put, List.getElem_toArray, List.getElem_cons_succ, List.getElem_cons_zero, List.setIfInBounds_toArray, List.set_cons_succ, List.set_cons_zero]
  refine Go.Great.wpList_runTo rfl _ rfl (.bool (okP n1)) w3 (by unfold execOp; go_simp) ?_
  try simp only [Act.put, List.getElem_toArray, List.getElem_cons_succ, List.getElem_cons_zero, List.setIfInBounds_toArray, List.set_cons_succ, List.set_cons_zero]
  have hA23 := (hb.block (w.heap.size + 2) (by omega)).trans hA22
  have hM3 := hM2.next hb
  have hB3 := hB2.trans (hb.mono hB2.size)
  have hl73 : g7 < w3.heap.size := hM3.lt
  clear hA12 hA22 hq12 hb hB2 hM2
  refine Go.Great.wpList_allocTo rfl _ rfl (.pointer (some ⟨w3.heap.size, 0, none⟩)) (.cells (rowL .u64 z5) 52) (by rw [← zeroPn]; unfold execOp; go_simp) ?_
  try simp only [Act.put, List.getElem_toArray, List.getElem_cons_succ, List.getElem_cons_zero, List.setIfInBounds_toArray, List.set_cons_succ, List.set_cons_zero]
  have hN := heap_alloc_new w3 (.cells (rowL .u64 z5) 52)
  refine wpList_store_rowTo rfl _ _ _ rfl rfl (w3.heap.size) (rowL .u64 k) rfl rfl 52 (rowL .u64 z5) hN (sizePnL hlk) (by simp only [rowL_size]; exact hlk.symm) (rowL_one _ _) ?_
  try simp only [Act.put, List.getElem_toArray, List.getElem_cons_succ, List.getElem_cons_zero, List.setIfInBounds_toArray, List.set_cons_succ, List.set_cons_zero]
  have hK4 : RowZ ((w3.alloc (.cells (rowL .u64 z5) 52)).setRow w3.heap.size (rowL .u64 k)) w3.heap.size 52 .u64 k := setRow_heap _ _ _ _ _ _ hN
  have hB4 : Below w.heap.size w ((w3.alloc (.cells (rowL .u64 z5) 52)).setRow w3.heap.size (rowL .u64 k)) := below_setRow (hB3.alloc hB3.size _) hB3.size _
  have hb4 : Below w3.heap.size w3 ((w3.alloc (.cells (rowL .u64 z5) 52)).setRow w3.heap.size (rowL .u64 k)) := below_setRow ((Below.refl _ _).alloc (Nat.le_refl _) _) (Nat.le_refl _) _
  have hA24 := (hb4.block (w.heap.size + 2) (by omega)).trans hA23
  have hM4 := hM3.next hb4
  generalize (w3.alloc (.cells (rowL .u64 z5) 52)).setRow w3.heap.size (rowL .u64 k) = w4 at hK4 hB4 hb4 hA24 hM4 ⊢
  generalize w3.heap.size = g9 at hK4 hl73 ⊢
  clear hN hb4 hA23 hM3 hB3 hs1 hgs hl7
  have HM : Hid (RowZ w4 g7 52 .u64 m) := hM4
  have HK : Hid (RowZ w4 g9 52 .u64 k) := hK4
  have HB : Hid (Below w.heap.size w w4) := hB4
  have HA : Hid (w4.heap[w.heap.size + 2]? = some (.cells #[.slice none 0 0] 26 (0, 0))) := hA24
  clear hM4 hK4 hB4 hA24
  have r0 : w4.cell? ⟨w.heap.size + 2, 0, none⟩ = some (.slice none 0 0) := by rw [cell_of_row w4 _ 0 _ _ _ HA.out]; rfl
  have r1 : w4.frozen? ⟨w.heap.size + 2, 0, none⟩ = false := frozen_of_row w4 _ 0 _ _ HA.out
  cases h0 : okP n0
  · have HI : Hid ((twoP n0 n1 (lval pb n0 + lval pb n1)) = []) := by show _ = _; unfold twoP; rw [h0]; rfl
    clear h0
    have HB5 : Hid (Below w.heap.size w (w4.setCell ⟨w.heap.size + 2, 0, none⟩ (.slice none 0 0))) := HB.out.setCell (show w.heap.size ≤ w.heap.size + 2 by omega) _
    have HR5 : Hid ((w4.setCell ⟨w.heap.size + 2, 0, none⟩ (.slice none 0 0)).heap[w.heap.size + 2]? = some (.cells #[.slice none 0 0] 26 (0, 0))) := by show _ = _; rw [heap_setCell_same w4 (w.heap.size + 2) 0 _ _ _ HA.out]; rfl
    go_wp2
    refine bodyPost_ret (results_cell_row rfl _ _ (w.heap.size + 2) 26 #[.slice none 0 0] (0, 0) _ rfl ?_ Try.underlying26 rfl (sizeLimbs1 _)) rfl ?_
    · exact HR5.out
    · refine ⟨_, rfl, ?_, HB5.out⟩
      rw [HI.out]
      exact ⟨rfl, .inl ⟨rfl, rfl⟩⟩
  · cases h1 : okP n1
    · have HI : Hid ((twoP n0 n1 (lval pb n0 + lval pb n1)) = []) := by show _ = _; unfold twoP; rw [h0, h1]; rfl
      clear h0 h1
      have HB5 : Hid (Below w.heap.size w (w4.setCell ⟨w.heap.size + 2, 0, none⟩ (.slice none 0 0))) := HB.out.setCell (show w.heap.size ≤ w.heap.size + 2 by omega) _
      have HR5 : Hid ((w4.setCell ⟨w.heap.size + 2, 0, none⟩ (.slice none 0 0)).heap[w.heap.size + 2]? = some (.cells #[.slice none 0 0] 26 (0, 0))) := by show _ = _; rw [heap_setCell_same w4 (w.heap.size + 2) 0 _ _ _ HA.out]; rfl
      go_wp2
      refine bodyPost_ret (results_cell_row rfl _ _ (w.heap.size + 2) 26 #[.slice none 0 0] (0, 0) _ rfl ?_ Try.underlying26 rfl (sizeLimbs1 _)) rfl ?_
      · exact HR5.out
      · refine ⟨_, rfl, ?_, HB5.out⟩
        rw [HI.out]
        exact ⟨rfl, .inl ⟨rfl, rfl⟩⟩
    · have em := hem h0
      have ek := hek h1
      subst em
      subst ek
      have HI : Hid ((twoP m k (lval pb m + lval pb k)) = canonP (lval pb m + lval pb k)) := by show _ = _; unfold twoP; rw [h0, h1]; rfl
      have hw0 : lok pb m := okP_lok h0
      have hw1 : lok pb k := okP_lok h1
      clear h0 h1 hem hek
      go_upto_region 5 with fail
      refine wp_region_lit ?_
      refine Go.Great.wpList_runTo rfl _ rfl (.func (.func 28) #[] #[]) w4 (by unfold execOp; go_simp) ?_
      try simp only [Act.put, List.getElem_toArray, List.getElem_cons_succ, List.getElem_cons_zero, List.setIfInBounds_toArray, List.set_cons_succ, List.set_cons_zero]
      refine wpl_load rfl _ _ rfl _ rfl g7 (rowL .u64 m) rfl 52 (0, 0) HM.out _ Try.underlying52 rfl (sizePnL hlm) ?_
      try simp only [Act.put, List.getElem_toArray, List.getElem_cons_succ, List.getElem_cons_zero, List.setIfInBounds_toArray, List.set_cons_succ, List.set_cons_zero]
      refine wpl_load rfl _ _ rfl _ rfl g9 (rowL .u64 k) rfl 52 (0, 0) HK.out _ Try.underlying52 rfl (sizePnL hlk) ?_
      try simp only [Act.put, List.getElem_toArray, List.getElem_cons_succ, List.getElem_cons_zero, List.setIfInBounds_toArray, List.set_cons_succ, List.set_cons_zero]
      go_wp2_with fail
      refine Calls.mono (plus_any m k w4 hw0 hw1) ?_
      rintro e w5 ⟨rfl, hb⟩
      rename_i hq
      refine hq _ _ ?_
      clear hq
      try simp only [Act.put, List.getElem_toArray, List.getElem_cons_succ, List.getElem_cons_zero, List.setIfInBounds_toArray, List.set_cons_succ, List.set_cons_zero]
      have hA5 := (hb.block (w.heap.size + 2) (Array.getElem?_eq_some_iff.1 HA.out).1).trans HA.out
      have hB5 := HB.out.trans (hb.mono HB.out.size)
      have hl5 : w.heap.size + 2 < w5.heap.size := (Array.getElem?_eq_some_iff.1 hA5).1
      clear hb r0 r1
      go_wp2_with fail
      refine Calls.mono (asLimbs_any (canonP (lval pb m + lval pb k)) w5 (canonP_ok _)) ?_
      rintro e w6 ⟨v, rfl, ho, hb⟩
      rename_i hq
      refine hq _ _ ?_
      clear hq
      try simp only [Act.put, List.getElem_toArray, List.getElem_cons_succ, List.getElem_cons_zero, List.setIfInBounds_toArray, List.set_cons_succ, List.set_cons_zero]
      obtain ⟨x, y, rfl, -, -⟩ := ho.row
      rw [canonP_len] at ho ⊢
      have hA6 := (hb.block (w.heap.size + 2) hl5).trans hA5
      have r0 : w6.cell? ⟨w.heap.size + 2, 0, none⟩ = some (.slice none 0 0) := by rw [cell_of_row w6 _ 0 _ _ _ hA6]; rfl
      have r1 : w6.frozen? ⟨w.heap.size + 2, 0, none⟩ = false := frozen_of_row w6 _ 0 _ _ hA6
      have HB7 : Hid (Below w.heap.size w (w6.setCell ⟨w.heap.size + 2, 0, none⟩ (.slice x 5 y))) := (hB5.trans (hb.mono hB5.size)).setCell (show w.heap.size ≤ w.heap.size + 2 by omega) _
      have HO7 : Hid (OwnInt w.heap.size (w6.setCell ⟨w.heap.size + 2, 0, none⟩ (.slice x 5 y)) (.slice x 5 y) (canonP (lval pb m + lval pb k))) := OwnInt.base (ownsRow_setCell_below ho (show w.heap.size + 2 < w5.heap.size by omega) _) hB5.size
      have HR7 : Hid ((w6.setCell ⟨w.heap.size + 2, 0, none⟩ (.slice x 5 y)).heap[w.heap.size + 2]? = some (.cells #[.slice x 5 y] 26 (0, 0))) := by show _ = _; rw [heap_setCell_same w6 (w.heap.size + 2) 0 _ _ _ hA6]; rfl
      clear ho hb hA6 hA5 hB5 HM HK HB HA
      go_wp2
      refine bodyPost_ret (results_cell_row rfl _ _ (w.heap.size + 2) 26 #[.slice x 5 y] (0, 0) _ rfl ?_ Try.underlying26 rfl (sizeLimbs1 _)) rfl ?_
      · exact HR7.out
      · exact ⟨_, rfl, by rw [HI.out]; exact HO7.out, HB7.out⟩
set_option maxHeartbeats 3200000 in
theorem with_times (a0 a1 : Option Addr) (c0 c1 : Nat) (n0 n1 : List Int) (w : World) (hr0 : RowI w.heap.size w a0 n0) (hr1 : RowI w.heap.size w a1 n1) :
    Calls Try.prog 26 #[.agg #[.slice a0 n0.length c0], .agg #[.slice a1 n1.length c1], .func (.func 27) #[] #[]] w fun e w' => ∃ v, e = .returned (.agg #[v]) ∧ OwnInt w.heap.size w' v (twoP n0 n1 (lval pb n0 * lval pb n1)) ∧ Below w.heap.size w w' := by
  go_enter Try.func26, Try.ntmps26
  go_upto_region 1 with fail
  have hA2 : (((w.alloc (.cells #[.slice a0 n0.length c0] 26)).alloc (.cells #[.slice a1 n1.length c1] 26)).alloc (.cells #[.slice none 0 0] 26)).heap[w.heap.size + 2]? = some (.cells #[.slice none 0 0] 26 (0, 0)) := by
    have := heap_alloc_new ((w.alloc (.cells #[.slice a0 n0.length c0] 26)).alloc (.cells #[.slice a1 n1.length c1] 26)) (.cells #[.slice none 0 0] 26)
    simpa using this
  have hA1 : (((w.alloc (.cells #[.slice a0 n0.length c0] 26)).alloc (.cells #[.slice a1 n1.length c1] 26)).alloc (.cells #[.slice none 0 0] 26)).heap[w.heap.size + 1]? = some (.cells #[.slice a1 n1.length c1] 26 (0, 0)) := by
    have := heap_alloc_new (w.alloc (.cells #[.slice a0 n0.length c0] 26)) (.cells #[.slice a1 n1.length c1] 26)
    exact (Lib.alloc_old _ _ _ (by simp)).trans (by simpa using this)
  have hA0 : (((w.alloc (.cells #[.slice a0 n0.length c0] 26)).alloc (.cells #[.slice a1 n1.length c1] 26)).alloc (.cells #[.slice none 0 0] 26)).heap[w.heap.size]? = some (.cells #[.slice a0 n0.length c0] 26 (0, 0)) := (Lib.alloc_old _ _ _ (by simp; omega)).trans <| (Lib.alloc_old _ _ _ (by simp)).trans (heap_alloc_new w _)
  have hB0 : Below w.heap.size w (((w.alloc (.cells #[.slice a0 n0.length c0] 26)).alloc (.cells #[.slice a1 n1.length c1] 26)).alloc (.cells #[.slice none 0 0] 26)) := (((Below.refl _ _).alloc (Nat.le_refl _) _).alloc (by simp) _).alloc (by simp; omega) _
  generalize (((w.alloc (.cells #[.slice a0 n0.length c0] 26)).alloc (.cells #[.slice a1 n1.length c1] 26)).alloc (.cells #[.slice none 0 0] 26)) = w0 at hA0 hA1 hA2 hB0 ⊢
  have hs0 : w.heap.size + 2 < w0.heap.size := (Array.getElem?_eq_some_iff.1 hA2).1
  have hq0 := hr0.grown hB0
  have hq1 := hr1.grown hB0
  clear hr0 hr1
  refine wp_region_lit ?_
  refine wpl_load rfl _ _ rfl _ rfl (w.heap.size) #[.slice a0 n0.length c0] rfl 26 (0, 0) hA0 _ Try.underlying26 rfl (sizeLimbs1 _) ?_
  try simp only [Act.put, List.getElem_toArray, List.getElem_cons_succ, List.getElem_cons_zero, List.setIfInBounds_toArray, List.set_cons_succ, List.set_cons_zero]
  go_wp2_with fail
  refine Calls.mono (number_any a0 c0 n0 w0 (hq0)) ?_
  rintro e w1 ⟨m, rfl, hlm, hem, hb⟩
  rename_i hq
  refine hq _ _ ?_
  clear hq
  try simp only [Act.put, List.getElem_toArray, List.getElem_cons_succ, List.getElem_cons_zero, List.setIfInBounds_toArray, List.set_cons_succ, List.set_cons_zero]
  refine Go.Great.wpList_runTo rfl _ rfl (.tuple #[.agg (rowL .u64 m), .bool (okP n0)]) w1 (by unfold execOp; go_simp) ?_
  try simp only [Act.put, List.getElem_toArray, List.getElem_cons_succ, List.getElem_cons_zero, List.setIfInBounds_toArray, List.set_cons_succ, List.set_cons_zero]
  refine Go.Great.wpList_runTo rfl _ rfl (.agg (rowL .u64 m)) w1 (by unfold execOp; go_simp) ?_
  try simp only [Act.put, List.getElem_toArray, List.getElem_cons_succ, List.getElem_cons_zero, List.setIfInBounds_toArray, List.set_cons_succ, List.set_cons_zero]
  refine Go.Great.wpList_runTo rfl _ rfl (.bool (okP n0)) w1 (by unfold execOp; go_simp) ?_
  try simp only [Act.put, List.getElem_toArray, List.getElem_cons_succ, List.getElem_cons_zero, List.setIfInBounds_toArray, List.set_cons_succ, List.set_cons_zero]
  have hA1' := (hb.block (w.heap.size + 1) (by omega)).trans hA1
  have hA2' := (hb.block (w.heap.size + 2) (by omega)).trans hA2
  have hq1' := hq1.grown hb
  have hB1 := hB0.trans (hb.mono hB0.size)
  have hs1 : w.heap.size + 2 < w1.heap.size := Nat.lt_of_lt_of_le hs0 hb.size
  clear hA0 hA1 hA2 hq0 hq1 hb hB0 hs0
  refine Go.Great.wpList_allocTo rfl _ rfl (.pointer (some ⟨w1.heap.size, 0, none⟩)) (.cells (rowL .u64 z5) 52) (by rw [← zeroPn]; unfold execOp; go_simp) ?_
  try simp only [Act.put, List.getElem_toArray, List.getElem_cons_succ, List.getElem_cons_zero, List.setIfInBounds_toArray, List.set_cons_succ, List.set_cons_zero]
  have hN := heap_alloc_new w1 (.cells (rowL .u64 z5) 52)
  refine wpList_store_rowTo rfl _ _ _ rfl rfl (w1.heap.size) (rowL .u64 m) rfl rfl 52 (rowL .u64 z5) hN (sizePnL hlm) (by simp only [rowL_size]; exact hlm.symm) (rowL_one _ _) ?_
  try simp only [Act.put, List.getElem_toArray, List.getElem_cons_succ, List.getElem_cons_zero, List.setIfInBounds_toArray, List.set_cons_succ, List.set_cons_zero]
  have hM2 : RowZ ((w1.alloc (.cells (rowL .u64 z5) 52)).setRow w1.heap.size (rowL .u64 m)) w1.heap.size 52 .u64 m := setRow_heap _ _ _ _ _ _ hN
  have hB2 : Below w.heap.size w ((w1.alloc (.cells (rowL .u64 z5) 52)).setRow w1.heap.size (rowL .u64 m)) := below_setRow (hB1.alloc hB1.size _) hB1.size _
  have hb2 : Below w1.heap.size w1 ((w1.alloc (.cells (rowL .u64 z5) 52)).setRow w1.heap.size (rowL .u64 m)) := below_setRow ((Below.refl _ _).alloc (Nat.le_refl _) _) (Nat.le_refl _) _
  have hA12 := (hb2.block (w.heap.size + 1) (by omega)).trans hA1'
  have hA22 := (hb2.block (w.heap.size + 2) (by omega)).trans hA2'
  have hq12 := hq1'.grown hb2
  have hgs := hb2.size
  generalize (w1.alloc (.cells (rowL .u64 z5) 52)).setRow w1.heap.size (rowL .u64 m) = w2 at hM2 hB2 hb2 hA12 hA22 hq12 hgs ⊢
  generalize hg7 : w1.heap.size = g7 at hM2 hs1 hgs ⊢
  clear hN hb2 hA1' hA2' hq1' hB1 hg7
  have hl7 : g7 < w2.heap.size := hM2.lt
  go_upto_region 2 with fail
  refine wp_region_lit ?_
  refine wpl_load rfl _ _ rfl _ rfl (w.heap.size + 1) #[.slice a1 n1.length c1] rfl 26 (0, 0) hA12 _ Try.underlying26 rfl (sizeLimbs1 _) ?_
  try simp only [Act.put, List.getElem_toArray, List.getElem_cons_succ, List.getElem_cons_zero, List.setIfInBounds_toArray, List.set_cons_succ, List.set_cons_zero]
  go_wp2_with fail
  refine Calls.mono (number_any a1 c1 n1 w2 (hq12)) ?_
  rintro e w3 ⟨k, rfl, hlk, hek, hb⟩
  rename_i hq
  refine hq _ _ ?_
  clear hq
  try simp only [Act.put, List.getElem_toArray, List.getElem_cons_succ, List.getElem_cons_zero, List.setIfInBounds_toArray, List.set_cons_succ, List.set_cons_zero]
  refine Go.Great.wpList_runTo rfl _ rfl (.tuple #[.agg (rowL .u64 k), .bool (okP n1)]) w3 (by unfold execOp; go_simp) ?_
  try simp only [Act.put, List.getElem_toArray, List.getElem_cons_succ, List.getElem_cons_zero, List.setIfInBounds_toArray, List.set_cons_succ, List.set_cons_zero]
  refine Go.Great.wpList_runTo rfl _ rfl (.agg (rowL .u64 k)) w3 (by unfold execOp; go_simp) ?_
  try simp only [Act.put, List.getElem_toArray, List.getElem_cons_succ, List.getElem_cons_zero, List.setIfInBounds_toArray, List.set_cons_succ, List.set_cons_zero]
  refine Go.Great.wpList_runTo rfl _ rfl (.bool (okP n1)) w3 (by unfold execOp; go_simp) ?_
  try simp only [Act.put, List.getElem_toArray, List.getElem_cons_succ, List.getElem_cons_zero, List.setIfInBounds_toArray, List.set_cons_succ, List.set_cons_zero]
  have hA23 := (hb.block (w.heap.size + 2) (by omega)).trans hA22
  have hM3 := hM2.next hb
  have hB3 := hB2.trans (hb.mono hB2.size)
  have hl73 : g7 < w3.heap.size := hM3.lt
  clear hA12 hA22 hq12 hb hB2 hM2
  refine Go.Great.wpList_allocTo rfl _ rfl (.pointer (some ⟨w3.heap.size, 0, none⟩)) (.cells (rowL .u64 z5) 52) (by rw [← zeroPn]; unfold execOp; go_simp) ?_
  try simp only [Act.put, List.getElem_toArray, List.getElem_cons_succ, List.getElem_cons_zero, List.setIfInBounds_toArray, List.set_cons_succ, List.set_cons_zero]
  have hN := heap_alloc_new w3 (.cells (rowL .u64 z5) 52)
  refine wpList_store_rowTo rfl _ _ _ rfl rfl (w3.heap.size) (rowL .u64 k) rfl rfl 52 (rowL .u64 z5) hN (sizePnL hlk) (by simp only [rowL_size]; exact hlk.symm) (rowL_one _ _) ?_
  try simp only [Act.put, List.getElem_toArray, List.getElem_cons_succ, List.getElem_cons_zero, List.setIfInBounds_toArray, List.set_cons_succ, List.set_cons_zero]
  have hK4 : RowZ ((w3.alloc (.cells (rowL .u64 z5) 52)).setRow w3.heap.size (rowL .u64 k)) w3.heap.size 52 .u64 k := setRow_heap _ _ _ _ _ _ hN
  have hB4 : Below w.heap.size w ((w3.alloc (.cells (rowL .u64 z5) 52)).setRow w3.heap.size (rowL .u64 k)) := below_setRow (hB3.alloc hB3.size _) hB3.size _
  have hb4 : Below w3.heap.size w3 ((w3.alloc (.cells (rowL .u64 z5) 52)).setRow w3.heap.size (rowL .u64 k)) := below_setRow ((Below.refl _ _).alloc (Nat.le_refl _) _) (Nat.le_refl _) _
  have hA24 := (hb4.block (w.heap.size + 2) (by omega)).trans hA23
  have hM4 := hM3.next hb4
  generalize (w3.alloc (.cells (rowL .u64 z5) 52)).setRow w3.heap.size (rowL .u64 k) = w4 at hK4 hB4 hb4 hA24 hM4 ⊢
  generalize w3.heap.size = g9 at hK4 hl73 ⊢
  clear hN hb4 hA23 hM3 hB3 hs1 hgs hl7
  have HM : Hid (RowZ w4 g7 52 .u64 m) := hM4
  have HK : Hid (RowZ w4 g9 52 .u64 k) := hK4
  have HB : Hid (Below w.heap.size w w4) := hB4
  have HA : Hid (w4.heap[w.heap.size + 2]? = some (.cells #[.slice none 0 0] 26 (0, 0))) := hA24
  clear hM4 hK4 hB4 hA24
  have r0 : w4.cell? ⟨w.heap.size + 2, 0, none⟩ = some (.slice none 0 0) := by rw [cell_of_row w4 _ 0 _ _ _ HA.out]; rfl
  have r1 : w4.frozen? ⟨w.heap.size + 2, 0, none⟩ = false := frozen_of_row w4 _ 0 _ _ HA.out
  cases h0 : okP n0
  · have HI : Hid ((twoP n0 n1 (lval pb n0 * lval pb n1)) = []) := by show _ = _; unfold twoP; rw [h0]; rfl
    clear h0
    have HB5 : Hid (Below w.heap.size w (w4.setCell ⟨w.heap.size + 2, 0, none⟩ (.slice none 0 0))) := HB.out.setCell (show w.heap.size ≤ w.heap.size + 2 by omega) _
    have HR5 : Hid ((w4.setCell ⟨w.heap.size + 2, 0, none⟩ (.slice none 0 0)).heap[w.heap.size + 2]? = some (.cells #[.slice none 0 0] 26 (0, 0))) := by show _ = _; rw [heap_setCell_same w4 (w.heap.size + 2) 0 _ _ _ HA.out]; rfl
    go_wp2
    refine bodyPost_ret (results_cell_row rfl _ _ (w.heap.size + 2) 26 #[.slice none 0 0] (0, 0) _ rfl ?_ Try.underlying26 rfl (sizeLimbs1 _)) rfl ?_
    · exact HR5.out
    · refine ⟨_, rfl, ?_, HB5.out⟩
      rw [HI.out]
      exact ⟨rfl, .inl ⟨rfl, rfl⟩⟩
  · cases h1 : okP n1
    · have HI : Hid ((twoP n0 n1 (lval pb n0 * lval pb n1)) = []) := by show _ = _; unfold twoP; rw [h0, h1]; rfl
      clear h0 h1
      have HB5 : Hid (Below w.heap.size w (w4.setCell ⟨w.heap.size + 2, 0, none⟩ (.slice none 0 0))) := HB.out.setCell (show w.heap.size ≤ w.heap.size + 2 by omega) _
      have HR5 : Hid ((w4.setCell ⟨w.heap.size + 2, 0, none⟩ (.slice none 0 0)).heap[w.heap.size + 2]? = some (.cells #[.slice none 0 0] 26 (0, 0))) := by show _ = _; rw [heap_setCell_same w4 (w.heap.size + 2) 0 _ _ _ HA.out]; rfl
      go_wp2
      refine bodyPost_ret (results_cell_row rfl _ _ (w.heap.size + 2) 26 #[.slice none 0 0] (0, 0) _ rfl ?_ Try.underlying26 rfl (sizeLimbs1 _)) rfl ?_
      · exact HR5.out
      · refine ⟨_, rfl, ?_, HB5.out⟩
        rw [HI.out]
        exact ⟨rfl, .inl ⟨rfl, rfl⟩⟩
    · have em := hem h0
      have ek := hek h1
      subst em
      subst ek
      have HI : Hid ((twoP m k (lval pb m * lval pb k)) = canonP (lval pb m * lval pb k)) := by show _ = _; unfold twoP; rw [h0, h1]; rfl
      have hw0 : lok pb m := okP_lok h0
      have hw1 : lok pb k := okP_lok h1
      clear h0 h1 hem hek
      go_upto_region 5 with fail
      refine wp_region_lit ?_
      refine Go.Great.wpList_runTo rfl _ rfl (.func (.func 27) #[] #[]) w4 (by unfold execOp; go_simp) ?_
      try simp only [Act.put, List.getElem_toArray, List.getElem_cons_succ, List.getElem_cons_zero, List.setIfInBounds_toArray, List.set_cons_succ, List.set_cons_zero]
      refine wpl_load rfl _ _ rfl _ rfl g7 (rowL .u64 m) rfl 52 (0, 0) HM.out _ Try.underlying52 rfl (sizePnL hlm) ?_
      try simp only [Act.put, List.getElem_toArray, List.getElem_cons_succ, List.getElem_cons_zero, List.setIfInBounds_toArray, List.set_cons_succ, List.set_cons_zero]
      refine wpl_load rfl _ _ rfl _ rfl g9 (rowL .u64 k) rfl 52 (0, 0) HK.out _ Try.underlying52 rfl (sizePnL hlk) ?_
      try simp only [Act.put, List.getElem_toArray, List.getElem_cons_succ, List.getElem_cons_zero, List.setIfInBounds_toArray, List.set_cons_succ, List.set_cons_zero]
      go_wp2_with fail
      refine Calls.mono (times_any m k w4 hw0 hw1) ?_
      rintro e w5 ⟨rfl, hb⟩
      rename_i hq
      refine hq _ _ ?_
      clear hq
      try simp only [Act.put, List.getElem_toArray, List.getElem_cons_succ, List.getElem_cons_zero, List.setIfInBounds_toArray, List.set_cons_succ, List.set_cons_zero]
      have hA5 := (hb.block (w.heap.size + 2) (Array.getElem?_eq_some_iff.1 HA.out).1).trans HA.out
      have hB5 := HB.out.trans (hb.mono HB.out.size)
      have hl5 : w.heap.size + 2 < w5.heap.size := (Array.getElem?_eq_some_iff.1 hA5).1
      clear hb r0 r1
      go_wp2_with fail
      refine Calls.mono (asLimbs_any (canonP (lval pb m * lval pb k)) w5 (canonP_ok _)) ?_
      rintro e w6 ⟨v, rfl, ho, hb⟩
      rename_i hq
      refine hq _ _ ?_
      clear hq
      try simp only [Act.put, List.getElem_toArray, List.getElem_cons_succ, List.getElem_cons_zero, List.setIfInBounds_toArray, List.set_cons_succ, List.set_cons_zero]
      obtain ⟨x, y, rfl, -, -⟩ := ho.row
      rw [canonP_len] at ho ⊢
      have hA6 := (hb.block (w.heap.size + 2) hl5).trans hA5
      have r0 : w6.cell? ⟨w.heap.size + 2, 0, none⟩ = some (.slice none 0 0) := by rw [cell_of_row w6 _ 0 _ _ _ hA6]; rfl
      have r1 : w6.frozen? ⟨w.heap.size + 2, 0, none⟩ = false := frozen_of_row w6 _ 0 _ _ hA6
      have HB7 : Hid (Below w.heap.size w (w6.setCell ⟨w.heap.size + 2, 0, none⟩ (.slice x 5 y))) := (hB5.trans (hb.mono hB5.size)).setCell (show w.heap.size ≤ w.heap.size + 2 by omega) _
      have HO7 : Hid (OwnInt w.heap.size (w6.setCell ⟨w.heap.size + 2, 0, none⟩ (.slice x 5 y)) (.slice x 5 y) (canonP (lval pb m * lval pb k))) := OwnInt.base (ownsRow_setCell_below ho (show w.heap.size + 2 < w5.heap.size by omega) _) hB5.size
      have HR7 : Hid ((w6.setCell ⟨w.heap.size + 2, 0, none⟩ (.slice x 5 y)).heap[w.heap.size + 2]? = some (.cells #[.slice x 5 y] 26 (0, 0))) := by show _ = _; rw [heap_setCell_same w6 (w.heap.size + 2) 0 _ _ _ hA6]; rfl
      clear ho hb hA6 hA5 hB5 HM HK HB HA
      go_wp2
      refine bodyPost_ret (results_cell_row rfl _ _ (w.heap.size + 2) 26 #[.slice x 5 y] (0, 0) _ rfl ?_ Try.underlying26 rfl (sizeLimbs1 _)) rfl ?_
      · exact HR7.out
      · exact ⟨_, rfl, by rw [HI.out]; exact HO7.out, HB7.out⟩
set_option maxHeartbeats 1600000 in
theorem implAddLimbs_any (a0 a1 : Option Addr) (c0 c1 : Nat) (n0 n1 : List Int) (w : World) (hr0 : RowI w.heap.size w a0 n0) (hr1 : RowI w.heap.size w a1 n1) :
    Calls Try.prog 8 #[.agg #[.slice a0 n0.length c0], .agg #[.slice a1 n1.length c1]] w fun e w' => ∃ v, e = .returned (.agg #[v]) ∧ OwnInt w.heap.size w' v (twoP n0 n1 (lval pb n0 + lval pb n1)) ∧ Below w.heap.size w w' := by
  have hA2 : (((w.alloc (.cells #[.slice a0 n0.length c0] 26)).alloc (.cells #[.slice a1 n1.length c1] 26)).alloc (.cells #[.slice none 0 0] 26)).heap[w.heap.size + 2]? = some (.cells #[.slice none 0 0] 26 (0, 0)) := by
    have := heap_alloc_new ((w.alloc (.cells #[.slice a0 n0.length c0] 26)).alloc (.cells #[.slice a1 n1.length c1] 26)) (.cells #[.slice none 0 0] 26)
    simpa using this
  have hB0 : Below w.heap.size w (((w.alloc (.cells #[.slice a0 n0.length c0] 26)).alloc (.cells #[.slice a1 n1.length c1] 26)).alloc (.cells #[.slice none 0 0] 26)) := (((Below.refl _ _).alloc (Nat.le_refl _) _).alloc (by simp) _).alloc (by simp; omega) _
  go_enter Try.func8, Try.ntmps8
  go_wp2_with fail
  generalize (((w.alloc (.cells #[.slice a0 n0.length c0] 26)).alloc (.cells #[.slice a1 n1.length c1] 26)).alloc (.cells #[.slice none 0 0] 26)) = w0 at hA2 hB0 ⊢
  have hs0 : w.heap.size + 2 < w0.heap.size := (Array.getElem?_eq_some_iff.1 hA2).1
  refine Calls.mono (with_plus a0 a1 c0 c1 n0 n1 w0 (hr0.grown hB0) (hr1.grown hB0)) ?_
  rintro e w6 ⟨v, rfl, ho, hb⟩
  obtain ⟨ans, hans⟩ : ∃ ans, (twoP n0 n1 (lval pb n0 + lval pb n1)) = ans := ⟨_, rfl⟩
  rw [hans] at ho
  have HANS : Hid ((twoP n0 n1 (lval pb n0 + lval pb n1)) = ans) := hans
  clear hans hr0 hr1
  obtain ⟨x, y, rfl, -, -⟩ := ho.row
  have hA6 := (hb.block (w.heap.size + 2) hs0).trans hA2
  have r0 : w6.cell? ⟨w.heap.size + 2, 0, none⟩ = some (.slice none 0 0) := by rw [cell_of_row w6 _ 0 _ _ _ hA6]; rfl
  have r1 : w6.frozen? ⟨w.heap.size + 2, 0, none⟩ = false := frozen_of_row w6 _ 0 _ _ hA6
  have HB7 : Hid (Below w.heap.size w (w6.setCell ⟨w.heap.size + 2, 0, none⟩ (.slice x ans.length y))) := (hB0.trans (hb.mono hB0.size)).setCell (show w.heap.size ≤ w.heap.size + 2 by omega) _
  have HO7 : Hid (OwnInt w.heap.size (w6.setCell ⟨w.heap.size + 2, 0, none⟩ (.slice x ans.length y)) (.slice x ans.length y) ans) := OwnInt.base (ownsRow_setCell_below ho (show w.heap.size + 2 < w0.heap.size by omega) _) hB0.size
  have HR7 : Hid ((w6.setCell ⟨w.heap.size + 2, 0, none⟩ (.slice x ans.length y)).heap[w.heap.size + 2]? = some (.cells #[.slice x ans.length y] 26 (0, 0))) := by show _ = _; rw [heap_setCell_same w6 (w.heap.size + 2) 0 _ _ _ hA6]; rfl
  clear ho hb hA6 hA2 hB0
  go_wp2
  refine bodyPost_ret (results_cell_row rfl _ _ (w.heap.size + 2) 26 #[.slice x ans.length y] (0, 0) _ rfl ?_ Try.underlying26 rfl (sizeLimbs1 _)) rfl ?_
  · exact HR7.out
  · exact ⟨_, rfl, by rw [HANS.out]; exact HO7.out, HB7.out⟩
set_option maxHeartbeats 1600000 in
theorem implMulLimbs_any (a0 a1 : Option Addr) (c0 c1 : Nat) (n0 n1 : List Int) (w : World) (hr0 : RowI w.heap.size w a0 n0) (hr1 : RowI w.heap.size w a1 n1) :
    Calls Try.prog 7 #[.agg #[.slice a0 n0.length c0], .agg #[.slice a1 n1.length c1]] w fun e w' => ∃ v, e = .returned (.agg #[v]) ∧ OwnInt w.heap.size w' v (twoP n0 n1 (lval pb n0 * lval pb n1)) ∧ Below w.heap.size w w' := by
  have hA2 : (((w.alloc (.cells #[.slice a0 n0.length c0] 26)).alloc (.cells #[.slice a1 n1.length c1] 26)).alloc (.cells #[.slice none 0 0] 26)).heap[w.heap.size + 2]? = some (.cells #[.slice none 0 0] 26 (0, 0)) := by
    have := heap_alloc_new ((w.alloc (.cells #[.slice a0 n0.length c0] 26)).alloc (.cells #[.slice a1 n1.length c1] 26)) (.cells #[.slice none 0 0] 26)
    simpa using this
  have hB0 : Below w.heap.size w (((w.alloc (.cells #[.slice a0 n0.length c0] 26)).alloc (.cells #[.slice a1 n1.length c1] 26)).alloc (.cells #[.slice none 0 0] 26)) := (((Below.refl _ _).alloc (Nat.le_refl _) _).alloc (by simp) _).alloc (by simp; omega) _
  go_enter Try.func7, Try.ntmps7
  go_wp2_with fail
  generalize (((w.alloc (.cells #[.slice a0 n0.length c0] 26)).alloc (.cells #[.slice a1 n1.length c1] 26)).alloc (.cells #[.slice none 0 0] 26)) = w0 at hA2 hB0 ⊢
  have hs0 : w.heap.size + 2 < w0.heap.size := (Array.getElem?_eq_some_iff.1 hA2).1
  refine Calls.mono (with_times a0 a1 c0 c1 n0 n1 w0 (hr0.grown hB0) (hr1.grown hB0)) ?_
  rintro e w6 ⟨v, rfl, ho, hb⟩
  obtain ⟨ans, hans⟩ : ∃ ans, (twoP n0 n1 (lval pb n0 * lval pb n1)) = ans := ⟨_, rfl⟩
  rw [hans] at ho
  have HANS : Hid ((twoP n0 n1 (lval pb n0 * lval pb n1)) = ans) := hans
  clear hans hr0 hr1
  obtain ⟨x, y, rfl, -, -⟩ := ho.row
  have hA6 := (hb.block (w.heap.size + 2) hs0).trans hA2
  have r0 : w6.cell? ⟨w.heap.size + 2, 0, none⟩ = some (.slice none 0 0) := by rw [cell_of_row w6 _ 0 _ _ _ hA6]; rfl
  have r1 : w6.frozen? ⟨w.heap.size + 2, 0, none⟩ = false := frozen_of_row w6 _ 0 _ _ hA6
  have HB7 : Hid (Below w.heap.size w (w6.setCell ⟨w.heap.size + 2, 0, none⟩ (.slice x ans.length y))) := (hB0.trans (hb.mono hB0.size)).setCell (show w.heap.size ≤ w.heap.size + 2 by omega) _
  have HO7 : Hid (OwnInt w.heap.size (w6.setCell ⟨w.heap.size + 2, 0, none⟩ (.slice x ans.length y)) (.slice x ans.length y) ans) := OwnInt.base (ownsRow_setCell_below ho (show w.heap.size + 2 < w0.heap.size by omega) _) hB0.size
  have HR7 : Hid ((w6.setCell ⟨w.heap.size + 2, 0, none⟩ (.slice x ans.length y)).heap[w.heap.size + 2]? = some (.cells #[.slice x ans.length y] 26 (0, 0))) := by show _ = _; rw [heap_setCell_same w6 (w.heap.size + 2) 0 _ _ _ hA6]; rfl
  clear ho hb hA6 hA2 hB0
  go_wp2
  refine bodyPost_ret (results_cell_row rfl _ _ (w.heap.size + 2) 26 #[.slice x ans.length y] (0, 0) _ rfl ?_ Try.underlying26 rfl (sizeLimbs1 _)) rfl ?_
  · exact HR7.out
  · exact ⟨_, rfl, by rw [HANS.out]; exact HO7.out, HB7.out⟩
end Go.Proofs.Ytopdjfgomclffaa
