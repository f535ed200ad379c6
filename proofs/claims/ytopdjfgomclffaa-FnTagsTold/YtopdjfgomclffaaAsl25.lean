/- The program's numbers of a tag (chapter 25): asLimbs. -/
import Derived.Test.YtopdjfgomclffaaLok25
import Derived.Test.YtopdjfgomclffaaRowS
import Derived.Test.YtopdjfgomclffaaArrW
import Derived.Laws.OwnMore
import Derived.Laws.MakeOwn
import Derived.WalkKit
import Derived.WalkLawsBesides
import Derived.WalkSpells
import Derived.BigRegion
import Derived.Laws.ShiftsVar
import Derived.Below
import Derived.OwnWalk
import Derived.PlainAid
import Derived.Deep.RegionWith
import Derived.Great.Walk
namespace Go.Proofs.Ytopdjfgomclffaa
open Go.RowKit Go.PlainAid
set_option maxRecDepth 20000
set_option linter.unusedVariables false
set_option linter.unusedSimpArgs false
theorem index_pn (l : List Int) (hl : l.length = 5) {k : Nat} (hk : k < 5) (w : World) : (Instr.index 50 (.agg (rowL .u64 l)) (.int .i64 (k : Int))).run Try.prog w = .ok (.int .u64 (l.getD k 0)) w := by
  have h1 : (0 : Int) ≤ (k : Int) ∧ (k : Int) < (5 : Int) := by omega
  simp only [Instr.index, asIntOf, Sem.run_bind, Sem.run_pure, Result.andThen_ok, run_underlying Try.underlying50, Try.sizeOf49, Nat.mul_one, Int.toNat_natCast]
  rw [if_pos (by omega)]
  simp only [Sem.run_bind, Sem.run_pure, Result.andThen_ok, Try.sizeOf49, Nat.mul_one, Int.toNat_natCast]
  exact part_row l (by omega) w
theorem own_int5 {B : Nat} {w : World} {v : Value} {f : List Int} (h : w.ownsRow B 3 1 v 5 (f.map (Value.int .i64))) (hf : f.length = 5) : OwnInt B w v f := by unfold OwnInt; rw [hf]; exact h
theorem size5 : (Try.prog.info? 50).map (·.size) = some 5 := by kernel_rfl
set_option maxHeartbeats 3200000 in
theorem asLimbs_any (f : List Int) (w : World) (hf : lok pb f) :
    Calls Try.prog 30 #[.agg (rowL .u64 f)] w fun e w' => ∃ v, e = .returned (.agg #[v]) ∧ OwnInt w.heap.size w' v f ∧ Below w.heap.size w w' := by
  obtain ⟨i0, hi, hz0, hz1, hz2⟩ := info_parts infoIntS
  have hf5 : f.length = 5 := lok_len hf
  have hfb := lok_le (l := f) (by decide) hf
  have HIX : Hid (∀ k : Nat, k < 5 → ∀ wz : World, (Instr.index 50 (.agg (rowL .u64 f)) (.int .i64 (k : Int))).run Try.prog wz = .ok (.int .u64 (f.getD k 0)) wz) := fun k hk wz => index_pn f hf5 hk wz
  have hA : ((w.alloc (.cells (rowL .u64 f) 52)).alloc (.cells #[.slice none 0 0] 26)).heap[w.heap.size]? = some (.cells (rowL .u64 f) 52 (0, 0)) := (Lib.alloc_old _ _ _ (by simp)).trans (heap_alloc_new w _)
  have hR : ((w.alloc (.cells (rowL .u64 f) 52)).alloc (.cells #[.slice none 0 0] 26)).heap[w.heap.size + 1]? = some (.cells #[.slice none 0 0] 26 (0, 0)) := by
    have := heap_alloc_new (w.alloc (.cells (rowL .u64 f) 52)) (.cells #[.slice none 0 0] 26)
    simpa using this
  have hB : Below w.heap.size w ((w.alloc (.cells (rowL .u64 f) 52)).alloc (.cells #[.slice none 0 0] 26)) := ((Below.refl _ _).alloc (Nat.le_refl _) _).alloc (by simp) _
  go_enter Try.func30, Try.ntmps30
  go_upto_region 1 with fail
  generalize (w.alloc (.cells (rowL .u64 f) 52)).alloc (.cells #[.slice none 0 0] 26) = w0 at hA hR hB ⊢
  have hlt0 : w.heap.size + 1 < w0.heap.size := (Array.getElem?_eq_some_iff.1 hR).1
  go_upto_region 2 with (at_make; refine wpList_make_own _ rfl _ _ 24 rfl w0.heap.size 3 i0 (.int .i64 0) 1 Try.underlying24 hi hz0 hz1 .i64 .i64 _ 5 rfl rfl (by omega) (by rw [hz2]; omega) (by unfold maxLen; omega) (Nat.le_refl _) ?_; intro w1 hown1 hgrow1; have hA1 := (hgrow1.block w.heap.size (by omega) (by simp)).trans hA; have hB1 : Below w0.heap.size w0 w1 := (Below.refl _ _).grown hgrow1 (Nat.le_refl _) (by simp); have HO1 : Hid (w1.ownsRow w0.heap.size 3 1 (.slice (some ⟨w0.heap.size, 0, none⟩) 0 5) 0 ((f.take 0).map (Value.int .i64))) := hown1; clear hown1 hgrow1 hA)
  refine wp_region_lit ?_
  refine Go.Great.wpList_runTo rfl _ rfl (.pointer (some ⟨w.heap.size, 0, none⟩)) w1 (by unfold execOp; go_simp) ?_
  try simp only [Act.put, List.getElem_toArray, List.getElem_cons_succ, List.getElem_cons_zero, List.setIfInBounds_toArray, List.set_cons_succ, List.set_cons_zero]
  refine wpl_load rfl _ _ rfl _ rfl w.heap.size (rowL .u64 f) rfl 52 (0, 0) hA1 _ Try.underlying50 rfl (by rw [rowL_size, hf5]; exact size5) ?_
  try simp only [Act.put, List.getElem_toArray, List.getElem_cons_succ, List.getElem_cons_zero, List.setIfInBounds_toArray, List.set_cons_succ, List.set_cons_zero]
  refine Go.Great.wpList_runTo rfl _ rfl (.int .i64 0) w1 (by unfold execOp; go_simp) ?_
  try simp only [Act.put, List.getElem_toArray, List.getElem_cons_succ, List.getElem_cons_zero, List.setIfInBounds_toArray, List.set_cons_succ, List.set_cons_zero]
  have HA0 : Hid (w0.heap[w.heap.size + 1]? = some (.cells #[.slice none 0 0] 26 (0, 0))) := hR
  have HB0 : Hid (Below w.heap.size w w0) := hB
  have HB1 : Hid (Below w0.heap.size w0 w1) := hB1
  clear hA1 hR hB hB1
  go_wp2
  go_loopw [3, 9] (fun v i wr => ∃ k : Nat, k ≤ 5 ∧ i = .int .i64 (k : Int) ∧ Hid (wr.ownsRow w0.heap.size 3 1 v k ((f.take k).map (Value.int .i64))) ∧ Hid (Below w0.heap.size w0 wr))
    (fun _ i _ => 5 - (intOf i).toNat)
  case atStart => exact ⟨0, Nat.zero_le _, rfl, HO1, HB1⟩
  case round =>
    clear HO1 HB1
    obtain ⟨k, hk, rfl, HO, HB⟩ := hrel
    have hsz := HB.out.size
    by_cases hlt : k < 5
    · have hi0' : (0 : Int) ≤ (k : Int) := by omega
      have hi1' : (k : Int) < 5 := by omega
      have hix := HIX.out k hlt wr
      have hb := hfb (f.getD k 0) (by rw [List.getD_eq_getElem?_getD, List.getElem?_eq_getElem (by omega)]; exact List.getElem_mem _)
      have HN : Hid ((f.take k).map (Value.int .i64) ++ [.int .i64 (f.getD k 0)] = (f.take (k + 1)).map (Value.int .i64)) := by
        show _ = _
        rw [take_snocP (by omega), List.map_append]; rfl
      generalize f.getD k 0 = x at hix hb HN
      have hwx : IntKind.i64.wrap x = x := by rw [IntKind.wrap_i64]; omega
      go_wp2_with (at_builtin; refine wpList_append_own _ rfl _ _ 24 rfl w0.heap.size 3 i0 (.int .i64 0) 1 8 Try.underlying24 hi hz0 hz1 hz2 rfl (by decide) _ _ _ rfl (HO.out.alloc _) ⟨wr.heap.size, 0, none⟩ 1 1 [.int .i64 x] rfl rfl (cell_one_new _ _ _) (by simp [Value.oneCell']) (by unfold maxLen; omega) (by omega) (by simp; omega) ?_)
      intro v' w1' hown' hgrow _
      have hB2 := below_app HO.out HB.out hsz hgrow
      rw [← List.map_take, HN.out] at hown'
      have HO2 : Hid (w1'.ownsRow w0.heap.size 3 1 v' (k + 1) ((f.take (k + 1)).map (Value.int .i64))) := hown'
      have HB2 : Hid (Below w0.heap.size w0 w1') := hB2
      clear hown' hgrow HO HB hB2 hix
      go_wp2
      go_roundw
      case rel => exact ⟨k + 1, by omega, by go_num, HO2, HB2⟩
      case measure => simp [intOf]; omega
    · obtain rfl : k = 5 := by omega
      rw [List.take_of_length_le (by omega)] at HO
      have ho := own_int5 HO.out hf5
      obtain ⟨x, y, rfl, -, -⟩ := ho.row
      rw [hf5] at ho ⊢
      have hR1 := (HB.out.block (w.heap.size + 1) (by omega)).trans HA0.out
      have r0 : wr.cell? ⟨w.heap.size + 1, 0, none⟩ = some (.slice none 0 0) := by rw [cell_of_row wr _ 0 _ _ _ hR1]; rfl
      have r1 : wr.frozen? ⟨w.heap.size + 1, 0, none⟩ = false := frozen_of_row wr _ 0 _ _ hR1
      have HB2 : Hid (Below w.heap.size w (wr.setCell ⟨w.heap.size + 1, 0, none⟩ (.slice x 5 y))) := (HB0.out.trans (HB.out.mono HB0.out.size)).setCell (show w.heap.size ≤ w.heap.size + 1 by omega) _
      have HO2 : Hid (OwnInt w.heap.size (wr.setCell ⟨w.heap.size + 1, 0, none⟩ (.slice x 5 y)) (.slice x 5 y) f) := OwnInt.base (ownsRow_setCell_below ho (show w.heap.size + 1 < w0.heap.size by omega) _) HB0.out.size
      have HR2 : Hid ((wr.setCell ⟨w.heap.size + 1, 0, none⟩ (.slice x 5 y)).heap[w.heap.size + 1]? = some (.cells #[.slice x 5 y] 26 (0, 0))) := by
        show _ = _
        rw [heap_setCell_same wr (w.heap.size + 1) 0 _ _ _ hR1]; rfl
      clear ho hR1 HO HB HA0 HB0
      go_wp2
      refine bodyPost_ret (results_cell_row rfl _ _ (w.heap.size + 1) 26 #[.slice x 5 y] (0, 0) _ rfl ?_ Try.underlying26 rfl (sizeLimbs1 _)) rfl ?_
      · exact HR2.out
      · exact ⟨_, rfl, HO2.out, HB2.out⟩
end Go.Proofs.Ytopdjfgomclffaa
