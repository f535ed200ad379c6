/- The program's numbers of a curve (chapter 27): asField, number, with. -/
import Derived.Test.YtjhglbdknjoeeaaInv27
import Derived.Test.YtjhglbdknjoeeaaAdd27
import Derived.Test.YtjhglbdknjoeeaaCloneI
import Derived.OrdersHeld
import Derived.Deep.RegionHeld
import Derived.Deep.RegionHeld3
import Derived.Deep.MidRow
import Derived.Laws.Cover3
import Derived.WalkKit
import Derived.WalkLawsBesides
import Derived.WalkSpells
import Derived.BigRegion
import Derived.Laws.ShiftsVar
import Derived.Lib.Strings
import Derived.Below
import Derived.OwnWalk
import Derived.PlainAid
import Derived.Great.Walk
namespace Go.Proofs.Ytjhglbdknjoeeaa
open Go.RowKit Go.PlainAid
set_option maxRecDepth 20000
set_option linter.unusedVariables false
set_option linter.unusedSimpArgs false
theorem sizeField : (Try.prog.info? 26).map (·.size) = some 1 := by kernel_rfl
theorem sizeField1 (v : Value) : (Try.prog.info? 26).map (·.size) = some (#[v] : Array Value).size := sizeField
set_option maxHeartbeats 1600000 in
theorem asField_any (f : List Int) (w : World) (hf : f.length = 16) :
    Calls Try.prog 62 #[.agg (rowL .i64 f)] w fun e w' => ∃ v, e = .returned (.agg #[v]) ∧ OwnInt w.heap.size w' v f ∧ Below w.heap.size w w' := by
  have HC : Hid (∀ (a : Option Addr) (cap : Nat) (wz : World), AddrN a cap → RowI wz.heap.size wz a f → Calls Try.prog 92 #[.slice a f.length cap] wz fun e w' => ∃ v, e = .returned v ∧ OwnInt wz.heap.size w' v f ∧ Below wz.heap.size wz w') := fun a cap wz ha hr => cloneI_any a cap f wz (by omega) ha hr
  rw [hf] at HC
  go_enter Try.func62, Try.ntmps62
  go_wp2_with fail
  have hA : ((w.alloc (.cells (rowL .i64 f) 63)).alloc (.cells #[.slice none 0 0] 26)).heap[w.heap.size]? = some (.cells (rowL .i64 f) 63 (0, 0)) := (Lib.alloc_old _ _ _ (by simp)).trans (heap_alloc_new w _)
  have hR : ((w.alloc (.cells (rowL .i64 f) 63)).alloc (.cells #[.slice none 0 0] 26)).heap[w.heap.size + 1]? = some (.cells #[.slice none 0 0] 26 (0, 0)) := by
    have := heap_alloc_new (w.alloc (.cells (rowL .i64 f) 63)) (.cells #[.slice none 0 0] 26)
    simpa using this
  have hB : Below w.heap.size w ((w.alloc (.cells (rowL .i64 f) 63)).alloc (.cells #[.slice none 0 0] 26)) := ((Below.refl _ _).alloc (Nat.le_refl _) _).alloc (by simp) _
  generalize (w.alloc (.cells (rowL .i64 f) 63)).alloc (.cells #[.slice none 0 0] 26) = w0 at hA hR hB ⊢
  have hlt : w.heap.size + 1 < w0.heap.size := (Array.getElem?_eq_some_iff.1 hR).1
  refine Calls.mono (HC.out (some ⟨w.heap.size, 0, none⟩) 16 w0 (.inr ⟨_, _, rfl⟩) (.inr ⟨_, _, rfl, by omega, fun j hj => ?_⟩)) ?_
  · rw [Nat.zero_add]; exact RowZ.cell (t := 63) hA hj
  rintro e w1 ⟨v, rfl, ho, hb⟩
  obtain ⟨x, y, rfl, -, -⟩ := ho.row
  rw [hf] at ho ⊢
  have hR1 := (hb.block (w.heap.size + 1) (by omega)).trans hR
  have r0 : w1.cell? ⟨w.heap.size + 1, 0, none⟩ = some (.slice none 0 0) := by rw [cell_of_row w1 _ 0 _ _ _ hR1]; rfl
  have r1 : w1.frozen? ⟨w.heap.size + 1, 0, none⟩ = false := frozen_of_row w1 _ 0 _ _ hR1
  have HB1 : Hid (Below w.heap.size w (w1.setCell ⟨w.heap.size + 1, 0, none⟩ (.slice x 16 y))) := (hB.trans (hb.mono hB.size)).setCell (show w.heap.size ≤ w.heap.size + 1 by omega) _
  have HO1 : Hid (OwnInt w.heap.size (w1.setCell ⟨w.heap.size + 1, 0, none⟩ (.slice x 16 y)) (.slice x 16 y) f) := OwnInt.base (ownsRow_setCell_below ho (show w.heap.size + 1 < w0.heap.size by omega) _) hB.size
  have HR1 : Hid ((w1.setCell ⟨w.heap.size + 1, 0, none⟩ (.slice x 16 y)).heap[w.heap.size + 1]? = some (.cells #[.slice x 16 y] 26 (0, 0))) := by
    show _ = _
    rw [heap_setCell_same w1 (w.heap.size + 1) 0 _ _ _ hR1]; rfl
  clear ho hb hR1 hA hR hB HC
  go_wp2
  refine bodyPost_ret (results_cell_row rfl _ _ (w.heap.size + 1) 26 #[.slice x 16 y] (0, 0) _ rfl ?_ Try.underlying26 rfl (sizeField1 _)) rfl ?_
  · exact HR1.out
  · exact ⟨_, rfl, HO1.out, HB1.out⟩
/-- Is a list a number below the modulus? -/
def okF (l : List Int) : Bool := decide (l = canon (v16 l))
theorem okF_len {l : List Int} (h : okF l = true) : l.length = 16 := by
  unfold okF at h
  rw [of_decide_eq_true h]; exact canon_len _
theorem okF_red {l r : List Int} (hl : l.length = 16) (hr : RedOf l r) : decide (l = r) = okF l := by
  unfold okF
  rw [Bool.eq_iff_iff, decide_eq_true_iff, decide_eq_true_iff]
  constructor
  · intro e
    obtain ⟨⟨v, hv⟩, _⟩ := hr
    exact (canon_is (e.trans hv)).symm
  · intro e
    have hs : small l := within_small (within_lok (by rw [e]; exact canon_ok _)) (by decide) (by decide)
    rw [hr.2 hs, v16_fb hl]; exact e
theorem rangeRow {w : World} {g : Nat} {l : List Int} (h : RowZ w g 63 .i64 l) : w.rangeAt g 0 (l.map (Value.int .i64)) := by
  intro j v hv
  rcases Nat.lt_or_ge j l.length with hj | hj
  · rw [List.getElem?_map, List.getElem?_eq_getElem hj] at hv
    rw [Nat.zero_add, h.cell hj, List.getD_eq_getElem?_getD, List.getElem?_eq_getElem hj]
    exact hv
  · rw [List.getElem?_eq_none (by simpa using hj)] at hv; cases hv
theorem loadAt_row {w : World} {g : Nat} {l : List Int} (h : RowZ w g 63 .i64 l) (hl : l.length = 16) : (Instr.loadAt 63 (.pointer (some ⟨g, 0, none⟩))).run Try.prog w = .ok (.agg (rowL .i64 l)) w := by
  simp only [Instr.loadAt, Instr.sureAddr, Sem.run_bind, Sem.run_pure, Result.andThen_ok, run_loadVar_row w g 63 63 _ _ _ h Try.underlying63 rfl (sizeFnL hl)]
set_option maxHeartbeats 1600000 in
theorem number_any (a : Option Addr) (cap : Nat) (l : List Int) (w : World) (hr : RowI w.heap.size w a l) :
    Calls Try.prog 60 #[.agg #[.slice a l.length cap]] w fun e w' => ∃ m, e = .returned (.tuple #[.agg (rowL .i64 m), .bool (okF l)]) ∧ m.length = 16 ∧ (okF l = true → m = l) ∧ Below w.heap.size w w' := by
  by_cases hl : l.length = 16
  · obtain ⟨b, off, rfl⟩ := hr.addr (show 0 < l.length by omega)
    have hbw : b < w.heap.size := (hr.at (Below.refl _ _) (show 0 < l.length by omega)).1
    have hcells : ∀ j, j < 16 → w.cell? ⟨b, off + j, none⟩ = some (.int .i64 (l.getD j 0)) := fun j hj => (hr.at (Below.refl _ _) (show j < l.length by omega)).2
    have HC : Hid (∀ j, j < 16 → w.cell? ⟨b, off + j, none⟩ = some (.int .i64 (l.getD j 0))) := hcells
    have HRD : Hid (∀ wz : World, Calls Try.prog 91 #[.agg (rowL .i64 l)] wz fun e w' => ∃ r, e = .returned (.agg (rowL .i64 r)) ∧ RedOf l r ∧ Below wz.heap.size wz w') := fun wz => reduced_any l wz hl
    clear hr hcells
    have hA1 : ((w.alloc (.cells #[.slice (some ⟨b, off, none⟩) 16 cap] 26)).alloc (.cells (rowL .i64 (List.replicate 16 0)) 63)).heap[w.heap.size + 1]? = some (.cells (rowL .i64 (List.replicate 16 0)) 63 (0, 0)) := by
      have := heap_alloc_new (w.alloc (.cells #[.slice (some ⟨b, off, none⟩) 16 cap] 26)) (.cells (rowL .i64 (List.replicate 16 0)) 63)
      simpa using this
    have hA0 : ((w.alloc (.cells #[.slice (some ⟨b, off, none⟩) 16 cap] 26)).alloc (.cells (rowL .i64 (List.replicate 16 0)) 63)).cell? ⟨w.heap.size, 0, none⟩ = some (.slice (some ⟨b, off, none⟩) 16 cap) := by
      rw [cell_of_row _ w.heap.size 0 _ _ _ ((Lib.alloc_old _ _ _ (by simp)).trans (heap_alloc_new w _))]; rfl
    have hB0 : Below w.heap.size w ((w.alloc (.cells #[.slice (some ⟨b, off, none⟩) 16 cap] 26)).alloc (.cells (rowL .i64 (List.replicate 16 0)) 63)) := ((Below.refl _ _).alloc (Nat.le_refl _) _).alloc (by simp) _
    rw [hl]
    go_enter Try.func60, Try.ntmps60
    go_upto_region 1 with fail
    rw [← zeroFn] at hA1 hA0 hB0
    generalize (w.alloc (.cells #[.slice (some ⟨b, off, none⟩) 16 cap] 26)).alloc (.cells #[.int .i64 0, .int .i64 0, .int .i64 0, .int .i64 0, .int .i64 0, .int .i64 0, .int .i64 0, .int .i64 0, .int .i64 0, .int .i64 0, .int .i64 0, .int .i64 0, .int .i64 0, .int .i64 0, .int .i64 0, .int .i64 0] 63) = w0 at hA1 hA0 hB0 ⊢
    rw [zeroFn] at hA1
    have hs0 : w.heap.size + 1 < w0.heap.size := (Array.getElem?_eq_some_iff.1 hA1).1
    go_upto_region 3 with fail
    have hrg : w0.rangeAt b off (l.map (Value.int .i64)) := by
      intro j v hv
      rcases Nat.lt_or_ge j l.length with hj | hj
      · rw [List.getElem?_map, List.getElem?_eq_getElem hj] at hv
        have hc := HC.out j (by omega)
        rw [hB0.cell (p := ⟨b, off + j, none⟩) hbw, hc, List.getD_eq_getElem?_getD, List.getElem?_eq_getElem hj]
        exact hv
      · rw [List.getElem?_eq_none (by simpa using hj)] at hv; cases hv
    refine wp_region_lit ?_
    refine Go.Great.wpList_runTo rfl _ rfl (.pointer (some ⟨w.heap.size, 0, none⟩)) w0 (by unfold execOp; go_simp) ?_
    try simp only [Act.put, List.getElem_toArray, List.getElem_cons_succ, List.getElem_cons_zero, List.setIfInBounds_toArray, List.set_cons_succ, List.set_cons_zero]
    refine Go.Great.wpList_runTo rfl _ rfl (.slice (some ⟨b, off, none⟩) 16 cap) w0 (by unfold execOp; go_simp) ?_
    try simp only [Act.put, List.getElem_toArray, List.getElem_cons_succ, List.getElem_cons_zero, List.setIfInBounds_toArray, List.set_cons_succ, List.set_cons_zero]
    refine Go.Great.wpList_runTo rfl _ rfl (.pointer (some ⟨b, off, none⟩)) w0 (by have hq := run_arrayAt (P := Try.prog) w0 63 3 16 (some ⟨b, off, none⟩) 16 cap Try.underlying63 (Nat.le_refl _); unfold execOp; go_simp) ?_
    try simp only [Act.put, List.getElem_toArray, List.getElem_cons_succ, List.getElem_cons_zero, List.setIfInBounds_toArray, List.set_cons_succ, List.set_cons_zero]
    refine wpList_load_mid rfl _ _ rfl b off rfl (l.map (Value.int .i64)) _ hrg Try.underlying63 rfl (by rw [List.length_map, hl]; exact sizeFn) ?_
    rw [show (l.map (Value.int .i64)).toArray = rowL .i64 l from rfl]
    try simp only [Act.put, List.getElem_toArray, List.getElem_cons_succ, List.getElem_cons_zero, List.setIfInBounds_toArray, List.set_cons_succ, List.set_cons_zero]
    refine Go.Great.wpList_allocTo rfl _ rfl (.pointer (some ⟨w0.heap.size, 0, none⟩)) (.cells (rowL .i64 (List.replicate 16 0)) 63) (by rw [← zeroFn]; unfold execOp; go_simp) ?_
    try simp only [Act.put, List.getElem_toArray, List.getElem_cons_succ, List.getElem_cons_zero, List.setIfInBounds_toArray, List.set_cons_succ, List.set_cons_zero]
    have hN := heap_alloc_new w0 (.cells (rowL .i64 (List.replicate 16 0)) 63)
    refine wpList_store_rowTo rfl _ _ _ rfl rfl (w0.heap.size) (rowL .i64 l) rfl rfl 63 (rowL .i64 (List.replicate 16 0)) hN (sizeFnL hl) (by rw [rowL_size, rowL_size, hl]; rfl) (rowL_one _ _) ?_
    try simp only [Act.put, List.getElem_toArray, List.getElem_cons_succ, List.getElem_cons_zero, List.setIfInBounds_toArray, List.set_cons_succ, List.set_cons_zero]
    have HL1 : RowZ ((w0.alloc (.cells (rowL .i64 (List.replicate 16 0)) 63)).setRow w0.heap.size (rowL .i64 l)) w0.heap.size 63 .i64 l := setRow_heap _ _ _ _ _ _ hN
    have HR1 : RowZ ((w0.alloc (.cells (rowL .i64 (List.replicate 16 0)) 63)).setRow w0.heap.size (rowL .i64 l)) (w.heap.size + 1) 63 .i64 (List.replicate 16 0) := (setRow_other _ _ _ _ (by omega)).trans ((Lib.alloc_old _ _ _ (by omega)).trans hA1)
    have hB1 : Below w.heap.size w ((w0.alloc (.cells (rowL .i64 (List.replicate 16 0)) 63)).setRow w0.heap.size (rowL .i64 l)) := below_setRow (hB0.alloc hB0.size _) hB0.size _
    generalize (w0.alloc (.cells (rowL .i64 (List.replicate 16 0)) 63)).setRow w0.heap.size (rowL .i64 l) = w1 at HL1 HR1 hB1 ⊢
    generalize w0.heap.size = g4 at hs0 HL1 ⊢
    clear hN hrg hA1 hA0 hB0 HC
    go_upto_region 4 with fail
    refine _root_.Go.wp_region_held (S := fun w' : World => RowZ w' g4 63 .i64 l ∧ ∃ z : List Int, RowZ w' (w.heap.size + 1) 63 .i64 z ∧ z.length = 16) (by kernel_rfl) ?_
    have hS : (fun w' : World => RowZ w' g4 63 .i64 l ∧ ∃ z : List Int, RowZ w' (w.heap.size + 1) 63 .i64 z ∧ z.length = 16) w1.drew := ⟨HL1.drew, _, HR1.drew, rfl⟩
    clear HL1 HR1
    refine wpAnyH_take (i := 0) (v := .agg (rowL .i64 l)) rfl (by kernel_rfl) (by kernel_rfl) (by kernel_rfl) (fun _ _ _ h => h) (yieldsIf_load_mid (by rfl) _ _ rfl g4 0 rfl (l.map (Value.int .i64)) _ (fun w h => rangeRow h.1) Try.underlying63 rfl (by rw [List.length_map, hl]; exact sizeFn)) hS ?_
    simp only [Act.put, List.getElem_toArray, List.getElem_cons_zero, List.setIfInBounds_toArray, List.set_cons_succ, List.set_cons_zero]
    refine wpAnyH_take (i := 1) (v := .agg (rowL .i64 l)) rfl (by kernel_rfl) (by kernel_rfl) (by kernel_rfl) (fun _ _ _ h => h) (yieldsIf_load_mid (by rfl) _ _ rfl g4 0 rfl (l.map (Value.int .i64)) _ (fun w h => rangeRow h.1) Try.underlying63 rfl (by rw [List.length_map, hl]; exact sizeFn)) hS ?_
    simp only [Act.put, List.getElem_toArray, List.getElem_cons_succ, List.getElem_cons_zero, List.setIfInBounds_toArray, List.set_cons_succ, List.set_cons_zero]
    refine wpAnyH_take (i := 2) (v := .agg (rowL .i64 l)) rfl (by kernel_rfl) (by kernel_rfl) (by kernel_rfl) (fun _ _ _ h => h) (yieldsIf_load_mid (by rfl) _ _ rfl g4 0 rfl (l.map (Value.int .i64)) _ (fun w h => rangeRow h.1) Try.underlying63 rfl (by rw [List.length_map, hl]; exact sizeFn)) hS ?_
    simp only [Act.put, List.getElem_toArray, List.getElem_cons_succ, List.getElem_cons_zero, List.setIfInBounds_toArray, List.set_cons_succ, List.set_cons_zero]
    refine wpAnyH_ready (rs := [3]) (by kernel_rfl) (by simp) ?_
    refine AllReadyH.cons rfl (fun K hK => ?_) AllReadyH.nil
    go_simp
    refine Calls.mono (HRD.out _) ?_
    rintro e w2 ⟨r, rfl, hrd, hb⟩
    obtain ⟨hS1, z, hSz, hz⟩ := hS
    have hS2 : RowZ w2 g4 63 .i64 l ∧ ∃ z : List Int, RowZ w2 (w.heap.size + 1) 63 .i64 z ∧ z.length = 16 := ⟨hS1.next hb, z, hSz.next hb, hz⟩
    have hB2 : Below w.heap.size w w2 := hB1.drew.trans (hb.mono hB1.drew.size)
    clear hS1 hSz hz z hb hB1
    have hrl : r.length = 16 := by obtain ⟨⟨v, hv⟩, _⟩ := hrd; rw [hv]; exact canon_len _
    have hok := okF_red hl hrd
    refine hK.out _ _ hS2 (fun hS => ?_)
    clear hK K
    refine wpAnyH_take (i := 4) (v := .bool (decide (l = r))) rfl (by kernel_rfl) (by kernel_rfl) (by kernel_rfl) (fun _ _ _ h => h) (yields_eql 63 16 Try.underlying63 (by kernel_rfl) (by rfl) _ _ _ rfl l r hl hrl rfl rfl) hS ?_
    simp only [Act.put, List.getElem_toArray, List.getElem_cons_succ, List.getElem_cons_zero, List.setIfInBounds_toArray, List.set_cons_succ, List.set_cons_zero]
    refine wpAnyH_ready (rs := [5]) (by kernel_rfl) (by simp) ?_
    refine AllReadyH.cons rfl (fun K hK => ?_) AllReadyH.nil
    obtain ⟨hS1, z, hSz, hz⟩ := hS
    refine ite_yes (by rfl) ?_
    refine wp_store_row _ _ _ rfl (w.heap.size + 1) (rowL .i64 l) rfl rfl 63 (rowL .i64 z) hSz (sizeFnL hl) (by rw [rowL_size, rowL_size, hl, hz]) (rowL_one _ _) ?_
    have hR3 : RowZ (w2.setRow (w.heap.size + 1) (rowL .i64 l)) (w.heap.size + 1) 63 .i64 l := setRow_heap _ _ _ _ _ _ hSz
    have hB3 := below_setRow hB2 (show w.heap.size ≤ w.heap.size + 1 by omega) (rowL .i64 l)
    have hL3 : RowZ (w2.setRow (w.heap.size + 1) (rowL .i64 l)) g4 63 .i64 l := (setRow_other _ _ _ _ (by omega)).trans hS1
    clear hS1 hSz hz hB2 hrd hrl
    generalize w2.setRow (w.heap.size + 1) (rowL .i64 l) = w3 at hR3 hB3 hL3 ⊢
    have HR3 : Hid (RowZ w3 (w.heap.size + 1) 63 .i64 l) := hR3
    have HB3 : Hid (Below w.heap.size w w3) := hB3
    have HOK : Hid (decide (l = r) = okF l) := hok
    refine hK.out _ _ ⟨hL3, l, hR3, hl⟩ (fun hS => ?_)
    clear hK K hR3 hL3 hB3 hok
    simp only [Act.put, List.getElem_toArray, List.getElem_cons_succ, List.getElem_cons_zero, List.setIfInBounds_toArray, List.set_cons_succ, List.set_cons_zero]
    refine wpAnyH_take (i := 6) (v := ?_) rfl (by kernel_rfl) (by kernel_rfl) (by kernel_rfl) (fun _ _ _ h => h) (Or.inl ⟨by rfl, ?_⟩) hS ?_
    rotate_left
    · intro w hSw; skip; go_simp; try with_reducible rfl
    simp only [Act.put, List.getElem_toArray, List.getElem_cons_succ, List.getElem_cons_zero, List.setIfInBounds_toArray, List.set_cons_succ, List.set_cons_zero]
    clear hS
    refine wpAnyH_done (by kernel_rfl) ?_ _
    rw [HOK.out]
    go_wp2
    refine bodyPost_ret (res_ct rfl _ _ (w.heap.size + 1) 63 (rowL .i64 l) (0, 0) _ rfl HR3.out Try.underlying63 rfl (sizeFnL hl)) rfl ?_
    exact ⟨l, rfl, hl, fun _ => rfl, HB3.out⟩
  · have hok : okF l = false := by
      cases h : okF l with
      | false => rfl
      | true => exact absurd (okF_len h) hl
    have hq : ((l.length : Int) != 16) = true := by simp; omega
    have hd : ¬ (l.length : Int) = 16 := by omega
    rw [hok]
    clear hok hr
    have hA1 : ((w.alloc (.cells #[.slice a l.length cap] 26)).alloc (.cells (rowL .i64 (List.replicate 16 0)) 63)).heap[w.heap.size + 1]? = some (.cells (rowL .i64 (List.replicate 16 0)) 63 (0, 0)) := by
      have := heap_alloc_new (w.alloc (.cells #[.slice a l.length cap] 26)) (.cells (rowL .i64 (List.replicate 16 0)) 63)
      simpa using this
    have hA0 : ((w.alloc (.cells #[.slice a l.length cap] 26)).alloc (.cells (rowL .i64 (List.replicate 16 0)) 63)).cell? ⟨w.heap.size, 0, none⟩ = some (.slice a l.length cap) := by
      rw [cell_of_row _ w.heap.size 0 _ _ _ ((Lib.alloc_old _ _ _ (by simp)).trans (heap_alloc_new w _))]; rfl
    have hB0 : Below w.heap.size w ((w.alloc (.cells #[.slice a l.length cap] 26)).alloc (.cells (rowL .i64 (List.replicate 16 0)) 63)) := ((Below.refl _ _).alloc (Nat.le_refl _) _).alloc (by simp) _
    go_enter Try.func60, Try.ntmps60
    go_upto_region 1 with fail
    rw [← zeroFn] at hA1 hA0 hB0
    generalize ((w.alloc (.cells #[.slice a l.length cap] 26)).alloc (.cells #[.int .i64 0, .int .i64 0, .int .i64 0, .int .i64 0, .int .i64 0, .int .i64 0, .int .i64 0, .int .i64 0, .int .i64 0, .int .i64 0, .int .i64 0, .int .i64 0, .int .i64 0, .int .i64 0, .int .i64 0, .int .i64 0] 63)) = w0 at hA1 hA0 hB0 ⊢
    rw [zeroFn] at hA1
    go_upto_region 2 with fail
    refine wp_region_lit ?_
    refine Go.Great.wpList_runTo rfl _ rfl (.agg (rowL .i64 (List.replicate 16 0))) w0 (by rw [← zeroFn]; unfold execOp; go_simp) ?_
    try simp only [Act.put, List.getElem_toArray, List.getElem_cons_succ, List.getElem_cons_zero, List.setIfInBounds_toArray, List.set_cons_succ, List.set_cons_zero]
    refine wpList_store_rowTo rfl _ _ _ rfl rfl (w.heap.size + 1) (rowL .i64 (List.replicate 16 0)) rfl rfl 63 (rowL .i64 (List.replicate 16 0)) hA1 (sizeFnL (rfl : (List.replicate 16 (0 : Int)).length = 16)) (rfl) (rowL_one _ _) ?_
    try simp only [Act.put, List.getElem_toArray, List.getElem_cons_succ, List.getElem_cons_zero, List.setIfInBounds_toArray, List.set_cons_succ, List.set_cons_zero]
    have hR : (w0.setRow (w.heap.size + 1) (rowL .i64 (List.replicate 16 0))).heap[w.heap.size + 1]? = some (.cells (rowL .i64 (List.replicate 16 0)) 63 (0, 0)) := setRow_heap _ _ _ _ _ _ hA1
    have hBB := below_setRow hB0 (show w.heap.size ≤ w.heap.size + 1 by omega) (rowL .i64 (List.replicate 16 0))
    generalize w0.setRow (w.heap.size + 1) (rowL .i64 (List.replicate 16 0)) = wz at hR hBB ⊢
    go_wp2
    refine bodyPost_ret (res_ct rfl _ _ (w.heap.size + 1) 63 (rowL .i64 (List.replicate 16 0)) (0, 0) _ rfl hR Try.underlying63 rfl (sizeFnL (rfl : (List.replicate 16 (0 : Int)).length = 16))) rfl ?_
    exact ⟨_, rfl, rfl, (fun h => by cases h), hBB⟩
end Go.Proofs.Ytjhglbdknjoeeaa
