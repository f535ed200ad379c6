/- The table of the first words (chapter 21) in memory, from what the row lists; ShaStart of both sides. -/
import Derived.Test.YthpkhbcahihbnaaDoorRows
import Derived.Test.YthpkhbcahihbnaaDoorNum24
import Derived.Lib.LaidTab
import Derived.LaidSub
import Derived.Deep.DeepHandedRow
import Derived.WalkKit
import Derived.WalkLawsBesides
import Derived.WalkSpells
import Derived.OwnWalk
import Derived.Laws.OwnMore
import Derived.Great.Walk
namespace Go.Proofs.YthpkhbcahihbnaaDoor
open Go.RowKit Go.PlainAid
set_option maxRecDepth 20000
set_option linter.unusedVariables false
set_option linter.unusedSimpArgs false
def firstL : List Nat := [1779033703, 3144134277, 1013904242, 2773480762, 1359893119, 2600822924, 528734635, 1541459225]
def firstF : Nat → Nat := fun i => firstL.getD i 0
theorem firstW : Words firstF := by
  intro i
  unfold firstF firstL
  rcases (show i = 0 ∨ i = 1 ∨ i = 2 ∨ i = 3 ∨ i = 4 ∨ i = 5 ∨ i = 6 ∨ i = 7 ∨ 8 ≤ i by omega) with rfl | rfl | rfl | rfl | rfl | rfl | rfl | rfl | h
  · decide
  · decide
  · decide
  · decide
  · decide
  · decide
  · decide
  · decide
  · rw [List.getD_eq_getElem?_getD, List.getElem?_eq_none (by simpa using h)]; decide
theorem firstV : (#[.int .u32 1779033703, .int .u32 3144134277, .int .u32 1013904242, .int .u32 2773480762, .int .u32 1359893119, .int .u32 2600822924, .int .u32 528734635, .int .u32 1541459225] : Array Value) = rowV .u32 8 firstF := rfl
theorem zeroSha : (#[.int .u32 0, .int .u32 0, .int .u32 0, .int .u32 0, .int .u32 0, .int .u32 0, .int .u32 0, .int .u32 0] : Array Value) = rowV .u32 8 (fun _ => 0) := rfl
theorem sizeFirst : (Tryd.prog.info? 40).map (·.size) = some 8 := by kernel_rfl
theorem sizeFirstV (f : Nat → Nat) : (Tryd.prog.info? 40).map (·.size) = some (rowV .u32 8 f).size := by rw [rowV_size]; exact sizeFirst
theorem sizeSha : (Tryd.prog.info? 41).map (·.size) = some 8 := by kernel_rfl
theorem sizeShaV (f : Nat → Nat) : (Tryd.prog.info? 41).map (·.size) = some (rowV .u32 8 f).size := by rw [rowV_size]; exact sizeSha
def FirstHere (W : World) : Prop := ∃ t fr, W.heap[0]? = some (.cells (rowV .u32 8 firstF) t fr)
theorem FirstHere.next {B : Nat} {w w' : World} (h : FirstHere w) (hb : Below B w w') (hB : 0 < B) : FirstHere w' := by
  obtain ⟨t, fr, h⟩ := h
  exact ⟨t, fr, (hb.block _ hB).trans h⟩
theorem FirstHere.lt {w : World} (h : FirstHere w) : 0 < w.heap.size := by
  obtain ⟨t, fr, h⟩ := h
  exact (Array.getElem?_eq_some_iff.1 h).1
theorem gFirst : Tryd.prog.globalNamed "loop.example/g00466/impl.startWords" = some 0 := by kernel_rfl
theorem gFirstType : (Tryd.prog.globals[0]?).map (·.type) = some 40 := by kernel_rfl
theorem cellsFirst : Tryd.prog.cellsOf 40 = 8 := by kernel_rfl
theorem cellsWord : Tryd.prog.cellsOf 39 = 1 := by kernel_rfl
def firstTab : List Int := [1779033703, 3144134277, 1013904242, 2773480762, 1359893119, 2600822924, 528734635, 1541459225]
theorem firstEq {H : Type} : (Rows.laid_loop_example_g00466_impl_startWords : DataW H) = Lib.tabData .u32 firstTab := by kernel_rfl
theorem firstHere_of {W : World} {l : List (String × DataW Unit)} (h : laidMetH Tryd.prog l W)
    (hf : (l.filter (fun x => x.1 == "loop.example/g00466/impl.startWords")) = [("loop.example/g00466/impl.startWords", Rows.laid_loop_example_g00466_impl_startWords)]) : FirstHere W := by
  have h1 : laidMetH Tryd.prog (l.filter (fun x => x.1 == "loop.example/g00466/impl.startWords")) W := h.filter _
  rw [hf, firstEq] at h1
  have h2 : Lib.TabIs Tryd.prog W "loop.example/g00466/impl.startWords" .u32 firstTab := Lib.tabIs_of_head (rest := []) gFirst gFirstType Tryd.underlying40 Tryd.underlying39 cellsWord cellsFirst h1
  unfold Lib.TabIs World.var? at h2
  rw [gFirst, Option.bind_some] at h2
  split at h2
  · rename_i cs t fr hh
    rw [Option.some.injEq] at h2
    subst h2
    exact ⟨t, fr, hh⟩
  · cases h2
/-- What ShaStart answers. -/
def firstI : List Int := bytesV 8 firstF
theorem firstI_len : firstI.length = 8 := bytesV_len _ _
set_option maxHeartbeats 1600000 in
theorem implFirst_any (w : World) (ht : FirstHere w) :
    Calls Tryd.prog 7 #[] w fun e w' => ∃ v, e = .returned v ∧ OwnInt w.heap.size w' v firstI ∧ Below w.heap.size w w' := by
  obtain ⟨t, fr, hh⟩ := ht
  go_enter Tryd.func7, Tryd.ntmps7
  go_upto_region 1 with fail
  refine wp_region_lit ?_
  refine wpl_load rfl _ _ rfl _ rfl 0 (rowV .u32 8 firstF) rfl t fr hh _ Tryd.underlying40 rfl (sizeFirstV _) ?_
  try simp only [Act.put, List.getElem_toArray, List.getElem_cons_succ, List.getElem_cons_zero, List.setIfInBounds_toArray, List.set_cons_succ, List.set_cons_zero]
  refine Go.Great.wpList_allocTo rfl _ rfl (.pointer (some ⟨w.heap.size, 0, none⟩)) (.cells (rowV .u32 8 (fun _ => 0)) 41) (by rw [← zeroSha]; unfold execOp; go_simp) ?_
  try simp only [Act.put, List.getElem_toArray, List.getElem_cons_succ, List.getElem_cons_zero, List.setIfInBounds_toArray, List.set_cons_succ, List.set_cons_zero]
  have hA1 := heap_alloc_new w (.cells (rowV .u32 8 (fun _ => 0)) 41)
  refine wpList_store_rowTo rfl _ _ _ rfl rfl w.heap.size (rowV .u32 8 firstF) rfl rfl 41 (rowV .u32 8 (fun _ => 0)) hA1 (sizeShaV _) (by rw [rowV_size, rowV_size]) (rowV_one _ _ _) ?_
  have HR1 : Hid (RowAt ((w.alloc (.cells (rowV .u32 8 (fun _ => 0)) 41)).setRow w.heap.size (rowV .u32 8 firstF)) w.heap.size 41 .u32 8 firstF) := setRow_heap _ _ _ _ _ _ hA1
  have HB2 : Hid (Below w.heap.size w ((w.alloc (.cells (rowV .u32 8 (fun _ => 0)) 41)).setRow w.heap.size (rowV .u32 8 firstF))) := below_setRow ((Below.refl _ _).alloc (Nat.le_refl _) _) (Nat.le_refl _) _
  generalize (w.alloc (.cells (rowV .u32 8 (fun _ => 0)) 41)).setRow w.heap.size (rowV .u32 8 firstF) = w2 at HR1 HB2 ⊢
  clear hA1 hh
  have HN : Hid _ := numbers_any w.heap.size 8 8 firstF w2 firstW (by omega) HR1.out.toC
  go_wp2_with fail
  refine Calls.mono HN.out ?_
  rintro e w4 ⟨v, rfl, ho, hb⟩
  have HB4 : Hid (Below w.heap.size w w4) := HB2.out.trans (hb.mono HB2.out.size)
  have HO : Hid (OwnInt w.heap.size w4 v firstI) := ho.base HB2.out.size
  clear ho hb HN
  go_wp2
  go_ret
  exact ⟨_, rfl, HO.out, HB4.out⟩
set_option maxHeartbeats 1600000 in
theorem first_any (w : World) : Calls Tryd.prog 28 #[] w fun e w' => e = .returned (.agg (rowV .u32 8 firstF)) ∧ Below w.heap.size w w' := by
  go_enter Tryd.func28, Tryd.ntmps28
  go_upto_region 1 with fail
  have hA1 := heap_alloc_new w (.cells (rowV .u32 8 (fun _ => 0)) 40)
  have hB1 : Below w.heap.size w (w.alloc (.cells (rowV .u32 8 (fun _ => 0)) 40)) := (Below.refl _ _).alloc (Nat.le_refl _) _
  rw [← zeroSha] at hA1 hB1
  generalize w.alloc (.cells #[.int .u32 0, .int .u32 0, .int .u32 0, .int .u32 0, .int .u32 0, .int .u32 0, .int .u32 0, .int .u32 0] 40) = w9 at hA1 hB1 ⊢
  rw [zeroSha] at hA1
  refine wp_region_lit ?_
  refine Go.Great.wpList_runTo rfl _ rfl (.agg (rowV .u32 8 firstF)) w9 (by rw [← firstV]; unfold execOp; go_simp) ?_
  try simp only [Act.put, List.getElem_toArray, List.getElem_cons_succ, List.getElem_cons_zero, List.setIfInBounds_toArray, List.set_cons_succ, List.set_cons_zero]
  refine wpList_store_rowTo rfl _ _ _ rfl rfl w.heap.size (rowV .u32 8 firstF) rfl rfl 40 (rowV .u32 8 (fun _ => 0)) hA1 (sizeFirstV _) (by rw [rowV_size, rowV_size]) (rowV_one _ _ _) ?_
  have HR1 : (w9.setRow w.heap.size (rowV .u32 8 firstF)).heap[w.heap.size]? = some (.cells (rowV .u32 8 firstF) 40 (0, 0)) := setRow_heap _ _ _ _ _ _ hA1
  have HB2 : Below w.heap.size w (w9.setRow w.heap.size (rowV .u32 8 firstF)) := below_setRow hB1 (Nat.le_refl _) _
  generalize w9.setRow w.heap.size (rowV .u32 8 firstF) = wz at HR1 HB2 ⊢
  clear hA1 hB1
  go_wp2
  refine bodyPost_ret (results_cell_row rfl _ _ w.heap.size 40 (rowV .u32 8 firstF) (0, 0) _ rfl ?_ Tryd.underlying40 rfl (sizeFirstV _)) rfl ?_
  · exact HR1
  · exact ⟨rfl, HB2⟩
set_option maxHeartbeats 1600000 in
theorem specFirst_any (w : World) : Calls Tryd.prog 26 #[] w fun e w' => ∃ v, e = .returned v ∧ OwnInt w.heap.size w' v firstI ∧ Below w.heap.size w w' := by
  obtain ⟨i0, hi, hz0, hz1, hz2⟩ := info_parts infoIntS
  have HN : Hid (Calls Tryd.prog 28 #[] w fun e w' => e = .returned (.agg (rowV .u32 8 firstF)) ∧ Below w.heap.size w w') := first_any w
  go_enter Tryd.func26, Tryd.ntmps26
  go_wp2_with fail
  refine Calls.mono HN.out ?_
  rintro e w1 ⟨rfl, hb1⟩
  rename_i hq
  refine hq _ _ ?_
  clear hq
  try simp only [Act.put, List.getElem_toArray, List.getElem_cons_succ, List.getElem_cons_zero, List.setIfInBounds_toArray, List.set_cons_succ, List.set_cons_zero]
  refine Go.Great.wpList_allocTo rfl _ rfl (.pointer (some ⟨w1.heap.size, 0, none⟩)) (.cells (rowV .u32 8 (fun _ => 0)) 40) (by rw [← zeroSha]; unfold execOp; go_simp) ?_
  try simp only [Act.put, List.getElem_toArray, List.getElem_cons_succ, List.getElem_cons_zero, List.setIfInBounds_toArray, List.set_cons_succ, List.set_cons_zero]
  have hA1 := heap_alloc_new w1 (.cells (rowV .u32 8 (fun _ => 0)) 40)
  refine wpList_store_rowTo rfl _ _ _ rfl rfl w1.heap.size (rowV .u32 8 firstF) rfl rfl 40 (rowV .u32 8 (fun _ => 0)) hA1 (sizeFirstV _) (by rw [rowV_size, rowV_size]) (rowV_one _ _ _) ?_
  have HR1 : Hid (RowAt ((w1.alloc (.cells (rowV .u32 8 (fun _ => 0)) 40)).setRow w1.heap.size (rowV .u32 8 firstF)) w1.heap.size 40 .u32 8 firstF) := setRow_heap _ _ _ _ _ _ hA1
  have HB2 : Hid (Below w.heap.size w ((w1.alloc (.cells (rowV .u32 8 (fun _ => 0)) 40)).setRow w1.heap.size (rowV .u32 8 firstF))) := below_setRow (hb1.alloc hb1.size _) hb1.size _
  generalize (w1.alloc (.cells (rowV .u32 8 (fun _ => 0)) 40)).setRow w1.heap.size (rowV .u32 8 firstF) = w2 at HR1 HB2 ⊢
  generalize w1.heap.size = g at HR1 ⊢
  clear hA1 hb1
  have HR : Hid (RowC w2 g .u32 8 firstF) := HR1.out.toC
  clear HR1
  go_wp2
  go_loopw [2, 3] (fun v i wr => ∃ k : Nat, k ≤ 8 ∧ i = .int .i64 (k : Int) ∧ wr.ownsRow w2.heap.size 3 1 v k ((bytesV k firstF).map (Value.int .i64)) ∧ Below w2.heap.size w2 wr)
    (fun _ i _ => 8 - (intOf i).toNat)
  case atStart => exact ⟨0, Nat.zero_le _, rfl, World.ownsRow_made _ _ _ (Nat.le_refl _) (by decide) rfl, (Below.refl _ _).alloc (Nat.le_refl _) _⟩
  case round =>
    obtain ⟨k, hk, rfl, hown, hbel⟩ := hrel
    by_cases hlt : k < 8
    · have hi0 : (0 : Int) ≤ (k : Int) := by omega
      have hi1 : (k : Int) < 8 := by omega
      have c1 := (HR.out.below hbel HR.out.lt hbel.size).c k hlt
      have b1 := firstW k
      have hw : IntKind.i64.wrap ((firstF k : Nat) : Int) = ((firstF k : Nat) : Int) := by rw [IntKind.wrap_i64]; omega
      have HS : Hid (bytesV (k + 1) firstF = bytesV k firstF ++ [((firstF k : Nat) : Int)]) := bytesV_succ k firstF
      have HL : Hid ((bytesV k firstF).length = k) := bytesV_len k firstF
      have hsz := hbel.size
      generalize ((firstF k : Nat) : Int) = y at c1 hw HS
      clear b1
      go_wp2_with (at_builtin; refine wpList_append_own _ rfl _ _ 26 rfl w2.heap.size 3 i0 (.int .i64 0) 1 8 Tryd.underlying26 hi hz0 hz1 hz2 rfl (by decide) _ _ _ rfl (hown.alloc _) ⟨wr.heap.size, 0, none⟩ 1 1 [.int .i64 y] rfl rfl ?c1 ?c2 ?c3 ?c4 ?c5 ?_)
      case c1 => exact cell_one_new _ _ _
      case c2 => intro u hu; simp at hu; subst hu; rfl
      case c3 => unfold maxLen; omega
      case c4 => omega
      case c5 => simp; omega
      · intro v' w3 hown' hgrow _
        have hB := below_app hown hbel hsz hgrow
        have ho : w3.ownsRow w2.heap.size 3 1 v' (k + 1) ((bytesV (k + 1) firstF).map (Value.int .i64)) := by rw [HS.out, List.map_append]; exact hown'
        clear hown' hgrow hown hbel
        go_wp2
        go_roundw
        case rel => exact ⟨k + 1, by omega, by go_num, ho, hB⟩
        case measure => simp [intOf]; omega
    · obtain rfl : k = 8 := by omega
      have HO : Hid (OwnInt w.heap.size wr u2 firstI) := OwnInt.base (B := w2.heap.size) (by unfold OwnInt; rw [firstI_len]; exact hown) HB2.out.size
      have HB : Hid (Below w.heap.size w wr) := HB2.out.trans (hbel.mono HB2.out.size)
      go_wp2
      go_ret
      exact ⟨_, rfl, HO.out, HB.out⟩
end Go.Proofs.YthpkhbcahihbnaaDoor
