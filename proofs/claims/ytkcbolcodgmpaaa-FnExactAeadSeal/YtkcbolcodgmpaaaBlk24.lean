/- The program's words as a text, and a block (chapter 24). -/
import Derived.Test.YtkcbolcodgmpaaaImplD24
import Derived.Test.YtkcbolcodgmpaaaCha24
import Derived.Test.YtkcbolcodgmpaaaLow24
import Derived.Test.YtkcbolcodgmpaaaArrB
import Derived.Test.YtkcbolcodgmpaaaBldW
import Derived.WalkKit
import Derived.WalkLawsBesides
import Derived.WalkSpells
import Derived.BigRegion
import Derived.Great.Walk
namespace Go.Proofs.Ytkcbolcodgmpaaa
open Go.RowKit Go.PlainAid
set_option maxRecDepth 20000
set_option linter.unusedVariables false
set_option linter.unusedSimpArgs false
/-- The bytes of the first n words, each with its lowest byte first. -/
def leL (f : Nat → Nat) : Nat → List Int
  | 0 => []
  | n + 1 => leL f n ++ bytesV 4 (lowB (f n))
theorem leL_len (f : Nat → Nat) : ∀ n, (leL f n).length = 4 * n
  | 0 => rfl
  | n + 1 => by rw [leL, List.length_append, leL_len f n, bytesV_len]; omega
theorem lowB_lt (x i : Nat) : lowB x i < 256 := Nat.mod_lt _ (by omega)
theorem leL_bd (f : Nat → Nat) : ∀ n, ∀ x ∈ leL f n, 0 ≤ x ∧ x ≤ 255
  | 0, x, h => by simp [leL] at h
  | n + 1, x, h => by
    rw [leL, List.mem_append] at h
    rcases h with h | h
    · exact leL_bd f n x h
    · exact bytesV_bd (fun i _ => lowB_lt _ _) x h
def leT (f : Nat → Nat) (n : Nat) : ByteArray := strOfNums (leL f n)
theorem leT_size (f : Nat → Nat) (n : Nat) : (leT f n).size = 4 * n := by unfold leT; rw [strOfNums_size, leL_len]
set_option maxHeartbeats 1600000 in
theorem textW_any (g cap n : Nat) (f : Nat → Nat) (w : World) (hf : Words f) (hn : n ≤ 16) (hr : RowC w g .u32 n f) :
    Calls Try.prog 54 #[.slice (some ⟨g, 0, none⟩) n cap, .func (.func 42) #[] #[]] w fun e w' => e = .returned (.string (leT f n)) ∧ Below w.heap.size w w' := by
  have HR : Hid (RowC w g .u32 n f) := hr
  have HF : Hid (Words f) := hf
  clear hr hf
  go_enter Try.func54, Try.ntmps54
  go_wp2
  go_loopw [10] (fun i wr => ∃ k : Nat, k ≤ n ∧ i = .int .i64 (k : Int) ∧ Hid (Bd w.heap.size w.heap.size (Lib.byteCells (leT f k).data.toList) wr) ∧ Below w.heap.size w wr)
    (fun i _ => n - (intOf i).toNat)
  case atStart => exact ⟨0, Nat.zero_le _, rfl, Lib.fresh_isBuilder _ _ w, (Below.refl _ _).alloc (Nat.le_refl _) _⟩
  case round =>
    obtain ⟨k, hk, rfl, HB, hB⟩ := hrel
    by_cases hlt : k < n
    · have hi0 : (0 : Int) ≤ (k : Int) := by omega
      have hi1 : (k : Int) < (n : Int) := by omega
      have c1 := (HR.out.below hB HR.out.lt hB.size).c k hlt
      have b1 := HF.out k
      have hw : IntKind.u64.wrap ((f k : Nat) : Int) = ((f k : Nat) : Int) := by rw [IntKind.wrap_u64]; omega
      have H1 : Hid (∀ wz, Calls Try.prog 42 #[.int .u64 ((f k : Nat) : Int), .int .i64 4] wz fun e w' => e = .returned (.string (strOfNums (bytesV 4 (lowB (f k))))) ∧ Below wz.heap.size wz w') := fun wz => lowest_any (f k) 4 wz (by omega) (by omega)
      have HN : Hid (Lib.byteCells (leT f (k + 1)).data.toList = Lib.byteCells (leT f k).data.toList ++ Lib.strCells (strOfNums (bytesV 4 (lowB (f k))))) := by
        show _ = _
        unfold leT
        rw [← cells_str _ (leL_bd f (k + 1)), ← cells_str _ (leL_bd f k), strCells_nums (bytesV_bd (fun i _ => lowB_lt _ _)), leL, List.map_append]
      have HL : Hid ((Lib.byteCells (leT f k).data.toList).length ≤ 64) := by
        show _ ≤ _
        unfold leT
        rw [← cells_str _ (leL_bd f k), List.length_map, leL_len]; omega
      have HZ : Hid ((strOfNums (bytesV 4 (lowB (f k)))).size = 4) := by show _ = _; rw [strOfNums_size, bytesV_len]
      generalize ((f k : Nat) : Int) = y at c1 hw H1
      generalize strOfNums (bytesV 4 (lowB (f k))) = t at H1 HN HZ
      clear b1
      go_wp2_with fail
      refine Calls.mono (H1.out _) ?_
      rintro e w1 ⟨rfl, hb1⟩
      have HB1 : Hid (Bd w.heap.size w.heap.size (Lib.byteCells (leT f k).data.toList) w1) := bd_keep HB.out hb1
      have hB1 : Below w.heap.size w w1 := hB.trans (hb1.mono hB.size)
      clear hb1 HB hB
      go_wp2_with fail
      refine Calls.mono (bdWrite _ _ _ t w1 HB1.out (by have := HL.out; have := HZ.out; omega) hB1.size) ?_
      rintro e w2 ⟨rfl, hb2, hb3⟩
      have HB2 : Hid (Bd w.heap.size w.heap.size (Lib.byteCells (leT f (k + 1)).data.toList) w2) := by show Bd _ _ _ _; rw [HN.out]; exact hb2
      have hB2 : Below w.heap.size w w2 := hB1.trans hb3
      clear hb2 hb3 HB1 hB1
      go_wp2
      go_roundw
      case rel => exact ⟨k + 1, by omega, by go_num, HB2, hB2⟩
      case measure => simp [intOf]; omega
    · obtain rfl : k = n := by omega
      go_wp2_with fail
      refine Calls.mono (bdString _ _ _ _ HB.out hB.size) ?_
      rintro e w1 ⟨rfl, hb1⟩
      rw [str_back]
      go_wp2
      go_ret
      exact ⟨rfl, hB.trans hb1⟩
/-- The text of a block. -/
def blockT (f : Nat → Nat) : ByteArray := leT (blockW f) 16
def sumTo (f : Nat → Nat) (k : Nat) : Nat → Nat := fun i => if i < k then blockW f i else twenty f 10 i
theorem sumTo_upd (f : Nat → Nat) (k : Nat) : upd (sumTo f k) k (blockW f k) = sumTo f (k + 1) := by
  funext i
  unfold upd sumTo
  by_cases h : i = k
  · subst h; rw [if_pos rfl, if_pos (by omega)]
  · rw [if_neg h]
    by_cases h2 : i < k
    · rw [if_pos h2, if_pos (by omega)]
    · rw [if_neg h2, if_neg (by omega)]
theorem turns_at0 (w : World) : (Instr.index 77 (.agg #[.func (.func 52) #[] #[], .func (.func 53) #[] #[]]) (.int .i64 0)).run Try.prog w = .ok (.func (.func 52) #[] #[]) w := by rfl
theorem turns_at1 (w : World) : (Instr.index 77 (.agg #[.func (.func 52) #[] #[], .func (.func 53) #[] #[]]) (.int .i64 1)).run Try.prog w = .ok (.func (.func 53) #[] #[]) w := by rfl
set_option maxHeartbeats 3200000 in
theorem block_any (f : Nat → Nat) (w : World) (hf : Words f) :
    Calls Try.prog 34 #[.agg (rowV .u32 16 f)] w fun e w' => e = .returned (.string (blockT f)) ∧ Below w.heap.size w w' := by
  have HF : Hid (Words f) := hf
  clear hf
  go_enter Try.func34, Try.ntmps34
  go_upto_region 1 with fail
  refine wp_region_lit ?_
  refine wpl_load rfl _ _ rfl _ rfl w.heap.size (rowV .u32 16 f) rfl 49 (0, 0) (heap_alloc_new w _) _ Try.underlying49 rfl (sizeChaV _) ?_
  try simp only [Act.put, List.getElem_toArray, List.getElem_cons_succ, List.getElem_cons_zero, List.setIfInBounds_toArray, List.set_cons_succ, List.set_cons_zero]
  refine Go.Great.wpList_allocTo rfl _ rfl (.pointer (some ⟨w.heap.size + 1, 0, none⟩)) (.cells (rowV .u32 16 (fun _ => 0)) 49) (by rw [← zeroCha]; unfold execOp; go_simp) ?_
  simp only [Act.put, List.getElem_toArray, List.getElem_cons_succ, List.getElem_cons_zero, List.setIfInBounds_toArray, List.set_cons_succ, List.set_cons_zero]
  have hA1 : ((w.alloc (.cells (rowV .u32 16 f) 49)).alloc (.cells (rowV .u32 16 (fun _ => 0)) 49)).heap[w.heap.size + 1]? = some (.cells (rowV .u32 16 (fun _ => 0)) 49 (0, 0)) := by
    have := heap_alloc_new (w.alloc (.cells (rowV .u32 16 f) 49)) (.cells (rowV .u32 16 (fun _ => 0)) 49)
    simpa using this
  refine wpList_store_rowTo rfl _ _ _ rfl rfl (w.heap.size + 1) (rowV .u32 16 f) rfl rfl 49 (rowV .u32 16 (fun _ => 0)) hA1 (sizeChaV _) (by rw [rowV_size, rowV_size]) (rowV_one _ _ _) ?_
  have HR1 : Hid (RowAt (((w.alloc (.cells (rowV .u32 16 f) 49)).alloc (.cells (rowV .u32 16 (fun _ => 0)) 49)).setRow (w.heap.size + 1) (rowV .u32 16 f)) (w.heap.size + 1) 49 .u32 16 f) := setRow_heap _ _ _ _ _ _ hA1
  have HR0 : Hid (RowAt (((w.alloc (.cells (rowV .u32 16 f) 49)).alloc (.cells (rowV .u32 16 (fun _ => 0)) 49)).setRow (w.heap.size + 1) (rowV .u32 16 f)) w.heap.size 49 .u32 16 f) := (setRow_other _ _ _ _ (by omega)).trans ((Lib.alloc_old _ _ _ (by simp)).trans (heap_alloc_new w _))
  have HB : Hid (Below w.heap.size w (((w.alloc (.cells (rowV .u32 16 f) 49)).alloc (.cells (rowV .u32 16 (fun _ => 0)) 49)).setRow (w.heap.size + 1) (rowV .u32 16 f))) := below_setRow (((Below.refl _ _).alloc (Nat.le_refl _) _).alloc (by simp) _) (by omega) _
  generalize (((w.alloc (.cells (rowV .u32 16 f) 49)).alloc (.cells (rowV .u32 16 (fun _ => 0)) 49)).setRow (w.heap.size + 1) (rowV .u32 16 f)) = w0 at HR1 HR0 HB ⊢
  clear hA1
  have hs0 : w.heap.size + 1 < w0.heap.size := HR1.out.lt
  go_wp2
  go_loopw [8] (fun i wr => ∃ k : Nat, k ≤ 10 ∧ i = .int .i64 (k : Int) ∧ Hid (Below w.heap.size w wr) ∧ Hid (RowAt wr w.heap.size 49 .u32 16 f) ∧ Hid (RowAt wr (w.heap.size + 1) 49 .u32 16 (twenty f k)))
    (fun i _ => 10 - (intOf i).toNat)
  case atStart => exact ⟨0, Nat.zero_le _, rfl, HB, HR0, HR1⟩
  case round =>
    obtain ⟨k, hk, rfl, HBk, H0, H1⟩ := hrel
    by_cases hlt : k < 10
    · have hi1 : (k : Int) < 10 := by omega
      have HD : Hid (∀ wz, RowAt wz (w.heap.size + 1) ChaT .u32 16 (twenty f k) → _) := fun wz h => turnDown_any (w.heap.size + 1) (twenty f k) wz (HF.out.twenty k) h
      have HA : Hid (∀ wz, RowAt wz (w.heap.size + 1) ChaT .u32 16 (downs (twenty f k) 4) → _) := fun wz h => turnAslant_any (w.heap.size + 1) (downs (twenty f k) 4) wz ((HF.out.twenty k).downs 4) h
      have HN : Hid (aslants (downs (twenty f k) 4) 4 = twenty f (k + 1)) := rfl
      clear hs0 HR1 HR0 HB
      go_wp2
      go_loopw [11] (fun i wr => Hid (Below w.heap.size w wr) ∧ Hid (RowAt wr w.heap.size 49 .u32 16 f) ∧ (i = .int .i64 0 ∧ Hid (RowAt wr (w.heap.size + 1) 49 .u32 16 (twenty f k)) ∨ i = .int .i64 1 ∧ Hid (RowAt wr (w.heap.size + 1) 49 .u32 16 (downs (twenty f k) 4)) ∨ i = .int .i64 2 ∧ Hid (RowAt wr (w.heap.size + 1) 49 .u32 16 (twenty f (k + 1)))))
        (fun i _ => 2 - (intOf i).toNat)
      case atStart => exact ⟨HBk, H0, .inl ⟨rfl, H1⟩⟩
      case round =>
        clear HBk H0 H1
        obtain ⟨HBk, H0, ⟨rfl, H1⟩ | ⟨rfl, H1⟩ | ⟨rfl, H1⟩⟩ := hrel
        · have ht := turns_at0
          go_wp2_with fail
          refine Calls.mono (HD.out _ H1.out) ?_
          rintro e wq ⟨rfl, g1, r1⟩
          have HB2 : Hid _ := below_gb HBk.out HBk.out.size g1 (by omega)
          have H2 : Hid _ := H0.out.grown g1 (by omega)
          clear HBk H0 H1
          go_wp2
          go_roundw
          case rel => exact ⟨HB2, H2, .inr (.inl ⟨rfl, r1⟩)⟩
          case measure => simp [intOf]
        · have ht := turns_at1
          go_wp2_with fail
          refine Calls.mono (HA.out _ H1.out) ?_
          rintro e wq ⟨rfl, g1, r1⟩
          have HB2 : Hid _ := below_gb HBk.out HBk.out.size g1 (by omega)
          have H2 : Hid _ := H0.out.grown g1 (by omega)
          clear HBk H0 H1
          go_wp2
          go_roundw
          case rel => exact ⟨HB2, H2, .inr (.inr ⟨rfl, by rw [← HN.out]; exact r1⟩)⟩
          case measure => simp [intOf]
        · go_wp2
          go_roundw
          case rel => exact ⟨k + 1, by omega, by go_num, HBk, H0, H1⟩
          case measure => simp [intOf]; omega
    · obtain rfl : k = 10 := by omega
      clear HR1 HR0 HB
      go_wp2
      go_loopw [18] (fun i wr => ∃ k : Nat, k ≤ 16 ∧ i = .int .i64 (k : Int) ∧ Hid (Below w.heap.size w wr) ∧ Hid (RowAt wr w.heap.size 49 .u32 16 f) ∧ Hid (RowAt wr (w.heap.size + 1) 49 .u32 16 (sumTo f k)))
        (fun i _ => 16 - (intOf i).toNat)
      case atStart => exact ⟨0, Nat.zero_le _, rfl, HBk, H0, H1.out.ext (fun i _ => by unfold sumTo; rw [if_neg (by omega)])⟩
      case round =>
        clear HBk H0 H1
        obtain ⟨k, hk, rfl, HBk, H0, H1⟩ := hrel
        by_cases hlt : k < 16
        · have hi1 : (k : Int) < 16 := by omega
          have c1 := H1.out.cell hlt
          have c0 := H0.out.cell hlt
          have z1 := H1.out.froz k
          have HE : Hid ((((sumTo f k k : Nat) : Int) + ((f k : Nat) : Int)) % 4294967296 = ((blockW f k : Nat) : Int)) := by
            show _ = _
            rw [show sumTo f k k = twenty f 10 k from if_neg (by omega)]
            unfold blockW; omega
          have HB2 : Hid (∀ v, Below w.heap.size w ((wr.setCell ⟨w.heap.size + 1, k, none⟩ v).drew)) := fun v => (HBk.out.setCell (show w.heap.size ≤ w.heap.size + 1 by omega) v).drew
          have H2 : Hid (∀ v, RowAt ((wr.setCell ⟨w.heap.size + 1, k, none⟩ v).drew) w.heap.size 49 .u32 16 f) := fun v => RowAt.drew ((Below.heap_setCell _ _ _ _ (by simp)).trans H0.out)
          have H3 : Hid (RowAt ((wr.setCell ⟨w.heap.size + 1, k, none⟩ (.int .u32 ((blockW f k : Nat) : Int))).drew) (w.heap.size + 1) 49 .u32 16 (sumTo f (k + 1))) := by
            rw [← sumTo_upd]; exact (H1.out.set hlt _).drew
          clear HBk H0 H1
          go_wp2
          go_region
          all_goals
            rw [HE.out]
            go_wp2
            go_roundw
            case rel => exact ⟨k + 1, by omega, by go_num, HB2.out _, H2.out _, H3⟩
            case measure => simp [intOf]; omega
        · obtain rfl : k = 16 := by omega
          have HT : Hid _ := textW_any (w.heap.size + 1) 16 16 (blockW f) wr (blockW_lt f) (by omega) (RowAt.toC (H1.out.ext (fun i hi => by unfold sumTo; rw [if_pos hi])))
          have HE : Hid (leT (blockW f) 16 = blockT f) := rfl
          clear H0 H1
          go_wp2_with fail
          refine Calls.mono HT.out ?_
          rintro e wq ⟨rfl, hb1⟩
          rw [HE.out]
          go_wp2
          go_ret
          exact ⟨rfl, HBk.out.trans (hb1.mono HBk.out.size)⟩
end Go.Proofs.Ytkcbolcodgmpaaa
