/- Numbers of a curve as texts (chapter 27): FieldText of both sides. -/
import Derived.Test.YtjhglbdknjoeeaaFld27
import Derived.Test.YtjhglbdknjoeeaaSfl27
import Derived.Test.YtjhglbdknjoeeaaLow24
import Derived.Test.YtjhglbdknjoeeaaArrE
import Derived.Test.YtjhglbdknjoeeaaPlain
import Derived.Test.YtjhglbdknjoeeaaRowC
import Derived.Lib.AppendStr
import Derived.OrdersHeld
import Derived.Deep.RegionHeld
import Derived.Deep.RegionHeld3
import Derived.Deep.AppendLies
import Derived.Deep.DrawnRows
import Derived.Laws.OwnMore
import Derived.Laws.MakeOwn
import Derived.Deep.QuietTactic
import Derived.BigQuiet
import Derived.WalkKit
import Derived.WalkLawsBesides
import Derived.WalkSpells
import Derived.BigRegion
import Derived.Laws.ShiftsVar
import Derived.Lib.Strings
import Derived.Below
import Derived.OwnWalk
import Derived.PlainAid
import Derived.Great.Walk
namespace Go.Proofs.Ytjhglbdknjoeeaa
open Go.RowKit Go.PlainAid
set_option maxRecDepth 20000
set_option linter.unusedVariables false
set_option linter.unusedSimpArgs false
/-- The bytes of the first k limbs, each with its lowest one first. -/
def txtL (l : List Int) : Nat → List Int
  | 0 => []
  | k + 1 => txtL l k ++ [l.getD k 0 % 256, l.getD k 0 / 256 % 256]
theorem txtL_len (l : List Int) : ∀ k, (txtL l k).length = 2 * k
  | 0 => rfl
  | k + 1 => by rw [txtL, List.length_append, txtL_len l k]; rfl
theorem txtL_bd (l : List Int) : ∀ k, ∀ x ∈ txtL l k, 0 ≤ x ∧ x ≤ 255
  | 0, x, h => by simp [txtL] at h
  | k + 1, x, h => by
    rw [txtL, List.mem_append] at h
    rcases h with h | h
    · exact txtL_bd l k x h
    · simp only [List.mem_cons, List.not_mem_nil, or_false] at h
      rcases h with rfl | rfl <;> omega
def numTx (l : List Int) : ByteArray := strOfNums (txtL l 16)
theorem numTx_size (l : List Int) : (numTx l).size = 32 := by unfold numTx; rw [strOfNums_size, txtL_len]
/-- What FieldText answers. -/
def txtF (l : List Int) : ByteArray := if okF l = true then numTx l else ByteArray.empty
theorem two_low (x : Nat) : bytesV 2 (lowB x) = [((x : Nat) : Int) % 256, ((x : Nat) : Int) / 256 % 256] := by
  have e : bytesV 2 (lowB x) = [((lowB x 0 : Nat) : Int), ((lowB x 1 : Nat) : Int)] := rfl
  rw [e]
  unfold lowB
  simp
theorem strCells_of {xs : List Int} (h : ∀ x ∈ xs, 0 ≤ x ∧ x ≤ 255) : Lib.strCells (strOfNums xs) = xs.map (Value.int .u8) := strCells_nums h
theorem infoU8x : (Try.prog.info? 5).map (fun i => (i.zero, i.size, i.bytes)) = some (some (.int .u8 0), 1, 1) := by kernel_rfl
set_option maxHeartbeats 1600000 in
theorem numtext_any (f : List Int) (w : World) (hf : f.length = 16) (hin : within 0 65535 f) :
    Calls Try.prog 63 #[.agg (rowL .i64 f)] w fun e w' => e = .returned (.string (numTx f)) ∧ Below w.heap.size w w' := by
  obtain ⟨i0, hi, hz0, hz1, hz2⟩ := info_parts infoU8x
  have HIN : Hid (within 0 65535 f) := hin
  have hA0 := heap_alloc_new w (.cells (rowL .i64 f) 63)
  have hB0 : Below w.heap.size w (w.alloc (.cells (rowL .i64 f) 63)) := (Below.refl _ _).alloc (Nat.le_refl _) _
  clear hin
  go_enter Try.func63, Try.ntmps63
  go_upto_region 1 with fail
  generalize w.alloc (.cells (rowL .i64 f) 63) = w0 at hA0 hB0 ⊢
  have hs0 : w.heap.size < w0.heap.size := (Array.getElem?_eq_some_iff.1 hA0).1
  go_upto_region 2 with (at_make; refine wpList_make_own _ rfl _ _ 22 rfl w0.heap.size 5 i0 (.int .u8 0) 1 Try.underlying22 hi hz0 hz1 .i64 .i64 _ 32 rfl rfl (by omega) (by rw [hz2]; omega) (by unfold maxLen; omega) (Nat.le_refl _) ?_; intro w1 hown1 hgrow1; have hA1 := (hgrow1.block w.heap.size hs0 (by simp)).trans hA0; have hB1 : Below w.heap.size w w1 := hB0.trans (((Below.refl _ _).grown hgrow1 (Nat.le_refl _) (by simp) : Below w0.heap.size w0 w1).mono hB0.size); have HO1 : Hid (w1.ownsRow w0.heap.size 5 1 (.slice (some ⟨w0.heap.size, 0, none⟩) 0 32) (2 * 0) ((txtL f 0).map (Value.int .u8))) := hown1; clear hown1 hgrow1 hA0)
  refine wp_region_lit ?_
  refine wpl_load rfl _ _ rfl _ rfl w.heap.size (rowL .i64 f) rfl 63 (0, 0) hA1 _ Try.underlying63 rfl (sizeFnL hf) ?_
  try simp only [Act.put, List.getElem_toArray, List.getElem_cons_succ, List.getElem_cons_zero, List.setIfInBounds_toArray, List.set_cons_succ, List.set_cons_zero]
  refine Go.Great.wpList_runTo rfl _ rfl (.int .i64 0) w1 (by unfold execOp; go_simp) ?_
  try simp only [Act.put, List.getElem_toArray, List.getElem_cons_succ, List.getElem_cons_zero, List.setIfInBounds_toArray, List.set_cons_succ, List.set_cons_zero]
  have hsB : w.heap.size ≤ w0.heap.size := hB0.size
  clear hA1 hB0
  go_wp2
  go_loopw [3, 8] (fun v i wr => ∃ k : Nat, k ≤ 16 ∧ i = .int .i64 (k : Int) ∧ Hid (wr.ownsRow w0.heap.size 5 1 v (2 * k) ((txtL f k).map (Value.int .u8))) ∧ Hid (Below w.heap.size w wr) ∧ w0.heap.size ≤ wr.heap.size)
    (fun _ i _ => 16 - (intOf i).toNat)
  case atStart => exact ⟨0, Nat.zero_le _, rfl, HO1, hB1, by have := (World.ownsRow.lt HO1.out w0.heap.size rfl).2; omega⟩
  case round =>
    clear HO1 hB1
    obtain ⟨k, hk, rfl, HO, HB, hz⟩ := hrel
    by_cases hlt : k < 16
    · have hi0' : (0 : Int) ≤ (k : Int) := by omega
      have hi1' : (k : Int) < 16 := by omega
      have hkf : k < f.length := by omega
      have hix := index_row 63 16 Try.underlying63 f hf hkf wr
      have hb := HIN.out k hkf
      obtain ⟨x, hx⟩ : ∃ x : Nat, f.getD k 0 = (x : Int) := ⟨(f.getD k 0).toNat, by omega⟩
      rw [hx] at hix hb
      have hwx : IntKind.u64.wrap (x : Int) = (x : Int) := by rw [IntKind.wrap_u64]; omega
      have HL : Hid (∀ wz, Calls Try.prog 78 #[.int .u64 (x : Int), .int .i64 2] wz fun e w' => e = .returned (.string (strOfNums (bytesV 2 (lowB x)))) ∧ Below wz.heap.size wz w') := fun wz => lowest_any x 2 wz (by omega) (by omega)
      have HSZ : Hid ((strOfNums (bytesV 2 (lowB x))).size = 2) := by show _ = _; rw [strOfNums_size, bytesV_len]
      have HCE : Hid ((txtL f k).map (Value.int .u8) ++ Lib.strCells (strOfNums (bytesV 2 (lowB x))) = (txtL f (k + 1)).map (Value.int .u8)) := by
        show _ = _
        rw [strCells_of (bytesV_bd (f := lowB x) (fun i _ => Nat.mod_lt _ (by omega))), two_low, ← hx, ← List.map_append]; rfl
      clear hb hx
      generalize strOfNums (bytesV 2 (lowB x)) = T at HL HSZ HCE
      generalize (x : Int) = xi at hix hwx HL
      go_wp2_with fail
      refine Calls.mono (HL.out _) ?_
      rintro e w2 ⟨rfl, hb2⟩
      have ho2 := own_next HO.out hb2
      have hs2 := hb2.size
      have HB2 : Hid (Below w.heap.size w w2) := HB.out.trans (hb2.mono HB.out.size)
      have hlo := World.ownsRow.lt ho2
      clear hb2 HO HB HL hix
      go_wp2_with (at_builtin; go_loud (refine Lib.wpList_append_own_string _ rfl _ _ 22 9 rfl w0.heap.size 5 i0 Try.underlying22 Try.underlying9 hi hz0 hz1 hz2 _ _ _ rfl ho2 _ rfl ?c1 ?c2 ?c3 ?_))
      case c1 => unfold maxLen; rw [HSZ.out]; omega
      case c2 => rw [HSZ.out]; omega
      case c3 => omega
      intro v' w3 ho3 hg3 _
      rw [HCE.out, HSZ.out] at ho3
      have HO3 : Hid (w3.ownsRow w0.heap.size 5 1 v' (2 * (k + 1)) ((txtL f (k + 1)).map (Value.int .u8))) := ho3
      have HB3 : Hid (Below w.heap.size w w3) := HB2.out.grown hg3 HB2.out.size (fun g hg => Nat.le_trans hsB (hlo g hg).1)
      have hz3 : w0.heap.size ≤ w3.heap.size := by have := hg3.size; omega
      clear ho3 hg3 ho2 HB2 hlo
      go_wp2
      go_roundw
      case rel => exact ⟨k + 1, by omega, by go_num, HO3, HB3, hz3⟩
      case measure => simp [intOf]; omega
    · obtain rfl : k = 16 := by omega
      have hc := conv_own wr 22 9 5 Try.underlying22 Try.underlying5 Try.underlying9 (P := Try.prog) HO.out
      have HE : Hid (strOfNums (txtL f 16) = numTx f) := rfl
      go_wp2
      go_ret
      exact ⟨by rw [← HE.out]; rfl, HB.out⟩
theorem below_appT {B : Nat} {w wr w1 : World} {v : Value} {e size n : Nat} {xs : List Value} {o : Obj} (hown : wr.ownsRow B e size v n xs) (hbel : Below B w wr) (hB : B ≤ wr.heap.size) (hg : (wr.alloc o).drew.grownBy w1 v.ownBlock) : Below B w w1 :=
  ((hbel.alloc hB o).drew).grown hg (by simp; omega) (fun k hk => (hown.lt k hk).1)
theorem txt_no {l : List Int} (h : okF l = false) : txtF l = ByteArray.empty := by unfold txtF; rw [h]; rfl
theorem txt_yes {l : List Int} (h : okF l = true) : txtF l = numTx l := by unfold txtF; rw [h]; rfl
set_option maxHeartbeats 1600000 in
theorem implFieldText_any (a0 : Option Addr) (c0 : Nat) (n0 : List Int) (w : World) (hr0 : RowI w.heap.size w a0 n0) :
    Calls Try.prog 21 #[.agg #[.slice a0 n0.length c0]] w fun e w' => e = .returned (.string (txtF n0)) ∧ Below w.heap.size w w' := by
  go_enter Try.func21, Try.ntmps21
  go_upto_region 1 with fail
  have hA0 : (w.alloc (.cells #[.slice a0 n0.length c0] 26)).heap[w.heap.size]? = some (.cells #[.slice a0 n0.length c0] 26 (0, 0)) := heap_alloc_new w _
  have hB0 : Below w.heap.size w (w.alloc (.cells #[.slice a0 n0.length c0] 26)) := (Below.refl _ _).alloc (Nat.le_refl _) _
  generalize (w.alloc (.cells #[.slice a0 n0.length c0] 26)) = w0 at hA0 hB0 ⊢
  have hq0 := hr0.grown hB0
  clear hr0
  refine wp_region_lit ?_
  refine wpl_load rfl _ _ rfl _ rfl (w.heap.size) #[.slice a0 n0.length c0] rfl 26 (0, 0) hA0 _ Try.underlying26 rfl (sizeField1 _) ?_
  try simp only [Act.put, List.getElem_toArray, List.getElem_cons_succ, List.getElem_cons_zero, List.setIfInBounds_toArray, List.set_cons_succ, List.set_cons_zero]
  go_wp2_with fail
  refine Calls.mono (number_any a0 c0 n0 w0 (hq0)) ?_
  rintro e w1 ⟨m, rfl, hlm, hem, hb⟩
  rename_i hq
  refine hq _ _ ?_
  clear hq
  try simp only [Act.put, List.getElem_toArray, List.getElem_cons_succ, List.getElem_cons_zero, List.setIfInBounds_toArray, List.set_cons_succ, List.set_cons_zero]
  refine Go.Great.wpList_runTo rfl _ rfl (.tuple #[.agg (rowL .i64 m), .bool (okF n0)]) w1 (by unfold execOp; go_simp) ?_
  try simp only [Act.put, List.getElem_toArray, List.getElem_cons_succ, List.getElem_cons_zero, List.setIfInBounds_toArray, List.set_cons_succ, List.set_cons_zero]
  refine Go.Great.wpList_runTo rfl _ rfl (.agg (rowL .i64 m)) w1 (by unfold execOp; go_simp) ?_
  try simp only [Act.put, List.getElem_toArray, List.getElem_cons_succ, List.getElem_cons_zero, List.setIfInBounds_toArray, List.set_cons_succ, List.set_cons_zero]
  refine Go.Great.wpList_runTo rfl _ rfl (.bool (okF n0)) w1 (by unfold execOp; go_simp) ?_
  try simp only [Act.put, List.getElem_toArray, List.getElem_cons_succ, List.getElem_cons_zero, List.setIfInBounds_toArray, List.set_cons_succ, List.set_cons_zero]
  have hB1 := hB0.trans (hb.mono hB0.size)
  clear hA0 hq0 hb hB0
  refine Go.Great.wpList_allocTo rfl _ rfl (.pointer (some ⟨w1.heap.size, 0, none⟩)) (.cells (rowL .i64 (List.replicate 16 0)) 63) (by rw [← zeroFn]; unfold execOp; go_simp) ?_
  try simp only [Act.put, List.getElem_toArray, List.getElem_cons_succ, List.getElem_cons_zero, List.setIfInBounds_toArray, List.set_cons_succ, List.set_cons_zero]
  have hN := heap_alloc_new w1 (.cells (rowL .i64 (List.replicate 16 0)) 63)
  refine wpList_store_rowTo rfl _ _ _ rfl rfl (w1.heap.size) (rowL .i64 m) rfl rfl 63 (rowL .i64 (List.replicate 16 0)) hN (sizeFnL hlm) (by rw [rowL_size, rowL_size, hlm]; rfl) (rowL_one _ _) ?_
  try simp only [Act.put, List.getElem_toArray, List.getElem_cons_succ, List.getElem_cons_zero, List.setIfInBounds_toArray, List.set_cons_succ, List.set_cons_zero]
  have HM : Hid (RowZ ((w1.alloc (.cells (rowL .i64 (List.replicate 16 0)) 63)).setRow w1.heap.size (rowL .i64 m)) w1.heap.size 63 .i64 m) := setRow_heap _ _ _ _ _ _ hN
  have HB : Hid (Below w.heap.size w ((w1.alloc (.cells (rowL .i64 (List.replicate 16 0)) 63)).setRow w1.heap.size (rowL .i64 m))) := below_setRow (hB1.alloc hB1.size _) hB1.size _
  generalize (w1.alloc (.cells (rowL .i64 (List.replicate 16 0)) 63)).setRow w1.heap.size (rowL .i64 m) = w4 at HM HB ⊢
  generalize w1.heap.size = g7 at HM ⊢
  clear hN hB1
  cases h0 : okF n0
  · have HI : Hid _ := txt_no h0
    clear h0 hem
    go_wp2
    go_ret
    exact ⟨by rw [HI.out]; rfl, HB.out⟩
  · have HI : Hid _ := txt_yes h0
    have hmn := hem h0
    have HT : Hid _ := numtext_any n0 w4 (okF_len h0) (okF_in h0)
    rw [hmn] at HM ⊢
    have hl0 := okF_len h0
    clear h0 hem hmn hlm
    go_upto_region 4 with fail
    refine wp_region_lit ?_
    refine wpl_load rfl _ _ rfl _ rfl g7 (rowL .i64 n0) rfl 63 (0, 0) HM.out _ Try.underlying63 rfl (sizeFnL hl0) ?_
    try simp only [Act.put, List.getElem_toArray, List.getElem_cons_succ, List.getElem_cons_zero, List.setIfInBounds_toArray, List.set_cons_succ, List.set_cons_zero]
    clear hl0
    go_wp2_with fail
    refine Calls.mono HT.out ?_
    rintro e w5 ⟨rfl, hb⟩
    go_wp2
    go_ret
    exact ⟨by rw [HI.out]; rfl, HB.out.trans (hb.mono HB.out.size)⟩
set_option maxHeartbeats 1600000 in
theorem specFieldText_any (a0 : Option Addr) (c0 : Nat) (n0 : List Int) (w : World) (hr0 : RowI w.heap.size w a0 n0) (hm : n0.length ≤ 1048576) :
    Calls Try.prog 34 #[.agg #[.slice a0 n0.length c0]] w fun e w' => e = .returned (.string (txtF n0)) ∧ Below w.heap.size w w' := by
  obtain ⟨i0, hi, hz0, hz1, hz2⟩ := info_parts infoU8x
  have hA0 : (w.alloc (.cells #[.slice a0 n0.length c0] 26)).heap[w.heap.size]? = some (.cells #[.slice a0 n0.length c0] 26 (0, 0)) := heap_alloc_new w _
  have hB0 : Below w.heap.size w (w.alloc (.cells #[.slice a0 n0.length c0] 26)) := (Below.refl _ _).alloc (Nat.le_refl _) _
  go_enter Try.func34, Try.ntmps34
  go_upto_region 1 with fail
  generalize (w.alloc (.cells #[.slice a0 n0.length c0] 26)) = w0 at hA0 hB0 ⊢
  have HR0 : Hid (RowI w0.heap.size w0 a0 n0) := hr0.grown hB0
  have HC : Hid _ := specFieldOk_any a0 c0 n0 w0 HR0.out hm
  have hs0 : w.heap.size < w0.heap.size := (Array.getElem?_eq_some_iff.1 hA0).1
  have k0 : w0.cell? ⟨w.heap.size, 0, none⟩ = some (.slice a0 n0.length c0) := by rw [cell_of_row w0 _ 0 _ _ _ hA0]; rfl
  clear hr0
  go_wp2_with fail
  refine Calls.mono HC.out ?_
  rintro e w1 ⟨rfl, hb1⟩
  have hA1 := (hb1.block _ hs0).trans hA0
  have HR1 : Hid (RowI w1.heap.size w1 a0 n0) := HR0.out.grown hb1
  have HB1 : Hid (Below w.heap.size w w1) := hB0.trans (hb1.mono hB0.size)
  have hs1 := (Array.getElem?_eq_some_iff.1 hA1).1
  clear hb1 HR0 HC hA0 hB0 k0 hs0
  cases h0 : okF n0
  · have HI : Hid _ := txt_no h0
    clear h0
    go_wp2
    go_ret
    exact ⟨by rw [HI.out]; rfl, HB1.out⟩
  · have HI : Hid _ := txt_yes h0
    have HIN : Hid (within 0 65535 n0) := okF_in h0
    have hl0 := okF_len h0
    have k1 : w1.cell? ⟨w.heap.size, 0, none⟩ = some (.slice a0 n0.length c0) := by rw [cell_of_row w1 _ 0 _ _ _ hA1]; rfl
    rw [hl0] at k1 ⊢
    obtain ⟨b0, o0, rfl⟩ := HR1.out.addr (show 0 < n0.length by omega)
    have HO1 : Hid ((w1.alloc (.cells #[] 5)).ownsRow w1.heap.size 5 1 (.slice (some ⟨w1.heap.size, 0, none⟩) 0 0) (2 * 0) ((txtL n0 0).map (Value.int .u8))) := World.ownsRow_made _ _ _ (Nat.le_refl _) (by decide) rfl
    have HB2 : Hid (Below w1.heap.size w1 (w1.alloc (.cells #[] 5))) := (Below.refl _ _).alloc (Nat.le_refl _) _
    clear h0
    go_wp2
    go_loopw [3, 4] (fun v i wr => ∃ k : Nat, k ≤ 16 ∧ i = .int .i64 (k : Int) ∧ Hid (wr.ownsRow w1.heap.size 5 1 v (2 * k) ((txtL n0 k).map (Value.int .u8))) ∧ Hid (Below w1.heap.size w1 wr))
      (fun _ i _ => 16 - (intOf i).toNat)
    case atStart => exact ⟨0, Nat.zero_le _, rfl, HO1, HB2⟩
    case round =>
      clear HO1 HB2
      obtain ⟨k, hk, rfl, HO, HB⟩ := hrel
      by_cases hlt : k < 16
      · have hi0' : (0 : Int) ≤ (k : Int) := by omega
        have hi1' : (k : Int) < 16 := by omega
        have hkf : k < n0.length := by omega
        have hb := HIN.out k hkf
        have k2 := (HB.out.cell (p := ⟨w.heap.size, 0, none⟩) hs1).trans k1
        obtain ⟨hbw, c2⟩ := HR1.out.at HB.out hkf
        have HCE : Hid ((txtL n0 k).map (Value.int .u8) ++ [.int .u8 (n0.getD k 0 % 256), .int .u8 (n0.getD k 0 / 256 % 256)] = (txtL n0 (k + 1)).map (Value.int .u8)) := by
          show _ = _
          rw [txtL, List.map_append]; rfl
        have hsz := HB.out.size
        generalize hy : n0.getD k 0 = y at hb c2 HCE
        have HKP : Hid (∀ w', Below w1.heap.size w1 w' → w'.cell? ⟨w.heap.size, 0, none⟩ = some (.slice (some ⟨b0, o0, none⟩) 16 c0) ∧ w'.cell? ⟨b0, o0 + k, none⟩ = some (.int .i64 y)) := by
          intro w' hb'
          have h2 := (HR1.out.at hb' hkf).2
          rw [hy] at h2
          exact ⟨(hb'.cell (p := ⟨w.heap.size, 0, none⟩) hs1).trans k1, h2⟩
        have hyr : y / 256 < 256 := by omega
        have hown := HO.out
        have HB' : Hid (Below w1.heap.size w1 ((wr.alloc (.cells #[.int .u8 (IntKind.u8.wrap y), .int .u8 (IntKind.u8.wrap (y / 256))] 5)).drew)) := (HB.out.alloc hsz _).drew
        have HAPP : Hid (∀ w3 : World, ((wr.alloc (.cells #[.int .u8 (IntKind.u8.wrap y), .int .u8 (IntKind.u8.wrap (y / 256))] 5)).drew).grownBy w3 u3.ownBlock → Below w1.heap.size w1 w3) := fun w3 hg => below_appT hown HB.out hsz hg
        have HCE2 : Hid (∀ (w3 : World) (v3 : Value), w3.ownsRow w1.heap.size 5 1 v3 (2 * k + 2) ((txtL n0 k).map (Value.int .u8) ++ [.int .u8 (IntKind.u8.wrap y), .int .u8 (IntKind.u8.wrap (y / 256))]) → w3.ownsRow w1.heap.size 5 1 v3 (2 * (k + 1)) ((txtL n0 (k + 1)).map (Value.int .u8))) := fun w3 v3 h => by
          rw [← HCE.out, ← (show IntKind.u8.wrap y = y % 256 from IntKind.wrap_u8' y), ← (show IntKind.u8.wrap (y / 256) = y / 256 % 256 from IntKind.wrap_u8' _)]; exact h
        have hS0 := HKP.out _ HB.out.drew
        clear k1 k2 c2 hy HR1 HIN
        go_wp2
        go_region_held3 (fun w' => w'.cell? ⟨w.heap.size, 0, none⟩ = some (.slice (some ⟨b0, o0, none⟩) 16 c0) ∧ w'.cell? ⟨b0, o0 + k, none⟩ = some (.int .i64 y)) (first | assumption | exact hS0 | exact HKP.out _ HB'.out | exact HKP.out _ (HAPP.out _ hgrow)) ((refine step_append_lies _ (by rfl) _ _ _ (by rfl) w1.heap.size 5 i0 _ 1 1 Try.underlying22 hi hz0 hz1 hz2 rfl (by omega) _ (2 * k) _ (by rfl) ((hown.alloc _).drew) ⟨wr.heap.size, 0, none⟩ 2 2 [.int .u8 (IntKind.u8.wrap y), .int .u8 (IntKind.u8.wrap (y / 256))] (by rfl) (by rfl) (World.news_of_block (cs := #[.int .u8 (IntKind.u8.wrap y), .int .u8 (IntKind.u8.wrap (y / 256))]) (t := 5) (fr := (0, 0)) (heap_alloc_new wr _)) (by simp [Value.oneCell']) (by omega) (by unfold maxLen; omega) (by omega) (by simp; omega) (wr.heap.size + 1) (by simp) ?_; intro gg cap w3 hown1 hgrow hat hgl))
        all_goals
          have HO3 : Hid _ := HCE2.out _ _ hown1
          have HB3 : Hid _ := HAPP.out _ hgrow
          clear hown1 hgrow hat hgl hown hS0
          go_wp2
          go_roundw
          case rel => exact ⟨k + 1, by omega, by go_num, HO3, HB3⟩
          case measure => simp [intOf]; omega
      · obtain rfl : k = 16 := by omega
        have hc := conv_own wr 22 9 5 Try.underlying22 Try.underlying5 Try.underlying9 (P := Try.prog) HO.out
        have HE : Hid (strOfNums (txtL n0 16) = numTx n0) := rfl
        go_wp2
        go_ret
        exact ⟨by rw [HI.out, ← HE.out]; rfl, HB1.out.trans (HB.out.mono HB1.out.size)⟩
end Go.Proofs.Ytjhglbdknjoeeaa
