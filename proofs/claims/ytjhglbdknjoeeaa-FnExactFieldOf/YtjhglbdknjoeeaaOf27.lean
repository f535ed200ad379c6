/- Numbers of a curve out of texts (chapter 27): fieldNumberOf, FieldOf. -/
import Derived.Test.YtjhglbdknjoeeaaFld27
import Derived.Test.YtjhglbdknjoeeaaWho27
import Derived.Test.YtjhglbdknjoeeaaLow24
import Derived.Test.YtjhglbdknjoeeaaSubT
import Derived.Laws.OwnMore
import Derived.Laws.MakeOwn
import Derived.Deep.QuietTactic
import Derived.BigQuiet
import Derived.WalkKit
import Derived.WalkLawsBesides
import Derived.WalkSpells
import Derived.BigRegion
import Derived.Laws.ShiftsVar
import Derived.Lib.Strings
import Derived.Below
import Derived.OwnWalk
import Derived.PlainAid
import Derived.Great.Walk
namespace Go.Proofs.Ytjhglbdknjoeeaa
open Go.RowKit Go.PlainAid
set_option maxRecDepth 20000
set_option linter.unusedVariables false
set_option linter.unusedSimpArgs false
/-- The limb of a text, its lowest byte first. -/
def limT (t : ByteArray) (i : Nat) : Int := ((lowN (btN t) (2 * i) 2 : Nat) : Int)
theorem limT_bd (t : ByteArray) (i : Nat) : 0 ≤ limT t i ∧ limT t i ≤ 65535 := by
  have := lowN_lt (b := btN t) (btN_lt t) (2 * i) 2
  unfold limT
  omega
/-- The first k limbs of a text. -/
def limsTo (t : ByteArray) (k : Nat) : List Int := fL fun i => if i < k then limT t i else 0
def lims (t : ByteArray) : List Int := (limsTo t 16).set 15 (limT t 15 % 32768)
theorem lims_len (t : ByteArray) : (lims t).length = 16 := by unfold lims; rw [List.length_set]; exact fL_len _
theorem limsTo_set (t : ByteArray) {k : Nat} (h : k < 16) : (limsTo t k).set k (limT t k) = limsTo t (k + 1) := by
  unfold limsTo
  rw [fL_set _ h]
  refine fL_ext (fun i hi => ?_)
  unfold updI
  by_cases h1 : i = k
  · subst h1; rw [if_pos rfl, if_pos (by omega)]
  · rw [if_neg h1]
    by_cases h3 : i < k
    · simp only []
      rw [if_pos h3, if_pos (by omega)]
    · simp only []
      rw [if_neg h3, if_neg (by omega)]
theorem limsTo_zero (t : ByteArray) : limsTo t 0 = List.replicate 16 0 := rfl
theorem limsTo_at (t : ByteArray) {k : Nat} (h : k < 16) : (limsTo t 16).getD k 0 = limT t k := by unfold limsTo; rw [fL_at _ h, if_pos h]
theorem lims_in (t : ByteArray) : within 0 65535 (lims t) := by
  intro k hk
  rw [lims_len] at hk
  unfold lims
  by_cases e : k = 15
  · subst e
    rw [List.getD_eq_getElem?_getD, List.getElem?_set_self (by show 15 < (fL _).length; rw [fL_len]; omega)]
    show 0 ≤ limT t 15 % 32768 ∧ limT t 15 % 32768 ≤ 65535
    omega
  · rw [List.getD_eq_getElem?_getD, List.getElem?_set_ne (Ne.symm e), ← List.getD_eq_getElem?_getD, limsTo_at t hk]
    exact limT_bd t k
/-- The number of a text. -/
def ofT (t : ByteArray) : List Int := canon (v16 (lims t))
set_option maxHeartbeats 1600000 in
theorem numOf_any (t : ByteArray) (w : World) (ht : t.size = 32) :
    Calls Try.prog 64 #[.string t] w fun e w' => e = .returned (.agg (rowL .i64 (ofT t))) ∧ Below w.heap.size w w' := by
  have h32 : ((t.size : Nat) : Int) = 32 := by omega
  have hA1 : ((w.alloc (.cells (rowL .i64 (List.replicate 16 0)) 63)).alloc (.cells (rowL .i64 (List.replicate 16 0)) 63)).heap[w.heap.size + 1]? = some (.cells (rowL .i64 (List.replicate 16 0)) 63 (0, 0)) := by
    have := heap_alloc_new (w.alloc (.cells (rowL .i64 (List.replicate 16 0)) 63)) (.cells (rowL .i64 (List.replicate 16 0)) 63)
    simpa using this
  have hA0 : ((w.alloc (.cells (rowL .i64 (List.replicate 16 0)) 63)).alloc (.cells (rowL .i64 (List.replicate 16 0)) 63)).heap[w.heap.size]? = some (.cells (rowL .i64 (List.replicate 16 0)) 63 (0, 0)) := (Lib.alloc_old _ _ _ (by simp)).trans (heap_alloc_new w _)
  have hB0 : Below w.heap.size w ((w.alloc (.cells (rowL .i64 (List.replicate 16 0)) 63)).alloc (.cells (rowL .i64 (List.replicate 16 0)) 63)) := ((Below.refl _ _).alloc (Nat.le_refl _) _).alloc (by simp) _
  go_enter Try.func64, Try.ntmps64
  go_upto_region 2 with fail
  rw [← zeroFn] at hA1 hA0 hB0
  generalize (w.alloc (.cells #[.int .i64 0, .int .i64 0, .int .i64 0, .int .i64 0, .int .i64 0, .int .i64 0, .int .i64 0, .int .i64 0, .int .i64 0, .int .i64 0, .int .i64 0, .int .i64 0, .int .i64 0, .int .i64 0, .int .i64 0, .int .i64 0] 63)).alloc (.cells #[.int .i64 0, .int .i64 0, .int .i64 0, .int .i64 0, .int .i64 0, .int .i64 0, .int .i64 0, .int .i64 0, .int .i64 0, .int .i64 0, .int .i64 0, .int .i64 0, .int .i64 0, .int .i64 0, .int .i64 0, .int .i64 0] 63) = w0 at hA1 hA0 hB0 ⊢
  rw [zeroFn] at hA1 hA0
  have HR : Hid (RowZ w0 w.heap.size 63 .i64 (List.replicate 16 0)) := hA0
  have HF : Hid (RowZ w0 (w.heap.size + 1) 63 .i64 (limsTo t 0)) := hA1
  have HB : Hid (Below w.heap.size w w0) := hB0
  clear hA1 hA0 hB0
  go_wp2
  go_loopw [5] (fun i wr => ∃ k : Nat, k ≤ 16 ∧ i = .int .i64 (k : Int) ∧ Hid (Below w.heap.size w wr) ∧ Hid (RowZ wr w.heap.size 63 .i64 (List.replicate 16 0)) ∧ Hid (RowZ wr (w.heap.size + 1) 63 .i64 (limsTo t k)))
    (fun i _ => 16 - (intOf i).toNat)
  case atStart => exact ⟨0, Nat.zero_le _, rfl, HB, HR, HF⟩
  case round =>
    clear HB HR HF
    obtain ⟨k, hk, rfl, HB, HR, HF⟩ := hrel
    by_cases hlt : k < 16
    · have hi0 : (0 : Int) ≤ (k : Int) := by omega
      have hi2 : (k : Int) < 16 := by omega
      have hfl : (limsTo t k).length = 16 := fL_len _
      have c1 := HF.out.cell (i := k) (by omega)
      have z1 := HF.out.froz k
      have HZ : Hid ((t.extract (2 * k) (2 * (k + 1))).size = 2) := by show _ = _; rw [sub_size t _ _ (by omega) (by omega)]; omega
      have HC : Hid _ := ofLow_any (t.extract (2 * k) (2 * (k + 1))) wr (by rw [HZ.out]; omega)
      have HE : Hid (((lowN (fun j => (bt (t.extract (2 * k) (2 * (k + 1))) j).toNat) 0 (t.extract (2 * k) (2 * (k + 1))).size : Nat) : Int) = limT t k) := by
        show _ = _
        rw [HZ.out]
        unfold limT
        congr 1
        exact lowN_ext 2 (fun j hj => by rw [Nat.zero_add]; exact btN_sub t (2 * k) (2 * (k + 1)) j (by omega))
      rw [HE.out] at HC
      have hlt2 := limT_bd t k
      have hw : IntKind.i64.wrap (limT t k) = limT t k := by rw [w64_wrap]; exact w64_id (by omega) (by omega)
      have HF2 : Hid (RowZ (wr.setCell ⟨w.heap.size + 1, k, none⟩ (.int .i64 (limT t k))) (w.heap.size + 1) 63 .i64 (limsTo t (k + 1))) := by rw [← limsTo_set t hlt]; exact HF.out.set k _
      have HR2 : Hid (RowZ (wr.setCell ⟨w.heap.size + 1, k, none⟩ (.int .i64 (limT t k))) w.heap.size 63 .i64 (List.replicate 16 0)) := HR.out.other _ (by omega)
      have HB2 : Hid (Below w.heap.size w (wr.setCell ⟨w.heap.size + 1, k, none⟩ (.int .i64 (limT t k)))) := HB.out.setCell (show w.heap.size ≤ w.heap.size + 1 by omega) _
      clear HZ HE HF HR HB hlt2
      generalize limT t k = y at HC hw HF2 HR2 HB2
      go_wp2_with fail
      refine Calls.mono HC.out ?_
      rintro e w1 ⟨rfl, rfl⟩
      clear HC
      go_wp2
      go_roundw
      case rel => exact ⟨k + 1, by omega, by go_num, HB2, HR2, HF2⟩
      case measure => simp [intOf]; omega
    · obtain rfl : k = 16 := by omega
      have hfl : (limsTo t 16).length = 16 := fL_len _
      have c1 := HF.out.cell (i := 15) (by omega)
      rw [limsTo_at t (by omega)] at c1
      have z1 := HF.out.froz 15
      have hb := limT_bd t 15
      have hrem : (limT t 15).tmod 32768 = limT t 15 % 32768 := by rw [Int.tmod_eq_emod_of_nonneg (by omega)]
      have hwm : IntKind.i64.wrap (limT t 15 % 32768) = limT t 15 % 32768 := by rw [w64_wrap]; exact w64_id (by omega) (by omega)
      have HX : Hid (RowZ (wr.setCell ⟨w.heap.size + 1, 15, none⟩ (.int .i64 (limT t 15 % 32768))) (w.heap.size + 1) 63 .i64 (lims t)) := HF.out.set 15 _
      have HRX : Hid (RowZ (wr.setCell ⟨w.heap.size + 1, 15, none⟩ (.int .i64 (limT t 15 % 32768))) w.heap.size 63 .i64 (List.replicate 16 0)) := HR.out.other _ (by omega)
      have HBX : Hid (Below w.heap.size w (wr.setCell ⟨w.heap.size + 1, 15, none⟩ (.int .i64 (limT t 15 % 32768)))) := HB.out.setCell (show w.heap.size ≤ w.heap.size + 1 by omega) _
      have hXl := lims_len t
      have hsm : small (lims t) := within_small (lims_in t) (by decide) (by decide)
      have hval : canon (lval fb (lims t)) = ofT t := by unfold ofT; rw [v16_fb hXl]
      clear HF HR HB hb
      go_upto_region 8 with fail
      clear c1 z1 hrem hwm
      generalize wr.setCell ⟨w.heap.size + 1, 15, none⟩ (.int .i64 (limT t 15 % 32768)) = w4 at HX HRX HBX ⊢
      refine wp_region_lit ?_
      refine wpl_load rfl _ _ rfl _ rfl (w.heap.size + 1) (rowL .i64 (lims t)) rfl 63 (0, 0) HX.out _ Try.underlying63 rfl (sizeFnL hXl) ?_
      try simp only [Act.put, List.getElem_toArray, List.getElem_cons_succ, List.getElem_cons_zero, List.setIfInBounds_toArray, List.set_cons_succ, List.set_cons_zero]
      go_wp2_with fail
      refine Calls.mono (reduced_any (lims t) _ hXl) ?_
      rintro e wq ⟨r, rfl, hr, hb⟩
      rename_i hq
      refine hq _ _ ?_
      clear hq
      try simp only [Act.put, List.getElem_toArray, List.getElem_cons_succ, List.getElem_cons_zero, List.setIfInBounds_toArray, List.set_cons_succ, List.set_cons_zero]
      have hrv : r = ofT t := (hr.2 hsm).trans (hval)
      have hrl : r.length = 16 := by rw [hrv]; exact canon_len _
      have hres := HRX.out.next hb
      have hBq := HBX.out.trans (hb.mono HBX.out.size)
      refine wpList_store_rowTo rfl _ _ _ rfl rfl (w.heap.size) (rowL .i64 r) rfl rfl 63 (rowL .i64 (List.replicate 16 0)) hres (sizeFnL hrl) (by rw [rowL_size, rowL_size, hrl]; rfl) (rowL_one _ _) ?_
      try simp only [Act.put, List.getElem_toArray, List.getElem_cons_succ, List.getElem_cons_zero, List.setIfInBounds_toArray, List.set_cons_succ, List.set_cons_zero]
      have hR : (wq.setRow (w.heap.size) (rowL .i64 r)).heap[w.heap.size]? = some (.cells (rowL .i64 r) 63 (0, 0)) := setRow_heap _ _ _ _ _ _ hres
      have hBB := below_setRow hBq (show w.heap.size ≤ w.heap.size by omega) (rowL .i64 r)
      generalize wq.setRow (w.heap.size) (rowL .i64 r) = wz at hR hBB ⊢
      go_wp2
      refine bodyPost_ret (results_cell_row rfl _ _ (w.heap.size) 63 (rowL .i64 r) (0, 0) _ rfl ?_ Try.underlying63 rfl (sizeFnL hrl)) rfl ?_
      · exact hR
      · exact ⟨by rw [hrv], hBB⟩
/-- Is a text one of 32 bytes? -/
def ofOk (t : ByteArray) : Bool := decide (t.size = 32)
def ofL (t : ByteArray) : List Int := if ofOk t then ofT t else []
theorem ofT_len (t : ByteArray) : (ofT t).length = 16 := canon_len _
theorem ofL_len (t : ByteArray) : (ofL t).length ≤ 2097152 := by
  unfold ofL
  split
  · rw [ofT_len]; omega
  · simp
theorem res_ct1 (v : Value) : (Try.prog.info? 26).map (·.size) = some (#[v] : Array Value).size := sizeField1 v
set_option maxHeartbeats 1600000 in
theorem implFieldOf_any (t : ByteArray) (w : World) :
    Calls Try.prog 22 #[.string t] w fun e w' => ∃ v, e = .returned (.tuple #[.agg #[v], .bool (ofOk t)]) ∧ OwnInt w.heap.size w' v (ofL t) ∧ Below w.heap.size w w' := by
  have hA : (w.alloc (.cells #[.slice none 0 0] 26)).heap[w.heap.size]? = some (.cells #[.slice none 0 0] 26 (0, 0)) := heap_alloc_new w _
  have hB : Below w.heap.size w (w.alloc (.cells #[.slice none 0 0] 26)) := (Below.refl _ _).alloc (Nat.le_refl _) _
  by_cases h32 : t.size = 32
  · have hi : ((t.size : Nat) : Int) = 32 := by omega
    have HI : Hid (ofOk t = true ∧ ofL t = ofT t) := ⟨decide_eq_true h32, by unfold ofL ofOk; rw [decide_eq_true h32]; rfl⟩
    have HN : Hid (∀ wz, Calls Try.prog 64 #[.string t] wz fun e w' => e = .returned (.agg (rowL .i64 (ofT t))) ∧ Below wz.heap.size wz w') := fun wz => numOf_any t wz h32
    go_enter Try.func22, Try.ntmps22
    go_wp2_with fail
    generalize w.alloc (.cells #[.slice none 0 0] 26) = w0 at hA hB ⊢
    have hs0 : w.heap.size < w0.heap.size := (Array.getElem?_eq_some_iff.1 hA).1
    refine Calls.mono (HN.out _) ?_
    rintro e w1 ⟨rfl, hb1⟩
    have hA1 := (hb1.block _ hs0).trans hA
    have hB1 := hB.trans (hb1.mono hB.size)
    have hs1 := (Array.getElem?_eq_some_iff.1 hA1).1
    clear hA hB hb1 HN hs0
    go_wp2_with fail
    refine Calls.mono (asField_any (ofT t) w1 (ofT_len t)) ?_
    rintro e w6 ⟨v, rfl, ho, hb⟩
    obtain ⟨x, y, rfl, -, -⟩ := ho.row
    rw [ofT_len] at ho ⊢
    have hA6 := (hb.block _ hs1).trans hA1
    have r0 : w6.cell? ⟨w.heap.size, 0, none⟩ = some (.slice none 0 0) := by rw [cell_of_row w6 _ 0 _ _ _ hA6]; rfl
    have r1 : w6.frozen? ⟨w.heap.size, 0, none⟩ = false := frozen_of_row w6 _ 0 _ _ hA6
    have HB7 : Hid (Below w.heap.size w (w6.setCell ⟨w.heap.size, 0, none⟩ (.slice x 16 y))) := (hB1.trans (hb.mono hB1.size)).setCell (Nat.le_refl _) _
    have HO7 : Hid (OwnInt w.heap.size (w6.setCell ⟨w.heap.size, 0, none⟩ (.slice x 16 y)) (.slice x 16 y) (ofT t)) := OwnInt.base (ownsRow_setCell_below ho hs1 _) hB1.size
    have HR7 : Hid ((w6.setCell ⟨w.heap.size, 0, none⟩ (.slice x 16 y)).heap[w.heap.size]? = some (.cells #[.slice x 16 y] 26 (0, 0))) := by show _ = _; rw [heap_setCell_same w6 w.heap.size 0 _ _ _ hA6]; rfl
    clear ho hb hA6 hA1 hB1
    go_wp2
    refine bodyPost_ret (res_ct rfl _ _ w.heap.size 26 #[.slice x 16 y] (0, 0) _ rfl HR7.out Try.underlying26 rfl (sizeField1 _)) rfl ?_
    exact ⟨_, by rw [HI.out.1]; rfl, by rw [HI.out.2]; exact HO7.out, HB7.out⟩
  · have hi : ¬ ((t.size : Nat) : Int) = 32 := by omega
    have hq : (((t.size : Nat) : Int) != 32) = true := by simp; omega
    have HI : Hid (ofOk t = false ∧ ofL t = []) := ⟨decide_eq_false h32, by unfold ofL ofOk; rw [decide_eq_false h32]; rfl⟩
    go_enter Try.func22, Try.ntmps22
    go_wp2
    refine bodyPost_ret (res_ct rfl _ _ w.heap.size 26 #[.slice none 0 0] (0, 0) _ rfl hA Try.underlying26 rfl (sizeField1 _)) rfl ?_
    exact ⟨_, by rw [HI.out.1]; rfl, by rw [HI.out.2]; exact ⟨rfl, .inl ⟨rfl, rfl⟩⟩, hB⟩
theorem lims_fin (t : ByteArray) : within (-LIM) LIM (lims t) := within_mono (lims_in t) (by decide) (by decide)
theorem limT_two (t : ByteArray) (k : Nat) : limT t k = bt t (2 * k) + bt t (2 * k + 1) * 256 := by
  unfold limT
  rw [lowN, lowN, lowN, btN_eq, btN_eq]
  push_cast
  simp
set_option maxHeartbeats 3200000 in
theorem specFieldOf_any (t : ByteArray) (w : World) :
    Calls Try.prog 27 #[.string t] w fun e w' => ∃ v, e = .returned (.tuple #[.agg #[v], .bool (ofOk t)]) ∧ OwnInt w.heap.size w' v (ofL t) ∧ Below w.heap.size w w' := by
  obtain ⟨i0, hi, hz0, hz1, hz2⟩ := info_parts infoIntS
  have hA : (w.alloc (.cells #[.slice none 0 0] 26)).heap[w.heap.size]? = some (.cells #[.slice none 0 0] 26 (0, 0)) := heap_alloc_new w _
  have hB : Below w.heap.size w (w.alloc (.cells #[.slice none 0 0] 26)) := (Below.refl _ _).alloc (Nat.le_refl _) _
  by_cases h32 : t.size = 32
  · have hi32 : ((t.size : Nat) : Int) = 32 := by omega
    have HI : Hid (ofOk t = true ∧ ofL t = ofT t) := ⟨decide_eq_true h32, by unfold ofL ofOk; rw [decide_eq_true h32]; rfl⟩
    have HS32 : Hid (t.size = 32) := h32
    go_enter Try.func27, Try.ntmps27
    go_upto_region 3 with fail
    generalize w.alloc (.cells #[.slice none 0 0] 26) = w0 at hA hB ⊢
    have HA : Hid (w0.heap[w.heap.size]? = some (.cells #[.slice none 0 0] 26 (0, 0))) := hA
    have HB0 : Hid (Below w.heap.size w w0) := hB
    have hs0 : w.heap.size < w0.heap.size := (Array.getElem?_eq_some_iff.1 hA).1
    clear hA hB
    go_wp2_with (at_make; refine wpList_make_full _ rfl _ _ 24 rfl w0.heap.size 3 i0 (.int .i64 0) 1 Try.underlying24 hi hz0 hz1 .i64 .i64 _ _ 16 rfl rfl rfl rfl (by rw [hz2]; omega) (by unfold maxLen; omega) (Nat.le_refl _) ?_; intro w2 hown2 hgrow2)
    have hB2 : Below w0.heap.size w0 w2 := (Below.refl _ _).grown hgrow2 (Nat.le_refl _) (by simp)
    rw [made_ints] at hown2
    have HO : Hid (RowS w0.heap.size w2 w0.heap.size 16 16 (limsTo t 0)) := hown2
    have HA2 : Hid (w2.heap[w.heap.size]? = some (.cells #[.slice none 0 0] 26 (0, 0))) := (hB2.block _ hs0).trans HA.out
    have HB : Hid (Below w.heap.size w w2) := HB0.out.trans (hB2.mono HB0.out.size)
    clear hown2 hgrow2 hB2 HA h32
    go_loopw [5] (fun i wr => ∃ k : Nat, k ≤ 16 ∧ i = .int .i64 (k : Int) ∧ Hid (Below w.heap.size w wr) ∧ Hid (wr.heap[w.heap.size]? = some (.cells #[.slice none 0 0] 26 (0, 0))) ∧ Hid (RowS w0.heap.size wr w0.heap.size 16 16 (limsTo t k)))
      (fun i _ => 16 - (intOf i).toNat)
    case atStart => exact ⟨0, Nat.zero_le _, rfl, HB, HA2, HO⟩
    case round =>
      clear HB HA2 HO
      obtain ⟨k, hk, rfl, HB, HA, HO⟩ := hrel
      have hg := get_bt t
      by_cases hlt : k < 16
      · have hi0 : (0 : Int) ≤ (k : Int) := by omega
        have hi1 : (k : Int) < 16 := by omega
        have h2 : (2 : Int) * (k : Int) = ((2 * k : Nat) : Int) := by omega
        have hw2 : IntKind.i64.wrap (2 * (k : Int)) = ((2 * k : Nat) : Int) := by rw [h2, w64_wrap]; exact w64_id (by omega) (by omega)
        have h3 : ((2 * k : Nat) : Int) + 1 = ((2 * k + 1 : Nat) : Int) := by omega
        have hw3 : IntKind.i64.wrap (((2 * k : Nat) : Int) + 1) = ((2 * k + 1 : Nat) : Int) := by rw [h3, w64_wrap]; exact w64_id (by omega) (by omega)
        have hq0 : (0 : Int) ≤ ((2 * k : Nat) : Int) := by omega
        have hq1 : ((2 * k : Nat) : Int) < (t.size : Int) := by omega
        have hq2 : (0 : Int) ≤ ((2 * k + 1 : Nat) : Int) := by omega
        have hq3 : ((2 * k + 1 : Nat) : Int) < (t.size : Int) := by omega
        have b0 := bt_nonneg t (2 * k)
        have b1 := bt_le t (2 * k)
        have b2 := bt_nonneg t (2 * k + 1)
        have b3 := bt_le t (2 * k + 1)
        have HT := limT_two t k
        have hwa : IntKind.i64.wrap (bt t (2 * k)) = bt t (2 * k) := by rw [w64_wrap]; exact w64_id (by omega) (by omega)
        have hwb : IntKind.i64.wrap (bt t (2 * k + 1)) = bt t (2 * k + 1) := by rw [w64_wrap]; exact w64_id (by omega) (by omega)
        have hws : IntKind.i64.wrap (bt t (2 * k + 1) * 256) = bt t (2 * k + 1) * 256 := by rw [w64_wrap]; exact w64_id (by omega) (by omega)
        have hwt : IntKind.i64.wrap (bt t (2 * k) + bt t (2 * k + 1) * 256) = limT t k := by rw [HT, w64_wrap]; exact w64_id (by omega) (by omega)
        have HE : Hid (wrap64 (wrap64 (bt t (2 * k)) + wrap64 (wrap64 (bt t (2 * k + 1)) * 256)) = limT t k) := by
          have e : ∀ x, wrap64 x = IntKind.i64.wrap x := fun x => (i64_is x).symm
          show _ = _
          rw [e, e, e, e, hwa, hwb, hws, hwt]
        have c3 := HO.out.cell hlt
        have z3 := HO.out.froz k
        have HO2 : Hid (RowS w0.heap.size (wr.setCell ⟨w0.heap.size, k, none⟩ (.int .i64 (limT t k))) w0.heap.size 16 16 (limsTo t (k + 1))) := by rw [← limsTo_set t hlt]; exact HO.out.set k _
        have HB2 : Hid (Below w.heap.size w (wr.setCell ⟨w0.heap.size, k, none⟩ (.int .i64 (limT t k)))) := HB.out.setCell (show w.heap.size ≤ w0.heap.size by omega) _
        have HA2 : Hid ((wr.setCell ⟨w0.heap.size, k, none⟩ (.int .i64 (limT t k))).heap[w.heap.size]? = some (.cells #[.slice none 0 0] 26 (0, 0))) := (Below.heap_setCell _ _ _ _ (show w.heap.size ≠ w0.heap.size by omega)).trans HA.out
        clear HT HO HB HA b0 b1 b2 b3 h2 h3
        generalize limT t k = y at hwt HO2 HB2 HA2 HE
        generalize bt t (2 * k) = x1 at hwa hwt
        generalize bt t (2 * k + 1) = x2 at hwb hws hwt
        go_wp2
        go_region
        all_goals
          go_wp2
          go_roundw
          case rel => exact ⟨k + 1, by omega, by go_num, by rw [HE.out]; exact HB2.out.drew, by rw [HE.out]; exact HA2.out, by rw [HE.out]; exact HO2.out.drew⟩
          case measure => simp [intOf]; omega
      · obtain rfl : k = 16 := by omega
        have c15 := HO.out.cell (i := 15) (by omega)
        rw [limsTo_at t (by omega)] at c15
        have z15 := HO.out.froz 15
        have hb15 := limT_bd t 15
        have ha15 := and15 (limT t 15)
        have HO2 : Hid (RowS w0.heap.size (wr.setCell ⟨w0.heap.size, 15, none⟩ (.int .i64 (limT t 15 % 32768))) w0.heap.size 16 16 (lims t)) := HO.out.set 15 _
        have HB2 : Hid (Below w.heap.size w (wr.setCell ⟨w0.heap.size, 15, none⟩ (.int .i64 (limT t 15 % 32768)))) := HB.out.setCell (show w.heap.size ≤ w0.heap.size by omega) _
        have HA2 : Hid ((wr.setCell ⟨w0.heap.size, 15, none⟩ (.int .i64 (limT t 15 % 32768))).heap[w.heap.size]? = some (.cells #[.slice none 0 0] 26 (0, 0))) := (Below.heap_setCell _ _ _ _ (show w.heap.size ≠ w0.heap.size by omega)).trans HA.out
        clear HO HB HA hg
        go_upto_region 9 with fail
        clear c15 z15 hb15 ha15
        generalize wr.setCell ⟨w0.heap.size, 15, none⟩ (.int .i64 (limT t 15 % 32768)) = w4 at HO2 HB2 HA2 ⊢
        have HWH : Hid _ := swhole_any (some ⟨w0.heap.size, 0, none⟩) 16 (lims t) w4 (lims_len t) HO2.out.row (lims_fin t)
        have HT : Hid (canon (v16 (lims t)) = ofT t) := rfl
        rw [HT.out] at HWH
        have hs4 := (Array.getElem?_eq_some_iff.1 HA2.out).1
        go_wp2_with fail
        refine Calls.mono HWH.out ?_
        rintro e w5 ⟨v, rfl, ho, hb⟩
        have hA5 := (hb.block _ hs4).trans HA2.out
        have r0 : w5.cell? ⟨w.heap.size, 0, none⟩ = some (.slice none 0 0) := by rw [cell_of_row w5 _ 0 _ _ _ hA5]; rfl
        have r1 : w5.frozen? ⟨w.heap.size, 0, none⟩ = false := frozen_of_row w5 _ 0 _ _ hA5
        obtain ⟨x, y, rfl, -, -⟩ := ho.row
        rw [ofT_len] at ho ⊢
        have HB7 : Hid (Below w.heap.size w (w5.setCell ⟨w.heap.size, 0, none⟩ (.slice x 16 y))) := (HB2.out.trans (hb.mono HB2.out.size)).setCell (Nat.le_refl _) _
        have HO7 : Hid (OwnInt w.heap.size (w5.setCell ⟨w.heap.size, 0, none⟩ (.slice x 16 y)) (.slice x 16 y) (ofT t)) := OwnInt.base (ownsRow_setCell_below ho hs4 _) HB2.out.size
        have HR7 : Hid ((w5.setCell ⟨w.heap.size, 0, none⟩ (.slice x 16 y)).heap[w.heap.size]? = some (.cells #[.slice x 16 y] 26 (0, 0))) := by show _ = _; rw [heap_setCell_same w5 w.heap.size 0 _ _ _ hA5]; rfl
        clear ho hb hA5 HA2 HB2 HO2
        go_wp2
        refine bodyPost_ret (res_ct rfl _ _ w.heap.size 26 #[.slice x 16 y] (0, 0) _ rfl HR7.out Try.underlying26 rfl (sizeField1 _)) rfl ?_
        exact ⟨_, by rw [HI.out.1]; rfl, by rw [HI.out.2]; exact HO7.out, HB7.out⟩
  · have hi : ¬ ((t.size : Nat) : Int) = 32 := by omega
    have hq : (((t.size : Nat) : Int) != 32) = true := by simp; omega
    have HI : Hid (ofOk t = false ∧ ofL t = []) := ⟨decide_eq_false h32, by unfold ofL ofOk; rw [decide_eq_false h32]; rfl⟩
    go_enter Try.func27, Try.ntmps27
    go_wp2
    refine bodyPost_ret (res_ct rfl _ _ w.heap.size 26 #[.slice none 0 0] (0, 0) _ rfl hA Try.underlying26 rfl (sizeField1 _)) rfl ?_
    exact ⟨_, by rw [HI.out.1]; rfl, by rw [HI.out.2]; exact ⟨rfl, .inl ⟨rfl, rfl⟩⟩, hB⟩
end Go.Proofs.Ytjhglbdknjoeeaa
