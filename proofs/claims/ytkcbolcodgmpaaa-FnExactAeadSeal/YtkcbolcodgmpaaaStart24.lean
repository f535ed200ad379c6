/- The program's chaStart, ChaStart (chapter 24): where a stream begins. -/
import Derived.Test.YtkcbolcodgmpaaaQuart24
import Derived.Test.YtkcbolcodgmpaaaRowC
import Derived.Test.YtkcbolcodgmpaaaResC
import Derived.WalkKit
import Derived.WalkLawsBesides
import Derived.WalkSpells
import Derived.Great.Walk
namespace Go.Proofs.Ytkcbolcodgmpaaa
open Go.RowKit Go.PlainAid
set_option maxRecDepth 20000
set_option linter.unusedVariables false
set_option linter.unusedSimpArgs false
/-- The words of a text, its lowest bytes first. -/
def wordsT (t : ByteArray) : Nat → Nat := fun i => lowN (btN t) (4 * i) 4
theorem wordsT_lt (t : ByteArray) : Words (wordsT t) := fun i => lowN_lt (b := btN t) (fun j => btN_lt t j) (4 * i) 4
def wordsTo (t : ByteArray) (k : Nat) : Nat → Nat := fun i => if i < k then wordsT t i else 0
theorem wordsTo_upd (t : ByteArray) (k : Nat) : upd (wordsTo t k) k (wordsT t k) = wordsTo t (k + 1) := by
  funext i
  unfold upd wordsTo
  by_cases h : i = k
  · subst h; rw [if_pos rfl, if_pos (by omega)]
  · rw [if_neg h]
    by_cases h2 : i < k
    · rw [if_pos h2, if_pos (by omega)]
    · rw [if_neg h2, if_neg (by omega)]
set_option maxHeartbeats 1600000 in
theorem chaOfText_any (t : ByteArray) (w : World) (ht : t.size = 64) :
    Calls Try.prog 50 #[.string t] w fun e w' => e = .returned (.agg (rowV .u32 16 (wordsT t))) ∧ Below w.heap.size w w' := by
  have h64 : ((t.size : Nat) : Int) = 64 := by omega
  go_enter Try.func50, Try.ntmps50
  go_wp2
  go_loopw [5] (fun i wr => ∃ k : Nat, k ≤ 16 ∧ i = .int .i64 (k : Int) ∧ Below w.heap.size w wr ∧ (∃ u, Hid (wr.heap[w.heap.size]? = some (.cells u 49 (0, 0)) ∧ u.size = 16)) ∧ Hid (RowAt wr (w.heap.size + 1) 49 .u32 16 (wordsTo t k)))
    (fun i _ => 16 - (intOf i).toNat)
  case atStart =>
    refine ⟨0, Nat.zero_le _, rfl, ((Below.refl _ _).alloc (Nat.le_refl _) _).alloc (by simp) _, ⟨_, ⟨(Lib.alloc_old _ _ w.heap.size (by simp)).trans (heap_alloc_new w _), rfl⟩⟩, ?_⟩
    have h := heap_alloc_new (w.alloc (.cells (rowV .u32 16 (fun _ => 0)) 49)) (.cells (rowV .u32 16 (fun _ => 0)) 49)
    rw [← zeroCha] at h
    exact RowAt.ext (f := fun _ => 0) (by simpa [RowAt, ← zeroCha] using h) (fun i _ => by unfold wordsTo; rw [if_neg (by omega)])
  case round =>
    obtain ⟨k, hk, rfl, hB, ⟨u, HU⟩, HW⟩ := hrel
    by_cases hlt : k < 16
    · have hi0 : (0 : Int) ≤ (k : Int) := by omega
      have hi2 : (k : Int) < 16 := by omega
      have c1 := HW.out.cell (show k < 16 by omega)
      have z1 := HW.out.froz k
      have HZ : Hid ((t.extract (4 * k) (4 * (k + 1))).size = 4) := by show _ = _; rw [sub_size t _ _ (by omega) (by omega)]; omega
      have HC : Hid _ := ofLow_any (t.extract (4 * k) (4 * (k + 1))) wr (by rw [HZ.out]; omega)
      have HE : Hid (lowN (fun j => (bt (t.extract (4 * k) (4 * (k + 1))) j).toNat) 0 (t.extract (4 * k) (4 * (k + 1))).size = wordsT t k) := by
        show _ = _
        rw [HZ.out]
        exact lowN_ext 4 (fun j hj => by rw [Nat.zero_add]; exact btN_sub t (4 * k) (4 * (k + 1)) j (by omega))
      rw [HE.out] at HC
      have hlt2 : wordsT t k < 4294967296 := wordsT_lt t k
      have HS : Hid _ := HW.out.set (show k < 16 by omega) (wordsT t k)
      have HN := wordsTo_upd t k
      have HB : Hid (Below w.heap.size w wr) := hB
      generalize wordsT t k = y at HC hlt2 HS HN
      clear hB HZ HE
      have hw : IntKind.u32.wrap (y : Int) = (y : Int) := by rw [IntKind.wrap_u32']; omega
      go_wp2_with fail
      refine Calls.mono HC.out ?_
      rintro e w1 ⟨rfl, rfl⟩
      clear HC
      go_wp2
      go_roundw
      case rel => exact ⟨k + 1, by omega, by go_num, HB.out.setCell (show w.heap.size ≤ w.heap.size + 1 by omega) _, ⟨u, ⟨(Below.heap_setCell _ _ _ _ (by simp)).trans HU.out.1, HU.out.2⟩⟩, by rw [← HN]; exact HS⟩
      case measure => simp [intOf]; omega
    · obtain rfl : k = 16 := by omega
      go_upto_region 7 with fail
      refine wp_region_lit ?_
      refine wpl_load rfl _ _ rfl _ rfl (w.heap.size + 1) (rowV .u32 16 (wordsTo t 16)) rfl 49 (0, 0) HW.out _ Try.underlying49 rfl (sizeChaV _) ?_
      try simp only [Act.put, List.getElem_toArray, List.getElem_cons_succ, List.getElem_cons_zero, List.setIfInBounds_toArray, List.set_cons_succ, List.set_cons_zero]
      refine wpList_store_rowTo rfl _ _ _ rfl rfl w.heap.size (rowV .u32 16 (wordsTo t 16)) rfl rfl 49 u HU.out.1 (sizeChaV _) (by rw [rowV_size]; exact HU.out.2) (rowV_one _ _ _) ?_
      have hR : (wr.setRow w.heap.size (rowV .u32 16 (wordsTo t 16))).heap[w.heap.size]? = some (.cells (rowV .u32 16 (wordsTo t 16)) 49 (0, 0)) := setRow_heap _ _ _ _ _ _ HU.out.1
      have hBB := below_setRow hB (Nat.le_refl _) (rowV .u32 16 (wordsTo t 16))
      have HX : Hid (rowV .u32 16 (wordsTo t 16) = rowV .u32 16 (wordsT t)) := rowV_ext (fun i hi => by unfold wordsTo; rw [if_pos hi])
      generalize wr.setRow w.heap.size (rowV .u32 16 (wordsTo t 16)) = wz at hR hBB ⊢
      go_wp2
      refine bodyPost_ret (results_cell_row rfl _ _ w.heap.size 49 (rowV .u32 16 (wordsTo t 16)) (0, 0) _ rfl ?_ Try.underlying49 rfl (sizeChaV _)) rfl ?_
      · exact hR
      · exact ⟨by rw [HX.out], hBB⟩
def beginT : ByteArray := ⟨#[101, 120, 112, 97, 110, 100, 32, 51, 50, 45, 98, 121, 116, 101, 32, 107]⟩
def startT (key nonce : ByteArray) (count : Nat) : ByteArray := beginT ++ key ++ strOfNums (bytesV 4 (lowB count)) ++ nonce
def startOk (key nonce : ByteArray) (count : Int) : Bool := decide (key.size = 32) && decide (nonce.size = 12) && okW count
theorem startT_size {key nonce : ByteArray} (count : Nat) (h1 : key.size = 32) (h2 : nonce.size = 12) : (startT key nonce count).size = 64 := by
  unfold startT
  rw [sz_app, sz_app, sz_app, strOf_size, h1, h2]; rfl
set_option maxHeartbeats 1600000 in
theorem start_yes (key nonce : ByteArray) (c : Nat) (w : World) (h1 : key.size = 32) (h2 : nonce.size = 12) (hc : c < 4294967296) :
    Calls Try.prog 31 #[.string key, .string nonce, .int .i64 (c : Int)] w fun e w' => e = .returned (.tuple #[.agg (rowV .u32 16 (wordsT (startT key nonce c))), .bool true]) ∧ Below w.heap.size w w' := by
  have hk : ((key.size : Nat) : Int) = 32 := by omega
  have hn : ((nonce.size : Nat) : Int) = 12 := by omega
  have HW : Hid (∀ wz, Calls Try.prog 49 #[.int .i64 (c : Int)] wz fun e w' => e = .returned (.bool true) ∧ wz = w') := fun wz => by
    have := isWord_any (c : Int) wz
    rw [(okW_iff _).2 ⟨by omega, by omega⟩] at this; exact this
  have HL : Hid (∀ wz, Calls Try.prog 42 #[.int .u64 (c : Int), .int .i64 4] wz fun e w' => e = .returned (.string (strOfNums (bytesV 4 (lowB c)))) ∧ Below wz.heap.size wz w') := fun wz => lowest_any c 4 wz (by omega) (by omega)
  have HO : Hid (∀ wz, Calls Try.prog 50 #[.string (startT key nonce c)] wz fun e w' => e = .returned (.agg (rowV .u32 16 (wordsT (startT key nonce c)))) ∧ Below wz.heap.size wz w') := fun wz => chaOfText_any _ wz (startT_size c h1 h2)
  have hw : IntKind.u64.wrap (c : Int) = (c : Int) := by rw [IntKind.wrap_u64]; omega
  have HZ : Hid ((strOfNums (bytesV 4 (lowB c))).size = 4) := strOf_size _ _
  have HT : Hid (startT key nonce c = beginT ++ key ++ strOfNums (bytesV 4 (lowB c)) ++ nonce) := rfl
  generalize startT key nonce c = T at HO HT
  generalize strOfNums (bytesV 4 (lowB c)) = l at HL HT HZ
  generalize (c : Int) = ci at HW HL hw
  clear h1 h2 hc
  go_enter Try.func31, Try.ntmps31
  go_wp2_with fail
  refine Calls.mono (HW.out _) ?_
  rintro e w1 ⟨rfl, rfl⟩
  have hA := heap_alloc_new w (.cells (rowV .u32 16 (fun _ => 0)) 49)
  rw [← zeroCha] at hA
  have HA : Hid _ := hA
  have HB : Hid (Below w.heap.size w (w.alloc (.cells #[.int .u32 0, .int .u32 0, .int .u32 0, .int .u32 0, .int .u32 0, .int .u32 0, .int .u32 0, .int .u32 0, .int .u32 0, .int .u32 0, .int .u32 0, .int .u32 0, .int .u32 0, .int .u32 0, .int .u32 0, .int .u32 0] 49))) := (Below.refl _ _).alloc (Nat.le_refl _) _
  clear hA HW
  go_wp2_with fail
  generalize (w.alloc (.cells #[.int .u32 0, .int .u32 0, .int .u32 0, .int .u32 0, .int .u32 0, .int .u32 0, .int .u32 0, .int .u32 0, .int .u32 0, .int .u32 0, .int .u32 0, .int .u32 0, .int .u32 0, .int .u32 0, .int .u32 0, .int .u32 0] 49)) = w1 at HA HB ⊢
  refine Calls.mono (HL.out _) ?_
  rintro e w2 ⟨rfl, hb2⟩
  have hlt : w.heap.size < w1.heap.size := (Array.getElem?_eq_some_iff.1 HA.out).1
  have HA2 : Hid (w2.heap[w.heap.size]? = _) := (hb2.block _ hlt).trans HA.out
  have HB2 : Hid (Below w.heap.size w w2) := HB.out.trans (hb2.mono HB.out.size)
  have hlt2 : Hid (w.heap.size < w2.heap.size) := Nat.lt_of_lt_of_le hlt hb2.size
  clear hb2 HA HB HL hlt
  have hz := HZ.out
  go_wp2_with fail
  refine Calls.mono (by have h := HO.out w2; rw [HT.out] at h; exact h) ?_
  rintro e w3 ⟨rfl, hb3⟩
  rename_i hq
  refine hq _ _ ?_
  clear hq
  rw [← HT.out]
  have HA3 : w3.heap[w.heap.size]? = _ := (hb3.block _ hlt2.out).trans HA2.out
  have HB3 : Below w.heap.size w w3 := HB2.out.trans (hb3.mono HB2.out.size)
  refine wpList_store_rowTo rfl _ _ _ rfl rfl w.heap.size (rowV .u32 16 (wordsT T)) rfl rfl 49 _ HA3 (sizeChaV _) (by rw [rowV_size]; rfl) (rowV_one _ _ _) ?_
  have hR : (w3.setRow w.heap.size (rowV .u32 16 (wordsT T))).heap[w.heap.size]? = some (.cells (rowV .u32 16 (wordsT T)) 49 (0, 0)) := setRow_heap _ _ _ _ _ _ HA3
  have hBB := below_setRow HB3 (Nat.le_refl _) (rowV .u32 16 (wordsT T))
  generalize w3.setRow w.heap.size (rowV .u32 16 (wordsT T)) = wz at hR hBB ⊢
  clear HA3 HB3 hb3 HA2 HB2
  go_wp2
  refine bodyPost_ret (res_ct rfl _ _ w.heap.size 49 (rowV .u32 16 (wordsT T)) (0, 0) _ rfl ?_ Try.underlying49 rfl (sizeChaV _)) rfl ?_
  · exact hR
  · exact ⟨rfl, hBB⟩
theorem startOk_no {key nonce : ByteArray} {c : Int} (h : startOk key nonce c = false) : key.size ≠ 32 ∨ key.size = 32 ∧ nonce.size ≠ 12 ∨ key.size = 32 ∧ nonce.size = 12 ∧ okW c = false := by
  unfold startOk at h
  by_cases h1 : key.size = 32
  · by_cases h2 : nonce.size = 12
    · right; right
      rw [decide_eq_true h1, decide_eq_true h2] at h
      exact ⟨h1, h2, by simpa using h⟩
    · exact .inr (.inl ⟨h1, h2⟩)
  · exact .inl h1
theorem builtCha : Try.prog.built 49 [] = some (rowV .u32 16 (fun _ => 0)) := by kernel_rfl
set_option maxHeartbeats 1600000 in
theorem start_no (key nonce : ByteArray) (c : Int) (w : World) (h : startOk key nonce c = false) :
    Calls Try.prog 31 #[.string key, .string nonce, .int .i64 c] w fun e w' => e = .returned (.tuple #[.agg (rowV .u32 16 (fun _ => 0)), .bool false]) ∧ Below w.heap.size w w' := by
  have hA := heap_alloc_new w (.cells (rowV .u32 16 (fun _ => 0)) 49)
  have HB : Hid (Below w.heap.size w (w.alloc (.cells (rowV .u32 16 (fun _ => 0)) 49))) := (Below.refl _ _).alloc (Nat.le_refl _) _
  rw [← zeroCha] at hA HB
  have HA : Hid _ := hA
  clear hA
  have HW : Hid (okW c = false → ∀ wz, Calls Try.prog 49 #[.int .i64 c] wz fun e w' => e = .returned (.bool false) ∧ wz = w') := fun e wz => by
    have := isWord_any c wz
    rw [e] at this; exact this
  rcases startOk_no h with h1 | ⟨h1, h2⟩ | ⟨h1, h2, h3⟩
  · have hk : ((key.size : Int) != 32) = true := by simp; omega
    clear h h1
    go_enter Try.func31, Try.ntmps31
    go_upto_region 2 with fail
    generalize (w.alloc (.cells #[.int .u32 0, .int .u32 0, .int .u32 0, .int .u32 0, .int .u32 0, .int .u32 0, .int .u32 0, .int .u32 0, .int .u32 0, .int .u32 0, .int .u32 0, .int .u32 0, .int .u32 0, .int .u32 0, .int .u32 0, .int .u32 0] 49)) = w1 at HA HB ⊢
    refine wp_region_lit ?_
    refine wpList_buildTo rfl _ _ rfl _ rfl (rowV .u32 16 (fun _ => 0)) (by simpa using builtCha) ?_
    simp only [Act.put, List.getElem_toArray, List.getElem_cons_succ, List.getElem_cons_zero, List.setIfInBounds_toArray, List.set_cons_succ, List.set_cons_zero]
    refine wpList_store_rowTo rfl _ _ _ rfl rfl w.heap.size (rowV .u32 16 (fun _ => 0)) rfl rfl 49 _ HA.out (sizeChaV _) (by rw [rowV_size]; rfl) (rowV_one _ _ _) ?_
    have hR : (w1.setRow w.heap.size (rowV .u32 16 (fun _ => 0))).heap[w.heap.size]? = some (.cells (rowV .u32 16 (fun _ => 0)) 49 (0, 0)) := setRow_heap _ _ _ _ _ _ HA.out
    have hBB := below_setRow HB.out (Nat.le_refl _) (rowV .u32 16 (fun _ => 0))
    generalize w1.setRow w.heap.size (rowV .u32 16 (fun _ => 0)) = wz at hR hBB ⊢
    clear HA HB
    go_wp2
    refine bodyPost_ret (res_ct rfl _ _ w.heap.size 49 (rowV .u32 16 (fun _ => 0)) (0, 0) _ rfl ?_ Try.underlying49 rfl (sizeChaV _)) rfl ?_
    · exact hR
    · exact ⟨rfl, hBB⟩
  · have hk : ((key.size : Nat) : Int) = 32 := by omega
    have hn : ((nonce.size : Int) != 12) = true := by simp; omega
    clear h h1 h2
    go_enter Try.func31, Try.ntmps31
    go_upto_region 2 with fail
    generalize (w.alloc (.cells #[.int .u32 0, .int .u32 0, .int .u32 0, .int .u32 0, .int .u32 0, .int .u32 0, .int .u32 0, .int .u32 0, .int .u32 0, .int .u32 0, .int .u32 0, .int .u32 0, .int .u32 0, .int .u32 0, .int .u32 0, .int .u32 0] 49)) = w1 at HA HB ⊢
    refine wp_region_lit ?_
    refine wpList_buildTo rfl _ _ rfl _ rfl (rowV .u32 16 (fun _ => 0)) (by simpa using builtCha) ?_
    simp only [Act.put, List.getElem_toArray, List.getElem_cons_succ, List.getElem_cons_zero, List.setIfInBounds_toArray, List.set_cons_succ, List.set_cons_zero]
    refine wpList_store_rowTo rfl _ _ _ rfl rfl w.heap.size (rowV .u32 16 (fun _ => 0)) rfl rfl 49 _ HA.out (sizeChaV _) (by rw [rowV_size]; rfl) (rowV_one _ _ _) ?_
    have hR : (w1.setRow w.heap.size (rowV .u32 16 (fun _ => 0))).heap[w.heap.size]? = some (.cells (rowV .u32 16 (fun _ => 0)) 49 (0, 0)) := setRow_heap _ _ _ _ _ _ HA.out
    have hBB := below_setRow HB.out (Nat.le_refl _) (rowV .u32 16 (fun _ => 0))
    generalize w1.setRow w.heap.size (rowV .u32 16 (fun _ => 0)) = wz at hR hBB ⊢
    clear HA HB
    go_wp2
    refine bodyPost_ret (res_ct rfl _ _ w.heap.size 49 (rowV .u32 16 (fun _ => 0)) (0, 0) _ rfl ?_ Try.underlying49 rfl (sizeChaV _)) rfl ?_
    · exact hR
    · exact ⟨rfl, hBB⟩
  · have hk : ((key.size : Nat) : Int) = 32 := by omega
    have hn : ((nonce.size : Nat) : Int) = 12 := by omega
    replace HW : Hid _ := HW.out h3
    clear h h1 h2 h3
    go_enter Try.func31, Try.ntmps31
    go_wp2_with fail
    refine Calls.mono (HW.out _) ?_
    rintro e w1 ⟨rfl, rfl⟩
    go_upto_region 2 with fail
    generalize (w.alloc (.cells #[.int .u32 0, .int .u32 0, .int .u32 0, .int .u32 0, .int .u32 0, .int .u32 0, .int .u32 0, .int .u32 0, .int .u32 0, .int .u32 0, .int .u32 0, .int .u32 0, .int .u32 0, .int .u32 0, .int .u32 0, .int .u32 0] 49)) = w1 at HA HB ⊢
    refine wp_region_lit ?_
    refine wpList_buildTo rfl _ _ rfl _ rfl (rowV .u32 16 (fun _ => 0)) (by simpa using builtCha) ?_
    simp only [Act.put, List.getElem_toArray, List.getElem_cons_succ, List.getElem_cons_zero, List.setIfInBounds_toArray, List.set_cons_succ, List.set_cons_zero]
    refine wpList_store_rowTo rfl _ _ _ rfl rfl w.heap.size (rowV .u32 16 (fun _ => 0)) rfl rfl 49 _ HA.out (sizeChaV _) (by rw [rowV_size]; rfl) (rowV_one _ _ _) ?_
    have hR : (w1.setRow w.heap.size (rowV .u32 16 (fun _ => 0))).heap[w.heap.size]? = some (.cells (rowV .u32 16 (fun _ => 0)) 49 (0, 0)) := setRow_heap _ _ _ _ _ _ HA.out
    have hBB := below_setRow HB.out (Nat.le_refl _) (rowV .u32 16 (fun _ => 0))
    generalize w1.setRow w.heap.size (rowV .u32 16 (fun _ => 0)) = wz at hR hBB ⊢
    clear HA HB
    go_wp2
    refine bodyPost_ret (res_ct rfl _ _ w.heap.size 49 (rowV .u32 16 (fun _ => 0)) (0, 0) _ rfl ?_ Try.underlying49 rfl (sizeChaV _)) rfl ?_
    · exact hR
    · exact ⟨rfl, hBB⟩
end Go.Proofs.Ytkcbolcodgmpaaa
