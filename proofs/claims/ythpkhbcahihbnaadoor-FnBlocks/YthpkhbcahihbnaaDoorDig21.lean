/- A digest (chapter 21): Digest of both sides. -/
import Derived.Test.YthpkhbcahihbnaaDoorBeh21
import Derived.Test.YthpkhbcahihbnaaDoorSpb21
import Derived.Test.YthpkhbcahihbnaaDoorPad21
import Derived.Test.YthpkhbcahihbnaaDoorTextH21
import Derived.WalkKit
import Derived.WalkLawsBesides
import Derived.WalkSpells
import Derived.BigRegion
import Derived.OrdersHeld
import Derived.Deep.RegionHeld
import Derived.Deep.RegionHeld3
import Derived.Deep.MidRow
import Derived.Great.Walk
namespace Go.Proofs.YthpkhbcahihbnaaDoor
open Go.RowKit Go.PlainAid
set_option maxRecDepth 20000
set_option linter.unusedVariables false
set_option linter.unusedSimpArgs false
theorem start_row : rowV .u32 8 firstF = rowV .u32 8 start8.at8 := rowV_ext (fun i hi => by
  rcases (show i = 0 ∨ i = 1 ∨ i = 2 ∨ i = 3 ∨ i = 4 ∨ i = 5 ∨ i = 6 ∨ i = 7 by omega) with rfl | rfl | rfl | rfl | rfl | rfl | rfl | rfl <;> rfl)
theorem blk_sub (p : ByteArray) (k : Nat) : blkW (p.extract (64 * k) (64 * k + 64)) = wordsAt (btN p) (64 * k) := by
  unfold blkW wordsAt
  apply List.map_congr_left
  intro i hi
  have := List.mem_range.1 hi
  unfold be4At
  rw [Nat.zero_add, btN_sub p _ _ _ (by omega), btN_sub p _ _ _ (by omega), btN_sub p _ _ _ (by omega), btN_sub p _ _ _ (by omega)]
  rfl
/-- How many blocks a text fills. -/
def nb (t : ByteArray) : Nat := (fillT t).size / 64
theorem nb_size (t : ByteArray) : (fillT t).size = 64 * nb t := by
  unfold nb
  have h := fillT_size t
  unfold zc at h
  omega
def digS (t : ByteArray) : H8 := blocks (btN (fillT t)) start8 (nb t)
theorem digS_ok (t : ByteArray) : (digS t).Ok := blocks_ok _ start8_ok _
def digT (t : ByteArray) : ByteArray := heT (digS t).at8 8
theorem digT_size (t : ByteArray) : (digT t).size = 32 := heT_size _ _
set_option maxHeartbeats 3200000 in
theorem implDigest_any (t : ByteArray) (w : World) (ht : t.size ≤ 100000000) (hf : FirstHere w) (hk : KeysHere w) :
    Calls Tryd.prog 10 #[.string t] w fun e w' => e = .returned (.string (digT t)) ∧ Below w.heap.size w w' := by
  have HK : Hid (KeysHere w) := hk
  have hgl := hk.lt
  obtain ⟨tf, ff, hh⟩ := hf
  have HP : Hid (∀ wz, _) := fun wz => implFill_any t wz ht
  have hps := nb_size t
  have hpl := fillT_le t
  have HOK : Hid (∀ k, (blocks (btN (fillT t)) start8 k).Ok) := blocks_ok _ start8_ok
  have HB0 : Hid (blocks (btN (fillT t)) start8 0 = start8) := rfl
  have HBS : Hid (∀ k, blocks (btN (fillT t)) start8 (k + 1) = block8 (blocks (btN (fillT t)) start8 k) (blkW ((fillT t).extract (64 * k) (64 * k + 64)))) := fun k => by rw [blk_sub]; rfl
  have HD : Hid (digT t = heT (blocks (btN (fillT t)) start8 (nb t)).at8 8) := rfl
  have hn : nb t ≤ 2000000 := by omega
  clear hk hpl
  generalize digT t = D at HD
  generalize nb t = n at hps HD hn
  generalize fillT t = p at *
  go_enter Tryd.func10, Tryd.ntmps10
  go_upto_region 1 with fail
  refine wp_region_lit ?_
  refine wpl_load rfl _ _ rfl _ rfl 0 (rowV .u32 8 firstF) rfl tf ff hh _ Tryd.underlying40 rfl (sizeFirstV _) ?_
  try simp only [Act.put, List.getElem_toArray, List.getElem_cons_succ, List.getElem_cons_zero, List.setIfInBounds_toArray, List.set_cons_succ, List.set_cons_zero]
  refine Go.Great.wpList_allocTo rfl _ rfl (.pointer (some ⟨w.heap.size, 0, none⟩)) (.cells (rowV .u32 8 (fun _ => 0)) 41) (by rw [← zeroSha]; unfold execOp; go_simp) ?_
  try simp only [Act.put, List.getElem_toArray, List.getElem_cons_succ, List.getElem_cons_zero, List.setIfInBounds_toArray, List.set_cons_succ, List.set_cons_zero]
  have hA1 := heap_alloc_new w (.cells (rowV .u32 8 (fun _ => 0)) 41)
  refine wpList_store_rowTo rfl _ _ _ rfl rfl w.heap.size (rowV .u32 8 firstF) rfl rfl 41 (rowV .u32 8 (fun _ => 0)) hA1 (sizeShaV _) (by rw [rowV_size, rowV_size]) (rowV_one _ _ _) ?_
  have HR1 : Hid (RowAt ((w.alloc (.cells (rowV .u32 8 (fun _ => 0)) 41)).setRow w.heap.size (rowV .u32 8 firstF)) w.heap.size 41 .u32 8 start8.at8) := by
    have h : ((w.alloc (.cells (rowV .u32 8 (fun _ => 0)) 41)).setRow w.heap.size (rowV .u32 8 firstF)).heap[w.heap.size]? = some (.cells (rowV .u32 8 firstF) 41 (0, 0)) := setRow_heap _ _ _ _ _ _ hA1
    show _ = _
    rw [← start_row]; exact h
  have HB2 : Hid (Below w.heap.size w ((w.alloc (.cells (rowV .u32 8 (fun _ => 0)) 41)).setRow w.heap.size (rowV .u32 8 firstF))) := below_setRow ((Below.refl _ _).alloc (Nat.le_refl _) _) (Nat.le_refl _) _
  generalize (w.alloc (.cells (rowV .u32 8 (fun _ => 0)) 41)).setRow w.heap.size (rowV .u32 8 firstF) = w2 at HR1 HB2 ⊢
  clear hA1 hh
  go_wp2_with fail
  refine Calls.mono (HP.out _) ?_
  rintro e w3 ⟨rfl, hb3⟩
  have HR3 : Hid (RowAt w3 w.heap.size 41 .u32 8 (blocks (btN p) start8 0).at8) := by rw [HB0.out]; exact HR1.out.below hb3 HR1.out.lt
  have HB3 : Hid (Below w.heap.size w w3) := HB2.out.trans (hb3.mono HB2.out.size)
  clear hb3 HR1 HB2 HP
  go_wp2
  go_loopw [5] (fun i wr => ∃ k : Nat, k ≤ n ∧ i = .int .i64 ((64 * k : Nat) : Int) ∧ Hid (RowAt wr w.heap.size 41 .u32 8 (blocks (btN p) start8 k).at8) ∧ Hid (Below w.heap.size w wr))
    (fun i _ => 64 * n - (intOf i).toNat)
  case atStart => exact ⟨0, Nat.zero_le _, rfl, HR3, HB3⟩
  case round =>
    clear HR3 HB3
    obtain ⟨k, hk, rfl, HR, HB⟩ := hrel
    by_cases hlt : k < n
    · have HKr : Hid (KeysHere wr.drew) := HK.out.next HB.out.drew hgl
      have hsub : (p.extract (64 * k) (64 * k + 64)).size = 64 := by rw [sub_size p _ _ (by omega) (by omega)]; omega
      have HC : Hid (∀ wz, KeysHere wz → _) := fun wz h => behind_any (blocks (btN p) start8 k) (p.extract (64 * k) (64 * k + 64)) wz (HOK.out k) hsub h
      rw [← HBS.out k] at HC
      obtain ⟨new, HEQ⟩ : ∃ new, Hid (blocks (btN p) start8 (k + 1) = new) := ⟨_, rfl⟩
      rw [HEQ.out] at HC
      generalize blocks (btN p) start8 k = cur at HC HR
      have hK0 : 64 * k < 64 * n := by omega
      have hK6 : 64 * k + 64 ≤ 64 * n := by omega
      have HNX : Hid (((64 * k : Nat) : Int) + 64 = ((64 * (k + 1) : Nat) : Int)) := by show _ = _; omega
      have hMM : Hid (64 * n - ((64 * (k + 1) : Nat) : Int).toNat < 64 * n - ((64 * k : Nat) : Int).toNat) := by show _ < _; omega
      generalize hq : 64 * k = q at *
      have hi0 : (0 : Int) ≤ (q : Int) := by omega
      have hi1 : (q : Int) < ((p.size : Nat) : Int) := by omega
      have hi2 : (q : Int) + 64 ≤ ((p.size : Nat) : Int) := by omega
      have hi3 : (0 : Int) ≤ (q : Int) + 64 := by omega
      have hi4 : (q : Int) ≤ (q : Int) + 64 := by omega
      have HPS : Hid (p.size = 64 * n) := hps
      clear hps
      have hw : IntKind.i64.wrap ((q : Int) + 64) = (q : Int) + 64 := by rw [IntKind.wrap_i64]; omega
      have hwn : ((q : Int) + 64).toNat = q + 64 := by omega
      go_wp2
      refine _root_.Go.wp_region_held (S := fun _ : World => True) (by kernel_rfl) ?_
      have hS : (fun _ : World => True) wr.drew := trivial
      refine wpAnyH_take (i := 1) (v := ?_) rfl (by kernel_rfl) (by kernel_rfl) (by kernel_rfl) (fun _ _ _ h => h) (Or.inl ⟨by rfl, ?_⟩) hS ?_
      rotate_left
      · intro w hSw; skip; go_simp; try with_reducible rfl
      simp only [Act.put, List.getElem_toArray, List.getElem_cons_succ, List.getElem_cons_zero, List.setIfInBounds_toArray, List.set_cons_succ, List.set_cons_zero]
      refine wpAnyH_take (i := 2) (v := ?_) rfl (by kernel_rfl) (by kernel_rfl) (by kernel_rfl) (fun _ _ _ h => h) (Or.inl ⟨by rfl, ?_⟩) hS ?_
      rotate_left
      · intro w hSw; skip; go_simp; try with_reducible rfl
      simp only [Act.put, List.getElem_toArray, List.getElem_cons_succ, List.getElem_cons_zero, List.setIfInBounds_toArray, List.set_cons_succ, List.set_cons_zero]
      refine wpAnyH_take (i := 3) (v := ?_) rfl (by kernel_rfl) (by kernel_rfl) (by kernel_rfl) (fun _ _ _ h => h) (Or.inl ⟨by rfl, ?_⟩) hS ?_
      rotate_left
      · intro w hSw; skip; go_simp; try with_reducible rfl
      simp only [Act.put, List.getElem_toArray, List.getElem_cons_succ, List.getElem_cons_zero, List.setIfInBounds_toArray, List.set_cons_succ, List.set_cons_zero]
      refine wpAnyH_take (i := 4) (v := ?_) rfl (by kernel_rfl) (by kernel_rfl) (by kernel_rfl) (fun _ _ _ h => h) (Or.inl ⟨by rfl, ?_⟩) hS ?_
      rotate_left
      · intro w hSw; skip; go_simp; try with_reducible rfl
      simp only [Act.put, List.getElem_toArray, List.getElem_cons_succ, List.getElem_cons_zero, List.setIfInBounds_toArray, List.set_cons_succ, List.set_cons_zero]
      refine wpAnyH_take (i := 5) (v := .string (p.extract q (q + 64))) rfl (by kernel_rfl) (by kernel_rfl) (by kernel_rfl) (fun _ _ _ h => h) (Or.inl ⟨by rfl, ?_⟩) hS ?_
      · intro w hSw; skip; go_simp
      simp only [Act.put, List.getElem_toArray, List.getElem_cons_succ, List.getElem_cons_zero, List.setIfInBounds_toArray, List.set_cons_succ, List.set_cons_zero]
      refine wpAnyH_ready (rs := [0]) (by kernel_rfl) (by simp) ?_
      refine AllReadyH.cons rfl (fun K hK => ?_) AllReadyH.nil
      refine ite_yes (by rfl) ?_
      refine wp_load_mid _ _ rfl w.heap.size 0 rfl (rowV .u32 8 cur.at8).toList _ (rangeV HR.out.drew) Tryd.underlying41 rfl (by rw [Array.length_toList, rowV_size]; exact sizeSha8) ?_
      refine hK.out _ _ trivial (fun hS => ?_)
      clear hK K
      simp only [Act.put, List.getElem_toArray, List.getElem_cons_zero, List.setIfInBounds_toArray, List.set_cons_succ, List.set_cons_zero]
      refine wpAnyH_ready (rs := [6]) (by kernel_rfl) (by simp) ?_
      refine AllReadyH.cons rfl (fun K hK => ?_) AllReadyH.nil
      go_simp
      refine Calls.mono (HC.out _ HKr.out) ?_
      rintro e w5 ⟨rfl, hb5⟩
      have hr5 : RowAt w5 w.heap.size 41 .u32 8 cur.at8 := HR.out.drew.below hb5 HR.out.drew.lt
      have hB5 : Below w.heap.size w w5 := HB.out.drew.trans (hb5.mono HB.out.drew.size)
      clear hb5
      refine hK.out _ _ trivial (fun hS => ?_)
      clear hK K
      refine wpAnyH_ready (rs := [7]) (by kernel_rfl) (by simp) ?_
      refine AllReadyH.cons rfl (fun K hK => ?_) AllReadyH.nil
      refine ite_yes (by rfl) ?_
      refine wp_store_row _ _ _ rfl w.heap.size (rowV .u32 8 new.at8) rfl rfl 41 (rowV .u32 8 cur.at8) hr5 (by rw [rowV_size]; exact sizeSha8) (by rw [rowV_size, rowV_size]) (rowV_one _ _ _) ?_
      have HR6 : Hid (RowAt (w5.setRow w.heap.size (rowV .u32 8 new.at8)) w.heap.size 41 .u32 8 new.at8) := setRow_heap _ _ _ _ _ _ hr5
      have HB6 : Hid (Below w.heap.size w (w5.setRow w.heap.size (rowV .u32 8 new.at8))) := below_setRow hB5 (Nat.le_refl _) _
      generalize w5.setRow w.heap.size (rowV .u32 8 new.at8) = w6 at HR6 HB6 ⊢
      clear hr5 hB5
      refine hK.out _ _ trivial (fun hS => ?_)
      clear hK K
      clear hS
      refine wpAnyH_done (by kernel_rfl) ?_ _
      go_wp2
      go_roundw
      case rel => exact ⟨k + 1, by omega, by rw [← HNX.out], by rw [HEQ.out]; exact HR6, HB6⟩
      case measure => first | exact hMM.out | (rw [HNX.out]; exact hMM.out) | (simp only [intOf]; rw [HNX.out]; exact hMM.out)
    · obtain rfl : k = n := by omega
      have HT : Hid _ := textH_any w.heap.size 8 8 (blocks (btN p) start8 k).at8 wr (fun i => getD_lt (HOK.out k).all i) (by omega) HR.out.toC
      rw [← HD.out] at HT
      have hnl : ¬ ((64 * k : Nat) : Int) < ((p.size : Nat) : Int) := by omega
      clear HOK HBS HB0
      go_wp2_with fail
      refine Calls.mono HT.out ?_
      rintro e w4 ⟨rfl, hb⟩
      have HB4 : Below w.heap.size w w4 := HB.out.trans (hb.mono HB.out.size)
      go_wp2
      go_ret
      exact ⟨rfl, HB4⟩
end Go.Proofs.YthpkhbcahihbnaaDoor
