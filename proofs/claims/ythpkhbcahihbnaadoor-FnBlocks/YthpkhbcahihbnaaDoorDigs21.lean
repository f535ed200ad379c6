/- A digest (chapter 21): the specification's Digest. -/
import Derived.Test.YthpkhbcahihbnaaDoorDig21
import Derived.WalkKit
import Derived.WalkLawsBesides
import Derived.WalkSpells
import Derived.BigRegion
import Derived.OrdersHeld
import Derived.OwnWalk
import Derived.Laws.OwnMore
import Derived.Deep.RegionHeld
import Derived.Deep.RegionHeld3
import Derived.Deep.MidRow
import Derived.Great.Walk
namespace Go.Proofs.YthpkhbcahihbnaaDoor
open Go.RowKit Go.PlainAid
set_option maxRecDepth 20000
set_option linter.unusedVariables false
set_option linter.unusedSimpArgs false
theorem builtKeys : Tryd.prog.built 52 [(0, .int .u32 1116352408), (1, .int .u32 1899447441), (2, .int .u32 3049323471), (3, .int .u32 3921009573), (4, .int .u32 961987163), (5, .int .u32 1508970993), (6, .int .u32 2453635748), (7, .int .u32 2870763221), (8, .int .u32 3624381080), (9, .int .u32 310598401), (10, .int .u32 607225278), (11, .int .u32 1426881987), (12, .int .u32 1925078388), (13, .int .u32 2162078206), (14, .int .u32 2614888103), (15, .int .u32 3248222580), (16, .int .u32 3835390401), (17, .int .u32 4022224774), (18, .int .u32 264347078), (19, .int .u32 604807628), (20, .int .u32 770255983), (21, .int .u32 1249150122), (22, .int .u32 1555081692), (23, .int .u32 1996064986), (24, .int .u32 2554220882), (25, .int .u32 2821834349), (26, .int .u32 2952996808), (27, .int .u32 3210313671), (28, .int .u32 3336571891), (29, .int .u32 3584528711), (30, .int .u32 113926993), (31, .int .u32 338241895), (32, .int .u32 666307205), (33, .int .u32 773529912), (34, .int .u32 1294757372), (35, .int .u32 1396182291), (36, .int .u32 1695183700), (37, .int .u32 1986661051), (38, .int .u32 2177026350), (39, .int .u32 2456956037), (40, .int .u32 2730485921), (41, .int .u32 2820302411), (42, .int .u32 3259730800), (43, .int .u32 3345764771), (44, .int .u32 3516065817), (45, .int .u32 3600352804), (46, .int .u32 4094571909), (47, .int .u32 275423344), (48, .int .u32 430227734), (49, .int .u32 506948616), (50, .int .u32 659060556), (51, .int .u32 883997877), (52, .int .u32 958139571), (53, .int .u32 1322822218), (54, .int .u32 1537002063), (55, .int .u32 1747873779), (56, .int .u32 1955562222), (57, .int .u32 2024104815), (58, .int .u32 2227730452), (59, .int .u32 2361852424), (60, .int .u32 2428436474), (61, .int .u32 2756734187), (62, .int .u32 3204031479), (63, .int .u32 3329325298)] = some (rowV .u32 64 keysF) := by kernel_rfl
set_option maxHeartbeats 1600000 in
theorem keys_any (w : World) : Calls Tryd.prog 29 #[] w fun e w' => e = .returned (.agg (rowV .u32 64 keysF)) ∧ Below w.heap.size w w' := by
  go_enter Tryd.func29, Tryd.ntmps29
  go_upto_region 1 with fail
  have hA1 := heap_alloc_new w (.cells (rowV .u32 64 (fun _ => 0)) 52)
  have hB1 : Below w.heap.size w (w.alloc (.cells (rowV .u32 64 (fun _ => 0)) 52)) := (Below.refl _ _).alloc (Nat.le_refl _) _
  rw [← zero64] at hA1 hB1
  generalize w.alloc (.cells #[.int .u32 0, .int .u32 0, .int .u32 0, .int .u32 0, .int .u32 0, .int .u32 0, .int .u32 0, .int .u32 0, .int .u32 0, .int .u32 0, .int .u32 0, .int .u32 0, .int .u32 0, .int .u32 0, .int .u32 0, .int .u32 0, .int .u32 0, .int .u32 0, .int .u32 0, .int .u32 0, .int .u32 0, .int .u32 0, .int .u32 0, .int .u32 0, .int .u32 0, .int .u32 0, .int .u32 0, .int .u32 0, .int .u32 0, .int .u32 0, .int .u32 0, .int .u32 0, .int .u32 0, .int .u32 0, .int .u32 0, .int .u32 0, .int .u32 0, .int .u32 0, .int .u32 0, .int .u32 0, .int .u32 0, .int .u32 0, .int .u32 0, .int .u32 0, .int .u32 0, .int .u32 0, .int .u32 0, .int .u32 0, .int .u32 0, .int .u32 0, .int .u32 0, .int .u32 0, .int .u32 0, .int .u32 0, .int .u32 0, .int .u32 0, .int .u32 0, .int .u32 0, .int .u32 0, .int .u32 0, .int .u32 0, .int .u32 0, .int .u32 0, .int .u32 0] 52) = w9 at hA1 hB1 ⊢
  rw [zero64] at hA1
  refine wp_region_lit ?_
  refine wpList_buildTo rfl _ _ rfl _ rfl (rowV .u32 64 keysF) (by first | exact builtKeys | kernel_rfl) ?_
  try simp only [Act.put, List.getElem_toArray, List.getElem_cons_succ, List.getElem_cons_zero, List.setIfInBounds_toArray, List.set_cons_succ, List.set_cons_zero]
  refine wpList_store_rowTo rfl _ _ _ rfl rfl w.heap.size (rowV .u32 64 keysF) rfl rfl 52 (rowV .u32 64 (fun _ => 0)) hA1 (sizeKeysV _) rfl (rowV_one _ _ _) ?_
  have HR1 : (w9.setRow w.heap.size (rowV .u32 64 keysF)).heap[w.heap.size]? = some (.cells (rowV .u32 64 keysF) 52 (0, 0)) := setRow_heap _ _ _ _ _ _ hA1
  have HB2 : Below w.heap.size w (w9.setRow w.heap.size (rowV .u32 64 keysF)) := below_setRow hB1 (Nat.le_refl _) _
  generalize w9.setRow w.heap.size (rowV .u32 64 keysF) = wz at HR1 HB2 ⊢
  clear hA1 hB1
  go_wp2
  refine bodyPost_ret (results_cell_row rfl _ _ w.heap.size 52 (rowV .u32 64 keysF) (0, 0) _ rfl ?_ Tryd.underlying52 rfl (sizeKeysV _)) rfl ?_
  · exact HR1
  · exact ⟨rfl, HB2⟩
/-- The bytes of eight words. -/
def beF (f : Nat → Nat) : Nat → Nat := fun j => highB (f (j / 4)) 4 (j % 4)
theorem beF_lt (f : Nat → Nat) (j : Nat) : beF f j < 256 := highB_lt _ _ _
theorem bytesV_more (n : Nat) (f : Nat → Nat) : ∀ m, bytesV (n + m) f = bytesV n f ++ bytesV m (fun i => f (n + i))
  | 0 => by rw [Nat.add_zero]; show _ = _ ++ []; rw [List.append_nil]
  | m + 1 => by rw [← Nat.add_assoc, bytesV_succ, bytesV_more n f m, List.append_assoc, bytesV_succ]
theorem heL_beF (f : Nat → Nat) : ∀ n, heL f n = bytesV (4 * n) (beF f)
  | 0 => rfl
  | n + 1 => by
    rw [heL, heL_beF f n, Nat.mul_succ, bytesV_more]
    congr 1
    refine bytesV_ext (fun i hi => ?_)
    unfold beF
    rw [show (4 * n + i) / 4 = n by omega, show (4 * n + i) % 4 = i by omega]
def beTo (f : Nat → Nat) (k : Nat) : Nat → Nat := fun j => if j < k then beF f j else 0
theorem beTo_upd (f : Nat → Nat) (k : Nat) : upd (beTo f k) k (beF f k) = beTo f (k + 1) := by
  funext i
  unfold upd beTo
  by_cases h : i = k
  · subst h; rw [if_pos rfl, if_pos (by omega)]
  · rw [if_neg h]
    by_cases h2 : i < k
    · rw [if_pos h2, if_pos (by omega)]
    · rw [if_neg h2, if_neg (by omega)]
theorem byte24 (x : Nat) (h : x < 4294967296) : highB x 4 0 = x / 16777216 % 256 ∧ highB x 4 1 = x / 65536 % 256 ∧ highB x 4 2 = x / 256 % 256 ∧ highB x 4 3 = x % 256 := by
  unfold highB lowB
  refine ⟨rfl, rfl, rfl, ?_⟩
  simp
set_option maxHeartbeats 6400000 in
theorem specDigest_any (t : ByteArray) (w : World) (ht : t.size ≤ 100000000) :
    Calls Tryd.prog 11 #[.string t] w fun e w' => e = .returned (.string (digT t)) ∧ Below w.heap.size w w' := by
  have HFI : Hid (Calls Tryd.prog 28 #[] w fun e w' => e = .returned (.agg (rowV .u32 8 firstF)) ∧ Below w.heap.size w w') := first_any w
  have HP : Hid (∀ wz, _) := fun wz => specFill_any t wz ht
  have hps := nb_size t
  have hpl := fillT_le t
  have HOK : Hid (∀ k, (blocks (btN (fillT t)) start8 k).Ok) := blocks_ok _ start8_ok
  have HB0 : Hid (blocks (btN (fillT t)) start8 0 = start8) := rfl
  have HBS : Hid (∀ k, blocks (btN (fillT t)) start8 (k + 1) = block8 (blocks (btN (fillT t)) start8 k) (blkW ((fillT t).extract (64 * k) (64 * k + 64)))) := fun k => by rw [blk_sub]; rfl
  have HD : Hid (digT t = strOfNums (bytesV 32 (beF (blocks (btN (fillT t)) start8 (nb t)).at8))) := by show strOfNums (heL _ 8) = _; rw [heL_beF]; rfl
  have hn : nb t ≤ 2000000 := by omega
  clear hpl
  generalize digT t = D at HD
  generalize nb t = n at hps HD hn
  generalize fillT t = p at *
  go_enter Tryd.func11, Tryd.ntmps11
  go_wp2_with fail
  refine Calls.mono HFI.out ?_
  rintro e w1 ⟨rfl, hb1⟩
  rename_i hq
  refine hq _ _ ?_
  clear hq
  try simp only [Act.put, List.getElem_toArray, List.getElem_cons_succ, List.getElem_cons_zero, List.setIfInBounds_toArray, List.set_cons_succ, List.set_cons_zero]
  refine Go.Great.wpList_allocTo rfl _ rfl (.pointer (some ⟨w1.heap.size, 0, none⟩)) (.cells (rowV .u32 8 (fun _ => 0)) 40) (by rw [← zeroSha]; unfold execOp; go_simp) ?_
  try simp only [Act.put, List.getElem_toArray, List.getElem_cons_succ, List.getElem_cons_zero, List.setIfInBounds_toArray, List.set_cons_succ, List.set_cons_zero]
  have hA1 := heap_alloc_new w1 (.cells (rowV .u32 8 (fun _ => 0)) 40)
  refine wpList_store_rowTo rfl _ _ _ rfl rfl w1.heap.size (rowV .u32 8 firstF) rfl rfl 40 (rowV .u32 8 (fun _ => 0)) hA1 (sizeFirstV _) (by rw [rowV_size, rowV_size]) (rowV_one _ _ _) ?_
  have HR1 : Hid (RowAt ((w1.alloc (.cells (rowV .u32 8 (fun _ => 0)) 40)).setRow w1.heap.size (rowV .u32 8 firstF)) w1.heap.size 40 .u32 8 start8.at8) := by
    have h : ((w1.alloc (.cells (rowV .u32 8 (fun _ => 0)) 40)).setRow w1.heap.size (rowV .u32 8 firstF)).heap[w1.heap.size]? = some (.cells (rowV .u32 8 firstF) 40 (0, 0)) := setRow_heap _ _ _ _ _ _ hA1
    show _ = _
    rw [← start_row]; exact h
  have HB2 : Hid (Below w.heap.size w ((w1.alloc (.cells (rowV .u32 8 (fun _ => 0)) 40)).setRow w1.heap.size (rowV .u32 8 firstF))) := below_setRow (hb1.alloc hb1.size _) hb1.size _
  have hsz := hb1.size
  generalize (w1.alloc (.cells (rowV .u32 8 (fun _ => 0)) 40)).setRow w1.heap.size (rowV .u32 8 firstF) = w2 at HR1 HB2 ⊢
  generalize hgA : w1.heap.size = gA at HR1 hsz ⊢
  clear hA1 hb1
  go_wp2_with fail
  refine Calls.mono (keys_any w2) ?_
  rintro e w3 ⟨rfl, hb3⟩
  rename_i hq
  refine hq _ _ ?_
  clear hq
  try simp only [Act.put, List.getElem_toArray, List.getElem_cons_succ, List.getElem_cons_zero, List.setIfInBounds_toArray, List.set_cons_succ, List.set_cons_zero]
  refine Go.Great.wpList_allocTo rfl _ rfl (.pointer (some ⟨w3.heap.size, 0, none⟩)) (.cells (rowV .u32 64 (fun _ => 0)) 52) (by rw [← zero64]; unfold execOp; go_simp) ?_
  try simp only [Act.put, List.getElem_toArray, List.getElem_cons_succ, List.getElem_cons_zero, List.setIfInBounds_toArray, List.set_cons_succ, List.set_cons_zero]
  have hA1 := heap_alloc_new w3 (.cells (rowV .u32 64 (fun _ => 0)) 52)
  refine wpList_store_rowTo rfl _ _ _ rfl rfl w3.heap.size (rowV .u32 64 keysF) rfl rfl 52 (rowV .u32 64 (fun _ => 0)) hA1 (sizeKeysV _) rfl (rowV_one _ _ _) ?_
  have hR3 := HR1.out.below hb3 HR1.out.lt
  have hlt3 := hR3.lt
  have HK1 : Hid (RowAt ((w3.alloc (.cells (rowV .u32 64 (fun _ => 0)) 52)).setRow w3.heap.size (rowV .u32 64 keysF)) w3.heap.size 52 .u32 64 keysF) := setRow_heap _ _ _ _ _ _ hA1
  have HR2 : Hid (RowAt ((w3.alloc (.cells (rowV .u32 64 (fun _ => 0)) 52)).setRow w3.heap.size (rowV .u32 64 keysF)) gA 40 .u32 8 start8.at8) := (setRow_other _ _ _ _ (by omega)).trans ((Lib.alloc_old _ _ _ hlt3).trans hR3)
  have hB3 := HB2.out.trans (hb3.mono HB2.out.size)
  have HB4 : Hid (Below w.heap.size w ((w3.alloc (.cells (rowV .u32 64 (fun _ => 0)) 52)).setRow w3.heap.size (rowV .u32 64 keysF))) := below_setRow (hB3.alloc hB3.size _) hB3.size _
  generalize (w3.alloc (.cells (rowV .u32 64 (fun _ => 0)) 52)).setRow w3.heap.size (rowV .u32 64 keysF) = w4 at HK1 HR2 HB4 ⊢
  have hgK : w.heap.size ≤ w3.heap.size := hB3.size
  generalize w3.heap.size = gK at HK1 hlt3 hgK ⊢
  clear hA1 hb3 HB2 HR1 hR3 hB3
  go_wp2_with fail
  refine Calls.mono (HP.out _) ?_
  rintro e w5 ⟨rfl, hb5⟩
  have HR5 : Hid (RowAt w5 gA 40 .u32 8 (blocks (btN p) start8 0).at8) := by rw [HB0.out]; exact HR2.out.below hb5 HR2.out.lt
  have HK5 : Hid (RowAt w5 gK 52 .u32 64 keysF) := HK1.out.below hb5 HK1.out.lt
  have HB5 : Hid (Below w.heap.size w w5) := HB4.out.trans (hb5.mono HB4.out.size)
  clear hb5 HR2 HK1 HB4 HP
  go_wp2
  go_loopw [6] (fun i wr => ∃ k : Nat, k ≤ n ∧ i = .int .i64 ((64 * k : Nat) : Int) ∧ Hid (RowAt wr gA 40 .u32 8 (blocks (btN p) start8 k).at8) ∧ Hid (RowAt wr gK 52 .u32 64 keysF) ∧ Hid (Below w.heap.size w wr))
    (fun i _ => 64 * n - (intOf i).toNat)
  case atStart => exact ⟨0, Nat.zero_le _, rfl, HR5, HK5, HB5⟩
  case round =>
    clear HR5 HK5 HB5
    obtain ⟨k, hk, rfl, HR, HK, HB⟩ := hrel
    by_cases hlt : k < n
    · have hsub : (p.extract (64 * k) (64 * k + 64)).size = 64 := by rw [sub_size p _ _ (by omega) (by omega)]; omega
      have HC : Hid (∀ wz, _) := fun wz => sblock_any (blocks (btN p) start8 k) (p.extract (64 * k) (64 * k + 64)) wz (HOK.out k) hsub
      rw [← HBS.out k] at HC
      obtain ⟨new, HEQ⟩ : ∃ new, Hid (blocks (btN p) start8 (k + 1) = new) := ⟨_, rfl⟩
      rw [HEQ.out] at HC
      generalize blocks (btN p) start8 k = cur at HC HR
      have hK0 : 64 * k < 64 * n := by omega
      have hK6 : 64 * k + 64 ≤ 64 * n := by omega
      have HNX : Hid (((64 * k : Nat) : Int) + 64 = ((64 * (k + 1) : Nat) : Int)) := by show _ = _; omega
      have hMM : Hid (64 * n - ((64 * (k + 1) : Nat) : Int).toNat < 64 * n - ((64 * k : Nat) : Int).toNat) := by show _ < _; omega
      generalize hq : 64 * k = q at *
      have hi0 : (0 : Int) ≤ (q : Int) := by omega
      have hi1 : (q : Int) < ((p.size : Nat) : Int) := by omega
      have hi2 : (q : Int) + 64 ≤ ((p.size : Nat) : Int) := by omega
      have hi3 : (0 : Int) ≤ (q : Int) + 64 := by omega
      have hi4 : (q : Int) ≤ (q : Int) + 64 := by omega
      have HPS : Hid (p.size = 64 * n) := hps
      clear hps
      have hw : IntKind.i64.wrap ((q : Int) + 64) = (q : Int) + 64 := by rw [IntKind.wrap_i64]; omega
      have hwn : ((q : Int) + 64).toNat = q + 64 := by omega
      go_wp2
      refine _root_.Go.wp_region_held (S := fun _ : World => True) (by kernel_rfl) ?_
      have hS : (fun _ : World => True) wr.drew := trivial
      refine wpAnyH_take (i := 1) (v := ?_) rfl (by kernel_rfl) (by kernel_rfl) (by kernel_rfl) (fun _ _ _ h => h) (Or.inl ⟨by rfl, ?_⟩) hS ?_
      rotate_left
      · intro w hSw; skip; go_simp; try with_reducible rfl
      simp only [Act.put, List.getElem_toArray, List.getElem_cons_succ, List.getElem_cons_zero, List.setIfInBounds_toArray, List.set_cons_succ, List.set_cons_zero]
      refine wpAnyH_take (i := 2) (v := ?_) rfl (by kernel_rfl) (by kernel_rfl) (by kernel_rfl) (fun _ _ _ h => h) (Or.inl ⟨by rfl, ?_⟩) hS ?_
      rotate_left
      · intro w hSw; skip; go_simp; try with_reducible rfl
      simp only [Act.put, List.getElem_toArray, List.getElem_cons_succ, List.getElem_cons_zero, List.setIfInBounds_toArray, List.set_cons_succ, List.set_cons_zero]
      refine wpAnyH_take (i := 3) (v := ?_) rfl (by kernel_rfl) (by kernel_rfl) (by kernel_rfl) (fun _ _ _ h => h) (Or.inl ⟨by rfl, ?_⟩) hS ?_
      rotate_left
      · intro w hSw; skip; go_simp; try with_reducible rfl
      simp only [Act.put, List.getElem_toArray, List.getElem_cons_succ, List.getElem_cons_zero, List.setIfInBounds_toArray, List.set_cons_succ, List.set_cons_zero]
      refine wpAnyH_take (i := 4) (v := ?_) rfl (by kernel_rfl) (by kernel_rfl) (by kernel_rfl) (fun _ _ _ h => h) (Or.inl ⟨by rfl, ?_⟩) hS ?_
      rotate_left
      · intro w hSw; skip; go_simp; try with_reducible rfl
      simp only [Act.put, List.getElem_toArray, List.getElem_cons_succ, List.getElem_cons_zero, List.setIfInBounds_toArray, List.set_cons_succ, List.set_cons_zero]
      refine wpAnyH_take (i := 5) (v := .string (p.extract q (q + 64))) rfl (by kernel_rfl) (by kernel_rfl) (by kernel_rfl) (fun _ _ _ h => h) (Or.inl ⟨by rfl, ?_⟩) hS ?_
      · intro w hSw; skip; go_simp
      simp only [Act.put, List.getElem_toArray, List.getElem_cons_succ, List.getElem_cons_zero, List.setIfInBounds_toArray, List.set_cons_succ, List.set_cons_zero]
      refine wpAnyH_ready (rs := [0, 6]) (by kernel_rfl) (by simp) ?_
      refine AllReadyH.cons rfl (fun K hK => ?_) (AllReadyH.cons rfl (fun K hK => ?_) AllReadyH.nil)
      · refine ite_yes (by rfl) ?_
        refine wp_load_mid _ _ rfl gA 0 rfl (rowV .u32 8 cur.at8).toList _ (rangeV HR.out.drew) Tryd.underlying40 rfl (by rw [Array.length_toList, rowV_size]; exact sizeFirst) ?_
        refine hK.out _ _ trivial (fun hS => ?_)
        clear hK K
        simp only [Act.put, List.getElem_toArray, List.getElem_cons_zero, List.setIfInBounds_toArray, List.set_cons_succ, List.set_cons_zero]
        refine wpAnyH_ready (rs := [6]) (by kernel_rfl) (by simp) ?_
        refine AllReadyH.cons rfl (fun K hK => ?_) AllReadyH.nil
        refine ite_yes (by rfl) ?_
        refine wp_load_mid _ _ rfl gK 0 rfl (rowV .u32 64 keysF).toList _ (rangeV HK.out.drew) Tryd.underlying52 rfl (by rw [Array.length_toList, rowV_size]; exact sizeKeys) ?_
        refine hK.out _ _ trivial (fun hS => ?_)
        clear hK K
        simp only [Act.put, List.getElem_toArray, List.getElem_cons_succ, List.getElem_cons_zero, List.setIfInBounds_toArray, List.set_cons_succ, List.set_cons_zero]
        refine wpAnyH_ready (rs := [7]) (by kernel_rfl) (by simp) ?_
        refine AllReadyH.cons rfl (fun K hK => ?_) AllReadyH.nil
        go_simp
        refine Calls.mono (HC.out _) ?_
        rintro e w5 ⟨rfl, hb5⟩
        have hr5 : RowAt w5 gA 40 .u32 8 cur.at8 := HR.out.drew.below hb5 HR.out.drew.lt
        have hk5 : RowAt w5 gK 52 .u32 64 keysF := HK.out.drew.below hb5 HK.out.drew.lt
        have hB5 : Below w.heap.size w w5 := HB.out.drew.trans (hb5.mono HB.out.drew.size)
        clear hb5
        refine hK.out _ _ trivial (fun hS => ?_)
        clear hK K
        refine wpAnyH_ready (rs := [8]) (by kernel_rfl) (by simp) ?_
        refine AllReadyH.cons rfl (fun K hK => ?_) AllReadyH.nil
        refine ite_yes (by rfl) ?_
        refine wp_store_row _ _ _ rfl gA (rowV .u32 8 new.at8) rfl rfl 40 (rowV .u32 8 cur.at8) hr5 (by rw [rowV_size]; exact sizeFirst) (by rw [rowV_size, rowV_size]) (rowV_one _ _ _) ?_
        have HR6 : Hid (RowAt (w5.setRow gA (rowV .u32 8 new.at8)) gA 40 .u32 8 new.at8) := setRow_heap _ _ _ _ _ _ hr5
        have HK6 : Hid (RowAt (w5.setRow gA (rowV .u32 8 new.at8)) gK 52 .u32 64 keysF) := (setRow_other _ _ _ _ (by omega)).trans hk5
        have HB6 : Hid (Below w.heap.size w (w5.setRow gA (rowV .u32 8 new.at8))) := below_setRow hB5 (by omega) _
        generalize w5.setRow gA (rowV .u32 8 new.at8) = w6 at HR6 HK6 HB6 ⊢
        clear hr5 hk5 hB5
        refine hK.out _ _ trivial (fun hS => ?_)
        clear hK K
        clear hS
        refine wpAnyH_done (by kernel_rfl) ?_ _
        go_wp2
        go_roundw
        case rel => exact ⟨k + 1, by omega, by rw [← HNX.out], by rw [HEQ.out]; exact HR6, HK6, HB6⟩
        case measure => first | exact hMM.out | (rw [HNX.out]; exact hMM.out) | (simp only [intOf]; rw [HNX.out]; exact hMM.out)
      · refine ite_yes (by rfl) ?_
        refine wp_load_mid _ _ rfl gK 0 rfl (rowV .u32 64 keysF).toList _ (rangeV HK.out.drew) Tryd.underlying52 rfl (by rw [Array.length_toList, rowV_size]; exact sizeKeys) ?_
        refine hK.out _ _ trivial (fun hS => ?_)
        clear hK K
        simp only [Act.put, List.getElem_toArray, List.getElem_cons_succ, List.getElem_cons_zero, List.setIfInBounds_toArray, List.set_cons_succ, List.set_cons_zero]
        refine wpAnyH_ready (rs := [0]) (by kernel_rfl) (by simp) ?_
        refine AllReadyH.cons rfl (fun K hK => ?_) AllReadyH.nil
        refine ite_yes (by rfl) ?_
        refine wp_load_mid _ _ rfl gA 0 rfl (rowV .u32 8 cur.at8).toList _ (rangeV HR.out.drew) Tryd.underlying40 rfl (by rw [Array.length_toList, rowV_size]; exact sizeFirst) ?_
        refine hK.out _ _ trivial (fun hS => ?_)
        clear hK K
        simp only [Act.put, List.getElem_toArray, List.getElem_cons_zero, List.setIfInBounds_toArray, List.set_cons_succ, List.set_cons_zero]
        refine wpAnyH_ready (rs := [7]) (by kernel_rfl) (by simp) ?_
        refine AllReadyH.cons rfl (fun K hK => ?_) AllReadyH.nil
        go_simp
        refine Calls.mono (HC.out _) ?_
        rintro e w5 ⟨rfl, hb5⟩
        have hr5 : RowAt w5 gA 40 .u32 8 cur.at8 := HR.out.drew.below hb5 HR.out.drew.lt
        have hk5 : RowAt w5 gK 52 .u32 64 keysF := HK.out.drew.below hb5 HK.out.drew.lt
        have hB5 : Below w.heap.size w w5 := HB.out.drew.trans (hb5.mono HB.out.drew.size)
        clear hb5
        refine hK.out _ _ trivial (fun hS => ?_)
        clear hK K
        refine wpAnyH_ready (rs := [8]) (by kernel_rfl) (by simp) ?_
        refine AllReadyH.cons rfl (fun K hK => ?_) AllReadyH.nil
        refine ite_yes (by rfl) ?_
        refine wp_store_row _ _ _ rfl gA (rowV .u32 8 new.at8) rfl rfl 40 (rowV .u32 8 cur.at8) hr5 (by rw [rowV_size]; exact sizeFirst) (by rw [rowV_size, rowV_size]) (rowV_one _ _ _) ?_
        have HR6 : Hid (RowAt (w5.setRow gA (rowV .u32 8 new.at8)) gA 40 .u32 8 new.at8) := setRow_heap _ _ _ _ _ _ hr5
        have HK6 : Hid (RowAt (w5.setRow gA (rowV .u32 8 new.at8)) gK 52 .u32 64 keysF) := (setRow_other _ _ _ _ (by omega)).trans hk5
        have HB6 : Hid (Below w.heap.size w (w5.setRow gA (rowV .u32 8 new.at8))) := below_setRow hB5 (by omega) _
        generalize w5.setRow gA (rowV .u32 8 new.at8) = w6 at HR6 HK6 HB6 ⊢
        clear hr5 hk5 hB5
        refine hK.out _ _ trivial (fun hS => ?_)
        clear hK K
        clear hS
        refine wpAnyH_done (by kernel_rfl) ?_ _
        go_wp2
        go_roundw
        case rel => exact ⟨k + 1, by omega, by rw [← HNX.out], by rw [HEQ.out]; exact HR6, HK6, HB6⟩
        case measure => first | exact hMM.out | (rw [HNX.out]; exact hMM.out) | (simp only [intOf]; rw [HNX.out]; exact hMM.out)
    · obtain rfl : k = n := by omega
      have hnl : ¬ ((64 * k : Nat) : Int) < ((p.size : Nat) : Int) := by omega
      have HF : Hid (Words (blocks (btN p) start8 k).at8) := fun i => getD_lt (HOK.out k).all i
      generalize (blocks (btN p) start8 k).at8 = f at HR HD HF
      clear HOK HBS HB0
      have HM := run_mkB wr 32 (by omega)
      rw [show ((32 : Nat) : Int) = 32 from rfl] at HM
      have HBn : Hid (Below w.heap.size w (wr.alloc (.cells (rowV .u8 32 (fun _ => 0)) 5))) := HB.out.alloc HB.out.size _
      have HRn : Hid (RowAt (wr.alloc (.cells (rowV .u8 32 (fun _ => 0)) 5)) gA 40 .u32 8 f) := (Lib.alloc_old _ _ _ HR.out.lt).trans HR.out
      have hne : gA ≠ wr.heap.size := by have := HR.out.lt; omega
      have HO : Hid (RowAt (wr.alloc (.cells (rowV .u8 32 (fun _ => 0)) 5)) wr.heap.size 5 .u8 32 (beTo f 0)) := RowAt.ext (heap_alloc_new wr _) (fun i _ => by unfold beTo; rw [if_neg (by omega)])
      have hgO : w.heap.size ≤ wr.heap.size := HB.out.size
      go_wp2
      generalize wr.alloc (.cells (rowV .u8 32 (fun _ => 0)) 5) = w7 at HBn HRn HO ⊢
      generalize wr.heap.size = gO at hne HO hgO ⊢
      clear HM HR HB HK

      go_loopw [8] (fun i wr => ∃ k : Nat, k ≤ 8 ∧ i = .int .i64 (k : Int) ∧ Hid (RowAt wr gA 40 .u32 8 f) ∧ Hid (RowAt wr gO 5 .u8 32 (beTo f (4 * k))) ∧ Hid (Below w.heap.size w wr))
        (fun i _ => 8 - (intOf i).toNat)
      case atStart => exact ⟨0, Nat.zero_le _, rfl, HRn, HO, HBn⟩
      case round =>
        clear HRn HO HBn
        obtain ⟨k, hk, rfl, HR, HO, HB⟩ := hrel
        by_cases hlt : k < 8
        · have hi0 : (0 : Int) ≤ (k : Int) := by omega
          have hi1 : (k : Int) < 8 := by omega
          have hw0 : IntKind.i64.wrap (4 * (k : Int)) = ((4 * k : Nat) : Int) := by rw [IntKind.wrap_i64]; omega
          have hw1 : IntKind.i64.wrap (((4 * k : Nat) : Int) + 1) = ((4 * k + 1 : Nat) : Int) := by rw [IntKind.wrap_i64]; omega
          have hw2 : IntKind.i64.wrap (((4 * k : Nat) : Int) + 2) = ((4 * k + 2 : Nat) : Int) := by rw [IntKind.wrap_i64]; omega
          have hw3 : IntKind.i64.wrap (((4 * k : Nat) : Int) + 3) = ((4 * k + 3 : Nat) : Int) := by rw [IntKind.wrap_i64]; omega
          have hb := HF.out k
          obtain ⟨y0, y1, y2, y3⟩ := byte24 (f k) hb
          have z0 : beF f (4 * k) = f k / 16777216 % 256 := by unfold beF; rw [show 4 * k / 4 = k by omega, show 4 * k % 4 = 0 by omega]; exact y0
          have z1 : beF f (4 * k + 1) = f k / 65536 % 256 := by unfold beF; rw [show (4 * k + 1) / 4 = k by omega, show (4 * k + 1) % 4 = 1 by omega]; exact y1
          have z2 : beF f (4 * k + 2) = f k / 256 % 256 := by unfold beF; rw [show (4 * k + 2) / 4 = k by omega, show (4 * k + 2) % 4 = 2 by omega]; exact y2
          have z3 : beF f (4 * k + 3) = f k % 256 := by unfold beF; rw [show (4 * k + 3) / 4 = k by omega, show (4 * k + 3) % 4 = 3 by omega]; exact y3
          clear y0 y1 y2 y3
          have u0 := beTo_upd f (4 * k)
          have u1 := beTo_upd f (4 * k + 1)
          have u2 := beTo_upd f (4 * k + 2)
          have u3 := beTo_upd f (4 * k + 3)
          have HQ4 : Hid (4 * k + 3 + 1 = 4 * (k + 1)) := by show _ = _; omega
          rw [HQ4.out] at u3
          have n1 : 4 * k + 1 + 1 = 4 * k + 2 := rfl
          have n2 : 4 * k + 2 + 1 = 4 * k + 3 := rfl
          rw [n1] at u1
          rw [n2] at u2
          have l0 : 4 * k < 32 := by omega
          have l1 : 4 * k + 1 < 32 := by omega
          have l2 : 4 * k + 2 < 32 := by omega
          have l3 : 4 * k + 3 < 32 := by omega
          obtain ⟨G, HG⟩ : ∃ G, Hid (beTo f (4 * (k + 1)) = G) := ⟨_, rfl⟩
          rw [HG.out] at u3
          clear n1 n2 HQ4
          generalize 4 * k + 1 = q1 at *
          generalize 4 * k + 2 = q2 at *
          generalize 4 * k + 3 = q3 at *
          generalize 4 * k = q0 at *
          have i0 : (q0 : Int) < 32 := by omega
          have i1 : (q1 : Int) < 32 := by omega
          have i2 : (q2 : Int) < 32 := by omega
          have i3 : (q3 : Int) < 32 := by omega
          have HE0 : Hid (((f k : Nat) : Int) / 16777216 = ((beF f q0 : Nat) : Int)) := by show _ = _; rw [z0]; omega
          have HE1 : Hid (((f k : Nat) : Int) / 65536 % 256 = ((beF f q1 : Nat) : Int)) := by show _ = _; rw [z1]; omega
          have HE2 : Hid (((f k : Nat) : Int) / 256 % 256 = ((beF f q2 : Nat) : Int)) := by show _ = _; rw [z2]; omega
          have HE3 : Hid (((f k : Nat) : Int) % 256 = ((beF f q3 : Nat) : Int)) := by show _ = _; rw [z3]; omega
          clear z0 z1 z2 z3
          have c0 := HR.out.cell hlt
          have d0 := HO.out.cell l0
          have e0 := HO.out.froz q0
          have HOn := HO.out.set l0 (beF f q0)
          rw [u0] at HOn
          have HRn : RowAt (wr.setCell ⟨gO, q0, none⟩ (.int .u8 ((beF f q0 : Nat) : Int))) gA 40 .u32 8 f := (Below.heap_setCell _ _ _ _ hne).trans HR.out
          have HBn : Below w.heap.size w (wr.setCell ⟨gO, q0, none⟩ (.int .u8 ((beF f q0 : Nat) : Int))) := HB.out.setCell hgO _
          go_upto_region 13 with fail
          rw [HE0.out]
          clear c0 d0 e0 HR HO HB
          generalize wr.setCell ⟨gO, q0, none⟩ (.int .u8 ((beF f q0 : Nat) : Int)) = w10 at HOn HRn HBn ⊢
          have HR1 : Hid (RowAt w10 gA 40 .u32 8 f) := HRn
          have HO1 : Hid (RowAt w10 gO 5 .u8 32 (beTo f q1)) := HOn
          have HB1 : Hid _ := HBn
          clear HRn HOn HBn
          have c1 := HR1.out.cell hlt
          have d1 := HO1.out.cell l1
          have e1 := HO1.out.froz q1
          have HOn := HO1.out.set l1 (beF f q1)
          rw [u1] at HOn
          have HRn : RowAt (w10.setCell ⟨gO, q1, none⟩ (.int .u8 ((beF f q1 : Nat) : Int))) gA 40 .u32 8 f := (Below.heap_setCell _ _ _ _ hne).trans HR1.out
          have HBn : Below w.heap.size w (w10.setCell ⟨gO, q1, none⟩ (.int .u8 ((beF f q1 : Nat) : Int))) := HB1.out.setCell hgO _
          go_upto_region 14 with fail
          rw [HE1.out]
          clear c1 d1 e1 HR1 HO1 HB1
          generalize w10.setCell ⟨gO, q1, none⟩ (.int .u8 ((beF f q1 : Nat) : Int)) = w11 at HOn HRn HBn ⊢
          have HR2 : Hid (RowAt w11 gA 40 .u32 8 f) := HRn
          have HO2 : Hid (RowAt w11 gO 5 .u8 32 (beTo f q2)) := HOn
          have HB2 : Hid _ := HBn
          clear HRn HOn HBn
          have c2 := HR2.out.cell hlt
          have d2 := HO2.out.cell l2
          have e2 := HO2.out.froz q2
          have HOn := HO2.out.set l2 (beF f q2)
          rw [u2] at HOn
          have HRn : RowAt (w11.setCell ⟨gO, q2, none⟩ (.int .u8 ((beF f q2 : Nat) : Int))) gA 40 .u32 8 f := (Below.heap_setCell _ _ _ _ hne).trans HR2.out
          have HBn : Below w.heap.size w (w11.setCell ⟨gO, q2, none⟩ (.int .u8 ((beF f q2 : Nat) : Int))) := HB2.out.setCell hgO _
          go_upto_region 15 with fail
          rw [HE2.out]
          clear c2 d2 e2 HR2 HO2 HB2
          generalize w11.setCell ⟨gO, q2, none⟩ (.int .u8 ((beF f q2 : Nat) : Int)) = w12 at HOn HRn HBn ⊢
          have HR3 : Hid (RowAt w12 gA 40 .u32 8 f) := HRn
          have HO3 : Hid (RowAt w12 gO 5 .u8 32 (beTo f q3)) := HOn
          have HB3 : Hid _ := HBn
          clear HRn HOn HBn
          have c3 := HR3.out.cell hlt
          have d3 := HO3.out.cell l3
          have e3 := HO3.out.froz q3
          have HOn := HO3.out.set l3 (beF f q3)
          rw [u3] at HOn
          have HRn : RowAt (w12.setCell ⟨gO, q3, none⟩ (.int .u8 ((beF f q3 : Nat) : Int))) gA 40 .u32 8 f := (Below.heap_setCell _ _ _ _ hne).trans HR3.out
          have HBn : Below w.heap.size w (w12.setCell ⟨gO, q3, none⟩ (.int .u8 ((beF f q3 : Nat) : Int))) := HB3.out.setCell hgO _
          go_upto_region 11 with fail
          rw [HE3.out]
          clear c3 d3 e3 HR3 HO3 HB3
          generalize w12.setCell ⟨gO, q3, none⟩ (.int .u8 ((beF f q3 : Nat) : Int)) = w13 at HOn HRn HBn ⊢
          have HR4 : Hid (RowAt w13 gA 40 .u32 8 f) := HRn
          have HO4 : Hid (RowAt w13 gO 5 .u8 32 (G)) := HOn
          have HB4 : Hid _ := HBn
          clear HRn HOn HBn
          go_wp2
          go_roundw
          case rel => exact ⟨k + 1, by omega, by go_num, HR4, by rw [HG.out]; exact HO4, HB4⟩
          case measure => simp [intOf]; omega
        · obtain rfl : k = 8 := by omega
          have hcv := conv_row (c := 32) HO.out
          go_wp2
          go_ret
          exact ⟨by rw [HD.out, bytesV_ext (f := beTo f (4 * 8)) (g := beF f) (fun i hi => by unfold beTo; rw [if_pos (by omega)])]; rfl, HB.out⟩
end Go.Proofs.YthpkhbcahihbnaaDoor
