/- The program's state behind a block (chapter 21). -/
import Derived.Test.YthpkhbcahihbnaaDoorRing21
import Derived.Test.YthpkhbcahihbnaaDoorTurned21
import Derived.Test.YthpkhbcahihbnaaDoorTabk21
import Derived.WalkKit
import Derived.WalkLawsBesides
import Derived.WalkSpells
import Derived.BigRegion
import Derived.OrdersHeld
import Derived.Deep.RegionHeld
import Derived.Deep.RegionHeld3
import Derived.Deep.MidRow
import Derived.Deep.DeepCutAuto
import Derived.Great.Walk
namespace Go.Proofs.YthpkhbcahihbnaaDoor
open Go.RowKit Go.PlainAid
set_option maxRecDepth 20000
set_option linter.unusedVariables false
set_option linter.unusedSimpArgs false
/-- What stands in memory within a block's rounds. -/
structure Bst (w wr : World) (gr gt : Nat) (s cur : H8) (ws : List Nat) (r : Nat) : Prop where
  bel : Below w.heap.size w wr
  par : RowAt wr w.heap.size 41 .u32 8 s.at8
  res : RowAt wr (w.heap.size + 1) 41 .u32 8 (fun _ => 0)
  ring : RowAt wr gr 86 .u32 16 (ringAt ws r)
  st : RowAt wr gt 41 .u32 8 cur.at8
  ne : gr ≠ gt
  l1 : w.heap.size + 1 < gr
  l2 : w.heap.size + 1 < gt
theorem Bst.word {w wr w' : World} {gr gt r : Nat} {s cur : H8} {ws : List Nat} (h : Bst w wr gr gt s cur ws r) (hg : wr.grownBy w' (some gr)) (hr : RowAt w' gr 86 .u32 16 (ringAt ws (r + 1))) : Bst w w' gr gt s cur ws (r + 1) :=
  ⟨below_gb h.bel h.bel.size hg (by have := h.l1; omega), h.par.grown hg (by have := h.l1; omega), h.res.grown hg (by have := h.l1; omega), hr, h.st.grown hg (Ne.symm h.ne), h.ne, h.l1, h.l2⟩
theorem Bst.next {w wr w' : World} {gr gt r : Nat} {s cur : H8} {ws : List Nat} (h : Bst w wr gr gt s cur ws r) (hb : Below wr.heap.size wr w') : Bst w w' gr gt s cur ws r :=
  ⟨h.bel.trans (hb.mono h.bel.size), h.par.below hb h.par.lt, h.res.below hb h.res.lt, h.ring.below hb h.ring.lt, h.st.below hb h.st.lt, h.ne, h.l1, h.l2⟩
theorem Bst.drew {w wr : World} {gr gt r : Nat} {s cur : H8} {ws : List Nat} (h : Bst w wr gr gt s cur ws r) : Bst w wr.drew gr gt s cur ws r := ⟨h.bel.drew, h.par.drew, h.res.drew, h.ring.drew, h.st.drew, h.ne, h.l1, h.l2⟩
theorem Bst.store {w wr : World} {gr gt r : Nat} {s cur new : H8} {ws : List Nat} (h : Bst w wr gr gt s cur ws r) : Bst w (wr.setRow gt (rowV .u32 8 new.at8)) gr gt s new ws r :=
  ⟨below_setRow h.bel (by have := h.l2; omega) _, (setRow_other _ _ _ _ (by have := h.l2; omega)).trans h.par, (setRow_other _ _ _ _ (by have := h.l2; omega)).trans h.res, (setRow_other _ _ _ _ h.ne).trans h.ring, setRow_heap _ _ _ _ _ _ h.st, h.ne, h.l1, h.l2⟩
def sum8To (f g : Nat → Nat) (k : Nat) : Nat → Nat := fun i => if i < k then (f i + g i) % 4294967296 else f i
theorem sum8To_upd (f g : Nat → Nat) (k : Nat) : upd (sum8To f g k) k ((f k + g k) % 4294967296) = sum8To f g (k + 1) := by
  funext i
  unfold upd sum8To
  by_cases h : i = k
  · subst h; rw [if_pos rfl, if_pos (by omega)]
  · rw [if_neg h]
    by_cases h2 : i < k
    · rw [if_pos h2, if_pos (by omega)]
    · rw [if_neg h2, if_neg (by omega)]
theorem sum8To_all (s t : H8) : ∀ i, i < 8 → sum8To t.at8 s.at8 8 i = (add8 s t).at8 i := by
  intro i hi
  unfold sum8To
  rw [if_pos hi]
  rcases (show i = 0 ∨ i = 1 ∨ i = 2 ∨ i = 3 ∨ i = 4 ∨ i = 5 ∨ i = 6 ∨ i = 7 by omega) with rfl | rfl | rfl | rfl | rfl | rfl | rfl | rfl <;> (show (_ + _) % _ = (_ + _) % _; rw [Nat.add_comm]; rfl)
set_option maxHeartbeats 6400000 in
theorem behind_any (s : H8) (t : ByteArray) (w : World) (hs : s.Ok) (ht : t.size = 64) (hk : KeysHere w) :
    Calls Tryd.prog 22 #[.agg (rowV .u32 8 s.at8), .string t] w fun e w' => e = .returned (.agg (rowV .u32 8 (block8 s (blkW t)).at8)) ∧ Below w.heap.size w w' := by
  have HK : Hid (KeysHere w) := hk
  have HRO : Hid (∀ wz, _) := fun wz => ringOf_any t wz ht
  have h16 := blkW_len t
  have hlt := blkW_lt t
  have HOK : Hid (∀ k, (rounds (blkW t) s k).Ok) := rounds_ok (blkW t) hs
  have HR0 : Hid (rounds (blkW t) s 0 = s) := rfl
  have HRS : Hid (∀ k, rounds (blkW t) s (k + 1) = turn8 (rounds (blkW t) s k) ((keysF k + wd (blkW t) k) % 4294967296)) := fun k => rfl
  have HBL : Hid (block8 s (blkW t) = add8 s (rounds (blkW t) s 64)) := rfl
  have HWD : Hid (∀ i, wd (blkW t) i < 4294967296) := wd_lt hlt
  have HWO : Hid (∀ (g r : Nat) (wz : World), r < 64 → RowAt wz g 86 .u32 16 (ringAt (blkW t) r) → _) := fun g r wz hr h => word_any g (blkW t) r wz h16 hlt hr h
  clear hk h16 hlt ht
  generalize block8 s (blkW t) = B at HBL
  generalize blkW t = ws at *
  have hA1 : ((w.alloc (.cells (rowV .u32 8 s.at8) 41)).alloc (.cells (rowV .u32 8 (fun _ => 0)) 41)).heap[w.heap.size + 1]? = some (.cells (rowV .u32 8 (fun _ => 0)) 41 (0, 0)) := by
    have := heap_alloc_new (w.alloc (.cells (rowV .u32 8 s.at8) 41)) (.cells (rowV .u32 8 (fun _ => 0)) 41)
    simpa using this
  have hA0 : ((w.alloc (.cells (rowV .u32 8 s.at8) 41)).alloc (.cells (rowV .u32 8 (fun _ => 0)) 41)).heap[w.heap.size]? = some (.cells (rowV .u32 8 s.at8) 41 (0, 0)) := (Lib.alloc_old _ _ _ (by simp)).trans (heap_alloc_new w _)
  have hB0 : Below w.heap.size w ((w.alloc (.cells (rowV .u32 8 s.at8) 41)).alloc (.cells (rowV .u32 8 (fun _ => 0)) 41)) := ((Below.refl _ _).alloc (Nat.le_refl _) _).alloc (by simp) _
  have HSZ : Hid (Tryd.prog.underlying 41 = some (.array 8 39)) := Tryd.underlying41
  go_enter Tryd.func22, Tryd.ntmps22
  go_upto_region 1 with fail
  rw [← zeroSha] at hA1 hA0 hB0
  generalize (w.alloc (.cells (rowV .u32 8 s.at8) 41)).alloc (.cells #[.int .u32 0, .int .u32 0, .int .u32 0, .int .u32 0, .int .u32 0, .int .u32 0, .int .u32 0, .int .u32 0] 41) = w0 at hA1 hA0 hB0 ⊢
  rw [zeroSha] at hA1
  have HP0 : Hid (RowAt w0 w.heap.size 41 .u32 8 s.at8) := hA0
  have HP1 : Hid (RowAt w0 (w.heap.size + 1) 41 .u32 8 (fun _ => 0)) := hA1
  have HB : Hid (Below w.heap.size w w0) := hB0
  have hs0 : w.heap.size + 1 < w0.heap.size := (Array.getElem?_eq_some_iff.1 hA1).1
  clear hA0 hA1 hB0
  go_cut [5, 6] (fun s5 s6 wc => ∃ gr gt, s5 = .pointer (some ⟨gr, 0, none⟩) ∧ s6 = .pointer (some ⟨gt, 0, none⟩) ∧ Hid (Bst w wc gr gt s s ws 0))
  case first =>
    refine _root_.Go.wp_region_held (S := fun w' : World => RowAt w' w.heap.size 41 .u32 8 s.at8) (by kernel_rfl) ?_
    have hS : (fun w' : World => RowAt w' w.heap.size 41 .u32 8 s.at8) w0.drew := HP0.out.drew
    refine wpAnyH_take (i := 0) (v := ?_) rfl (by kernel_rfl) (by kernel_rfl) (by kernel_rfl) (fun _ _ _ h => h) (Or.inl ⟨by rfl, ?_⟩) hS ?_
    rotate_left
    · intro w hSw; skip; go_simp; try with_reducible rfl
    simp only [Act.put, List.getElem_toArray, List.getElem_cons_zero, List.setIfInBounds_toArray, List.set_cons_succ, List.set_cons_zero]
    refine wpAnyH_take (i := 2) (v := .agg (rowV .u32 8 s.at8)) rfl (by kernel_rfl) (by kernel_rfl) (by kernel_rfl) (fun _ _ _ h => h) (yieldsIf_load_mid (by rfl) _ _ rfl w.heap.size 0 rfl (rowV .u32 8 s.at8).toList _ (fun w h => rangeV h) Tryd.underlying41 rfl (by rw [Array.length_toList, rowV_size]; exact sizeSha8)) hS ?_
    simp only [Act.put, List.getElem_toArray, List.getElem_cons_succ, List.getElem_cons_zero, List.setIfInBounds_toArray, List.set_cons_succ, List.set_cons_zero]
    refine wpAnyH_ready (rs := [1, 3]) (by kernel_rfl) (by simp) ?_
    refine AllReadyH.cons rfl (fun K hK => ?_) (AllReadyH.cons rfl (fun K hK => ?_) AllReadyH.nil)
    · go_simp
      refine Calls.mono (HRO.out _) ?_
      rintro e w2 ⟨rfl, hring, hb2⟩
      have hp0 : RowAt w2 w.heap.size 41 .u32 8 s.at8 := HP0.out.drew.below hb2 HP0.out.lt
      have hp1 : RowAt w2 (w.heap.size + 1) 41 .u32 8 (fun _ => 0) := HP1.out.drew.below hb2 HP1.out.lt
      have hbz : Below w.heap.size w w2 := HB.out.drew.trans (hb2.mono HB.out.size)
      have hl2 : w0.heap.size < w2.heap.size := hring.lt
      clear hb2
      obtain ⟨gr, hgr⟩ : ∃ gr, gr = w0.drew.heap.size := ⟨_, rfl⟩
      rw [← hgr] at hring
      have hgr2 : gr = w0.heap.size := hgr
      clear hgr
      refine hK.out _ _ hp0 (fun hS => ?_)
      clear hK K
      refine wpAnyH_ready (rs := [3]) (by kernel_rfl) (by simp) ?_
      refine AllReadyH.cons rfl (fun K hK => ?_) AllReadyH.nil
      go_simp
      have hN := heap_alloc_new w2 (.cells (rowV .u32 8 (fun _ => 0)) 41)
      replace hring : RowAt (w2.alloc (.cells (rowV .u32 8 (fun _ => 0)) 41)) gr 86 .u32 16 (ringAt ws 0) := (Lib.alloc_old _ _ _ (by omega)).trans hring
      replace hp0 : RowAt (w2.alloc (.cells (rowV .u32 8 (fun _ => 0)) 41)) w.heap.size 41 .u32 8 s.at8 := (Lib.alloc_old _ _ _ (by omega)).trans hp0
      replace hp1 : RowAt (w2.alloc (.cells (rowV .u32 8 (fun _ => 0)) 41)) (w.heap.size + 1) 41 .u32 8 (fun _ => 0) := (Lib.alloc_old _ _ _ (by omega)).trans hp1
      replace hbz : Below w.heap.size w (w2.alloc (.cells (rowV .u32 8 (fun _ => 0)) 41)) := hbz.alloc hbz.size _
      rw [← zeroSha] at hN hring hp0 hp1 hbz
      generalize w2.alloc (.cells #[.int .u32 0, .int .u32 0, .int .u32 0, .int .u32 0, .int .u32 0, .int .u32 0, .int .u32 0, .int .u32 0] 41) = w3 at hN hring hp0 hp1 hbz ⊢
      try rw [zeroSha] at hN
      try rw [zeroSha] at hp1
      obtain ⟨gt, hgt⟩ : ∃ gt, gt = w2.heap.size := ⟨_, rfl⟩
      rw [← hgt] at hN ⊢
      refine hK.out _ _ hp0 (fun hS => ?_)
      clear hK K
      refine wpAnyH_take (i := 4) (v := ?_) rfl (by kernel_rfl) (by kernel_rfl) (by kernel_rfl) (fun _ _ _ h => h) (Or.inl ⟨by rfl, ?_⟩) hS ?_
      rotate_left
      · intro w hSw; skip; go_simp; try with_reducible rfl
      simp only [Act.put, List.getElem_toArray, List.getElem_cons_succ, List.getElem_cons_zero, List.setIfInBounds_toArray, List.set_cons_succ, List.set_cons_zero]
      refine wpAnyH_ready (rs := [5]) (by kernel_rfl) (by simp) ?_
      refine AllReadyH.cons rfl (fun K hK => ?_) AllReadyH.nil
      refine ite_yes (by rfl) ?_
      refine wp_store_row _ _ _ rfl (gt) (rowV .u32 8 s.at8) rfl rfl 41 (rowV .u32 8 (fun _ => 0)) hN (by rw [rowV_size]; exact sizeSha8) (by rw [rowV_size, rowV_size]) (rowV_one _ _ _) ?_
      have hb5 : Bst w (w3.setRow (gt) (rowV .u32 8 s.at8)) gr (gt) s s ws 0 := ⟨below_setRow hbz (by omega) _, (setRow_other _ _ _ _ (by omega)).trans hp0, (setRow_other _ _ _ _ (by omega)).trans hp1, (setRow_other _ _ _ _ (by omega)).trans hring, setRow_heap _ _ _ _ _ _ hN, by omega, by omega, by omega⟩
      generalize w3.setRow (gt) (rowV .u32 8 s.at8) = w5 at hb5 ⊢
      have HB5 : Hid _ := hb5
      refine hK.out _ _ hb5.par (fun hS => ?_)
      clear hK K
      clear hb5
      clear hS
      refine wpAnyH_done (by kernel_rfl) ?_ _
      go_wp2_with fail
      go_meet
      exact ⟨_, _, rfl, rfl, by first | exact HB5 | (rw [← hgr2, ← hgt]; exact HB5) | (rw [← hsz, ← hgr, ← hgt2]; exact HB5)⟩
    · go_simp
      have hN := heap_alloc_new w0 (.cells (rowV .u32 8 (fun _ => 0)) 41)
      have hp0 : RowAt ((w0.alloc (.cells (rowV .u32 8 (fun _ => 0)) 41)).drew) w.heap.size 41 .u32 8 s.at8 := (Lib.alloc_old _ _ _ (show w.heap.size < w0.heap.size by omega)).trans HP0.out
      have hp1 : RowAt ((w0.alloc (.cells (rowV .u32 8 (fun _ => 0)) 41)).drew) (w.heap.size + 1) 41 .u32 8 (fun _ => 0) := (Lib.alloc_old _ _ _ (show w.heap.size + 1 < w0.heap.size by omega)).trans HP1.out
      have hbz : Below w.heap.size w ((w0.alloc (.cells (rowV .u32 8 (fun _ => 0)) 41)).drew) := (HB.out.alloc HB.out.size _).drew
      have hsz : ((w0.alloc (.cells (rowV .u32 8 (fun _ => 0)) 41)).drew).heap.size = w0.heap.size + 1 := by simp
      replace hN : RowAt ((w0.alloc (.cells (rowV .u32 8 (fun _ => 0)) 41)).drew) w0.heap.size 41 .u32 8 (fun _ => 0) := hN
      rw [← zeroSha] at hN hp0 hp1 hbz hsz
      generalize (w0.alloc (.cells #[.int .u32 0, .int .u32 0, .int .u32 0, .int .u32 0, .int .u32 0, .int .u32 0, .int .u32 0, .int .u32 0] 41)).drew = w3 at hN hp0 hp1 hbz hsz ⊢
      try rw [zeroSha] at hN
      try rw [zeroSha] at hp1
      obtain ⟨gt, hgt2⟩ : ∃ gt, gt = w0.heap.size := ⟨_, rfl⟩
      rw [← hgt2] at hN
      refine hK.out _ _ hp0 (fun hS => ?_)
      clear hK K
      refine wpAnyH_ready (rs := [1]) (by kernel_rfl) (by simp) ?_
      refine AllReadyH.cons rfl (fun K hK => ?_) AllReadyH.nil
      go_simp
      refine Calls.mono (HRO.out _) ?_
      rintro e w4 ⟨rfl, hring, hb2⟩
      replace hp0 := hp0.below hb2 hp0.lt
      replace hp1 := hp1.below hb2 hp1.lt
      replace hbz := hbz.trans (hb2.mono hbz.size)
      replace hN : RowAt w4 gt 41 .u32 8 (fun _ => 0) := RowAt.below hN hb2 (by omega)
      clear hb2
      obtain ⟨gr, hgr⟩ : ∃ gr, gr = w3.heap.size := ⟨_, rfl⟩
      rw [← hgr] at hring
      refine hK.out _ _ hp0 (fun hS => ?_)
      clear hK K
      refine wpAnyH_take (i := 4) (v := ?_) rfl (by kernel_rfl) (by kernel_rfl) (by kernel_rfl) (fun _ _ _ h => h) (Or.inl ⟨by rfl, ?_⟩) hS ?_
      rotate_left
      · intro w hSw; skip; go_simp; try with_reducible rfl
      simp only [Act.put, List.getElem_toArray, List.getElem_cons_succ, List.getElem_cons_zero, List.setIfInBounds_toArray, List.set_cons_succ, List.set_cons_zero]
      rw [← hgt2]
      refine wpAnyH_ready (rs := [5]) (by kernel_rfl) (by simp) ?_
      refine AllReadyH.cons rfl (fun K hK => ?_) AllReadyH.nil
      refine ite_yes (by rfl) ?_
      refine wp_store_row _ _ _ rfl (gt) (rowV .u32 8 s.at8) rfl rfl 41 (rowV .u32 8 (fun _ => 0)) hN (by rw [rowV_size]; exact sizeSha8) (by rw [rowV_size, rowV_size]) (rowV_one _ _ _) ?_
      have hb5 : Bst w (w4.setRow (gt) (rowV .u32 8 s.at8)) gr (gt) s s ws 0 := ⟨below_setRow hbz (by omega) _, (setRow_other _ _ _ _ (by omega)).trans hp0, (setRow_other _ _ _ _ (by omega)).trans hp1, (setRow_other _ _ _ _ (by omega)).trans hring, setRow_heap _ _ _ _ _ _ hN, by omega, by omega, by omega⟩
      generalize w4.setRow (gt) (rowV .u32 8 s.at8) = w5 at hb5 ⊢
      have HB5 : Hid _ := hb5
      refine hK.out _ _ hb5.par (fun hS => ?_)
      clear hK K
      clear hb5
      clear hS
      refine wpAnyH_done (by kernel_rfl) ?_ _
      go_wp2_with fail
      go_meet
      exact ⟨_, _, rfl, rfl, by first | exact HB5 | (rw [← hgr2, ← hgt]; exact HB5) | (rw [← hsz, ← hgr, ← hgt2]; exact HB5)⟩
  case rest =>
    obtain ⟨gr, gt, rfl, rfl, HBS⟩ := hcut
    have hne : Hid (w.heap.size + 1 < gt ∧ w.heap.size ≤ gt) := ⟨HBS.out.l2, by have := HBS.out.l2; omega⟩
    clear HP0 HP1 HB hs0 HRO
    obtain ⟨tk, fk, hkk⟩ := HK.out.next HBS.out.bel HK.out.lt
    go_upto_region 2 with fail
    refine wp_region_lit ?_
    refine wpl_load rfl _ _ rfl _ rfl 1 (rowV .u32 64 keysF) rfl tk fk hkk _ Tryd.underlying52 rfl (sizeKeysV _) ?_
    try simp only [Act.put, List.getElem_toArray, List.getElem_cons_succ, List.getElem_cons_zero, List.setIfInBounds_toArray, List.set_cons_succ, List.set_cons_zero]
    refine Go.Great.wpList_runTo rfl _ rfl (.int .i64 0) wc (by unfold execOp; go_simp) ?_
    try simp only [Act.put, List.getElem_toArray, List.getElem_cons_succ, List.getElem_cons_zero, List.setIfInBounds_toArray, List.set_cons_succ, List.set_cons_zero]
    clear hkk
    go_wp2
    go_loopw [14] (fun i wr => ∃ k : Nat, k ≤ 64 ∧ i = .int .i64 (k : Int) ∧ Hid (Bst w wr gr gt s (rounds ws s k) ws k))
      (fun i _ => 64 - (intOf i).toNat)
    case atStart => exact ⟨0, Nat.zero_le _, rfl, by rw [HR0.out]; exact HBS⟩
    case round =>
      clear HBS
      obtain ⟨k, hk, rfl, HBk⟩ := hrel
      by_cases hlt : k < 64
      · have hi0 : (0 : Int) ≤ (k : Int) := by omega
        have hi1 : (k : Int) < 64 := by omega
        have hix := indexV 52 64 Tryd.underlying52 keysF hlt wr
        have HBd := HBk.out.drew
        have hwk : IntKind.u32.wrap (((keysF k : Nat) : Int) + ((wd ws k : Nat) : Int)) = (((keysF k + wd ws k) % 4294967296 : Nat) : Int) := by rw [IntKind.wrap_u32']; omega
        have hzk : (keysF k + wd ws k) % 4294967296 < 4294967296 := Nat.mod_lt _ (by omega)
        have HNEW := HRS.out k
        have HWk : Hid (∀ wz, RowAt wz gr 86 .u32 16 (ringAt ws k) → _) := fun wz h => HWO.out gr k wz hlt h
        have HTk : Hid (∀ wz, _) := fun wz => turned_any (rounds ws s k) ((keysF k + wd ws k) % 4294967296) wz (HOK.out k) hzk
        rw [← HNEW] at HTk
        obtain ⟨new, HEQ⟩ : ∃ new, Hid (rounds ws s (k + 1) = new) := ⟨_, rfl⟩
        rw [HEQ.out] at HTk
        clear HNEW
        generalize rounds ws s k = cur at HBk HBd HTk
        generalize (keysF k + wd ws k) % 4294967296 = z at hwk hzk HTk
        generalize wd ws k = y at hwk HWk
        generalize keysF k = x at hwk hix
        go_wp2
        refine _root_.Go.wp_region_held (S := fun _ : World => True) (by kernel_rfl) ?_
        have hS : (fun _ : World => True) wr.drew := trivial
        refine wpAnyH_take (i := 1) (v := ?_) rfl (by kernel_rfl) (by kernel_rfl) (by kernel_rfl) (fun _ _ _ h => h) (Or.inl ⟨by rfl, ?_⟩) hS ?_
        rotate_left
        · intro w hSw; skip; go_simp; try with_reducible rfl
        simp only [Act.put, List.getElem_toArray, List.getElem_cons_succ, List.getElem_cons_zero, List.setIfInBounds_toArray, List.set_cons_succ, List.set_cons_zero]
        refine wpAnyH_take (i := 2) (v := ?_) rfl (by kernel_rfl) (by kernel_rfl) (by kernel_rfl) (fun _ _ _ h => h) (Or.inl ⟨by rfl, ?_⟩) hS ?_
        rotate_left
        · intro w hSw; skip; go_simp; try with_reducible rfl
        simp only [Act.put, List.getElem_toArray, List.getElem_cons_succ, List.getElem_cons_zero, List.setIfInBounds_toArray, List.set_cons_succ, List.set_cons_zero]
        refine wpAnyH_take (i := 3) (v := ?_) rfl (by kernel_rfl) (by kernel_rfl) (by kernel_rfl) (fun _ _ _ h => h) (Or.inl ⟨by rfl, ?_⟩) hS ?_
        rotate_left
        · intro w hSw; skip; go_simp; try with_reducible rfl
        simp only [Act.put, List.getElem_toArray, List.getElem_cons_succ, List.getElem_cons_zero, List.setIfInBounds_toArray, List.set_cons_succ, List.set_cons_zero]
        refine wpAnyH_ready (rs := [0, 4]) (by kernel_rfl) (by simp) ?_
        refine AllReadyH.cons rfl (fun K hK => ?_) (AllReadyH.cons rfl (fun K hK => ?_) AllReadyH.nil)
        · refine ite_yes (by rfl) ?_
          refine wp_load_mid _ _ rfl gt 0 rfl (rowV .u32 8 cur.at8).toList _ (rangeV HBd.st) Tryd.underlying41 rfl (by rw [Array.length_toList, rowV_size]; exact sizeSha8) ?_
          refine hK.out _ _ trivial (fun hS => ?_)
          clear hK K
          simp only [Act.put, List.getElem_toArray, List.getElem_cons_zero, List.setIfInBounds_toArray, List.set_cons_succ, List.set_cons_zero]
          refine wpAnyH_ready (rs := [4]) (by kernel_rfl) (by simp) ?_
          refine AllReadyH.cons rfl (fun K hK => ?_) AllReadyH.nil
          go_simp
          refine Calls.mono (HWk.out _ HBd.ring) ?_
          rintro e w2 ⟨rfl, hr2, hg2⟩
          have HB2 := HBd.word hg2 hr2
          clear hr2 hg2
          refine hK.out _ _ trivial (fun hS => ?_)
          clear hK K
          refine wpAnyH_take (i := 5) (v := ?_) rfl (by kernel_rfl) (by kernel_rfl) (by kernel_rfl) (fun _ _ _ h => h) (Or.inl ⟨by rfl, ?_⟩) hS ?_
          rotate_left
          · intro w hSw; skip; go_simp; try with_reducible rfl
          simp only [Act.put, List.getElem_toArray, List.getElem_cons_succ, List.getElem_cons_zero, List.setIfInBounds_toArray, List.set_cons_succ, List.set_cons_zero]
          refine wpAnyH_ready (rs := [6]) (by kernel_rfl) (by simp) ?_
          refine AllReadyH.cons rfl (fun K hK => ?_) AllReadyH.nil
          go_simp
          refine Calls.mono (HTk.out _) ?_
          rintro e w3 ⟨rfl, hb3⟩
          have HB3 := HB2.next hb3
          clear hb3 HB2
          refine hK.out _ _ trivial (fun hS => ?_)
          clear hK K
          refine wpAnyH_ready (rs := [7]) (by kernel_rfl) (by simp) ?_
          refine AllReadyH.cons rfl (fun K hK => ?_) AllReadyH.nil
          refine ite_yes (by rfl) ?_
          refine wp_store_row _ _ _ rfl gt (rowV .u32 8 new.at8) rfl rfl 41 (rowV .u32 8 cur.at8) HB3.st (by rw [rowV_size]; exact sizeSha8) (by rw [rowV_size, rowV_size]) (rowV_one _ _ _) ?_
          have HB4 : Hid _ := HB3.store (new := new)
          clear HB3
          generalize w3.setRow gt (rowV .u32 8 new.at8) = w4 at HB4 ⊢
          refine hK.out _ _ trivial (fun hS => ?_)
          clear hK K
          clear hS
          refine wpAnyH_done (by kernel_rfl) ?_ _
          go_wp2
          go_roundw
          case rel => exact ⟨k + 1, by omega, by go_num, by rw [HEQ.out]; exact HB4⟩
          case measure => simp [intOf]; omega
        · go_simp
          refine Calls.mono (HWk.out _ HBd.ring) ?_
          rintro e w2 ⟨rfl, hr2, hg2⟩
          have HB2 := HBd.word hg2 hr2
          clear hr2 hg2
          refine hK.out _ _ trivial (fun hS => ?_)
          clear hK K
          refine wpAnyH_take (i := 5) (v := ?_) rfl (by kernel_rfl) (by kernel_rfl) (by kernel_rfl) (fun _ _ _ h => h) (Or.inl ⟨by rfl, ?_⟩) hS ?_
          rotate_left
          · intro w hSw; skip; go_simp; try with_reducible rfl
          simp only [Act.put, List.getElem_toArray, List.getElem_cons_succ, List.getElem_cons_zero, List.setIfInBounds_toArray, List.set_cons_succ, List.set_cons_zero]
          refine wpAnyH_ready (rs := [0]) (by kernel_rfl) (by simp) ?_
          refine AllReadyH.cons rfl (fun K hK => ?_) AllReadyH.nil
          refine ite_yes (by rfl) ?_
          refine wp_load_mid _ _ rfl gt 0 rfl (rowV .u32 8 cur.at8).toList _ (rangeV HB2.st) Tryd.underlying41 rfl (by rw [Array.length_toList, rowV_size]; exact sizeSha8) ?_
          refine hK.out _ _ trivial (fun hS => ?_)
          clear hK K
          simp only [Act.put, List.getElem_toArray, List.getElem_cons_zero, List.setIfInBounds_toArray, List.set_cons_succ, List.set_cons_zero]
          refine wpAnyH_ready (rs := [6]) (by kernel_rfl) (by simp) ?_
          refine AllReadyH.cons rfl (fun K hK => ?_) AllReadyH.nil
          go_simp
          refine Calls.mono (HTk.out _) ?_
          rintro e w3 ⟨rfl, hb3⟩
          have HB3 := HB2.next hb3
          clear hb3 HB2
          refine hK.out _ _ trivial (fun hS => ?_)
          clear hK K
          refine wpAnyH_ready (rs := [7]) (by kernel_rfl) (by simp) ?_
          refine AllReadyH.cons rfl (fun K hK => ?_) AllReadyH.nil
          refine ite_yes (by rfl) ?_
          refine wp_store_row _ _ _ rfl gt (rowV .u32 8 new.at8) rfl rfl 41 (rowV .u32 8 cur.at8) HB3.st (by rw [rowV_size]; exact sizeSha8) (by rw [rowV_size, rowV_size]) (rowV_one _ _ _) ?_
          have HB4 : Hid _ := HB3.store (new := new)
          clear HB3
          generalize w3.setRow gt (rowV .u32 8 new.at8) = w4 at HB4 ⊢
          refine hK.out _ _ trivial (fun hS => ?_)
          clear hK K
          clear hS
          refine wpAnyH_done (by kernel_rfl) ?_ _
          go_wp2
          go_roundw
          case rel => exact ⟨k + 1, by omega, by go_num, by rw [HEQ.out]; exact HB4⟩
          case measure => simp [intOf]; omega
      · obtain rfl : k = 64 := by omega
        have hne2 := HBk.out.l2
        have HT0 : Hid (RowAt wr gt 41 .u32 8 (sum8To (rounds ws s 64).at8 s.at8 0)) := HBk.out.st.ext (fun i _ => by unfold sum8To; rw [if_neg (by omega)])
        have HP : Hid (RowAt wr w.heap.size 41 .u32 8 s.at8) := HBk.out.par
        have HQ : Hid (RowAt wr (w.heap.size + 1) 41 .u32 8 (fun _ => 0)) := HBk.out.res
        have HB : Hid (Below w.heap.size w wr) := HBk.out.bel
        have HZB : Hid (∀ i, i < 8 → sum8To (rounds ws s 64).at8 s.at8 8 i = B.at8 i) := by rw [HBL.out]; exact sum8To_all s (rounds ws s 64)
        have HTW : Hid (Words (rounds ws s 64).at8) := fun i => getD_lt (HOK.out 64).all i
        clear HBk HOK HRS HR0 HWO HWD HBL
        generalize (rounds ws s 64).at8 = T at HT0 HZB HTW
        generalize hS8 : s.at8 = S at *
        go_wp2
        go_loopw [26] (fun i wr => ∃ k : Nat, k ≤ 8 ∧ i = .int .i64 (k : Int) ∧ Hid (Below w.heap.size w wr) ∧ Hid (RowAt wr w.heap.size 41 .u32 8 S) ∧ Hid (RowAt wr (w.heap.size + 1) 41 .u32 8 (fun _ => 0)) ∧ Hid (RowAt wr gt 41 .u32 8 (sum8To T S k)))
          (fun i _ => 8 - (intOf i).toNat)
        case atStart => exact ⟨0, Nat.zero_le _, rfl, HB, HP, HQ, HT0⟩
        case round =>
          clear HB HP HQ HT0
          obtain ⟨k, hk, rfl, HB, HP, HQ, HT⟩ := hrel
          by_cases hlt : k < 8
          · have hi0 : (0 : Int) ≤ (k : Int) := by omega
            have hi1 : (k : Int) < 8 := by omega
            have c1 := HT.out.cell hlt
            have c0 := HP.out.cell hlt
            have z1 := HT.out.froz k
            have HE : Hid ((((sum8To T S k k : Nat) : Int) + ((S k : Nat) : Int)) % 4294967296 = (((T k + S k) % 4294967296 : Nat) : Int)) := by
              show _ = _
              rw [show sum8To T S k k = T k from if_neg (by omega)]
              omega
            have HB2 : Hid (∀ v, Below w.heap.size w ((wr.setCell ⟨gt, k, none⟩ v).drew)) := fun v => (HB.out.setCell (show w.heap.size ≤ gt by omega) v).drew
            have HP2 : Hid (∀ v, RowAt ((wr.setCell ⟨gt, k, none⟩ v).drew) w.heap.size 41 .u32 8 S) := fun v => RowAt.drew ((Below.heap_setCell _ _ _ _ (show w.heap.size ≠ gt by omega)).trans HP.out)
            have HQ2 : Hid (∀ v, RowAt ((wr.setCell ⟨gt, k, none⟩ v).drew) (w.heap.size + 1) 41 .u32 8 (fun _ => 0)) := fun v => RowAt.drew ((Below.heap_setCell _ _ _ _ (show w.heap.size + 1 ≠ gt by omega)).trans HQ.out)
            have HT2 : Hid (RowAt ((wr.setCell ⟨gt, k, none⟩ (.int .u32 (((T k + S k) % 4294967296 : Nat) : Int))).drew) gt 41 .u32 8 (sum8To T S (k + 1))) := by
              rw [← sum8To_upd]; exact (HT.out.set hlt _).drew
            clear HB HP HQ HT
            go_wp2
            go_region
            all_goals
              rw [HE.out]
              go_wp2
              go_roundw
              case rel => exact ⟨k + 1, by omega, by go_num, HB2.out _, HP2.out _, HQ2.out _, HT2⟩
              case measure => simp [intOf]; omega
          · obtain rfl : k = 8 := by omega
            have hX : rowV .u32 8 (sum8To T S 8) = rowV .u32 8 B.at8 := rowV_ext HZB.out
            have hT : wr.heap[gt]? = some (.cells (rowV .u32 8 B.at8) 41 (0, 0)) := by have h := HT.out; unfold RowAt at h; rw [hX] at h; exact h
            go_upto_region 12 with fail
            refine wp_region_lit ?_
            refine wpl_load rfl _ _ rfl _ rfl gt (rowV .u32 8 B.at8) rfl 41 (0, 0) hT _ Tryd.underlying41 rfl (sizeShaV _) ?_
            try simp only [Act.put, List.getElem_toArray, List.getElem_cons_succ, List.getElem_cons_zero, List.setIfInBounds_toArray, List.set_cons_succ, List.set_cons_zero]
            refine wpList_store_rowTo rfl _ _ _ rfl rfl (w.heap.size + 1) (rowV .u32 8 B.at8) rfl rfl 41 (rowV .u32 8 (fun _ => 0)) HQ.out (sizeShaV _) (by rw [rowV_size, rowV_size]) (rowV_one _ _ _) ?_
            have hR : (wr.setRow (w.heap.size + 1) (rowV .u32 8 B.at8)).heap[w.heap.size + 1]? = some (.cells (rowV .u32 8 B.at8) 41 (0, 0)) := setRow_heap _ _ _ _ _ _ HQ.out
            have hBB := below_setRow HB.out (show w.heap.size ≤ w.heap.size + 1 by omega) (rowV .u32 8 B.at8)
            generalize wr.setRow (w.heap.size + 1) (rowV .u32 8 B.at8) = wz at hR hBB ⊢
            go_wp2
            refine bodyPost_ret (results_cell_row rfl _ _ (w.heap.size + 1) 41 (rowV .u32 8 B.at8) (0, 0) _ rfl ?_ Tryd.underlying41 rfl (sizeShaV _)) rfl ?_
            · exact hR
            · exact ⟨rfl, hBB⟩
end Go.Proofs.YthpkhbcahihbnaaDoor
