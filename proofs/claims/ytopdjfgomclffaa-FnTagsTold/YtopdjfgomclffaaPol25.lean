/- The program's Poly1305 (chapter 25). -/
import Derived.Test.YtopdjfgomclffaaPof25
import Derived.Test.YtopdjfgomclffaaAdd25
import Derived.Test.YtopdjfgomclffaaTim25
import Derived.Test.YtopdjfgomclffaaTxt25
import Derived.Test.YtopdjfgomclffaaNum25
import Derived.Test.YtopdjfgomclffaaClp25
import Derived.Test.YtopdjfgomclffaaAdt25
import Derived.Test.YtopdjfgomclffaaSubT
import Derived.OrdersHeld
import Derived.Deep.RegionHeld
import Derived.Deep.RegionHeld3
import Derived.Deep.MidRow
import Derived.Laws.Cover3
import Derived.WalkKit
import Derived.WalkLawsBesides
import Derived.WalkSpells
import Derived.BigRegion
import Derived.Laws.Small
import Derived.Below
import Derived.OwnWalk
import Derived.PlainAid
import Derived.Great.Walk
namespace Go.Proofs.Ytopdjfgomclffaa
open Go.RowKit Go.PlainAid
set_option maxRecDepth 20000
set_option linter.unusedVariables false
set_option linter.unusedSimpArgs false
/-- Block number k, with the byte behind it. -/
def blkP (t : ByteArray) (k : Nat) : ByteArray := t.extract (16 * k) (min (16 * k + 16) t.size) ++ ⟨#[1]⟩
theorem blkP_size (t : ByteArray) {k : Nat} (h : 16 * k < t.size) : (blkP t k).size ≤ 17 := by
  unfold blkP
  rw [sz_app, sub_size t _ _ (by omega) (by omega)]
  have : (⟨#[1]⟩ : ByteArray).size = 1 := rfl
  omega
/-- The sum behind k blocks. -/
def pH (key t : ByteArray) : Nat → List Int
  | 0 => z5
  | k + 1 => canonP (lval pb (canonP (lval pb (pH key t k) + lval pb (canonP ((nvT (blkP t k) : Nat) : Int)))) * lval pb (canonP ((nvT (clampT key) : Nat) : Int)))
theorem pH_lok (key t : ByteArray) : ∀ k, lok pb (pH key t k)
  | 0 => ⟨by decide, by decide, by decide, by decide, by decide, by decide, by decide, by decide, by decide, by decide, trivial⟩
  | k + 1 => canonP_ok _
def nbP (t : ByteArray) : Nat := (t.size + 15) / 16
/-- What Poly1305 answers. -/
def polyT (key t : ByteArray) : ByteArray := if key.size = 32 then adT (byT (lval pb (pH key t (nbP t))).toNat) (key.extract 16 32) else ⟨#[]⟩
theorem byT_size (V : Nat) : (byT V).size = 16 := strOf_size _ _
set_option maxHeartbeats 3200000 in
theorem implPoly_any (key t : ByteArray) (w : World) (ht : t.size ≤ 1000000000) :
    Calls Try.prog 10 #[.string key, .string t] w fun e w' => e = .returned (.tuple #[.string (polyT key t), .bool (decide (key.size = 32))]) ∧ Below w.heap.size w w' := by
  by_cases hk : key.size = 32
  · have hks : ((key.size : Nat) : Int) = 32 := by omega
    have HE : Hid (polyT key t = adT (byT (lval pb (pH key t (nbP t))).toNat) (key.extract 16 32) ∧ decide (key.size = 32) = true) := ⟨if_pos hk, decide_eq_true hk⟩
    have hx2 : (key.extract 16 32).size = 16 := by rw [ByteArray.size_extract]; omega
    have HCL : Hid (∀ wz : World, Calls Try.prog 31 #[.string key] wz fun e w' => e = .returned (.string (clampT key)) ∧ Below wz.heap.size wz w') := fun wz => implClamp_any key wz hk
    have HRO : Hid (∀ wz : World, Calls Try.prog 29 #[.string (clampT key)] wz fun e w' => e = .returned (.agg (rowL .u64 (canonP ((nvT (clampT key) : Nat) : Int)))) ∧ Below wz.heap.size wz w') := fun wz => polyOf_any (clampT key) wz (by rw [clampT_size]; omega)
    have HBK : Hid (∀ (k : Nat) (wz : World), 16 * k < t.size → Calls Try.prog 29 #[.string (blkP t k)] wz fun e w' => e = .returned (.agg (rowL .u64 (canonP ((nvT (blkP t k) : Nat) : Int)))) ∧ Below wz.heap.size wz w') := fun k wz h => polyOf_any (blkP t k) wz (blkP_size t h)
    have HNX : Hid (∀ k, pH key t (k + 1) = canonP (lval pb (canonP (lval pb (pH key t k) + lval pb (canonP ((nvT (blkP t k) : Nat) : Int)))) * lval pb (canonP ((nvT (clampT key) : Nat) : Int)))) := fun k => rfl
    have HPL : Hid (∀ k, lok pb (pH key t k)) := pH_lok key t
    have HP0 : Hid (pH key t 0 = z5) := rfl
    have hrok : lok pb (canonP ((nvT (clampT key) : Nat) : Int)) := canonP_ok _
    generalize canonP ((nvT (clampT key) : Nat) : Int) = RL at HRO HNX hrok
    have hr5 : RL.length = 5 := lok_len hrok
    have HRK : Hid (lok pb RL) := hrok
    clear hrok
    have hA0 : RowZ (w.alloc (.cells #[.int .u64 0, .int .u64 0, .int .u64 0, .int .u64 0, .int .u64 0] 52)) w.heap.size 52 .u64 z5 := heap_alloc_new w _
    have hB0 : Below w.heap.size w (w.alloc (.cells #[.int .u64 0, .int .u64 0, .int .u64 0, .int .u64 0, .int .u64 0] 52)) := (Below.refl _ _).alloc (Nat.le_refl _) _
    go_enter Try.func10, Try.ntmps10
    go_upto_region 4 with fail
    generalize w.alloc (.cells #[.int .u64 0, .int .u64 0, .int .u64 0, .int .u64 0, .int .u64 0] 52) = w0 at hA0 hB0 ⊢
    have hs0 : w.heap.size < w0.heap.size := hA0.lt
    refine wp_region_lit ?_
    refine wpl_move rfl _ rfl _ (.string key) rfl rfl ?_
    try simp only [Act.put, List.getElem_toArray, List.getElem_cons_succ, List.getElem_cons_zero, List.setIfInBounds_toArray, List.set_cons_succ, List.set_cons_zero]
    go_wp2_with fail
    refine Calls.mono (HCL.out _) ?_
    rintro e w1 ⟨rfl, hb⟩
    rename_i hq
    refine hq _ _ ?_
    clear hq
    try simp only [Act.put, List.getElem_toArray, List.getElem_cons_succ, List.getElem_cons_zero, List.setIfInBounds_toArray, List.set_cons_succ, List.set_cons_zero]
    replace hA0 := hA0.next hb
    replace hB0 := hB0.trans (hb.mono hB0.size)
    replace hs0 := Nat.lt_of_lt_of_le hs0 hb.size
    clear hb
    go_wp2_with fail
    refine Calls.mono (HRO.out _) ?_
    rintro e w2 ⟨rfl, hb⟩
    rename_i hq
    refine hq _ _ ?_
    clear hq
    try simp only [Act.put, List.getElem_toArray, List.getElem_cons_succ, List.getElem_cons_zero, List.setIfInBounds_toArray, List.set_cons_succ, List.set_cons_zero]
    replace hA0 := hA0.next hb
    replace hB0 := hB0.trans (hb.mono hB0.size)
    replace hs0 := Nat.lt_of_lt_of_le hs0 hb.size
    clear hb
    refine Go.Great.wpList_allocTo rfl _ rfl (.pointer (some ⟨w2.heap.size, 0, none⟩)) (.cells (rowL .u64 z5) 52) (by rw [← zeroPn]; unfold execOp; go_simp) ?_
    try simp only [Act.put, List.getElem_toArray, List.getElem_cons_succ, List.getElem_cons_zero, List.setIfInBounds_toArray, List.set_cons_succ, List.set_cons_zero]
    have hN := heap_alloc_new w2 (.cells (rowL .u64 z5) 52)
    refine wpList_store_rowTo rfl _ _ _ rfl rfl (w2.heap.size) (rowL .u64 RL) rfl rfl 52 (rowL .u64 z5) hN (sizePnL hr5) (by first | rfl | (simp only [rowL_size]; exact ((rfl : z5.length = 5)).trans (hr5).symm)) (rowL_one _ _) ?_
    try simp only [Act.put, List.getElem_toArray, List.getElem_cons_succ, List.getElem_cons_zero, List.setIfInBounds_toArray, List.set_cons_succ, List.set_cons_zero]
    have HR : Hid (RowZ ((w2.alloc (.cells (rowL .u64 z5) 52)).setRow w2.heap.size (rowL .u64 RL)) w2.heap.size 52 .u64 RL) := setRow_heap _ _ _ _ _ _ hN
    have HS : Hid (RowZ ((w2.alloc (.cells (rowL .u64 z5) 52)).setRow w2.heap.size (rowL .u64 RL)) w.heap.size 52 .u64 (pH key t 0)) := by rw [HP0.out]; exact (setRow_other _ _ _ _ (by omega)).trans ((Lib.alloc_old _ _ _ (by omega)).trans hA0)
    have HB : Hid (Below w.heap.size w ((w2.alloc (.cells (rowL .u64 z5) 52)).setRow w2.heap.size (rowL .u64 RL))) := below_setRow (hB0.alloc hB0.size _) hB0.size _
    generalize ((w2.alloc (.cells (rowL .u64 z5) 52)).setRow w2.heap.size (rowL .u64 RL)) = w3 at HR HS HB ⊢
    generalize w2.heap.size = g7 at hs0 HR ⊢
    clear hN hA0 hB0 HCL HRO
    go_wp2
    go_loopw [8] (fun i wr => ∃ k j : Nat, k ≤ nbP t ∧ Hid (j = 16 * k) ∧ i = .int .i64 (j : Int) ∧ Hid (Below w.heap.size w wr) ∧ Hid (RowZ wr w.heap.size 52 .u64 (pH key t k)) ∧ Hid (RowZ wr g7 52 .u64 RL))
      (fun i _ => t.size + 16 - (intOf i).toNat)
    case atStart => exact ⟨0, 0, Nat.zero_le _, rfl, rfl, HB, HS, HR⟩
    case round =>
      clear HB HS HR
      obtain ⟨k, j, hkn, HJ, rfl, HB, HS, HR⟩ := hrel
      by_cases hlt : j < t.size
      · have hj0 : (0 : Int) ≤ (j : Int) := by omega
        have hj1 : (j : Int) < (t.size : Int) := by omega
        have hjk := HJ.out
        have w1 : IntKind.i64.wrap ((j : Int) + 16) = ((j + 16 : Nat) : Int) := by rw [IntKind.wrap_i64]; omega
        have hmin : (if ((t.size : Nat) : Int) < ((j + 16 : Nat) : Int) then ((t.size : Nat) : Int) else ((j + 16 : Nat) : Int)) = ((min (16 * k + 16) t.size : Nat) : Int) := by rw [hjk]; split <;> omega
        have hmin2 : min ((j + 16 : Nat) : Int) ((t.size : Nat) : Int) = ((min (16 * k + 16) t.size : Nat) : Int) := by rw [hjk]; omega
        have HBL : Hid (t.extract j (min (16 * k + 16) t.size) ++ ⟨#[1]⟩ = blkP t k) := by show _ = _; rw [hjk]; rfl
        have hm1 : (j : Int) ≤ ((min (16 * k + 16) t.size : Nat) : Int) := by omega
        have hm2 : ((min (16 * k + 16) t.size : Nat) : Int) ≤ (t.size : Int) := by omega
        have HK : Hid (∀ wz : World, Calls Try.prog 29 #[.string (blkP t k)] wz fun e w' => e = .returned (.agg (rowL .u64 (canonP ((nvT (blkP t k) : Nat) : Int)))) ∧ Below wz.heap.size wz w') := fun wz => HBK.out k wz (by omega)
        have HN1 : Hid _ := HNX.out k
        have hkn2 : k + 1 ≤ nbP t := by unfold nbP; omega
        generalize min (16 * k + 16) t.size = e16 at hmin hmin2 HBL hm1 hm2
        generalize hje : j + 16 = j16 at w1 hmin hmin2
        have HJ16 : Hid (j + 16 = j16) := hje
        clear hje
        generalize blkP t k = B at HBL HK HN1
        have hSok := HPL.out k
        have hS5 : (pH key t k).length = 5 := lok_len hSok
        have hBok : lok pb (canonP ((nvT B : Nat) : Int)) := canonP_ok _
        generalize canonP ((nvT B : Nat) : Int) = Bl at HK HN1 hBok
        have hP1 : Hid (∀ wz : World, _) := fun wz => plus_any (pH key t k) Bl wz hSok hBok
        have hM1 : Hid (∀ wz : World, _) := fun wz => times_any (canonP (lval pb (pH key t k) + lval pb Bl)) RL wz (canonP_ok _) HRK.out
        generalize canonP (lval pb (pH key t k) + lval pb Bl) = P1 at HN1 hP1 hM1
        rw [← HN1.out] at hM1
        have hN5 : (pH key t (k + 1)).length = 5 := lok_len (HPL.out (k + 1))
        generalize hS1 : pH key t (k + 1) = S1 at hM1 HN1 hN5
        have HN2 : Hid (pH key t (k + 1) = S1) := hS1
        clear hS1 HN1
        generalize hS0 : pH key t k = S0 at HS hS5 hP1
        clear hjk hSok hBok hS0
        go_upto_region 9 with fail
        try rw [HBL.out]
        clear hmin hmin2 hm1 hm2
        refine _root_.Go.wp_region_held (S := fun w' : World => RowZ w' g7 52 .u64 RL) (by kernel_rfl) ?_
        have hS : (fun w' : World => RowZ w' g7 52 .u64 RL) wr.drew := HR.out.drew
        have hS0 : RowZ wr.drew w.heap.size 52 .u64 S0 := HS.out.drew
        have hB0 : Below w.heap.size w wr.drew := HB.out.drew
        clear HS HR HB
        show wpAnyH _ _ _ _ _ _ _ _ wr.drew
        generalize wr.drew = v0 at hS hS0 hB0 ⊢
        refine wpAnyH_take (i := 1) (v := ?_) rfl (by kernel_rfl) (by kernel_rfl) (by kernel_rfl) (fun _ _ _ h => h) (Or.inl ⟨by rfl, ?_⟩) hS ?_
        rotate_left
        · intro w hSw; skip; go_simp; try with_reducible rfl
        try simp only [Act.put, List.getElem_toArray, List.getElem_cons_succ, List.getElem_cons_zero, List.setIfInBounds_toArray, List.set_cons_succ, List.set_cons_zero]
        refine wpAnyH_take (i := 4) (v := .agg (rowL .u64 RL)) rfl (by kernel_rfl) (by kernel_rfl) (by kernel_rfl) (fun _ _ _ h => h) (yieldsIf_load_mid (by rfl) _ _ rfl g7 0 rfl (RL.map (Value.int .u64)) _ (fun w h => rangePn h) Try.underlying52 rfl (by rw [List.length_map, hr5]; exact sizePn)) hS ?_
        try simp only [Act.put, List.getElem_toArray, List.getElem_cons_succ, List.getElem_cons_zero, List.setIfInBounds_toArray, List.set_cons_succ, List.set_cons_zero]
        refine wpAnyH_ready (rs := [0, 2]) (by kernel_rfl) (by simp) ?_
        refine AllReadyH.cons rfl (fun K hK => ?_) (AllReadyH.cons rfl (fun K hK => ?_) AllReadyH.nil)
        · refine ite_yes (by rfl) ?_
          refine wp_load_row _ _ rfl _ rfl w.heap.size (rowL .u64 S0) rfl 52 (0, 0) hS0 _ Try.underlying52 rfl (sizePnL hS5) ?_
          refine hK.out _ _ hS (fun hS => ?_)
          clear hK K
          try simp only [Act.put, List.getElem_toArray, List.getElem_cons_succ, List.getElem_cons_zero, List.setIfInBounds_toArray, List.set_cons_succ, List.set_cons_zero]
          refine wpAnyH_ready (rs := [2]) (by kernel_rfl) (by simp) ?_
          refine AllReadyH.cons rfl (fun K hK => ?_) AllReadyH.nil
          go_simp
          refine Calls.mono (HK.out _) ?_
          rintro e v1 ⟨rfl, hb⟩
          replace hS0 := hS0.next hb
          have hS' := RowZ.next (w := v0) hS hb
          replace hB0 := hB0.trans (hb.mono hB0.size)
          clear hb
          refine hK.out _ _ hS' (fun hS => ?_)
          clear hK K hS'
          try simp only [Act.put, List.getElem_toArray, List.getElem_cons_succ, List.getElem_cons_zero, List.setIfInBounds_toArray, List.set_cons_succ, List.set_cons_zero]
          refine wpAnyH_ready (rs := [3]) (by kernel_rfl) (by simp) ?_
          refine AllReadyH.cons rfl (fun K hK => ?_) AllReadyH.nil
          go_simp
          refine Calls.mono (hP1.out _) ?_
          rintro e v2 ⟨rfl, hb⟩
          replace hS0 := hS0.next hb
          have hS' := RowZ.next (w := v1) hS hb
          replace hB0 := hB0.trans (hb.mono hB0.size)
          clear hb
          refine hK.out _ _ hS' (fun hS => ?_)
          clear hK K hS'
          try simp only [Act.put, List.getElem_toArray, List.getElem_cons_succ, List.getElem_cons_zero, List.setIfInBounds_toArray, List.set_cons_succ, List.set_cons_zero]
          refine wpAnyH_ready (rs := [5]) (by kernel_rfl) (by simp) ?_
          refine AllReadyH.cons rfl (fun K hK => ?_) AllReadyH.nil
          go_simp
          refine Calls.mono (hM1.out _) ?_
          rintro e v3 ⟨rfl, hb⟩
          replace hS0 := hS0.next hb
          have hS' := RowZ.next (w := v2) hS hb
          replace hB0 := hB0.trans (hb.mono hB0.size)
          clear hb
          refine hK.out _ _ hS' (fun hS => ?_)
          clear hK K hS'
          try simp only [Act.put, List.getElem_toArray, List.getElem_cons_succ, List.getElem_cons_zero, List.setIfInBounds_toArray, List.set_cons_succ, List.set_cons_zero]
          refine wpAnyH_ready (rs := [6]) (by kernel_rfl) (by simp) ?_
          refine AllReadyH.cons rfl (fun K hK => ?_) AllReadyH.nil
          refine ite_yes (by rfl) ?_
          refine wp_store_row _ _ _ rfl w.heap.size (rowL .u64 S1) rfl rfl 52 (rowL .u64 S0) hS0 (sizePnL hN5) (by simp only [rowL_size]; exact hS5.trans hN5.symm) (rowL_one _ _) ?_
          have HS4 : Hid (RowZ (v3.setRow w.heap.size (rowL .u64 S1)) w.heap.size 52 .u64 (pH key t (k + 1))) := by rw [HN2.out]; exact setRow_heap _ _ _ _ _ _ hS0
          have hR4 : RowZ (v3.setRow w.heap.size (rowL .u64 S1)) g7 52 .u64 RL := (setRow_other _ _ _ _ (by omega)).trans hS
          have HR4 : Hid (RowZ (v3.setRow w.heap.size (rowL .u64 S1)) g7 52 .u64 RL) := hR4
          have HB4 : Hid (Below w.heap.size w (v3.setRow w.heap.size (rowL .u64 S1))) := below_setRow hB0 (Nat.le_refl _) _
          refine hK.out _ _ hR4 (fun hS => ?_)
          clear hK K hS hR4 hS0 hB0
          try simp only [Act.put, List.getElem_toArray, List.getElem_cons_succ, List.getElem_cons_zero, List.setIfInBounds_toArray, List.set_cons_succ, List.set_cons_zero]
          refine wpAnyH_done (by kernel_rfl) ?_ _
          generalize (v3.setRow w.heap.size (rowL .u64 S1)) = v4 at HS4 HR4 HB4 ⊢
          go_wp2
          go_roundw
          case rel => exact ⟨k + 1, j16, hkn2, (by have := HJ.out; have := HJ16.out; show _ = _; omega), by first | rfl | go_num, HB4, HS4, HR4⟩
          case measure => have := HJ.out; have := HJ16.out; simp [intOf]; omega
        · go_simp
          refine Calls.mono (HK.out _) ?_
          rintro e v1 ⟨rfl, hb⟩
          replace hS0 := hS0.next hb
          have hS' := RowZ.next (w := v0) hS hb
          replace hB0 := hB0.trans (hb.mono hB0.size)
          clear hb
          refine hK.out _ _ hS' (fun hS => ?_)
          clear hK K hS'
          try simp only [Act.put, List.getElem_toArray, List.getElem_cons_succ, List.getElem_cons_zero, List.setIfInBounds_toArray, List.set_cons_succ, List.set_cons_zero]
          refine wpAnyH_ready (rs := [0]) (by kernel_rfl) (by simp) ?_
          refine AllReadyH.cons rfl (fun K hK => ?_) AllReadyH.nil
          refine ite_yes (by rfl) ?_
          refine wp_load_row _ _ rfl _ rfl w.heap.size (rowL .u64 S0) rfl 52 (0, 0) hS0 _ Try.underlying52 rfl (sizePnL hS5) ?_
          refine hK.out _ _ hS (fun hS => ?_)
          clear hK K
          try simp only [Act.put, List.getElem_toArray, List.getElem_cons_succ, List.getElem_cons_zero, List.setIfInBounds_toArray, List.set_cons_succ, List.set_cons_zero]
          refine wpAnyH_ready (rs := [3]) (by kernel_rfl) (by simp) ?_
          refine AllReadyH.cons rfl (fun K hK => ?_) AllReadyH.nil
          go_simp
          refine Calls.mono (hP1.out _) ?_
          rintro e v2 ⟨rfl, hb⟩
          replace hS0 := hS0.next hb
          have hS' := RowZ.next (w := v1) hS hb
          replace hB0 := hB0.trans (hb.mono hB0.size)
          clear hb
          refine hK.out _ _ hS' (fun hS => ?_)
          clear hK K hS'
          try simp only [Act.put, List.getElem_toArray, List.getElem_cons_succ, List.getElem_cons_zero, List.setIfInBounds_toArray, List.set_cons_succ, List.set_cons_zero]
          refine wpAnyH_ready (rs := [5]) (by kernel_rfl) (by simp) ?_
          refine AllReadyH.cons rfl (fun K hK => ?_) AllReadyH.nil
          go_simp
          refine Calls.mono (hM1.out _) ?_
          rintro e v3 ⟨rfl, hb⟩
          replace hS0 := hS0.next hb
          have hS' := RowZ.next (w := v2) hS hb
          replace hB0 := hB0.trans (hb.mono hB0.size)
          clear hb
          refine hK.out _ _ hS' (fun hS => ?_)
          clear hK K hS'
          try simp only [Act.put, List.getElem_toArray, List.getElem_cons_succ, List.getElem_cons_zero, List.setIfInBounds_toArray, List.set_cons_succ, List.set_cons_zero]
          refine wpAnyH_ready (rs := [6]) (by kernel_rfl) (by simp) ?_
          refine AllReadyH.cons rfl (fun K hK => ?_) AllReadyH.nil
          refine ite_yes (by rfl) ?_
          refine wp_store_row _ _ _ rfl w.heap.size (rowL .u64 S1) rfl rfl 52 (rowL .u64 S0) hS0 (sizePnL hN5) (by simp only [rowL_size]; exact hS5.trans hN5.symm) (rowL_one _ _) ?_
          have HS4 : Hid (RowZ (v3.setRow w.heap.size (rowL .u64 S1)) w.heap.size 52 .u64 (pH key t (k + 1))) := by rw [HN2.out]; exact setRow_heap _ _ _ _ _ _ hS0
          have hR4 : RowZ (v3.setRow w.heap.size (rowL .u64 S1)) g7 52 .u64 RL := (setRow_other _ _ _ _ (by omega)).trans hS
          have HR4 : Hid (RowZ (v3.setRow w.heap.size (rowL .u64 S1)) g7 52 .u64 RL) := hR4
          have HB4 : Hid (Below w.heap.size w (v3.setRow w.heap.size (rowL .u64 S1))) := below_setRow hB0 (Nat.le_refl _) _
          refine hK.out _ _ hR4 (fun hS => ?_)
          clear hK K hS hR4 hS0 hB0
          try simp only [Act.put, List.getElem_toArray, List.getElem_cons_succ, List.getElem_cons_zero, List.setIfInBounds_toArray, List.set_cons_succ, List.set_cons_zero]
          refine wpAnyH_done (by kernel_rfl) ?_ _
          generalize (v3.setRow w.heap.size (rowL .u64 S1)) = v4 at HS4 HR4 HB4 ⊢
          go_wp2
          go_roundw
          case rel => exact ⟨k + 1, j16, hkn2, (by have := HJ.out; have := HJ16.out; show _ = _; omega), by first | rfl | go_num, HB4, HS4, HR4⟩
          case measure => have := HJ.out; have := HJ16.out; simp [intOf]; omega
      · have hkk : k = nbP t := by have := HJ.out; unfold nbP at hkn ⊢; omega
        rw [hkk] at HS
        have hSok := HPL.out (nbP t)
        generalize pH key t (nbP t) = S0 at HS HE hSok
        have hS5 : S0.length = 5 := lok_len hSok
        have HT : Hid (∀ wz : World, _) := fun wz => ptext_any S0 wz hSok
        have HA : Hid (∀ wz : World, _) := fun wz => implAdd_any (byT (lval pb S0).toNat) (key.extract 16 32) wz (byT_size _) hx2
        generalize byT (lval pb S0).toNat = BT at HT HA HE
        have HEX : Hid (polyT key t = adT BT (key.extract 16 32)) := HE.out.1
        generalize adT BT (key.extract 16 32) = ANS at HA HEX HE
        have hk16 : (16 : Int) ≤ ((key.size : Nat) : Int) := by omega
        have hlI : ¬ (j : Int) < (t.size : Int) := by omega
        clear hSok hkk hkn
        go_upto_region 10 with fail
        refine _root_.Go.wp_region_held (S := fun w' : World => RowZ w' w.heap.size 52 .u64 S0) (by kernel_rfl) ?_
        have hS : (fun w' : World => RowZ w' w.heap.size 52 .u64 S0) wr.drew := HS.out.drew
        have hB0 : Below w.heap.size w wr.drew := HB.out.drew
        clear HS HR HB
        show wpAnyH _ _ _ _ _ _ _ _ wr.drew
        generalize wr.drew = v0 at hS hB0 ⊢
        refine wpAnyH_take (i := 0) (v := .agg (rowL .u64 S0)) rfl (by kernel_rfl) (by kernel_rfl) (by kernel_rfl) (fun _ _ _ h => h) (yieldsIf_load_mid (by rfl) _ _ rfl w.heap.size 0 rfl (S0.map (Value.int .u64)) _ (fun w h => rangePn h) Try.underlying52 rfl (by rw [List.length_map, hS5]; exact sizePn)) hS ?_
        try simp only [Act.put, List.getElem_toArray, List.getElem_cons_succ, List.getElem_cons_zero, List.setIfInBounds_toArray, List.set_cons_succ, List.set_cons_zero]
        refine wpAnyH_take (i := 2) (v := ?_) rfl (by kernel_rfl) (by kernel_rfl) (by kernel_rfl) (fun _ _ _ h => h) (Or.inl ⟨by rfl, ?_⟩) hS ?_
        rotate_left
        · intro w hSw; skip; go_simp; try with_reducible rfl
        try simp only [Act.put, List.getElem_toArray, List.getElem_cons_succ, List.getElem_cons_zero, List.setIfInBounds_toArray, List.set_cons_succ, List.set_cons_zero]
        refine wpAnyH_take (i := 3) (v := ?_) rfl (by kernel_rfl) (by kernel_rfl) (by kernel_rfl) (fun _ _ _ h => h) (Or.inl ⟨by rfl, ?_⟩) hS ?_
        rotate_left
        · intro w hSw; skip; go_simp; try with_reducible rfl
        try simp only [Act.put, List.getElem_toArray, List.getElem_cons_succ, List.getElem_cons_zero, List.setIfInBounds_toArray, List.set_cons_succ, List.set_cons_zero]
        refine wpAnyH_ready (rs := [1]) (by kernel_rfl) (by simp) ?_
        refine AllReadyH.cons rfl (fun K hK => ?_) AllReadyH.nil
        go_simp
        refine Calls.mono (HT.out _) ?_
        rintro e v1 ⟨rfl, hb⟩
        have hS' := RowZ.next (w := v0) hS hb
        replace hB0 := hB0.trans (hb.mono hB0.size)
        clear hb
        refine hK.out _ _ hS' (fun hS => ?_)
        clear hK K hS'
        try simp only [Act.put, List.getElem_toArray, List.getElem_cons_succ, List.getElem_cons_zero, List.setIfInBounds_toArray, List.set_cons_succ, List.set_cons_zero]
        refine wpAnyH_ready (rs := [4]) (by kernel_rfl) (by simp) ?_
        refine AllReadyH.cons rfl (fun K hK => ?_) AllReadyH.nil
        go_simp
        refine Calls.mono (HA.out _) ?_
        rintro e v2 ⟨rfl, hb⟩
        have hS' := RowZ.next (w := v1) hS hb
        have HB2 : Hid (Below w.heap.size w v2) := hB0.trans (hb.mono hB0.size)
        clear hb hB0
        refine hK.out _ _ hS' (fun hS => ?_)
        clear hK K hS'
        try simp only [Act.put, List.getElem_toArray, List.getElem_cons_succ, List.getElem_cons_zero, List.setIfInBounds_toArray, List.set_cons_succ, List.set_cons_zero]
        refine wpAnyH_take (i := 5) (v := ?_) rfl (by kernel_rfl) (by kernel_rfl) (by kernel_rfl) (fun _ _ _ h => h) (Or.inl ⟨by rfl, ?_⟩) hS ?_
        rotate_left
        · intro w hSw; skip; go_simp; try with_reducible rfl
        try simp only [Act.put, List.getElem_toArray, List.getElem_cons_succ, List.getElem_cons_zero, List.setIfInBounds_toArray, List.set_cons_succ, List.set_cons_zero]
        refine wpAnyH_take (i := 6) (v := ?_) rfl (by kernel_rfl) (by kernel_rfl) (by kernel_rfl) (fun _ _ _ h => h) (Or.inl ⟨by rfl, ?_⟩) hS ?_
        rotate_left
        · intro w hSw; skip; go_simp; try with_reducible rfl
        try simp only [Act.put, List.getElem_toArray, List.getElem_cons_succ, List.getElem_cons_zero, List.setIfInBounds_toArray, List.set_cons_succ, List.set_cons_zero]
        clear hS
        refine wpAnyH_done (by kernel_rfl) ?_ _
        go_wp2
        go_ret2
        exact ⟨by rw [HEX.out]; (try rw [HE.out.2]); (first | rfl | simp), HB2.out⟩
  · have hks : ¬ ((key.size : Nat) : Int) = 32 := by omega
    have hkb : (((key.size : Nat) : Int) != 32) = true := by simp; omega
    have HE : Hid (polyT key t = ⟨#[]⟩ ∧ decide (key.size = 32) = false) := ⟨if_neg hk, decide_eq_false hk⟩
    go_enter Try.func10, Try.ntmps10
    go_wp2
    go_ret2
    exact ⟨by rw [HE.out.1]; (try rw [HE.out.2]); (first | rfl | simp), Below.refl _ _⟩
end Go.Proofs.Ytopdjfgomclffaa
