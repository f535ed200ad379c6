/- The program's ChaStart (chapter 24). -/
import Derived.Test.YtilonodldidplaaStart24
import Derived.WalkKit
import Derived.WalkLawsBesides
import Derived.WalkSpells
import Derived.Great.Walk
namespace Go.Proofs.Ytilonodldidplaa
open Go.RowKit Go.PlainAid
set_option maxRecDepth 20000
set_option linter.unusedVariables false
set_option linter.unusedSimpArgs false
/-- What ChaStart answers. -/
def startL (key nonce : ByteArray) (c : Int) : List Int := if startOk key nonce c = true then bytesV 16 (wordsT (startT key nonce c.toNat)) else []
theorem startL_len (key nonce : ByteArray) (c : Int) : (startL key nonce c).length ≤ 16 := by
  unfold startL; split
  · rw [bytesV_len]; omega
  · exact Nat.zero_le _
theorem startOk_yes {key nonce : ByteArray} {c : Int} (h : startOk key nonce c = true) : key.size = 32 ∧ nonce.size = 12 ∧ 0 ≤ c ∧ c ≤ 4294967295 := by
  unfold startOk at h
  simp only [Bool.and_eq_true, decide_eq_true_eq] at h
  exact ⟨h.1.1, h.1.2, (okW_iff c).1 h.2⟩
theorem words0 : Words (fun _ => 0) := fun _ => (by decide : 0 < 4294967296)
set_option maxHeartbeats 1600000 in
theorem implStart_any (key nonce : ByteArray) (c : Int) (w : World) :
    Calls Try.prog 16 #[.string key, .string nonce, .int .i64 c] w fun e w' => ∃ v, e = .returned (.tuple #[v, .bool (startOk key nonce c)]) ∧ OwnInt w.heap.size w' v (startL key nonce c) ∧ Below w.heap.size w w' := by
  obtain ⟨b, hb⟩ : ∃ b, startOk key nonce c = b := ⟨_, rfl⟩
  obtain ⟨F, HF, HW, HL⟩ : ∃ F : Nat → Nat, Hid (∀ wz, Calls Try.prog 42 #[.string key, .string nonce, .int .i64 c] wz fun e w' => e = .returned (.tuple #[.agg (rowV .u32 16 F), .bool b]) ∧ Below wz.heap.size wz w') ∧ Hid (Words F) ∧ Hid (startL key nonce c = if b = true then bytesV 16 F else []) := by
    cases b with
    | false => exact ⟨fun _ => 0, fun wz => start_no key nonce c wz hb, words0, by show _ = _; unfold startL; rw [hb, if_neg (by decide), if_neg (by decide)]⟩
    | true =>
      obtain ⟨h1, h2, h3, h4⟩ := startOk_yes hb
      have h5 : c.toNat < 4294967296 := by omega
      have h6 : ((c.toNat : Nat) : Int) = c := by omega
      refine ⟨wordsT (startT key nonce c.toNat), fun wz => ?_, wordsT_lt _, by show _ = _; unfold startL; rw [hb]⟩
      have := start_yes key nonce c.toNat wz h1 h2 h5
      rw [h6] at this
      exact this
  rw [hb]
  clear hb
  cases b
  case false =>
    go_enter Try.func16, Try.ntmps16
    go_wp2_with fail
    refine Calls.mono (HF.out _) ?_
    rintro e w1 ⟨rfl, hb1⟩
    have HB1 : Hid (Below w.heap.size w w1) := hb1
    clear hb1 HF
    rename_i hq
    refine hq _ _ ?_
    clear hq
    refine wpl_move rfl _ rfl _ _ rfl rfl ?_
    simp only [Act.put, List.getElem_toArray, List.getElem_cons_succ, List.getElem_cons_zero, List.setIfInBounds_toArray, List.set_cons_succ, List.set_cons_zero]
    refine Go.Great.wpList_runTo rfl _ rfl (.agg (rowV .u32 16 F)) w1 (by unfold execOp; go_simp) ?_
    simp only [Act.put, List.getElem_toArray, List.getElem_cons_succ, List.getElem_cons_zero, List.setIfInBounds_toArray, List.set_cons_succ, List.set_cons_zero]
    refine Go.Great.wpList_runTo rfl _ rfl (.bool false) w1 (by unfold execOp; go_simp) ?_
    simp only [Act.put, List.getElem_toArray, List.getElem_cons_succ, List.getElem_cons_zero, List.setIfInBounds_toArray, List.set_cons_succ, List.set_cons_zero]
    refine Go.Great.wpList_allocTo rfl _ rfl (.pointer (some ⟨w1.heap.size, 0, none⟩)) (.cells (rowV .u32 16 (fun _ => 0)) 55) (by rw [← zeroCha]; unfold execOp; go_simp) ?_
    simp only [Act.put, List.getElem_toArray, List.getElem_cons_succ, List.getElem_cons_zero, List.setIfInBounds_toArray, List.set_cons_succ, List.set_cons_zero]
    have hA1 := heap_alloc_new w1 (.cells (rowV .u32 16 (fun _ => 0)) 55)
    refine wpList_store_rowTo rfl _ _ _ rfl rfl w1.heap.size (rowV .u32 16 F) rfl rfl 55 (rowV .u32 16 (fun _ => 0)) hA1 (sizeChaV _) (by rw [rowV_size, rowV_size]) (rowV_one _ _ _) ?_
    have HR1 : Hid (RowAt ((w1.alloc (.cells (rowV .u32 16 (fun _ => 0)) 55)).setRow w1.heap.size (rowV .u32 16 F)) w1.heap.size 55 .u32 16 F) := setRow_heap _ _ _ _ _ _ hA1
    have HB2 : Hid (Below w.heap.size w ((w1.alloc (.cells (rowV .u32 16 (fun _ => 0)) 55)).setRow w1.heap.size (rowV .u32 16 F))) := below_setRow (HB1.out.alloc HB1.out.size _) HB1.out.size _
    have HS : Hid (w.heap.size ≤ w1.heap.size) := HB1.out.size
    generalize (w1.alloc (.cells (rowV .u32 16 (fun _ => 0)) 55)).setRow w1.heap.size (rowV .u32 16 F) = w2 at HR1 HB2 ⊢
    generalize w1.heap.size = g at HR1 HS ⊢
    clear hA1 HB1
    go_wp2
    go_ret2
    exact ⟨_, rfl, by rw [HL.out, if_neg (by decide)]; exact ⟨rfl, .inl ⟨rfl, rfl⟩⟩, HB2.out⟩
  case true =>
    go_enter Try.func16, Try.ntmps16
    go_wp2_with fail
    refine Calls.mono (HF.out _) ?_
    rintro e w1 ⟨rfl, hb1⟩
    have HB1 : Hid (Below w.heap.size w w1) := hb1
    clear hb1 HF
    rename_i hq
    refine hq _ _ ?_
    clear hq
    refine wpl_move rfl _ rfl _ _ rfl rfl ?_
    simp only [Act.put, List.getElem_toArray, List.getElem_cons_succ, List.getElem_cons_zero, List.setIfInBounds_toArray, List.set_cons_succ, List.set_cons_zero]
    refine Go.Great.wpList_runTo rfl _ rfl (.agg (rowV .u32 16 F)) w1 (by unfold execOp; go_simp) ?_
    simp only [Act.put, List.getElem_toArray, List.getElem_cons_succ, List.getElem_cons_zero, List.setIfInBounds_toArray, List.set_cons_succ, List.set_cons_zero]
    refine Go.Great.wpList_runTo rfl _ rfl (.bool true) w1 (by unfold execOp; go_simp) ?_
    simp only [Act.put, List.getElem_toArray, List.getElem_cons_succ, List.getElem_cons_zero, List.setIfInBounds_toArray, List.set_cons_succ, List.set_cons_zero]
    refine Go.Great.wpList_allocTo rfl _ rfl (.pointer (some ⟨w1.heap.size, 0, none⟩)) (.cells (rowV .u32 16 (fun _ => 0)) 55) (by rw [← zeroCha]; unfold execOp; go_simp) ?_
    simp only [Act.put, List.getElem_toArray, List.getElem_cons_succ, List.getElem_cons_zero, List.setIfInBounds_toArray, List.set_cons_succ, List.set_cons_zero]
    have hA1 := heap_alloc_new w1 (.cells (rowV .u32 16 (fun _ => 0)) 55)
    refine wpList_store_rowTo rfl _ _ _ rfl rfl w1.heap.size (rowV .u32 16 F) rfl rfl 55 (rowV .u32 16 (fun _ => 0)) hA1 (sizeChaV _) (by rw [rowV_size, rowV_size]) (rowV_one _ _ _) ?_
    have HR1 : Hid (RowAt ((w1.alloc (.cells (rowV .u32 16 (fun _ => 0)) 55)).setRow w1.heap.size (rowV .u32 16 F)) w1.heap.size 55 .u32 16 F) := setRow_heap _ _ _ _ _ _ hA1
    have HB2 : Hid (Below w.heap.size w ((w1.alloc (.cells (rowV .u32 16 (fun _ => 0)) 55)).setRow w1.heap.size (rowV .u32 16 F))) := below_setRow (HB1.out.alloc HB1.out.size _) HB1.out.size _
    have HS : Hid (w.heap.size ≤ w1.heap.size) := HB1.out.size
    generalize (w1.alloc (.cells (rowV .u32 16 (fun _ => 0)) 55)).setRow w1.heap.size (rowV .u32 16 F) = w2 at HR1 HB2 ⊢
    generalize w1.heap.size = g at HR1 HS ⊢
    clear hA1 HB1
    have HN : Hid _ := numbers_any g 16 16 F w2 HW.out (by omega) HR1.out.toC
    go_wp2_with fail
    refine Calls.mono HN.out ?_
    rintro e w4 ⟨v, rfl, ho, hb⟩
    have HB4 : Hid (Below w.heap.size w w4) := HB2.out.trans (hb.mono HB2.out.size)
    have HO : Hid (OwnInt w.heap.size w4 v (startL key nonce c)) := by rw [HL.out, if_pos (by trivial)]; exact ho.base HB2.out.size
    clear ho hb HN
    go_wp2
    go_ret2
    exact ⟨_, rfl, HO.out, HB4.out⟩
end Go.Proofs.Ytilonodldidplaa
