/- ChaStream of both sides (chapter 24). -/
import Derived.Test.YtkcbolcodgmpaaaStartS24
import Derived.WalkKit
import Derived.WalkLawsBesides
import Derived.WalkSpells
import Derived.Great.Walk
namespace Go.Proofs.Ytkcbolcodgmpaaa
open Go.RowKit Go.PlainAid
set_option maxRecDepth 20000
set_option linter.unusedVariables false
set_option linter.unusedSimpArgs false
/-- The state k blocks later. -/
def later (f : Nat → Nat) (k : Nat) : Nat → Nat := upd f 12 ((f 12 + k) % 4294967296)
theorem later_zero {f : Nat → Nat} (h : Words f) : later f 0 = f := by
  funext i; unfold later upd
  have := h 12
  split
  · rename_i e; subst e; omega
  · rfl
theorem later_lt {f : Nat → Nat} (h : Words f) (k : Nat) : Words (later f k) := h.upd 12 (Nat.mod_lt _ (by omega))
theorem later_next (f : Nat → Nat) (k : Nat) : upd (later f k) 12 ((later f k 12 + 1) % 4294967296) = later f (k + 1) := by
  funext i
  unfold later
  rw [upd_same]
  unfold upd
  split
  · omega
  · rfl
/-- The first k blocks of a stream, joined. -/
def streamB (f : Nat → Nat) : Nat → ByteArray
  | 0 => ByteArray.empty
  | k + 1 => streamB f k ++ blockT (later f k)
theorem blockT_size (f : Nat → Nat) : (blockT f).size = 64 := leT_size _ _
theorem streamB_size (f : Nat → Nat) : ∀ k, (streamB f k).size = 64 * k
  | 0 => rfl
  | k + 1 => by rw [streamB, sz_app, streamB_size f k, blockT_size, Nat.mul_succ]
/-- How many blocks n bytes want. -/
def blocksFor (n : Nat) : Nat := (n + 63) / 64
def streamOk (key nonce : ByteArray) (c n : Int) : Bool := startOk key nonce c && decide (0 ≤ n ∧ n ≤ 10000)
def streamT (key nonce : ByteArray) (c n : Int) : ByteArray := if streamOk key nonce c n = true then (streamB (wordsT (startT key nonce c.toNat)) (blocksFor n.toNat)).extract 0 n.toNat else ByteArray.empty
theorem byteCells_app (a b : ByteArray) : Lib.byteCells (a ++ b).data.toList = Lib.byteCells a.data.toList ++ Lib.strCells b := by
  unfold Lib.byteCells Lib.strCells
  rw [dat_app, List.map_append]
theorem byteCells_len (a : ByteArray) : (Lib.byteCells a.data.toList).length = a.size := by unfold Lib.byteCells; rw [List.length_map, ← sz_len]
/-- How many bytes a builder has. -/
def bLen (b : Nat) (w : World) : Nat := match w.cell? ⟨b, 1, none⟩ with
  | some (.slice _ l _) => l
  | _ => 0
theorem bLen_of {B b : Nat} {bs : List Value} {w : World} (h : Bd B b bs w) : bLen b w = bs.length := by
  have K : ∀ p, Lib.BuilderAt 54 5 B b p bs w → bLen b w = bs.length := by
    rintro p ⟨h1, v, h2, h3, h4⟩
    have hc : w.cell? ⟨b, 1, none⟩ = some v := (cell_of_row _ _ _ _ _ _ h2).trans rfl
    unfold bLen
    rw [hc]
    rcases h3.2 with ⟨rfl, h0⟩ | ⟨g, cap, cur, rfl, _⟩
    · exact h0.symm
    · rfl
  rcases h with h | h
  · exact K _ h
  · exact K _ h
theorem more_blocks {k n : Nat} (h : k ≤ blocksFor n) (h2 : 64 * k < n) : k + 1 ≤ blocksFor n := by unfold blocksFor at *; omega
theorem all_blocks {k n : Nat} (h : k ≤ blocksFor n) (h2 : ¬ 64 * k < n) : k = blocksFor n := by unfold blocksFor at *; omega
set_option maxHeartbeats 3200000 in
theorem implStream_yes (key nonce : ByteArray) (c n : Nat) (w : World) (h1 : key.size = 32) (h2 : nonce.size = 12) (hc : c < 4294967296) (hn : n ≤ 10000) :
    Calls Try.prog 17 #[.string key, .string nonce, .int .i64 (c : Int), .int .i64 (n : Int)] w fun e w' => e = .returned (.tuple #[.string ((streamB (wordsT (startT key nonce c)) (blocksFor n)).extract 0 n), .bool true]) ∧ Below w.heap.size w w' := by
  have HS : Hid _ := start_yes key nonce c w h1 h2 hc
  obtain ⟨F, HF⟩ : ∃ F, Hid (F = wordsT (startT key nonce c)) := ⟨_, rfl⟩
  have HW : Hid (Words F) := by show Words F; rw [HF.out]; exact wordsT_lt _
  rw [← HF.out] at HS ⊢
  have hd : decide ((n : Int) < 0) = false := by simp
  have hd2 : decide ((10000 : Int) < (n : Int)) = false := by simp; omega
  have HM : Hid (n ≤ 10000) := hn
  clear h1 h2 hc HF hn
  go_enter Try.func17, Try.ntmps17
  go_wp2_with fail
  refine Calls.mono HS.out ?_
  rintro e w1 ⟨rfl, hb1⟩
  have HB1 : Hid (Below w.heap.size w w1) := hb1
  clear hb1 HS
  rename_i hq
  refine hq _ _ ?_
  clear hq
  refine wpl_move rfl _ rfl _ (.tuple #[.agg (rowV .u32 16 F), .bool true]) rfl rfl ?_
  simp only [Act.put, List.getElem_toArray, List.getElem_cons_succ, List.getElem_cons_zero, List.setIfInBounds_toArray, List.set_cons_succ, List.set_cons_zero]
  refine Go.Great.wpList_runTo rfl _ rfl (.agg (rowV .u32 16 F)) w1 (by unfold execOp; go_simp) ?_
  simp only [Act.put, List.getElem_toArray, List.getElem_cons_succ, List.getElem_cons_zero, List.setIfInBounds_toArray, List.set_cons_succ, List.set_cons_zero]
  refine Go.Great.wpList_runTo rfl _ rfl (.bool true) w1 (by unfold execOp; go_simp) ?_
  simp only [Act.put, List.getElem_toArray, List.getElem_cons_succ, List.getElem_cons_zero, List.setIfInBounds_toArray, List.set_cons_succ, List.set_cons_zero]
  refine Go.Great.wpList_allocTo rfl _ rfl (.pointer (some ⟨w1.heap.size, 0, none⟩)) (.cells (rowV .u32 16 (fun _ => 0)) 49) (by rw [← zeroCha]; unfold execOp; go_simp) ?_
  simp only [Act.put, List.getElem_toArray, List.getElem_cons_succ, List.getElem_cons_zero, List.setIfInBounds_toArray, List.set_cons_succ, List.set_cons_zero]
  have hA1 := heap_alloc_new w1 (.cells (rowV .u32 16 (fun _ => 0)) 49)
  refine wpList_store_rowTo rfl _ _ _ rfl rfl w1.heap.size (rowV .u32 16 F) rfl rfl 49 (rowV .u32 16 (fun _ => 0)) hA1 (sizeChaV _) (by rw [rowV_size, rowV_size]) (rowV_one _ _ _) ?_
  have HR1 : Hid (RowAt ((w1.alloc (.cells (rowV .u32 16 (fun _ => 0)) 49)).setRow w1.heap.size (rowV .u32 16 F)) w1.heap.size 49 .u32 16 (later F 0)) := by
    rw [later_zero HW.out]; exact setRow_heap _ _ _ _ _ _ hA1
  have HB2 : Hid (Below w.heap.size w ((w1.alloc (.cells (rowV .u32 16 (fun _ => 0)) 49)).setRow w1.heap.size (rowV .u32 16 F))) := below_setRow (HB1.out.alloc HB1.out.size _) HB1.out.size _
  have HS2 : Hid (w.heap.size ≤ w1.heap.size) := HB1.out.size
  generalize (w1.alloc (.cells (rowV .u32 16 (fun _ => 0)) 49)).setRow w1.heap.size (rowV .u32 16 F) = w2 at HR1 HB2 ⊢
  generalize w1.heap.size = g at HR1 HS2 ⊢
  clear hA1 HB1
  go_upto_region 4 with fail
  have HBD0 : Hid (Bd (g + 1) w2.heap.size (Lib.byteCells (streamB F 0).data.toList) (w2.alloc (.cells #[.pointer none, .slice none 0 0] 54))) := by
    rcases Lib.fresh_isBuilder 54 5 w2 with ⟨h1, v, h2, h3, h4⟩ | ⟨h1, v, h2, h3, h4⟩
    · exact .inl ⟨HR1.out.lt, v, h2, ⟨h3.1, by
        rcases h3.2 with h0 | ⟨g', cap, cur, e, hg, rest⟩
        · exact .inl h0
        · exact .inr ⟨g', cap, cur, e, by have := HR1.out.lt; omega, rest⟩⟩, h4⟩
    · exact .inr ⟨HR1.out.lt, v, h2, ⟨h3.1, by
        rcases h3.2 with h0 | ⟨g', cap, cur, e, hg, rest⟩
        · exact .inl h0
        · exact .inr ⟨g', cap, cur, e, by have := HR1.out.lt; omega, rest⟩⟩, h4⟩
  have hbn : Below w2.heap.size w2 (w2.alloc (.cells #[.pointer none, .slice none 0 0] 54)) := (Below.refl _ _).alloc (Nat.le_refl _) _
  have HR3 : Hid _ := HR1.out.below hbn HR1.out.lt
  have HB3 : Hid _ := HB2.out.trans (hbn.mono HB2.out.size)
  have HGL : Hid (g < w2.heap.size) := HR1.out.lt
  clear hbn HR1 HB2
  go_wp2
  generalize (w2.alloc (.cells #[.pointer none, .slice none 0 0] 54)) = w3 at HBD0 HR3 HB3 ⊢
  generalize w2.heap.size = bb at HBD0 HGL ⊢
  go_loopw [30] (fun l wr => ∃ k : Nat, k ≤ blocksFor n ∧ Hid (Below w.heap.size w wr) ∧ Hid (RowAt wr g 49 .u32 16 (later F k)) ∧ Hid (Bd (g + 1) bb (Lib.byteCells (streamB F k).data.toList) wr))
    (fun _ wr => n - bLen bb wr)
  case atStart => exact ⟨0, Nat.zero_le _, HB3, HR3, HBD0⟩
  case round =>
    clear HB3 HR3 HBD0
    obtain ⟨k, hk, HB, HR, HD⟩ := hrel
    have hL := bLen_of HD.out
    rw [byteCells_len, streamB_size] at hL
    have HLL : Hid (bLen bb wr = 64 * k) := hL
    have HN : Hid _ := bdLen _ _ _ _ HD.out
    rw [byteCells_len, streamB_size] at HN
    clear hL
    by_cases hlt : 64 * k < n
    · have hd3 : 64 * (k : Int) < (n : Int) := by omega
      have HK : Hid _ := more_blocks hk hlt
      have HC : Hid (∀ wz, Calls Try.prog 34 #[.agg (rowV .u32 16 (later F k))] wz fun e w' => e = .returned (.string (blockT (later F k))) ∧ Below wz.heap.size wz w') := fun wz => block_any _ wz (later_lt HW.out k)
      have HMM : Hid (64 * k < n) := hlt
      clear hk hlt
      go_wp2_with fail
      refine Calls.mono HN.out ?_
      rintro e wq ⟨rfl, rfl⟩
      push_cast
      go_upto_region 6 with fail
      refine wp_region_lit ?_
      refine wpl_load rfl _ _ rfl _ rfl g (rowV .u32 16 (later F k)) rfl 49 (0, 0) HR.out _ Try.underlying49 rfl (sizeChaV _) ?_
      try simp only [Act.put, List.getElem_toArray, List.getElem_cons_succ, List.getElem_cons_zero, List.setIfInBounds_toArray, List.set_cons_succ, List.set_cons_zero]
      go_wp2_with fail
      refine Calls.mono (HC.out _) ?_
      rintro e w4 ⟨rfl, hb4⟩
      have HD4 : Hid _ := bd_keep HD.out hb4
      have HR4 : Hid (RowAt w4 g 49 .u32 16 (later F k)) := HR.out.below hb4 HR.out.lt
      have HB4 : Hid _ := HB.out.trans (hb4.mono HB.out.size)
      have HG4 : Hid (g + 1 ≤ w4.heap.size) := HR4.out.lt
      have HZ : Hid (Lib.byteCells (streamB F (k + 1)).data.toList = Lib.byteCells (streamB F k).data.toList ++ Lib.strCells (blockT (later F k))) := by show _ = _; rw [streamB, byteCells_app]
      have HZ2 : Hid ((Lib.byteCells (streamB F k).data.toList).length + (blockT (later F k)).size ≤ 140737488355328) := by show _ ≤ _; rw [byteCells_len, streamB_size, blockT_size]; have := HM.out; have := HMM.out; omega
      have HX : Hid _ := bdWrite _ _ _ (blockT (later F k)) _ HD4.out HZ2.out HG4.out
      clear hb4 HD HR HB HC HD4
      go_wp2_with fail
      refine Calls.mono HX.out ?_
      rintro e w5 ⟨rfl, hd5, hb5⟩
      have HD5 : Hid (Bd (g + 1) bb (Lib.byteCells (streamB F (k + 1)).data.toList) w5) := by show Bd _ _ _ _; rw [HZ.out]; exact hd5
      have HR5 : Hid (RowAt w5 g 49 .u32 16 (later F k)) := HR4.out.below hb5 (by omega)
      have HB5 : Hid (Below w.heap.size w w5) := HB4.out.trans (hb5.mono (by have := HS2.out; omega))
      clear hd5 hb5 HR4 HB4 HX
      have c1 := HR5.out.cell (show 12 < 16 by omega)
      have z1 := HR5.out.froz 12
      have HE : Hid ((((later F k 12 : Nat) : Int) + 1) % 4294967296 = ((((later F k 12 + 1) % 4294967296 : Nat)) : Int)) := by show _ = _; omega
      have HR6 : Hid (RowAt (w5.setCell ⟨g, 12, none⟩ (.int .u32 ((((later F k 12 + 1) % 4294967296 : Nat)) : Int))) g 49 .u32 16 (later F (k + 1))) := by
        have h := HR5.out.set (show 12 < 16 by omega) ((later F k 12 + 1) % 4294967296)
        rw [later_next] at h; exact h
      have HB6 : Hid (∀ v, Below w.heap.size w (w5.setCell ⟨g, 12, none⟩ v)) := fun v => HB5.out.setCell HS2.out v
      have HD6 : Hid (∀ v, Bd (g + 1) bb (Lib.byteCells (streamB F (k + 1)).data.toList) (w5.setCell ⟨g, 12, none⟩ v)) := fun v => by
        have K : ∀ p, Lib.BuilderAt 54 5 (g + 1) bb p (Lib.byteCells (streamB F (k + 1)).data.toList) w5 → Lib.BuilderAt 54 5 (g + 1) bb p (Lib.byteCells (streamB F (k + 1)).data.toList) (w5.setCell ⟨g, 12, none⟩ v) := by
          rintro p ⟨h1, u, h2, h3, h4⟩
          refine ⟨h1, u, (Below.heap_setCell _ _ _ _ (by simp; omega)).trans h2, ⟨h3.1, ?_⟩, h4⟩
          rcases h3.2 with h0 | ⟨g', cap, cur, e, hg, hh, rest⟩
          · exact .inl h0
          · exact .inr ⟨g', cap, cur, e, hg, (Below.heap_setCell _ _ _ _ (by simp; omega)).trans hh, rest⟩
        rcases HD5.out with h | h
        · exact .inl (K _ h)
        · exact .inr (K _ h)
      generalize later F k 12 = y at c1 HE HR6
      clear HR5 HB5 HD5
      go_wp2
      rw [HE.out]
      go_roundw
      case rel => exact ⟨k + 1, HK.out, HB6.out _, HR6, HD6.out _⟩
      case measure =>
        have h6 := bLen_of (HD6.out (.int .u32 (((y + 1) % 4294967296 : Nat) : Int)))
        rw [byteCells_len, streamB_size] at h6
        rw [h6, HLL.out]
        have := HMM.out
        omega
    · obtain rfl : k = blocksFor n := all_blocks hk hlt
      have hd3 : ¬ 64 * ((blocksFor n : Nat) : Int) < (n : Int) := by omega
      have HT : Hid (n ≤ (streamB F (blocksFor n)).size) := by show _ ≤ _; rw [streamB_size]; omega
      have HST : Hid _ := bdString _ _ _ _ HD.out (show g + 1 ≤ wr.heap.size from HR.out.lt)
      clear hk hlt
      go_wp2_with fail
      refine Calls.mono HN.out ?_
      rintro e wq ⟨rfl, rfl⟩
      push_cast
      go_wp2_with fail
      refine Calls.mono HST.out ?_
      rintro e w5 ⟨rfl, hb5⟩
      rw [str_back]
      have hT : (n : Int) ≤ (((streamB F (blocksFor n)).size : Nat) : Int) := by have := HT.out; omega
      go_wp2
      go_ret2
      exact ⟨rfl, HB.out.trans (hb5.mono (by have := HS2.out; omega))⟩
end Go.Proofs.Ytkcbolcodgmpaaa
