/- QuarterTurn of both sides. -/
import Derived.Test.YtilonodldidplaaSpecB24
import Derived.WalkKit
import Derived.WalkLawsBesides
import Derived.WalkSpells
import Derived.Great.Walk
namespace Go.Proofs.Ytilonodldidplaa
open Go.RowKit Go.PlainAid
set_option maxRecDepth 20000
set_option linter.unusedVariables false
set_option linter.unusedSimpArgs false
theorem addTurn_ext {n : Nat} {f f' : Nat → Nat} (h : ∀ i, i < n → f i = f' i) {a b c : Nat} (k : Nat) (ha : a < n) (hb : b < n) (hc : c < n) : ∀ i, i < n → addTurn f a b c k i = addTurn f' a b c k i := by
  have h1 : ∀ i, i < n → upd f a ((f a + f b) % 4294967296) i = upd f' a ((f' a + f' b) % 4294967296) i := by
    rw [h a ha, h b hb]; exact upd_ext h _ _
  intro i hi
  unfold addTurn
  rw [h1 c hc, h1 a ha]
  exact upd_ext h1 _ _ i hi
theorem quarter_ext {n : Nat} {f f' : Nat → Nat} (h : ∀ i, i < n → f i = f' i) {a b c d : Nat} (ha : a < n) (hb : b < n) (hc : c < n) (hd : d < n) : ∀ i, i < n → quarter f a b c d i = quarter f' a b c d i :=
  addTurn_ext (addTurn_ext (addTurn_ext (addTurn_ext h 16 ha hb hd) 12 hc hd hb) 8 ha hb hd) 7 hc hd hb
def quartL (a b c d : Int) : List Int := bytesV 4 (quarter (wordsOf [a, b, c, d] 4) 0 1 2 3)
theorem quartL_len (a b c d : Int) : (quartL a b c d).length = 4 := bytesV_len _ _
theorem own_ofRow {w : World} {B g cap n : Nat} {f : Nat → Nat} (h : RowC w g .i64 n f) (hw : ∃ cs, w.heap[g]? = some (.cells cs 3 (0, 0)) ∧ cs.size = cap) (hg : B ≤ g) (hn : n ≤ cap) (hm : cap ≤ maxLen) : OwnInt B w (.slice (some ⟨g, 0, none⟩) n cap) (bytesV n f) := by
  obtain ⟨cs, hh, hcs⟩ := hw
  unfold OwnInt
  rw [bytesV_len]
  refine ⟨by rw [List.length_map, bytesV_len]; omega, .inr ⟨g, cap, cs, rfl, hg, hh, hn, hm, by omega, ?_⟩⟩
  apply List.ext_getElem?
  intro j
  by_cases hj : j < n
  · have hc := h.c j hj
    rw [cell_of_row _ _ _ _ _ _ hh] at hc
    rw [List.getElem?_take, if_pos (by omega), Array.getElem?_toList, hc, List.getElem?_map]
    have := bytesV_get f hj
    rw [List.getD_eq_getElem?_getD, List.getElem?_eq_getElem (by rw [bytesV_len]; exact hj)] at this
    rw [List.getElem?_eq_getElem (by rw [bytesV_len]; exact hj)]
    simp only [Option.getD_some] at this
    rw [Option.map_some, this]
  · rw [List.getElem?_eq_none (by simp; omega), List.getElem?_eq_none (by rw [List.length_map, bytesV_len]; omega)]
set_option maxHeartbeats 1600000 in
theorem specQuart_any (a b c d : Int) (w : World) :
    Calls Try.prog 10 #[.int .i64 a, .int .i64 b, .int .i64 c, .int .i64 d] w fun e w' => ∃ v, e = .returned v ∧ OwnInt w.heap.size w' v (quartL a b c d) ∧ Below w.heap.size w w' := by
  have HC : Hid (∀ (x : Int) (wz : World), Calls Try.prog 35 #[.int .i64 x] wz fun e w' => e = .returned (.int .i64 (x % 4294967296)) ∧ wz = w') := fun x wz => cut_any x wz
  have hA : RowAt (w.alloc (.cells #[.int .i64 (a % 4294967296), .int .i64 (b % 4294967296), .int .i64 (c % 4294967296), .int .i64 (d % 4294967296)] 3)) w.heap.size 3 .i64 4 (wordsOf [a, b, c, d] 4) := by
    have h := heap_alloc_new w (.cells #[.int .i64 (a % 4294967296), .int .i64 (b % 4294967296), .int .i64 (c % 4294967296), .int .i64 (d % 4294967296)] 3)
    have e : rowV .i64 4 (wordsOf [a, b, c, d] 4) = #[.int .i64 (a % 4294967296), .int .i64 (b % 4294967296), .int .i64 (c % 4294967296), .int .i64 (d % 4294967296)] := by
      have ea : (((a % 4294967296).toNat : Nat) : Int) = a % 4294967296 := by omega
      have eb : (((b % 4294967296).toNat : Nat) : Int) = b % 4294967296 := by omega
      have ec : (((c % 4294967296).toNat : Nat) : Int) = c % 4294967296 := by omega
      have ed : (((d % 4294967296).toNat : Nat) : Int) = d % 4294967296 := by omega
      simp [rowV, List.range_succ, wordsOf, ea, eb, ec, ed]
    unfold RowAt; rw [e]; exact h
  have HQ : Hid _ := specQ_any w.heap.size 4 4 (wordsOf [a, b, c, d] 4) 0 1 2 3 _ (wordsOf_lt _ _) hA.toC (by omega) (by omega) (by omega) (by omega) (by omega) (by omega) (by omega) (by omega)
  have HA : Hid _ := hA
  have HB : Hid (Below w.heap.size w (w.alloc (.cells #[.int .i64 (a % 4294967296), .int .i64 (b % 4294967296), .int .i64 (c % 4294967296), .int .i64 (d % 4294967296)] 3))) := (Below.refl _ _).alloc (Nat.le_refl _) _
  clear hA
  go_enter Try.func10, Try.ntmps10
  go_wp2_with fail
  refine Calls.mono (HC.out _ _) ?_
  rintro e w1 ⟨rfl, rfl⟩
  go_wp2_with fail
  refine Calls.mono (HC.out _ _) ?_
  rintro e w1 ⟨rfl, rfl⟩
  go_wp2_with fail
  refine Calls.mono (HC.out _ _) ?_
  rintro e w1 ⟨rfl, rfl⟩
  go_wp2_with fail
  refine Calls.mono (HC.out _ _) ?_
  rintro e w1 ⟨rfl, rfl⟩
  go_wp2_with fail
  refine Calls.mono HQ.out ?_
  rintro e w2 ⟨rfl, g2, r2⟩
  have HO : Hid (OwnInt w.heap.size w2 (.slice (some ⟨w.heap.size, 0, none⟩) 4 4) (quartL a b c d)) := own_ofRow r2 (by obtain ⟨cs, h1, h2⟩ := g2.sh _ _ HA.out; exact ⟨cs, h1, by rw [h2, rowV_size]⟩) (Nat.le_refl _) (by omega) (by unfold maxLen; omega)
  have HB2 : Hid (Below w.heap.size w w2) := below_gb HB.out HB.out.size g2.gb (Nat.le_refl _)
  clear g2 r2 HA HB
  go_wp2
  go_ret
  exact ⟨_, rfl, HO.out, HB2.out⟩
set_option maxHeartbeats 1600000 in
theorem implQuart_any (a b c d : Int) (w : World) :
    Calls Try.prog 11 #[.int .i64 a, .int .i64 b, .int .i64 c, .int .i64 d] w fun e w' => ∃ v, e = .returned v ∧ OwnInt w.heap.size w' v (quartL a b c d) ∧ Below w.heap.size w w' := by
  have hrow : RowI (w.alloc (.cells #[.int .i64 a, .int .i64 b, .int .i64 c, .int .i64 d] 3)).heap.size (w.alloc (.cells #[.int .i64 a, .int .i64 b, .int .i64 c, .int .i64 d] 3)) (some ⟨w.heap.size, 0, none⟩) [a, b, c, d] := by
    refine .inr ⟨w.heap.size, 0, rfl, by simp, fun j hj => ?_⟩
    rw [cell_of_row _ _ _ _ _ _ (heap_alloc_new w _), Nat.zero_add]
    have : j < 4 := hj
    rcases (show j = 0 ∨ j = 1 ∨ j = 2 ∨ j = 3 by omega) with rfl | rfl | rfl | rfl <;> rfl
  have HC : Hid _ := chaOf_any (some ⟨w.heap.size, 0, none⟩) 4 [a, b, c, d] _ (by simp) hrow
  have HB : Hid (Below w.heap.size w (w.alloc (.cells #[.int .i64 a, .int .i64 b, .int .i64 c, .int .i64 d] 3))) := (Below.refl _ _).alloc (Nat.le_refl _) _
  have HW : Hid (Words (wordsOf [a, b, c, d] 4)) := wordsOf_lt _ _
  clear hrow
  go_enter Try.func11, Try.ntmps11
  go_wp2_with fail
  refine Calls.mono HC.out ?_
  rintro e w1 ⟨rfl, hb1⟩
  have HB1 : Hid (Below w.heap.size w w1) := HB.out.trans (hb1.mono HB.out.size)
  clear hb1 HB HC
  rename_i hq
  refine hq _ _ ?_
  clear hq
  refine Go.Great.wpList_allocTo rfl _ rfl (.pointer (some ⟨w1.heap.size, 0, none⟩)) (.cells (rowV .u32 16 (fun _ => 0)) 55) (by rw [← zeroCha]; unfold execOp; go_simp) ?_
  simp only [Act.put, List.getElem_toArray, List.getElem_cons_succ, List.getElem_cons_zero, List.setIfInBounds_toArray, List.set_cons_succ, List.set_cons_zero]
  have hA1 := heap_alloc_new w1 (.cells (rowV .u32 16 (fun _ => 0)) 55)
  refine wpList_store_rowTo rfl _ _ _ rfl rfl w1.heap.size (rowV .u32 16 (wordsOf [a, b, c, d] 4)) rfl rfl 55 (rowV .u32 16 (fun _ => 0)) hA1 (sizeChaV _) (by rw [rowV_size, rowV_size]) (rowV_one _ _ _) ?_
  have hR1 : RowAt ((w1.alloc (.cells (rowV .u32 16 (fun _ => 0)) 55)).setRow w1.heap.size (rowV .u32 16 (wordsOf [a, b, c, d] 4))) w1.heap.size 55 .u32 16 (wordsOf [a, b, c, d] 4) := setRow_heap _ _ _ _ _ _ hA1
  have HB2 : Hid (Below w.heap.size w ((w1.alloc (.cells (rowV .u32 16 (fun _ => 0)) 55)).setRow w1.heap.size (rowV .u32 16 (wordsOf [a, b, c, d] 4)))) := below_setRow (HB1.out.alloc HB1.out.size _) HB1.out.size _
  have HS : Hid (w.heap.size ≤ w1.heap.size) := HB1.out.size
  generalize (w1.alloc (.cells (rowV .u32 16 (fun _ => 0)) 55)).setRow w1.heap.size (rowV .u32 16 (wordsOf [a, b, c, d] 4)) = w2 at hR1 HB2 ⊢
  generalize w1.heap.size = g at hR1 HS ⊢
  clear hA1 HB1
  have HQ : Hid _ := quarter_any g (wordsOf [a, b, c, d] 4) 0 1 2 3 w2 HW.out hR1 (by omega) (by omega) (by omega) (by omega)
  clear hR1
  go_wp2_with fail
  refine Calls.mono HQ.out ?_
  rintro e w3 ⟨rfl, g3, r3⟩
  have HB3 : Hid (Below w.heap.size w w3) := below_gb HB2.out HB2.out.size g3 HS.out
  have HN : Hid _ := numbers_any g 4 16 (quarter (wordsOf [a, b, c, d] 4) 0 1 2 3) w3 (HW.out.quarter _ _ _ _) (by omega) ⟨r3.lt, fun i hi => r3.cell (by omega), fun i hi => r3.froz i⟩
  clear g3 r3 HB2 HQ
  go_wp2_with fail
  refine Calls.mono HN.out ?_
  rintro e w4 ⟨v, rfl, ho, hb⟩
  have HB4 : Hid (Below w.heap.size w w4) := HB3.out.trans (hb.mono HB3.out.size)
  have HO : Hid (OwnInt w.heap.size w4 v (quartL a b c d)) := ho.base HB3.out.size
  clear ho hb HN
  go_wp2
  go_ret
  exact ⟨_, rfl, HO.out, HB4.out⟩
end Go.Proofs.Ytilonodldidplaa
