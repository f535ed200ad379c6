/- The laws' own helpers over arenas: toNode, toNodeS, toArena, szArena, eqArena, markArena, heldArena, sameArena. -/
import Derived.Test.YtffnadnndmmliaaTermPut
import Derived.WalkKit
import Derived.WalkLawsBesides
import Derived.WalkSpells
import Derived.OwnWalk
import Derived.Laws.OwnMore
import Derived.Laws.Rows
namespace Go.Proofs.Ytffnadnndmmliaa
open Go.RowKit

theorem nodeSize : (Try.prog.info? 45).map (·.size) = some 4 := by kernel_rfl
theorem toNode_any (x : Nd) (w : World) :
    Calls Try.prog 148 #[.agg #[.int .i64 x.k, .int .i64 x.n, .int .i64 x.a, .int .i64 x.b]] w fun e w' => e = .returned (.agg #[.int .i64 x.k, .int .i64 x.n, .int .i64 x.a, .int .i64 x.b]) ∧ Below w.heap.size w w' := by
  go_enter Try.func148, Try.ntmps148
  go_wp2
  refine bodyPost_ret (results_cell_row rfl _ _ (w.heap.size + 1) 45 #[.int .i64 x.k, .int .i64 x.n, .int .i64 x.a, .int .i64 x.b] (0, 0) _ rfl ?_ Try.underlying45 rfl nodeSize) rfl ?_
  · rw [heap_alloc_old _ _ (by simp)]
    have := heap_alloc_new (w.alloc (.cells #[.int .i64 x.k, .int .i64 x.n, .int .i64 x.a, .int .i64 x.b] 147)) (.cells #[.int .i64 x.k, .int .i64 x.n, .int .i64 x.a, .int .i64 x.b] 45)
    simpa using this
  · exact ⟨rfl, (((Below.refl _ _).alloc (Nat.le_refl _) _).alloc (by simp) _).alloc (by simp; omega) _⟩

theorem szArena_any (a : Option Addr) (len cap : Nat) (w : World) (hl : len ≤ 1048576) :
    Calls Try.prog 15 #[.agg #[.slice a len cap], .int .i64 1048576] w fun e w' => e = .returned (.int .i64 (1048576 - (len : Int))) ∧ Below w.heap.size w w' := by
  have h : ¬ (1048576 : Int) - (len : Int) < 0 := by omega
  go_enter Try.func15, Try.ntmps15
  go_wp2
  go_ret
  exact ⟨rfl, (Below.refl _ _).alloc (Nat.le_refl _) _⟩
theorem szArena_big (a : Option Addr) (len cap : Nat) (w : World) (hl : 1048576 < len) (hm : len ≤ maxLen) :
    Calls Try.prog 15 #[.agg #[.slice a len cap], .int .i64 1048576] w fun e w' => e = .returned (.int .i64 (-1)) ∧ Below w.heap.size w w' := by
  have h : (1048576 : Int) - (len : Int) < 0 := by omega
  have hm' : (len : Int) ≤ 9223372036854775807 := by unfold maxLen at hm; omega
  clear hm
  go_enter Try.func15, Try.ntmps15
  go_wp2
  go_ret
  exact ⟨rfl, (Below.refl _ _).alloc (Nat.le_refl _) _⟩
theorem own_later {B e size n : Nat} {w w' : World} {v : Value} {xs : List Value} (h : w.ownsRow B e size v n xs) (hb : Below w.heap.size w w') : w'.ownsRow B e size v n xs := by
  refine ⟨h.1, ?_⟩
  rcases h.2 with h0 | ⟨g, cap, cur, e, hg, hh, rest⟩
  · exact .inl h0
  · exact .inr ⟨g, cap, cur, e, hg, (hb.block g (Array.getElem?_eq_some_iff.1 hh).1).trans hh, rest⟩
theorem set4_take {α : Type} (xs : List α) (m : Nat) (a b c d : α) (h : m + 4 ≤ xs.length) : ((((xs.set m a).set (m + 1) b).set (m + 2) c).set (m + 3) d).take (m + 4) = xs.take m ++ [a, b, c, d] := by
  apply List.ext_getElem?
  intro j
  rw [List.getElem?_take]
  by_cases hj : j < m
  · rw [if_pos (by omega), List.getElem?_append_left (by simp; omega), List.getElem?_take, if_pos hj]
    simp only [List.getElem?_set]
    rw [if_neg (by omega), if_neg (by omega), if_neg (by omega), if_neg (by omega)]
  · by_cases hj4 : j < m + 4
    · rw [if_pos hj4, List.getElem?_append_right (by simp; omega)]
      simp only [List.getElem?_set, List.length_set, List.length_take]
      rcases (show j = m ∨ j = m + 1 ∨ j = m + 2 ∨ j = m + 3 by omega) with rfl | rfl | rfl | rfl
      · rw [show min j xs.length = j by omega]; simp; omega
      · rw [show min m xs.length = m by omega]; simp; omega
      · rw [show min m xs.length = m by omega]; simp; omega
      · rw [show min m xs.length = m by omega]; simp; omega
    · rw [if_neg hj4, List.getElem?_eq_none (by simp; omega)]
theorem cells_take (ns : List Nd) (k : Nat) (h : k < ns.length) : cellsN (ns.take (k + 1)) = cellsN (ns.take k) ++ (ns.getD k Nd.zero).cells := by
  rw [List.take_succ_eq_append_getElem h, cellsN_append]
  congr 1
  rw [List.getD_eq_getElem?_getD, List.getElem?_eq_getElem h]
  simp [cellsN]
set_option maxHeartbeats 800000 in
theorem toNodeS_any (a : Option Addr) (cap : Nat) (ns : List Nd) (w : World) (hl : ns.length ≤ 1048576) (hr : RowN w.heap.size w a ns) :
    Calls Try.prog 78 #[.slice a ns.length cap] w fun e w' => ∃ v, e = .returned v ∧ OwnN w.heap.size w' v ns ∧ Below w.heap.size w w' := by
  obtain ⟨i0, hi, hz0, hz1, hz2⟩ := info_parts infoNode
  have HR : Hid (RowN w.heap.size w a ns) := hr
  clear hr
  go_enter Try.func78, Try.ntmps78
  go_wp2_with (at_make; refine wpList_make_full _ rfl _ _ 26 rfl w.heap.size 45 i0 (.agg #[.int .i64 0, .int .i64 0, .int .i64 0, .int .i64 0]) 4 Try.underlying26 hi hz0 hz1 .i64 .i64 _ _ ns.length rfl rfl rfl rfl (by rw [hz2]; omega) (by unfold maxLen; omega) (Nat.le_refl _) ?_; intro w2 hown2 hgrow2)
  have hB2 : Below w.heap.size w w2 := (Below.refl _ _).grown hgrow2 (Nat.le_refl _) (by simp)
  clear hgrow2
  go_loopw [4] (fun i wr => ∃ (k : Nat) (xs : List Value), k ≤ ns.length ∧ i = .int .i64 (k : Int) ∧ wr.ownsRow w.heap.size 45 4 (.slice (some ⟨w.heap.size, 0, none⟩) ns.length ns.length) ns.length xs ∧ Hid (xs.take (k * 4) = cellsN (ns.take k)) ∧ Below w.heap.size w wr)
    (fun i _ => ns.length - (intOf i).toNat)
  case atStart => exact ⟨0, _, Nat.zero_le _, rfl, hown2, (by show _ = _; simp [cellsN]), hB2⟩
  case round =>
    obtain ⟨k, xs, hk, rfl, hownr, HT, hbr⟩ := hrel
    have hxl : xs.length = ns.length * 4 := hownr.1
    by_cases hlt : k < ns.length
    · obtain ⟨b, off, rfl⟩ := HR.out.addr hlt
      obtain ⟨hb, c0, c1, c2, c3⟩ := HR.out.at hbr hlt
      have hi0 : (0 : Int) ≤ (k : Int) := by omega
      have hi1 : (k : Int) < (ns.length : Int) := by omega
      have HC : Hid (cellsN (ns.take (k + 1)) = cellsN (ns.take k) ++ (ns.getD k Nd.zero).cells) := cells_take ns k hlt
      generalize ns.getD k Nd.zero = y at c0 c1 c2 c3 HC
      go_wp2_with fail
      refine (toNode_any y _).mono ?_
      rintro e w3 ⟨rfl, hb3⟩
      have ho3 := own_later hownr hb3
      have hbw : Below w.heap.size w w3 := hbr.trans (hb3.mono hbr.size)
      obtain ⟨u0, e0⟩ : ∃ u, w3.cell? ⟨w.heap.size, k * 4, none⟩ = some u := by rw [ho3.cellAt (k * 4) (by omega)]; exact ⟨_, List.getElem?_eq_getElem (by omega)⟩
      obtain ⟨u1, e1⟩ : ∃ u, w3.cell? ⟨w.heap.size, k * 4 + 1, none⟩ = some u := by rw [ho3.cellAt (k * 4 + 1) (by omega)]; exact ⟨_, List.getElem?_eq_getElem (by omega)⟩
      obtain ⟨u2, e2⟩ : ∃ u, w3.cell? ⟨w.heap.size, k * 4 + 2, none⟩ = some u := by rw [ho3.cellAt (k * 4 + 2) (by omega)]; exact ⟨_, List.getElem?_eq_getElem (by omega)⟩
      obtain ⟨u3, e3⟩ : ∃ u, w3.cell? ⟨w.heap.size, k * 4 + 3, none⟩ = some u := by rw [ho3.cellAt (k * 4 + 3) (by omega)]; exact ⟨_, List.getElem?_eq_getElem (by omega)⟩
      have f0 := ho3.frozenAt (k * 4)
      have f1 := ho3.frozenAt (k * 4 + 1)
      have f2 := ho3.frozenAt (k * 4 + 2)
      have f3 := ho3.frozenAt (k * 4 + 3)
      have HS : Hid _ := ((((ho3.stored (k * 4) (.int .i64 y.k)).1.stored (k * 4 + 1) (.int .i64 y.n)).1.stored (k * 4 + 2) (.int .i64 y.a)).1.stored (k * 4 + 3) (.int .i64 y.b)).1
      have HBE : Hid (Below w.heap.size w ((((w3.setCell ⟨w.heap.size, k * 4, none⟩ (.int .i64 y.k)).setCell ⟨w.heap.size, k * 4 + 1, none⟩ (.int .i64 y.n)).setCell ⟨w.heap.size, k * 4 + 2, none⟩ (.int .i64 y.a)).setCell ⟨w.heap.size, k * 4 + 3, none⟩ (.int .i64 y.b))) := (((hbw.setCell (Nat.le_refl _) _).setCell (Nat.le_refl _) _).setCell (Nat.le_refl _) _).setCell (Nat.le_refl _) _
      have HT4 : Hid (((((xs.set (k * 4) (.int .i64 y.k)).set (k * 4 + 1) (.int .i64 y.n)).set (k * 4 + 2) (.int .i64 y.a)).set (k * 4 + 3) (.int .i64 y.b)).take ((k + 1) * 4) = cellsN (ns.take (k + 1))) := by
        show _ = _
        rw [show (k + 1) * 4 = k * 4 + 4 by omega, set4_take xs (k * 4) _ _ _ _ (by omega), HT.out, HC.out]; rfl
      clear hownr ho3 hbr hbw hb3 HT HC c0 c1 c2 c3
      go_wp2
      go_roundw
      case rel => exact ⟨k + 1, _, by omega, by go_num, HS.out, HT4, HBE.out⟩
      case measure => simp [intOf]; omega
    · obtain rfl : k = ns.length := by omega
      have HE : Hid (xs = cellsN ns) := by
        show _ = _
        have := HT.out
        rw [List.take_of_length_le (by omega), List.take_length] at this
        exact this
      clear HT
      go_wp2
      go_ret
      exact ⟨_, rfl, by unfold OwnN; rw [← HE.out]; exact hownr, hbr⟩
theorem toArena_any (a : Option Addr) (cap : Nat) (ns : List Nd) (w : World) (hl : ns.length ≤ 1048576) (hr : RowN w.heap.size w a ns) :
    Calls Try.prog 17 #[.agg #[.slice a ns.length cap]] w fun e w' => ∃ v, e = .returned (.agg #[v]) ∧ OwnN w.heap.size w' v ns ∧ Below w.heap.size w w' := by
  have HR : Hid (RowN w.heap.size w a ns) := hr
  clear hr
  go_enter Try.func17, Try.ntmps17
  go_wp2_with fail
  have hb0 : Below w.heap.size w (((w.alloc (.cells #[.slice a ns.length cap] 24)).alloc (.cells #[.slice none 0 0] 28)).alloc (.cells #[.slice none 0 0] 28)) := (((Below.refl _ _).alloc (Nat.le_refl _) _).alloc (by simp) _).alloc (by simp; omega) _
  have hs0 : (((w.alloc (.cells #[.slice a ns.length cap] 24)).alloc (.cells #[.slice none 0 0] 28)).alloc (.cells #[.slice none 0 0] 28)).heap.size = w.heap.size + 3 := by simp
  have hn0 : (((w.alloc (.cells #[.slice a ns.length cap] 24)).alloc (.cells #[.slice none 0 0] 28)).alloc (.cells #[.slice none 0 0] 28)).heap[w.heap.size + 1]? = some (.cells #[.slice none 0 0] 28 (0, 0)) := by
    rw [heap_alloc_old _ _ (by simp)]
    have := heap_alloc_new (w.alloc (.cells #[.slice a ns.length cap] 24)) (.cells #[.slice none 0 0] 28)
    simpa using this
  have hr0 : (((w.alloc (.cells #[.slice a ns.length cap] 24)).alloc (.cells #[.slice none 0 0] 28)).alloc (.cells #[.slice none 0 0] 28)).heap[w.heap.size + 1 + 1]? = some (.cells #[.slice none 0 0] 28 (0, 0)) := by
    have := heap_alloc_new ((w.alloc (.cells #[.slice a ns.length cap] 24)).alloc (.cells #[.slice none 0 0] 28)) (.cells #[.slice none 0 0] 28)
    simpa using this
  generalize ((w.alloc (.cells #[.slice a ns.length cap] 24)).alloc (.cells #[.slice none 0 0] 28)).alloc (.cells #[.slice none 0 0] 28) = w0 at hb0 hs0 hn0 hr0 ⊢
  refine (toNodeS_any a cap ns w0 hl (HR.out.grown hb0)).mono ?_
  rintro e w1 ⟨v, rfl, hown, hb1⟩
  obtain ⟨a1, cap1, rfl, _, _⟩ := hown.row
  have hn1 := (hb1.block (w.heap.size + 1) (by omega)).trans hn0
  have hr1 := (hb1.block (w.heap.size + 1 + 1) (by omega)).trans hr0
  have n0 : w1.cell? ⟨w.heap.size + 1, 0, none⟩ = some (.slice none 0 0) := by rw [cell_of_row w1 _ 0 _ _ _ hn1]; rfl
  have n1 : w1.frozen? ⟨w.heap.size + 1, 0, none⟩ = false := frozen_of_row w1 _ 0 _ _ hn1
  have r0 : w1.cell? ⟨w.heap.size + 1 + 1, 0, none⟩ = some (.slice none 0 0) := by rw [cell_of_row w1 _ 0 _ _ _ hr1]; rfl
  have r1 : w1.frozen? ⟨w.heap.size + 1 + 1, 0, none⟩ = false := frozen_of_row w1 _ 0 _ _ hr1
  have hB1 : Below w.heap.size w w1 := hb0.trans (hb1.mono hb0.size)
  have HB2 : Hid (Below w.heap.size w ((w1.setCell ⟨w.heap.size + 1 + 1, 0, none⟩ (.slice a1 ns.length cap1)).setCell ⟨w.heap.size + 1, 0, none⟩ (.slice a1 ns.length cap1))) := (hB1.setCell (show w.heap.size ≤ w.heap.size + 1 + 1 by omega) _).setCell (show w.heap.size ≤ w.heap.size + 1 by omega) _
  have HO2 : Hid (OwnN w.heap.size ((w1.setCell ⟨w.heap.size + 1 + 1, 0, none⟩ (.slice a1 ns.length cap1)).setCell ⟨w.heap.size + 1, 0, none⟩ (.slice a1 ns.length cap1)) (.slice a1 ns.length cap1) ns) := OwnN.base (ownsRow_setCell_below (ownsRow_setCell_below hown (show w.heap.size + 1 + 1 < w0.heap.size by omega) _) (show w.heap.size + 1 < w0.heap.size by omega) _) (by omega)
  have HBL : Hid (((w1.setCell ⟨w.heap.size + 1 + 1, 0, none⟩ (.slice a1 ns.length cap1)).setCell ⟨w.heap.size + 1, 0, none⟩ (.slice a1 ns.length cap1)).heap[w.heap.size + 1]? = some (.cells #[.slice a1 ns.length cap1] 28 (0, 0))) := by
    show _ = _
    rw [heap_setCell_same _ (w.heap.size + 1) 0 _ _ _ ((Below.heap_setCell _ _ _ _ (show w.heap.size + 1 ≠ w.heap.size + 1 + 1 by omega)).trans hn1)]; rfl
  clear hown hn1 hr1 hB1 hb1 hb0 hn0 hr0
  go_wp2
  refine bodyPost_ret (results_cell_row rfl _ _ (w.heap.size + 1) 28 #[.slice a1 ns.length cap1] (0, 0) _ rfl ?_ Try.underlying28 rfl arenaSize) rfl ?_
  · exact HBL.out
  · exact ⟨_, rfl, HO2.out, HB2.out⟩

theorem eqNode_any (x y : Nd) (w : World) :
    Calls Try.prog 154 #[.agg #[.int .i64 x.k, .int .i64 x.n, .int .i64 x.a, .int .i64 x.b], .agg #[.int .i64 y.k, .int .i64 y.n, .int .i64 y.a, .int .i64 y.b]] w fun e w' => e = .returned (.bool (decide (x = y))) ∧ Below w.heap.size w w' := by
  have HE := nd_eq x y
  by_cases h0 : x.k = y.k
  · by_cases h1 : x.n = y.n
    · by_cases h2 : x.a = y.a
      · by_cases h3 : x.b = y.b
        · have HV : Hid (decide (x = y) = true) := decide_eq_true (HE.mpr ⟨h0, h1, h2, h3⟩)
          clear HE
          go_enter Try.func154, Try.ntmps154
          go_wp2
          go_ret
          exact ⟨by rw [HV.out]; rfl, ((Below.refl _ _).alloc (Nat.le_refl _) _).alloc (by simp) _⟩
        · have HV : Hid (decide (x = y) = false) := decide_eq_false (fun h => h3 (HE.mp h).2.2.2)
          have h3' : (x.b != y.b) = true := by simp [h3]
          clear HE
          go_enter Try.func154, Try.ntmps154
          go_wp2
          go_ret
          exact ⟨by rw [HV.out]; rfl, ((Below.refl _ _).alloc (Nat.le_refl _) _).alloc (by simp) _⟩
      · have HV : Hid (decide (x = y) = false) := decide_eq_false (fun h => h2 (HE.mp h).2.2.1)
        have h3' : (x.a != y.a) = true := by simp [h2]
        clear HE
        go_enter Try.func154, Try.ntmps154
        go_wp2
        go_ret
        exact ⟨by rw [HV.out]; rfl, ((Below.refl _ _).alloc (Nat.le_refl _) _).alloc (by simp) _⟩
    · have HV : Hid (decide (x = y) = false) := decide_eq_false (fun h => h1 (HE.mp h).2.1)
      have h3' : (x.n != y.n) = true := by simp [h1]
      clear HE
      go_enter Try.func154, Try.ntmps154
      go_wp2
      go_ret
      exact ⟨by rw [HV.out]; rfl, ((Below.refl _ _).alloc (Nat.le_refl _) _).alloc (by simp) _⟩
  · have HV : Hid (decide (x = y) = false) := decide_eq_false (fun h => h0 (HE.mp h).1)
    have h3' : (x.k != y.k) = true := by simp [h0]
    clear HE
    go_enter Try.func154, Try.ntmps154
    go_wp2
    go_ret
    exact ⟨by rw [HV.out]; rfl, ((Below.refl _ _).alloc (Nat.le_refl _) _).alloc (by simp) _⟩
end Go.Proofs.Ytffnadnndmmliaa
