/- The contract of chapter 3's l03Any, the specification's: a drawn arena, right or not. -/
import Derived.Test.YtffnadnndmmliaaDrawArena
import Derived.Test.YtffnadnndmmliaaRegionK
import Derived.WalkKit
import Derived.WalkLawsBesides
import Derived.WalkSpells
import Derived.Laws.Rows
import Derived.Laws.OwnMore
import Derived.Laws.ResultCell
import Derived.BigRegion
import Derived.Deep.RegionLaw
import Derived.Deep.AppendLies
import Derived.OneCell
namespace Go.Proofs.Ytffnadnndmmliaa
open Go.RowKit
set_option linter.unusedVariables false

theorem cells_set : ∀ (ns : List Nd) (i j : Nat) (u : Value) (x : Nd), i < ns.length → j < 4 → x.cells = (ns.getD i Nd.zero).cells.set j u → (cellsN ns).set (i * 4 + j) u = cellsN (ns.set i x)
  | [], i, j, u, x, h, _, _ => by simp at h
  | y :: ns, 0, j, u, x, h, hj, hx => by
    simp only [cellsN, List.flatMap_cons, List.set_cons_zero, Nat.zero_mul, Nat.zero_add]
    rw [List.set_append_left _ _ (by simp [Nd.cells]; omega)]
    congr 1
    simpa using hx.symm
  | y :: ns, i + 1, j, u, x, h, hj, hx => by
    have ih := cells_set ns i j u x (by simpa using h) hj (by simpa using hx)
    simp only [cellsN, List.flatMap_cons, List.set_cons_succ] at ih ⊢
    rw [List.set_append_right _ _ (by simp [Nd.cells]; omega)]
    congr 1
    have e : (i + 1) * 4 + j - y.cells.length = i * 4 + j := by simp [Nd.cells]; omega
    rw [e]; exact ih
/-- What the drawing of an arena, right or not, carries: the arena in the box ga. -/
structure Dq (w : World) (B g ga : Nat) (ns : List Nd) (wr : World) : Prop where
  at_ : ArenaAt (w.heap.size + 1) wr ga ns
  cur : Cur B wr g
  gr : w.grownBy wr (some g)
  box : wr.heap[w.heap.size]? = some (.cells #[.slice none 0 0] 28 (0, 0))
  lt : g < w.heap.size
theorem Dq.row {w : World} {B g ga : Nat} {ns : List Nd} {wr : World} (h : Dq w B g ga ns wr) (hn : 0 < ns.length) : ∃ gv cv, wr.heap[ga]? = some (.cells #[.slice (some ⟨gv, 0, none⟩) ns.length cv] 28 (0, 0)) ∧ OwnN (w.heap.size + 1) wr (.slice (some ⟨gv, 0, none⟩) ns.length cv) ns ∧ gv ≠ ga ∧ w.heap.size + 1 ≤ gv ∧ gv < wr.heap.size := by
  obtain ⟨h1, h2, v, h3, h4, h5⟩ := h.at_
  have h4' := h4
  rcases h4.2 with ⟨_, h0⟩ | ⟨gv, cv, cur, rfl, hg, hh, _⟩
  · omega
  · exact ⟨gv, cv, h3, h4', fun e => h5 (by simp [Value.ownBlock, e]), hg, (Array.getElem?_eq_some_iff.1 hh).1⟩
/-- A cell of a node is written. -/
theorem Dq.set {w : World} {B g ga gv cv : Nat} {ns : List Nd} {wr : World} {i j : Nat} {u : Value} {x : Nd} (h : Dq w B g ga ns wr) (hbox : wr.heap[ga]? = some (.cells #[.slice (some ⟨gv, 0, none⟩) ns.length cv] 28 (0, 0))) (ho : OwnN (w.heap.size + 1) wr (.slice (some ⟨gv, 0, none⟩) ns.length cv) ns) (hne : gv ≠ ga) (hg : w.heap.size + 1 ≤ gv)
    (hi : i < ns.length) (hj : j < 4) (hx : x.cells = (ns.getD i Nd.zero).cells.set j u) : Dq w B g ga (ns.set i x) (wr.setCell ⟨gv, i * 4 + j, none⟩ u) := by
  have hs := (World.ownsRow.stored ho (i * 4 + j) u).1
  rw [cells_set ns i j u x hi hj hx] at hs
  have hB : Below (w.heap.size + 1) wr (wr.setCell ⟨gv, i * 4 + j, none⟩ u) := (Below.refl _ _).setCell (show w.heap.size + 1 ≤ gv from hg) _
  obtain ⟨h1, h2, _⟩ := h.at_
  refine ⟨⟨h1, by simpa using h2, _, (Below.heap_setCell _ _ _ _ (Ne.symm hne)).trans hbox, ?_, by simpa [Value.ownBlock] using hne⟩, h.cur.beyond (Nat.lt_succ_of_lt h.lt) hB, grown_then h.gr (hB.mono (Nat.le_succ _)), (hB.block _ (Nat.lt_succ_self _)).trans h.box, h.lt⟩
  unfold OwnN
  rw [List.length_set]; exact hs
theorem Dq.made {w : World} {B g ga : Nat} {ns : List Nd} {wr w1 : World} (h : Dq w B g ga ns wr) (hb : Below wr.heap.size wr w1) : Dq w B g ga ns w1 :=
  ⟨h.at_.later hb, h.cur.grown hb, grown_then h.gr (hb.mono h.gr.size), (hb.block _ (Nat.lt_of_lt_of_le (Nat.lt_succ_self _) (Nat.le_trans h.at_.1 (Nat.le_of_lt h.at_.2.1)))).trans h.box, h.lt⟩
theorem set_fits {ns : List Nd} {i : Nat} {x : Nd} (h : ∀ y ∈ ns, y.Fits) (hx : x.Fits) : ∀ y ∈ ns.set i x, y.Fits := fun y hy => by
  rcases List.mem_or_eq_of_mem_set hy with h1 | h1
  · exact h y h1
  · rw [h1]; exact hx
theorem getD_fits {ns : List Nd} {i : Nat} (h : ∀ y ∈ ns, y.Fits) (hi : i < ns.length) : (ns.getD i Nd.zero).Fits := by
  rw [List.getD_eq_getElem?_getD, List.getElem?_eq_getElem hi]; exact h _ (List.getElem_mem _)
set_option maxHeartbeats 3200000 in
set_option maxRecDepth 20000 in
theorem anyArena_any (B g : Nat) (w : World) (hc : Cur B w g) :
    Calls Try.prog 92 #[.pointer (some ⟨g, 0, none⟩)] w fun e w' => ∃ v ns, e = .returned (.agg #[v]) ∧ 1 ≤ ns.length ∧ ns.length ≤ 14 ∧ (∀ y ∈ ns, y.Fits) ∧ OwnN w.heap.size w' v ns ∧ Cur B w' g ∧ w.grownBy w' (some g) := by
  have hgl := hc.2.1
  have hb0 : Below w.heap.size w (w.alloc (.cells #[.slice none 0 0] 28)) := (Below.refl _ _).alloc (Nat.le_refl _) _
  have hx0 := heap_alloc_new w (.cells #[.slice none 0 0] 28)
  have hc0 := hc.grown hb0
  have hg0 := grown_below hb0 (some g)
  have hs0 : (w.alloc (.cells #[.slice none 0 0] 28)).heap.size = w.heap.size + 1 := by simp
  clear hc
  go_enter Try.func92, Try.ntmps92
  go_wp2_with fail
  generalize w.alloc (.cells #[.slice none 0 0] 28) = w0 at hb0 hx0 hc0 hg0 hs0 ⊢
  refine (below_any B g 12 _ (by omega) (by omega) hc0).mono ?_
  rintro e w1 ⟨k, rfl, hk, hc1, hg1⟩
  go_wp2_with fail
  refine (below_any B g 60 _ (by omega) (by omega) hc1).mono ?_
  rintro e w2 ⟨y, rfl, hy, hc2, hg2⟩
  have hG2 := grown_trans (grown_trans hg0 hg1) hg2
  have hB2 := (hg2.block w.heap.size (by have := hg1.size; omega) (by simp; omega)).trans ((hg1.block w.heap.size (by omega) (by simp; omega)).trans hx0)
  have hs2 := Nat.le_trans hg1.size hg2.size
  clear hc1 hg1 hg2 hg0 hx0 hc0 hb0
  go_wp2_with fail
  refine (arena_any B g _ hc2).mono ?_
  rintro e w3 ⟨v3, ns, rfl, hn1, hn2, hall, ho3, hc3, hg3⟩
  obtain ⟨a3, cap3, rfl, hA3, hr3⟩ := ho3.row
  have hG3 := grown_trans hG2 hg3
  have hB3 := (hg3.block w.heap.size (by omega) (by simp; omega)).trans hB2
  have hs3 := hg3.size
  have HFI : Hid (∀ y ∈ ns, y.Fits) := all_fits hall (by omega)
  clear ho3 hc2 hG2 hB2 hg3 hall
  go_wp2_with fail
  refine (specCopy_any a3 cap3 ns _ (by omega) hA3 hr3).mono ?_
  rintro e w4 ⟨v4, rfl, ho4, hb4⟩
  have hs4 := hb4.size
  have hbox4 := heap_alloc_new w4 (.cells #[v4] 28)
  have hb5 : Below w4.heap.size w4 (w4.alloc (.cells #[v4] 28)) := (Below.refl _ _).alloc (Nat.le_refl _) _
  have hd : Dq w B g w4.heap.size ns (w4.alloc (.cells #[v4] 28)) := ⟨⟨by omega, by simp, _, hbox4, OwnN.base (ho4.later hb5) (by omega), fun e => by have := (ho4.lt _ e).2; omega⟩, (hc3.grown hb4).grown hb5, grown_then (grown_then hG3 (hb4.mono (by omega))) (hb5.mono (by omega)), (hb5.block _ (by omega)).trans ((hb4.block _ (by omega)).trans hB3), hgl⟩
  obtain ⟨a4, cap4, rfl, _, _⟩ := ho4.row
  have cb0 : (w4.alloc (.cells #[.slice a4 ns.length cap4] 28)).cell? ⟨w4.heap.size, 0, none⟩ = some (.slice a4 ns.length cap4) := (cell_of_row _ w4.heap.size 0 _ _ _ (heap_alloc_new w4 _)).trans rfl
  clear hc3 hG3 hB3 hbox4 hb4 hb5 ho4 hr3 hA3
  obtain ⟨i, hil, hie⟩ : ∃ i : Nat, i < ns.length ∧ (y : Int) % (ns.length : Int) = (i : Int) := ⟨y % ns.length, Nat.mod_lt _ (by omega), by rw [Int.natCast_emod]⟩
  have hi0 : (0 : Int) ≤ (i : Int) := by omega
  have hi1 : (i : Int) < (ns.length : Int) := by omega
  have hl0 : (0 : Int) < (ns.length : Int) := by omega
  have hl1 : ¬ (ns.length : Int) = 0 := by omega
  obtain ⟨w5, hw5⟩ : ∃ w5, w5 = w4.alloc (.cells #[.slice a4 ns.length cap4] 28) := ⟨_, rfl⟩
  rw [← hw5] at hd cb0
  by_cases hk4 : 4 ≤ k
  · have hk0 : ((k : Int) == 0) = false := by simp; omega
    have hk1 : ((k : Int) == 1) = false := by simp; omega
    have hk2 : ((k : Int) == 2) = false := by simp; omega
    have hk3 : ((k : Int) == 3) = false := by simp; omega
    clear hk4
    obtain ⟨t1, t2, tv, t3, t4, t5⟩ := hd.at_
    obtain ⟨av, cw, rfl, _, _⟩ := t4.row
    have ca : w5.cell? ⟨w4.heap.size, 0, none⟩ = some (.slice av (ns).length cw) := by rw [cell_of_row _ _ 0 _ _ _ t3]; rfl
    have r0 : w5.cell? ⟨w.heap.size, 0, none⟩ = some (.slice none 0 0) := by rw [cell_of_row _ _ 0 _ _ _ hd.box]; rfl
    have f0 : w5.frozen? ⟨w.heap.size, 0, none⟩ = false := frozen_of_row _ _ 0 _ _ hd.box
    have HBL : Hid ((w5.setCell ⟨w.heap.size, 0, none⟩ (.slice av (ns).length cw)).heap[w.heap.size]? = some (.cells #[.slice av (ns).length cw] 28 (0, 0))) := by
      show _ = _
      rw [heap_setCell_same _ _ 0 _ _ _ hd.box]; rfl
    have tB : Below w.heap.size (w5) ((w5).setCell ⟨w.heap.size, 0, none⟩ (.slice av (ns).length cw)) := (Below.refl w.heap.size _).setCell (show w.heap.size ≤ w.heap.size by omega) _
    have HO : Hid (OwnN w.heap.size (w5.setCell ⟨w.heap.size, 0, none⟩ (.slice av (ns).length cw)) (.slice av (ns).length cw) (ns)) := OwnN.base (ownsRow_setCell_below t4 (show w.heap.size < w.heap.size + 1 by omega) _) (Nat.le_succ _)
    have HF : Hid (1 ≤ (ns).length ∧ (ns).length ≤ 14 ∧ (∀ q ∈ (ns), q.Fits) ∧ Cur B (w5.setCell ⟨w.heap.size, 0, none⟩ (.slice av (ns).length cw)) g ∧ w.grownBy (w5.setCell ⟨w.heap.size, 0, none⟩ (.slice av (ns).length cw)) (some g)) := ⟨by omega, by omega, HFI.out, hd.cur.beyond hgl tB, grown_then hd.gr tB⟩
    clear t1 t2 t3 t4 t5 hd tB
    clear cb0
    subst hw5
    have cb0 := ca
    clear ca
    go_wp2
    refine bodyPost_ret (results_cell_row rfl _ _ w.heap.size 28 #[.slice av (ns).length cw] (0, 0) _ rfl ?_ Try.underlying28 rfl arenaSize) rfl ?_
    · exact HBL.out
    · exact ⟨_, (ns), rfl, HF.out.1, HF.out.2.1, HF.out.2.2.1, HO.out, HF.out.2.2.2.1, HF.out.2.2.2.2⟩
  · by_cases hk0e : k = 0
    · obtain rfl : k = 0 := hk0e
      clear hk4 hk
      obtain ⟨gv, cv, hbx, hov, hgne, hgb, hgl2⟩ := hd.row (by omega)
      obtain ⟨x0, hx0⟩ : ∃ x0, x0 = ns.getD i Nd.zero := ⟨_, rfl⟩
      have cb : w5.cell? ⟨w4.heap.size, 0, none⟩ = some (.slice (some ⟨gv, 0, none⟩) ns.length cv) := by rw [cell_of_row _ _ 0 _ _ _ hbx]; rfl
      obtain ⟨u0, e0⟩ : ∃ u, w5.cell? ⟨gv, i * 4, none⟩ = some u := by rw [hov.cellAt (i * 4) (by omega)]; exact ⟨_, List.getElem?_eq_getElem (by rw [cellsN_len]; omega)⟩
      have f1 := hov.frozenAt (i * 4)
      have hdn : Dq w B g w4.heap.size (ns.set i ⟨(y : Int) % 11, x0.n, x0.a, x0.b⟩) (w5.setCell ⟨gv, i * 4, none⟩ (.int .i64 ((y : Int) % 11))) := hd.set (j := 0) hbx hov hgne hgb hil (by omega) (by rw [← hx0]; rfl)
      have hfx : (⟨(y : Int) % 11, x0.n, x0.a, x0.b⟩ : Nd).Fits := by have := getD_fits HFI.out hil; rw [← hx0] at this; unfold Nd.Fits at this ⊢; simp only; omega
      have hft := set_fits (i := i) HFI.out hfx
      obtain ⟨ms, hms⟩ : ∃ ms, ms = ns.set i ⟨(y : Int) % 11, x0.n, x0.a, x0.b⟩ := ⟨_, rfl⟩
      have hml : ms.length = ns.length := by rw [hms, List.length_set]
      rw [← hms] at hdn hft
      have hm1 : 1 ≤ ms.length := by omega
      have hm14 : ms.length ≤ 14 := by omega
      clear hbx hov hd hfx hms hml
      obtain ⟨t1, t2, tv, t3, t4, t5⟩ := hdn.at_
      obtain ⟨av, cw, rfl, _, _⟩ := t4.row
      have ca : (w5.setCell ⟨gv, i * 4, none⟩ (.int .i64 ((y : Int) % 11))).cell? ⟨w4.heap.size, 0, none⟩ = some (.slice av (ms).length cw) := by rw [cell_of_row _ _ 0 _ _ _ t3]; rfl
      have r0 : (w5.setCell ⟨gv, i * 4, none⟩ (.int .i64 ((y : Int) % 11))).cell? ⟨w.heap.size, 0, none⟩ = some (.slice none 0 0) := by rw [cell_of_row _ _ 0 _ _ _ hdn.box]; rfl
      have f0 : (w5.setCell ⟨gv, i * 4, none⟩ (.int .i64 ((y : Int) % 11))).frozen? ⟨w.heap.size, 0, none⟩ = false := frozen_of_row _ _ 0 _ _ hdn.box
      have HBL : Hid (((w5.setCell ⟨gv, i * 4, none⟩ (.int .i64 ((y : Int) % 11))).setCell ⟨w.heap.size, 0, none⟩ (.slice av (ms).length cw)).heap[w.heap.size]? = some (.cells #[.slice av (ms).length cw] 28 (0, 0))) := by
        show _ = _
        rw [heap_setCell_same _ _ 0 _ _ _ hdn.box]; rfl
      have tB : Below w.heap.size ((w5.setCell ⟨gv, i * 4, none⟩ (.int .i64 ((y : Int) % 11)))) (((w5.setCell ⟨gv, i * 4, none⟩ (.int .i64 ((y : Int) % 11)))).setCell ⟨w.heap.size, 0, none⟩ (.slice av (ms).length cw)) := (Below.refl w.heap.size _).setCell (show w.heap.size ≤ w.heap.size by omega) _
      have HO : Hid (OwnN w.heap.size ((w5.setCell ⟨gv, i * 4, none⟩ (.int .i64 ((y : Int) % 11))).setCell ⟨w.heap.size, 0, none⟩ (.slice av (ms).length cw)) (.slice av (ms).length cw) (ms)) := OwnN.base (ownsRow_setCell_below t4 (show w.heap.size < w.heap.size + 1 by omega) _) (Nat.le_succ _)
      have HF : Hid (1 ≤ (ms).length ∧ (ms).length ≤ 14 ∧ (∀ q ∈ (ms), q.Fits) ∧ Cur B ((w5.setCell ⟨gv, i * 4, none⟩ (.int .i64 ((y : Int) % 11))).setCell ⟨w.heap.size, 0, none⟩ (.slice av (ms).length cw)) g ∧ w.grownBy ((w5.setCell ⟨gv, i * 4, none⟩ (.int .i64 ((y : Int) % 11))).setCell ⟨w.heap.size, 0, none⟩ (.slice av (ms).length cw)) (some g)) := ⟨by omega, by omega, hft, hdn.cur.beyond hgl tB, grown_then hdn.gr tB⟩
      clear t1 t2 t3 t4 t5 hdn tB
      clear cb0
      subst hw5
      skip
      go_wp2
      refine bodyPost_ret (results_cell_row rfl _ _ w.heap.size 28 #[.slice av (ms).length cw] (0, 0) _ rfl ?_ Try.underlying28 rfl arenaSize) rfl ?_
      · exact HBL.out
      · exact ⟨_, (ms), rfl, HF.out.1, HF.out.2.1, HF.out.2.2.1, HO.out, HF.out.2.2.2.1, HF.out.2.2.2.2⟩
    · by_cases hk1e : k = 1
      · obtain rfl : k = 1 := hk1e
        clear hk4 hk hk0e
        obtain ⟨gv, cv, hbx, hov, hgne, hgb, hgl2⟩ := hd.row (by omega)
        obtain ⟨x0, hx0⟩ : ∃ x0, x0 = ns.getD i Nd.zero := ⟨_, rfl⟩
        have cb : w5.cell? ⟨w4.heap.size, 0, none⟩ = some (.slice (some ⟨gv, 0, none⟩) ns.length cv) := by rw [cell_of_row _ _ 0 _ _ _ hbx]; rfl
        obtain ⟨u0, e0⟩ : ∃ u, w5.cell? ⟨gv, i * 4 + 2, none⟩ = some u := by rw [hov.cellAt (i * 4 + 2) (by omega)]; exact ⟨_, List.getElem?_eq_getElem (by rw [cellsN_len]; omega)⟩
        have f1 := hov.frozenAt (i * 4 + 2)
        have hdn : Dq w B g w4.heap.size (ns.set i ⟨x0.k, x0.n, (y : Int) % 9 - 1, x0.b⟩) (w5.setCell ⟨gv, i * 4 + 2, none⟩ (.int .i64 ((y : Int) % 9 - 1))) := hd.set (j := 2) hbx hov hgne hgb hil (by omega) (by rw [← hx0]; rfl)
        have hfx : (⟨x0.k, x0.n, (y : Int) % 9 - 1, x0.b⟩ : Nd).Fits := by have := getD_fits HFI.out hil; rw [← hx0] at this; unfold Nd.Fits at this ⊢; simp only; omega
        have hft := set_fits (i := i) HFI.out hfx
        obtain ⟨ms, hms⟩ : ∃ ms, ms = ns.set i ⟨x0.k, x0.n, (y : Int) % 9 - 1, x0.b⟩ := ⟨_, rfl⟩
        have hml : ms.length = ns.length := by rw [hms, List.length_set]
        rw [← hms] at hdn hft
        have hm1 : 1 ≤ ms.length := by omega
        have hm14 : ms.length ≤ 14 := by omega
        clear hbx hov hd hfx hms hml
        obtain ⟨t1, t2, tv, t3, t4, t5⟩ := hdn.at_
        obtain ⟨av, cw, rfl, _, _⟩ := t4.row
        have ca : (w5.setCell ⟨gv, i * 4 + 2, none⟩ (.int .i64 ((y : Int) % 9 - 1))).cell? ⟨w4.heap.size, 0, none⟩ = some (.slice av (ms).length cw) := by rw [cell_of_row _ _ 0 _ _ _ t3]; rfl
        have r0 : (w5.setCell ⟨gv, i * 4 + 2, none⟩ (.int .i64 ((y : Int) % 9 - 1))).cell? ⟨w.heap.size, 0, none⟩ = some (.slice none 0 0) := by rw [cell_of_row _ _ 0 _ _ _ hdn.box]; rfl
        have f0 : (w5.setCell ⟨gv, i * 4 + 2, none⟩ (.int .i64 ((y : Int) % 9 - 1))).frozen? ⟨w.heap.size, 0, none⟩ = false := frozen_of_row _ _ 0 _ _ hdn.box
        have HBL : Hid (((w5.setCell ⟨gv, i * 4 + 2, none⟩ (.int .i64 ((y : Int) % 9 - 1))).setCell ⟨w.heap.size, 0, none⟩ (.slice av (ms).length cw)).heap[w.heap.size]? = some (.cells #[.slice av (ms).length cw] 28 (0, 0))) := by
          show _ = _
          rw [heap_setCell_same _ _ 0 _ _ _ hdn.box]; rfl
        have tB : Below w.heap.size ((w5.setCell ⟨gv, i * 4 + 2, none⟩ (.int .i64 ((y : Int) % 9 - 1)))) (((w5.setCell ⟨gv, i * 4 + 2, none⟩ (.int .i64 ((y : Int) % 9 - 1)))).setCell ⟨w.heap.size, 0, none⟩ (.slice av (ms).length cw)) := (Below.refl w.heap.size _).setCell (show w.heap.size ≤ w.heap.size by omega) _
        have HO : Hid (OwnN w.heap.size ((w5.setCell ⟨gv, i * 4 + 2, none⟩ (.int .i64 ((y : Int) % 9 - 1))).setCell ⟨w.heap.size, 0, none⟩ (.slice av (ms).length cw)) (.slice av (ms).length cw) (ms)) := OwnN.base (ownsRow_setCell_below t4 (show w.heap.size < w.heap.size + 1 by omega) _) (Nat.le_succ _)
        have HF : Hid (1 ≤ (ms).length ∧ (ms).length ≤ 14 ∧ (∀ q ∈ (ms), q.Fits) ∧ Cur B ((w5.setCell ⟨gv, i * 4 + 2, none⟩ (.int .i64 ((y : Int) % 9 - 1))).setCell ⟨w.heap.size, 0, none⟩ (.slice av (ms).length cw)) g ∧ w.grownBy ((w5.setCell ⟨gv, i * 4 + 2, none⟩ (.int .i64 ((y : Int) % 9 - 1))).setCell ⟨w.heap.size, 0, none⟩ (.slice av (ms).length cw)) (some g)) := ⟨by omega, by omega, hft, hdn.cur.beyond hgl tB, grown_then hdn.gr tB⟩
        clear t1 t2 t3 t4 t5 hdn tB
        clear cb0
        subst hw5
        go_wp2
        refine bodyPost_ret (results_cell_row rfl _ _ w.heap.size 28 #[.slice av (ms).length cw] (0, 0) _ rfl ?_ Try.underlying28 rfl arenaSize) rfl ?_
        · exact HBL.out
        · exact ⟨_, (ms), rfl, HF.out.1, HF.out.2.1, HF.out.2.2.1, HO.out, HF.out.2.2.2.1, HF.out.2.2.2.2⟩
      · by_cases hk2e : k = 2
        · obtain rfl : k = 2 := hk2e
          clear hk4 hk hk0e hk1e
          have hd6 := hd.made ((Below.refl w5.heap.size w5).alloc (Nat.le_refl _) (.cells #[.int .i64 (-1), .int .i64 5, .int .i64 1000000] 3)).drew
          obtain ⟨gv, cv, hbx, hov, hgne, hgb, hgl2⟩ := hd.row (by omega)
          have hb6 : Below w5.heap.size w5 (w5.alloc (.cells #[.int .i64 (-1), .int .i64 5, .int .i64 1000000] 3)).drew := ((Below.refl w5.heap.size w5).alloc (Nat.le_refl _) _).drew
          have hbx6 := (hb6.block w4.heap.size (by rw [hw5]; simp)).trans hbx
          have hov6 : OwnN (w.heap.size + 1) (w5.alloc (.cells #[.int .i64 (-1), .int .i64 5, .int .i64 1000000] 3)).drew (.slice (some ⟨gv, 0, none⟩) ns.length cv) ns := hov.later hb6
          obtain ⟨x0, hx0⟩ : ∃ x0, x0 = ns.getD i Nd.zero := ⟨_, rfl⟩
          have cb : w5.cell? ⟨w4.heap.size, 0, none⟩ = some (.slice (some ⟨gv, 0, none⟩) ns.length cv) := by rw [cell_of_row _ _ 0 _ _ _ hbx]; rfl
          obtain ⟨u0, e0⟩ : ∃ u, w5.cell? ⟨gv, i * 4 + 1, none⟩ = some u := by rw [hov.cellAt (i * 4 + 1) (by omega)]; exact ⟨_, List.getElem?_eq_getElem (by rw [cellsN_len]; omega)⟩
          have f1 := hov.frozenAt (i * 4 + 1)
          obtain ⟨rfl, rfl⟩ : a4 = some ⟨gv, 0, none⟩ ∧ cap4 = cv := by have := cb0.symm.trans cb; simpa using this
          have hbA : Below w5.heap.size w5 (w5.alloc (.cells #[.int .i64 (-1), .int .i64 5, .int .i64 1000000] 3)) := (Below.refl w5.heap.size w5).alloc (Nat.le_refl _) _
          have e6 := (hbA.cell (p := ⟨gv, i * 4 + 1, none⟩) hgl2).trans e0
          have f6 := (hbA.frozen (p := ⟨gv, i * 4 + 1, none⟩) hgl2).trans f1
          obtain ⟨r, hr3, hre⟩ : ∃ r : Nat, r < 3 ∧ (y : Int) % 3 = (r : Int) := ⟨y % 3, Nat.mod_lt _ (by omega), by rw [Int.natCast_emod]; rfl⟩
          have hrt : (y : Int).tmod 3 = (r : Int) := by rw [Int.tmod_eq_emod_of_nonneg (by omega)]; exact hre
          have key : ∀ z : Int, -1 ≤ z → z ≤ 1000000 → Dq w B g w4.heap.size (ns.set i ⟨x0.k, z, x0.a, x0.b⟩) ((w5.alloc (.cells #[.int .i64 (-1), .int .i64 5, .int .i64 1000000] 3)).setCell ⟨gv, i * 4 + 1, none⟩ (.int .i64 z)).drew ∧ ∀ q ∈ ns.set i ⟨x0.k, z, x0.a, x0.b⟩, q.Fits := fun z hz0 hz1 => ⟨hd6.set (j := 1) hbx6 hov6 hgne hgb hil (by omega) (by rw [← hx0]; rfl), set_fits HFI.out (by have := getD_fits HFI.out hil; rw [← hx0] at this; unfold Nd.Fits at this ⊢; simp only; omega)⟩
          have HK : Hid _ := key
          have hgw : w4.heap.size < w5.heap.size := by rw [hw5]; simp
          clear hbx hov hd hd6 hb6 hbx6 hov6 key cb0 hbA
          rcases (show r = 0 ∨ r = 1 ∨ r = 2 by omega) with rfl | rfl | rfl
          · obtain ⟨hdn, hft⟩ := HK.out (-1) (by omega) (by omega)
            obtain ⟨ms, hms⟩ : ∃ ms, ms = ns.set i ⟨x0.k, -1, x0.a, x0.b⟩ := ⟨_, rfl⟩
            have hml : ms.length = ns.length := by rw [hms, List.length_set]
            rw [← hms] at hdn hft
            have hm1 : 1 ≤ ms.length := by omega
            have hm14 : ms.length ≤ 14 := by omega
            clear hms hml HK
            obtain ⟨t1, t2, tv, t3, t4, t5⟩ := hdn.at_
            obtain ⟨av, cw, rfl, _, _⟩ := t4.row
            have ca : ((w5.alloc (.cells #[.int .i64 (-1), .int .i64 5, .int .i64 1000000] 3)).setCell ⟨gv, i * 4 + 1, none⟩ (.int .i64 (-1))).drew.cell? ⟨w4.heap.size, 0, none⟩ = some (.slice av (ms).length cw) := by rw [cell_of_row _ _ 0 _ _ _ t3]; rfl
            have r0 : ((w5.alloc (.cells #[.int .i64 (-1), .int .i64 5, .int .i64 1000000] 3)).setCell ⟨gv, i * 4 + 1, none⟩ (.int .i64 (-1))).drew.cell? ⟨w.heap.size, 0, none⟩ = some (.slice none 0 0) := by rw [cell_of_row _ _ 0 _ _ _ hdn.box]; rfl
            have f0 : ((w5.alloc (.cells #[.int .i64 (-1), .int .i64 5, .int .i64 1000000] 3)).setCell ⟨gv, i * 4 + 1, none⟩ (.int .i64 (-1))).drew.frozen? ⟨w.heap.size, 0, none⟩ = false := frozen_of_row _ _ 0 _ _ hdn.box
            have HBL : Hid ((((w5.alloc (.cells #[.int .i64 (-1), .int .i64 5, .int .i64 1000000] 3)).setCell ⟨gv, i * 4 + 1, none⟩ (.int .i64 (-1))).drew.setCell ⟨w.heap.size, 0, none⟩ (.slice av (ms).length cw)).heap[w.heap.size]? = some (.cells #[.slice av (ms).length cw] 28 (0, 0))) := by
              show _ = _
              rw [heap_setCell_same _ _ 0 _ _ _ hdn.box]; rfl
            have tB : Below w.heap.size (((w5.alloc (.cells #[.int .i64 (-1), .int .i64 5, .int .i64 1000000] 3)).setCell ⟨gv, i * 4 + 1, none⟩ (.int .i64 (-1))).drew) ((((w5.alloc (.cells #[.int .i64 (-1), .int .i64 5, .int .i64 1000000] 3)).setCell ⟨gv, i * 4 + 1, none⟩ (.int .i64 (-1))).drew).setCell ⟨w.heap.size, 0, none⟩ (.slice av (ms).length cw)) := (Below.refl w.heap.size _).setCell (show w.heap.size ≤ w.heap.size by omega) _
            have HO : Hid (OwnN w.heap.size (((w5.alloc (.cells #[.int .i64 (-1), .int .i64 5, .int .i64 1000000] 3)).setCell ⟨gv, i * 4 + 1, none⟩ (.int .i64 (-1))).drew.setCell ⟨w.heap.size, 0, none⟩ (.slice av (ms).length cw)) (.slice av (ms).length cw) (ms)) := OwnN.base (ownsRow_setCell_below t4 (show w.heap.size < w.heap.size + 1 by omega) _) (Nat.le_succ _)
            have HF : Hid (1 ≤ (ms).length ∧ (ms).length ≤ 14 ∧ (∀ q ∈ (ms), q.Fits) ∧ Cur B (((w5.alloc (.cells #[.int .i64 (-1), .int .i64 5, .int .i64 1000000] 3)).setCell ⟨gv, i * 4 + 1, none⟩ (.int .i64 (-1))).drew.setCell ⟨w.heap.size, 0, none⟩ (.slice av (ms).length cw)) g ∧ w.grownBy (((w5.alloc (.cells #[.int .i64 (-1), .int .i64 5, .int .i64 1000000] 3)).setCell ⟨gv, i * 4 + 1, none⟩ (.int .i64 (-1))).drew.setCell ⟨w.heap.size, 0, none⟩ (.slice av (ms).length cw)) (some g)) := ⟨by omega, by omega, hft, hdn.cur.beyond hgl tB, grown_then hdn.gr tB⟩
            clear t1 t2 t3 t4 t5 hdn tB
            subst hw5
            go_wp2_with fail
            go_region
            all_goals
              go_wp2
              refine bodyPost_ret (results_cell_row rfl _ _ w.heap.size 28 #[.slice av (ms).length cw] (0, 0) _ rfl ?_ Try.underlying28 rfl arenaSize) rfl ?_
              · exact HBL.out
              · exact ⟨_, (ms), rfl, HF.out.1, HF.out.2.1, HF.out.2.2.1, HO.out, HF.out.2.2.2.1, HF.out.2.2.2.2⟩
          · obtain ⟨hdn, hft⟩ := HK.out (5) (by omega) (by omega)
            obtain ⟨ms, hms⟩ : ∃ ms, ms = ns.set i ⟨x0.k, 5, x0.a, x0.b⟩ := ⟨_, rfl⟩
            have hml : ms.length = ns.length := by rw [hms, List.length_set]
            rw [← hms] at hdn hft
            have hm1 : 1 ≤ ms.length := by omega
            have hm14 : ms.length ≤ 14 := by omega
            clear hms hml HK
            obtain ⟨t1, t2, tv, t3, t4, t5⟩ := hdn.at_
            obtain ⟨av, cw, rfl, _, _⟩ := t4.row
            have ca : ((w5.alloc (.cells #[.int .i64 (-1), .int .i64 5, .int .i64 1000000] 3)).setCell ⟨gv, i * 4 + 1, none⟩ (.int .i64 (5))).drew.cell? ⟨w4.heap.size, 0, none⟩ = some (.slice av (ms).length cw) := by rw [cell_of_row _ _ 0 _ _ _ t3]; rfl
            have r0 : ((w5.alloc (.cells #[.int .i64 (-1), .int .i64 5, .int .i64 1000000] 3)).setCell ⟨gv, i * 4 + 1, none⟩ (.int .i64 (5))).drew.cell? ⟨w.heap.size, 0, none⟩ = some (.slice none 0 0) := by rw [cell_of_row _ _ 0 _ _ _ hdn.box]; rfl
            have f0 : ((w5.alloc (.cells #[.int .i64 (-1), .int .i64 5, .int .i64 1000000] 3)).setCell ⟨gv, i * 4 + 1, none⟩ (.int .i64 (5))).drew.frozen? ⟨w.heap.size, 0, none⟩ = false := frozen_of_row _ _ 0 _ _ hdn.box
            have HBL : Hid ((((w5.alloc (.cells #[.int .i64 (-1), .int .i64 5, .int .i64 1000000] 3)).setCell ⟨gv, i * 4 + 1, none⟩ (.int .i64 (5))).drew.setCell ⟨w.heap.size, 0, none⟩ (.slice av (ms).length cw)).heap[w.heap.size]? = some (.cells #[.slice av (ms).length cw] 28 (0, 0))) := by
              show _ = _
              rw [heap_setCell_same _ _ 0 _ _ _ hdn.box]; rfl
            have tB : Below w.heap.size (((w5.alloc (.cells #[.int .i64 (-1), .int .i64 5, .int .i64 1000000] 3)).setCell ⟨gv, i * 4 + 1, none⟩ (.int .i64 (5))).drew) ((((w5.alloc (.cells #[.int .i64 (-1), .int .i64 5, .int .i64 1000000] 3)).setCell ⟨gv, i * 4 + 1, none⟩ (.int .i64 (5))).drew).setCell ⟨w.heap.size, 0, none⟩ (.slice av (ms).length cw)) := (Below.refl w.heap.size _).setCell (show w.heap.size ≤ w.heap.size by omega) _
            have HO : Hid (OwnN w.heap.size (((w5.alloc (.cells #[.int .i64 (-1), .int .i64 5, .int .i64 1000000] 3)).setCell ⟨gv, i * 4 + 1, none⟩ (.int .i64 (5))).drew.setCell ⟨w.heap.size, 0, none⟩ (.slice av (ms).length cw)) (.slice av (ms).length cw) (ms)) := OwnN.base (ownsRow_setCell_below t4 (show w.heap.size < w.heap.size + 1 by omega) _) (Nat.le_succ _)
            have HF : Hid (1 ≤ (ms).length ∧ (ms).length ≤ 14 ∧ (∀ q ∈ (ms), q.Fits) ∧ Cur B (((w5.alloc (.cells #[.int .i64 (-1), .int .i64 5, .int .i64 1000000] 3)).setCell ⟨gv, i * 4 + 1, none⟩ (.int .i64 (5))).drew.setCell ⟨w.heap.size, 0, none⟩ (.slice av (ms).length cw)) g ∧ w.grownBy (((w5.alloc (.cells #[.int .i64 (-1), .int .i64 5, .int .i64 1000000] 3)).setCell ⟨gv, i * 4 + 1, none⟩ (.int .i64 (5))).drew.setCell ⟨w.heap.size, 0, none⟩ (.slice av (ms).length cw)) (some g)) := ⟨by omega, by omega, hft, hdn.cur.beyond hgl tB, grown_then hdn.gr tB⟩
            clear t1 t2 t3 t4 t5 hdn tB
            subst hw5
            go_wp2_with fail
            go_region
            all_goals
              go_wp2
              refine bodyPost_ret (results_cell_row rfl _ _ w.heap.size 28 #[.slice av (ms).length cw] (0, 0) _ rfl ?_ Try.underlying28 rfl arenaSize) rfl ?_
              · exact HBL.out
              · exact ⟨_, (ms), rfl, HF.out.1, HF.out.2.1, HF.out.2.2.1, HO.out, HF.out.2.2.2.1, HF.out.2.2.2.2⟩
          · obtain ⟨hdn, hft⟩ := HK.out (1000000) (by omega) (by omega)
            obtain ⟨ms, hms⟩ : ∃ ms, ms = ns.set i ⟨x0.k, 1000000, x0.a, x0.b⟩ := ⟨_, rfl⟩
            have hml : ms.length = ns.length := by rw [hms, List.length_set]
            rw [← hms] at hdn hft
            have hm1 : 1 ≤ ms.length := by omega
            have hm14 : ms.length ≤ 14 := by omega
            clear hms hml HK
            obtain ⟨t1, t2, tv, t3, t4, t5⟩ := hdn.at_
            obtain ⟨av, cw, rfl, _, _⟩ := t4.row
            have ca : ((w5.alloc (.cells #[.int .i64 (-1), .int .i64 5, .int .i64 1000000] 3)).setCell ⟨gv, i * 4 + 1, none⟩ (.int .i64 (1000000))).drew.cell? ⟨w4.heap.size, 0, none⟩ = some (.slice av (ms).length cw) := by rw [cell_of_row _ _ 0 _ _ _ t3]; rfl
            have r0 : ((w5.alloc (.cells #[.int .i64 (-1), .int .i64 5, .int .i64 1000000] 3)).setCell ⟨gv, i * 4 + 1, none⟩ (.int .i64 (1000000))).drew.cell? ⟨w.heap.size, 0, none⟩ = some (.slice none 0 0) := by rw [cell_of_row _ _ 0 _ _ _ hdn.box]; rfl
            have f0 : ((w5.alloc (.cells #[.int .i64 (-1), .int .i64 5, .int .i64 1000000] 3)).setCell ⟨gv, i * 4 + 1, none⟩ (.int .i64 (1000000))).drew.frozen? ⟨w.heap.size, 0, none⟩ = false := frozen_of_row _ _ 0 _ _ hdn.box
            have HBL : Hid ((((w5.alloc (.cells #[.int .i64 (-1), .int .i64 5, .int .i64 1000000] 3)).setCell ⟨gv, i * 4 + 1, none⟩ (.int .i64 (1000000))).drew.setCell ⟨w.heap.size, 0, none⟩ (.slice av (ms).length cw)).heap[w.heap.size]? = some (.cells #[.slice av (ms).length cw] 28 (0, 0))) := by
              show _ = _
              rw [heap_setCell_same _ _ 0 _ _ _ hdn.box]; rfl
            have tB : Below w.heap.size (((w5.alloc (.cells #[.int .i64 (-1), .int .i64 5, .int .i64 1000000] 3)).setCell ⟨gv, i * 4 + 1, none⟩ (.int .i64 (1000000))).drew) ((((w5.alloc (.cells #[.int .i64 (-1), .int .i64 5, .int .i64 1000000] 3)).setCell ⟨gv, i * 4 + 1, none⟩ (.int .i64 (1000000))).drew).setCell ⟨w.heap.size, 0, none⟩ (.slice av (ms).length cw)) := (Below.refl w.heap.size _).setCell (show w.heap.size ≤ w.heap.size by omega) _
            have HO : Hid (OwnN w.heap.size (((w5.alloc (.cells #[.int .i64 (-1), .int .i64 5, .int .i64 1000000] 3)).setCell ⟨gv, i * 4 + 1, none⟩ (.int .i64 (1000000))).drew.setCell ⟨w.heap.size, 0, none⟩ (.slice av (ms).length cw)) (.slice av (ms).length cw) (ms)) := OwnN.base (ownsRow_setCell_below t4 (show w.heap.size < w.heap.size + 1 by omega) _) (Nat.le_succ _)
            have HF : Hid (1 ≤ (ms).length ∧ (ms).length ≤ 14 ∧ (∀ q ∈ (ms), q.Fits) ∧ Cur B (((w5.alloc (.cells #[.int .i64 (-1), .int .i64 5, .int .i64 1000000] 3)).setCell ⟨gv, i * 4 + 1, none⟩ (.int .i64 (1000000))).drew.setCell ⟨w.heap.size, 0, none⟩ (.slice av (ms).length cw)) g ∧ w.grownBy (((w5.alloc (.cells #[.int .i64 (-1), .int .i64 5, .int .i64 1000000] 3)).setCell ⟨gv, i * 4 + 1, none⟩ (.int .i64 (1000000))).drew.setCell ⟨w.heap.size, 0, none⟩ (.slice av (ms).length cw)) (some g)) := ⟨by omega, by omega, hft, hdn.cur.beyond hgl tB, grown_then hdn.gr tB⟩
            clear t1 t2 t3 t4 t5 hdn tB
            subst hw5
            go_wp2_with fail
            go_region
            all_goals
              go_wp2
              refine bodyPost_ret (results_cell_row rfl _ _ w.heap.size 28 #[.slice av (ms).length cw] (0, 0) _ rfl ?_ Try.underlying28 rfl arenaSize) rfl ?_
              · exact HBL.out
              · exact ⟨_, (ms), rfl, HF.out.1, HF.out.2.1, HF.out.2.2.1, HO.out, HF.out.2.2.2.1, HF.out.2.2.2.2⟩
        · obtain rfl : k = 3 := by omega
          clear hk4 hk hk0e hk1e hk2e
          obtain ⟨gv, cv, hbx, hov, hgne, hgb, hgl2⟩ := hd.row (by omega)
          have cb : w5.cell? ⟨w4.heap.size, 0, none⟩ = some (.slice (some ⟨gv, 0, none⟩) ns.length cv) := by rw [cell_of_row _ _ 0 _ _ _ hbx]; rfl
          obtain ⟨rfl, rfl⟩ : a4 = some ⟨gv, 0, none⟩ ∧ cap4 = cv := by have := cb0.symm.trans cb; simpa using this
          obtain ⟨ar, cr, hre, _, hrow⟩ := hov.row
          cases hre
          obtain ⟨_, c0, c1, c2, c3⟩ := hrow.at (Below.refl _ _) (i := 0) (by omega)
          have hfx := getD_fits HFI.out (show 0 < ns.length by omega)
          generalize ns.getD 0 Nd.zero = x at c0 c1 c2 c3 hfx
          simp only [Nat.zero_mul, Nat.zero_add, Nat.add_zero] at c0 c1 c2 c3
          have hgw : w4.heap.size < w5.heap.size := by rw [hw5]; simp
          have hw5s : w5.heap.size = w4.heap.size + 1 := by rw [hw5]; simp
          obtain ⟨i0, hi, hz0, hz1, hz2⟩ := info_parts infoNode
          have HD : Hid _ := hd
          have HOW : Hid ((w5.alloc (.cells #[.int .i64 x.k, .int .i64 x.n, .int .i64 x.a, .int .i64 x.b] 45)).drew.ownsRow (w.heap.size + 1) 45 4 (.slice (some ⟨gv, 0, none⟩) ns.length cap4) ns.length (cellsN ns)) := (World.ownsRow.alloc hov _).drew
          have HNW : Hid (∀ j u, x.cells[j]? = some u → (w5.alloc (.cells #[.int .i64 x.k, .int .i64 x.n, .int .i64 x.a, .int .i64 x.b] 45)).drew.cell? ((⟨w5.heap.size, 0, none⟩ : Addr).add j) = some u) := World.news_of_block (cs := #[.int .i64 x.k, .int .i64 x.n, .int .i64 x.a, .int .i64 x.b]) (t := 45) (fr := (0, 0)) (heap_alloc_new w5 _)
          have HCF : Hid (∀ wz, (w5.alloc (.cells #[.int .i64 x.k, .int .i64 x.n, .int .i64 x.a, .int .i64 x.b] 45)).drew.grownBy wz (some gv) → wz.heap[w4.heap.size]? = some (.cells #[.slice (some ⟨gv, 0, none⟩) ns.length cap4] 28 (0, 0))) := fun wz hgw2 => by
            rw [hgw2.block w4.heap.size (by simp; omega) (by simpa using Ne.symm hgne)]
            exact (heap_alloc_old w5 _ hgw).trans hbx
          have HFIN : Hid (∀ gg cap1 wz, wz.ownsRow (w.heap.size + 1) 45 4 (.slice (some ⟨gg, 0, none⟩) (ns.length + 1) cap1) (ns.length + 1) (cellsN ns ++ x.cells) → (w5.alloc (.cells #[.int .i64 x.k, .int .i64 x.n, .int .i64 x.a, .int .i64 x.b] 45)).drew.grownBy wz (some gv) → (some gv = some gg ∨ gg = w5.heap.size + 1) → Dq w B g w4.heap.size (ns ++ [x]) (wz.setCell ⟨w4.heap.size, 0, none⟩ (.slice (some ⟨gg, 0, none⟩) (ns.length + 1) cap1))) := fun gg cap1 wz ho hgw2 hat => by
            have hne : gg ≠ w4.heap.size := by
              rcases hat with h | h
              · simp at h; rw [← h]; exact hgne
              · omega
            have hblk := HCF.out wz hgw2
            have hB : Below (w.heap.size + 1) w5 wz := (((Below.refl _ _).alloc (by omega) _).drew).grown hgw2 (by simp; omega) (fun k hk => by cases hk; exact hgb)
            have hB2 : Below (w.heap.size + 1) w5 (wz.setCell ⟨w4.heap.size, 0, none⟩ (.slice (some ⟨gg, 0, none⟩) (ns.length + 1) cap1)) := hB.setCell (show w.heap.size + 1 ≤ w4.heap.size from HD.out.at_.1) _
            have hsz : w4.heap.size < wz.heap.size := (Array.getElem?_eq_some_iff.1 hblk).1
            refine ⟨⟨HD.out.at_.1, by simpa using hsz, _, (heap_setCell_same wz w4.heap.size 0 _ _ _ hblk).trans rfl, ?_, by simpa [Value.ownBlock] using hne⟩, HD.out.cur.beyond (Nat.lt_succ_of_lt HD.out.lt) hB2, grown_then HD.out.gr (hB2.mono (Nat.le_succ _)), (hB2.block _ (Nat.lt_succ_self _)).trans HD.out.box, HD.out.lt⟩
            have e : cellsN (ns ++ [x]) = cellsN ns ++ x.cells := by rw [cellsN_append]; simp [cellsN]
            unfold OwnN
            rw [e]
            simpa using ownsRow_setCell_other ho (a := ⟨w4.heap.size, 0, none⟩) (by simpa [Value.ownBlock] using hne) (.slice (some ⟨gg, 0, none⟩) (ns.length + 1) cap1)
          have s1 : Hid (∀ u ∈ x.cells, u.oneCell' = true) := by intro u hu; simp only [Nd.cells, List.mem_cons, List.not_mem_nil, or_false] at hu; rcases hu with rfl | rfl | rfl | rfl <;> rfl
          have s2 : Hid (ns.length + 1 ≤ maxLen) := by show _ ≤ _; unfold maxLen; omega
          have s3 : Hid ((ns.length + 1) * 32 ≤ 140737488355328) := by show _ ≤ _; omega
          have s4 : Hid (w.heap.size + 1 ≤ (w5.alloc (.cells #[.int .i64 x.k, .int .i64 x.n, .int .i64 x.a, .int .i64 x.b] 45)).drew.heap.size) := by show _ ≤ _; simp; omega
          have s5 : Hid ((w5.alloc (.cells #[.int .i64 x.k, .int .i64 x.n, .int .i64 x.a, .int .i64 x.b] 45)).drew.heap.size = w5.heap.size + 1) := by show _ = _; simp
          have s6 : Hid ((0 : Nat) < 4) := by show _ < _; omega
          have s7 : Hid ((0 : Nat) < 1) := by show _ < _; omega
          have HMF : Hid (∀ q ∈ ns ++ [x], q.Fits) := fun q hq => by
            rcases List.mem_append.1 hq with h | h
            · exact HFI.out q h
            · simp at h; rw [h]; exact hfx
          have hn0 : 0 < ns.length := hn1
          clear hbx hov hd hrow cb0 hfx
          have HW : Hid (w5 = w4.alloc (.cells #[.slice (some ⟨gv, 0, none⟩) ns.length cap4] 28)) := hw5
          clear hw5
          rw [HW.out] at cb c0 c1 c2 c3
          go_wp2_with fail
          rw [← HW.out] at cb c0 c1 c2 c3 ⊢
          go_region_law (refine step_append_lies _ rfl (.tmp 54) (.tmp 59) 26 rfl (w.heap.size + 1) 45 i0 _ 4 32 Try.underlying26 hi hz0 hz1 hz2 rfl s6.out (.slice (some ⟨gv, 0, none⟩) ns.length cap4) ns.length _ (by simp [Act.eval]) HOW.out ⟨w5.heap.size, 0, none⟩ 1 1 x.cells (by simp [Act.eval]) rfl HNW.out s1.out s7.out s2.out s3.out s4.out (w5.heap.size + 1) s5.out ?_; intro gg cap1 wz hown1 hgrow hat hglz; have hblk := HCF.out wz hgrow; have hcg := cell_of_row wz w4.heap.size 0 _ _ _ hblk; have hfg := frozen_of_row wz w4.heap.size 0 _ _ hblk; clear hblk)
          all_goals
            have hdn := HFIN.out gg cap1 wz hown1 hgrow hat
            have hft := HMF.out
            clear HFIN HMF HOW HNW HCF hown1 hgrow hat hcg hfg HD cb c0 c1 c2 c3 HW s1 s2 s3 s4 s5 HFI
            generalize (wz.setCell ⟨w4.heap.size, 0, none⟩ (.slice (some ⟨gg, 0, none⟩) (ns.length + 1) cap1)) = w6 at hdn ⊢
            obtain ⟨ms, hms⟩ : ∃ ms, ms = ns ++ [x] := ⟨_, rfl⟩
            have hml : ms.length = ns.length + 1 := by rw [hms]; simp
            rw [← hms] at hdn hft
            have hm1 : 1 ≤ ms.length := by omega
            have hm14 : ms.length ≤ 14 := by omega
            clear hms hml
            obtain ⟨t1, t2, tv, t3, t4, t5⟩ := hdn.at_
            obtain ⟨av, cw, rfl, _, _⟩ := t4.row
            have ca : w6.cell? ⟨w4.heap.size, 0, none⟩ = some (.slice av (ms).length cw) := by rw [cell_of_row _ _ 0 _ _ _ t3]; rfl
            have r0 : w6.cell? ⟨w.heap.size, 0, none⟩ = some (.slice none 0 0) := by rw [cell_of_row _ _ 0 _ _ _ hdn.box]; rfl
            have f0 : w6.frozen? ⟨w.heap.size, 0, none⟩ = false := frozen_of_row _ _ 0 _ _ hdn.box
            have HBL : Hid ((w6.setCell ⟨w.heap.size, 0, none⟩ (.slice av (ms).length cw)).heap[w.heap.size]? = some (.cells #[.slice av (ms).length cw] 28 (0, 0))) := by
              show _ = _
              rw [heap_setCell_same _ _ 0 _ _ _ hdn.box]; rfl
            have tB : Below w.heap.size (w6) ((w6).setCell ⟨w.heap.size, 0, none⟩ (.slice av (ms).length cw)) := (Below.refl w.heap.size _).setCell (show w.heap.size ≤ w.heap.size by omega) _
            have HO : Hid (OwnN w.heap.size (w6.setCell ⟨w.heap.size, 0, none⟩ (.slice av (ms).length cw)) (.slice av (ms).length cw) (ms)) := OwnN.base (ownsRow_setCell_below t4 (show w.heap.size < w.heap.size + 1 by omega) _) (Nat.le_succ _)
            have HF : Hid (1 ≤ (ms).length ∧ (ms).length ≤ 14 ∧ (∀ q ∈ (ms), q.Fits) ∧ Cur B (w6.setCell ⟨w.heap.size, 0, none⟩ (.slice av (ms).length cw)) g ∧ w.grownBy (w6.setCell ⟨w.heap.size, 0, none⟩ (.slice av (ms).length cw)) (some g)) := ⟨by omega, by omega, hft, hdn.cur.beyond hgl tB, grown_then hdn.gr tB⟩
            clear t1 t2 t3 t4 t5 hdn tB
            go_wp2
            refine bodyPost_ret (results_cell_row rfl _ _ w.heap.size 28 #[.slice av (ms).length cw] (0, 0) _ rfl ?_ Try.underlying28 rfl arenaSize) rfl ?_
            · exact HBL.out
            · exact ⟨_, (ms), rfl, HF.out.1, HF.out.2.1, HF.out.2.2.1, HO.out, HF.out.2.2.2.1, HF.out.2.2.2.2⟩
end Go.Proofs.Ytffnadnndmmliaa
