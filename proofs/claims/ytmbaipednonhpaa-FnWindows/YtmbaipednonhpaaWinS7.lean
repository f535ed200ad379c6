/- The specification's WindowNew and the drawing functions of chapter 7. -/
import Derived.Test.YtmbaipednonhpaaWinP7
import Derived.Test.YtmbaipednonhpaaCurW
import Derived.Test.YtmbaipednonhpaaCodeW
import Derived.WalkKit
import Derived.WalkLawsBesides
import Derived.WalkSpells
import Derived.Laws.Rows
import Derived.Laws.ResultCell
namespace Go.Proofs.Ytmbaipednonhpaa
open Go.RowKit
set_option linter.unusedVariables false
theorem specNew_any (w : World) : Calls Try.prog 18 #[] w fun e w' => e = .returned (.agg #[.int .i64 (-1), .int .i64 0]) ∧ Below w.heap.size w w' := by
  go_enter Try.func18, Try.ntmps18
  go_wp2
  refine bodyPost_ret (results_cell_row rfl _ _ (w.heap.size) 27 #[.int .i64 (-1), .int .i64 0] (0, 0) _ rfl ?_ Try.underlying27 rfl winSize) rfl ?_
  · exact heap_alloc_new w _
  · exact ⟨rfl, (Below.refl _ _).alloc (Nat.le_refl _) _⟩
/-- A box with a window, and what else stays while windows are drawn. -/
structure WBox (w : World) (B g bx : Nat) (t s : Int) (w' : World) : Prop where
  box : w'.heap[bx]? = some (.cells #[.int .i64 t, .int .i64 s] 27 (0, 0))
  cur : Cur B w' g
  grown : w.grownBy w' (some g)
theorem WBox.lt {w w' : World} {B g bx : Nat} {t s : Int} (h : WBox w B g bx t s w') : bx < w'.heap.size := (Array.getElem?_eq_some_iff.1 h.box).1
theorem WBox.c0 {w w' : World} {B g bx : Nat} {t s : Int} (h : WBox w B g bx t s w') : w'.cell? ⟨bx, 0, none⟩ = some (.int .i64 t) := (cell_of_row _ _ 0 _ _ _ h.box).trans rfl
theorem WBox.c1 {w w' : World} {B g bx : Nat} {t s : Int} (h : WBox w B g bx t s w') : w'.cell? ⟨bx, 1, none⟩ = some (.int .i64 s) := (cell_of_row _ _ 1 _ _ _ h.box).trans rfl
theorem WBox.f0 {w w' : World} {B g bx : Nat} {t s : Int} (h : WBox w B g bx t s w') (j : Nat) : w'.frozen? ⟨bx, j, none⟩ = false := frozen_of_row _ _ j _ _ h.box
theorem WBox.draw {w w1 w2 : World} {B g bx : Nat} {t s : Int} (h : WBox w B g bx t s w1) (hne : bx ≠ g) (hc : Cur B w2 g) (hg : w1.grownBy w2 (some g)) : WBox w B g bx t s w2 :=
  ⟨(hg.block bx h.lt (by simpa using hne)).trans h.box, hc, grown_trans h.grown hg⟩
theorem WBox.next {w w1 w2 : World} {B g bx : Nat} {t s : Int} (h : WBox w B g bx t s w1) (hb : Below w1.heap.size w1 w2) : WBox w B g bx t s w2 :=
  ⟨(hb.block bx h.lt).trans h.box, h.cur.grown hb, grown_then h.grown (hb.mono h.grown.size)⟩
theorem grown_set {w w1 : World} {r : Option Nat} {bx j : Nat} (h : w.grownBy w1 r) (hb : w.heap.size ≤ bx) (u : Value) : w.grownBy (w1.setCell ⟨bx, j, none⟩ u) r :=
  ⟨h.os, h.tape, h.output, by simpa using h.size, fun k hk hne => (heap_setCell_other w1 ⟨bx, j, none⟩ k u (show k ≠ bx by omega)).trans (h.block k hk hne)⟩
theorem Cur.set {B g bx j : Nat} {w : World} (h : Cur B w g) (hb : B ≤ bx) (hne : bx ≠ g) (u : Value) : Cur B (w.setCell ⟨bx, j, none⟩ u) g := by
  obtain ⟨h1, h2, a, len, cap, i, x, h3, h4, h5⟩ := h
  exact ⟨h1, by simpa using h2, a, len, cap, i, x, h3, h4.grown hb (grown_setCell w bx j u), (heap_setCell_other w ⟨bx, j, none⟩ g u (show g ≠ bx by omega)).trans h5⟩
theorem WBox.set {w w1 : World} {B g bx : Nat} {t s : Int} (h : WBox w B g bx t s w1) (hne : bx ≠ g) (hB : B ≤ bx) (hw : w.heap.size ≤ bx) (t' s' : Int) : WBox w B g bx t' s' ((w1.setCell ⟨bx, 0, none⟩ (.int .i64 t')).setCell ⟨bx, 1, none⟩ (.int .i64 s')) :=
  ⟨store2 h.box _ _, (h.cur.set hB hne _).set hB hne _, grown_set (grown_set h.grown hw _) hw _⟩
set_option maxHeartbeats 3200000 in
theorem window_any (B g : Nat) (w : World) (hB : B ≤ w.heap.size) (hc : Cur B w g) :
    Calls Try.prog 32 #[.pointer (some ⟨g, 0, none⟩)] w fun e w' => ∃ t s : Int, e = .returned (.agg #[.int .i64 t, .int .i64 s]) ∧ winB t s = true ∧ Cur B w' g ∧ w.grownBy w' (some g) := by
  have hg : g < w.heap.size := hc.2.1
  have hb0 : Below w.heap.size w (w.alloc (.cells #[.int .i64 0, .int .i64 0] 27)) := (Below.refl _ _).alloc (Nat.le_refl _) _
  have hx0 := heap_alloc_new w (.cells #[.int .i64 0, .int .i64 0] 27)
  have hs0 : (w.alloc (.cells #[.int .i64 0, .int .i64 0] 27)).heap.size = w.heap.size + 1 := by simp
  have HC : Hid (Cur B w g) := hc
  clear hc
  go_enter Try.func32, Try.ntmps32
  go_wp2_with fail
  generalize w.alloc (.cells #[.int .i64 0, .int .i64 0] 27) = w0 at hb0 hx0 hs0 ⊢
  refine (specNew_any _).mono ?_
  rintro e w1 ⟨rfl, hb1⟩
  have hs1 := hb1.size
  have hb2 : Below w1.heap.size w1 (w1.alloc (.cells #[.int .i64 (-1), .int .i64 0] 27)) := (Below.refl _ _).alloc (Nat.le_refl _) _
  have hb3 : Below w.heap.size w (w1.alloc (.cells #[.int .i64 (-1), .int .i64 0] 27)) := (hb0.trans (hb1.mono (by omega))).trans (hb2.mono (by omega))
  have H0 : Hid (WBox w B g w1.heap.size (-1) 0 (w1.alloc (.cells #[.int .i64 (-1), .int .i64 0] 27))) := ⟨heap_alloc_new w1 _, HC.out.grown hb3, grown_below hb3 _⟩
  have HX : Hid ((w1.alloc (.cells #[.int .i64 (-1), .int .i64 0] 27)).heap[w.heap.size]? = some (.cells #[.int .i64 0, .int .i64 0] 27 (0, 0))) := (hb2.block _ (by omega)).trans ((hb1.block _ (by omega)).trans hx0)
  clear hb0 hb1 hb2 hb3 hx0 HC
  go_wp2
  go_loopw [4] (fun iv wr => ∃ (m : Nat) (t s : Int), m ≤ 7 ∧ iv = .int .i64 (m : Int) ∧ Hid (winB t s = true) ∧ Hid (WBox w B g w1.heap.size t s wr) ∧ Hid (wr.heap[w.heap.size]? = some (.cells #[.int .i64 0, .int .i64 0] 27 (0, 0))))
    (fun iv _ => 7 - (intOf iv).toNat)
  case atStart => exact ⟨0, -1, 0, by omega, rfl, (show winB (-1) 0 = true by decide), H0, HX⟩
  case round =>
    clear H0 HX
    obtain ⟨m, t, s, hm, rfl, HW, H1, HX⟩ := hrel
    go_wp2_with fail
    refine (below_any B g 7 _ (by omega) (by omega) H1.out.cur).mono ?_
    rintro e w2 ⟨x, rfl, hx, hc2, hg2⟩
    have hgs := H1.out.grown.size
    have H2 : Hid (WBox w B g w1.heap.size t s w2) := H1.out.draw (by omega) hc2 hg2
    have hl1 := (Array.getElem?_eq_some_iff.1 HX.out).1
    have HX2 : Hid (w2.heap[w.heap.size]? = some (.cells #[.int .i64 0, .int .i64 0] 27 (0, 0))) := (hg2.block _ (by omega) (by simp; omega)).trans HX.out
    clear H1 HX hc2 hg2 hgs hl1
    by_cases hlt : (m : Int) < (x : Int)
    · have e0 := H2.out.c0
      have e1 := H2.out.c1
      have HD : Hid (WBox w B g w1.heap.size t s w2.drew) := H2.out.next ((Below.refl _ _).drew)
      have HXD : Hid (w2.drew.heap[w.heap.size]? = some (.cells #[.int .i64 0, .int .i64 0] 27 (0, 0))) := HX2.out
      have hl2 := (Array.getElem?_eq_some_iff.1 HX2.out).1
      have HSET : Hid (∀ (y : Int) (w4 : World), WBox w B g w1.heap.size t s w4 → w4.heap[w.heap.size]? = some (.cells #[.int .i64 0, .int .i64 0] 27 (0, 0)) → ∃ t' s' : Int, t' = notedT t s y ∧ s' = notedV t s y ∧ Hid (winB t' s' = true) ∧ Hid (WBox w B g w1.heap.size t' s' ((w4.setCell ⟨w1.heap.size, 0, none⟩ (.int .i64 t')).setCell ⟨w1.heap.size, 1, none⟩ (.int .i64 s'))) ∧ Hid (((w4.setCell ⟨w1.heap.size, 0, none⟩ (.int .i64 t')).setCell ⟨w1.heap.size, 1, none⟩ (.int .i64 s')).heap[w.heap.size]? = some (.cells #[.int .i64 0, .int .i64 0] 27 (0, 0)))) := fun y w4 h hx => by
        refine ⟨_, _, rfl, rfl, ?_, h.set (by omega) (by omega) (by omega) _ _, ?_⟩
        · show winB _ _ = true
          cases hf : freshB t s y with
          | true => exact noted_win hf
          | false => rw [(noted_no hf).1, (noted_no hf).2]; exact HW.out
        · exact (heap_setCell_other _ ⟨w1.heap.size, 1, none⟩ w.heap.size _ (show w.heap.size ≠ w1.heap.size by omega)).trans ((heap_setCell_other _ ⟨w1.heap.size, 0, none⟩ w.heap.size _ (show w.heap.size ≠ w1.heap.size by omega)).trans hx)
      clear H2 HX2
      go_wp2_with fail
      go_region_with (first | (go_at_call 23; refine (below_any B g 30 _ (by omega) (by omega) ?_).mono ?_; exact HD.out.cur; rintro e w3 ⟨y, rfl, hy, hc3, hg3⟩; have H3 : Hid (WBox w B g w1.heap.size t s w3) := HD.out.draw (by omega) hc3 hg3; have e3 := H3.out.c0; have e4 := H3.out.c1; have HX3 : Hid (w3.heap[w.heap.size]? = some (.cells #[.int .i64 0, .int .i64 0] 27 (0, 0))) := (hg3.block _ hl2 (by simp; omega)).trans HXD.out; clear hc3 hg3) | (go_at_call 15; refine (specNoted_any t s y _).mono ?_; rintro e w4 ⟨rfl, hb4⟩; have H4 : Hid (WBox w B g w1.heap.size t s w4) := H3.out.next hb4; have e5 := H4.out.c0; have e6 := H4.out.c1; have f5 := H4.out.f0 0; have f6 := H4.out.f0 1; obtain ⟨t', s', ht', hs', HW', H5, HX5⟩ := HSET.out y w4 H4.out ((hb4.block _ (Array.getElem?_eq_some_iff.1 HX3.out).1).trans HX3.out); clear hb4))
      all_goals
        clear HSET H4 H3 HX3 HD HXD
        go_wp2
        go_roundw
        case rel => subst ht' hs'; exact ⟨m + 1, _, _, by omega, by go_num, HW', H5, HX5⟩
        case measure => simp [intOf] <;> omega
    · have e0 := H2.out.c0
      have e1 := H2.out.c1
      have x0 : w2.cell? ⟨w.heap.size, 0, none⟩ = some (.int .i64 0) := (cell_of_row _ _ 0 _ _ _ HX2.out).trans rfl
      have x1 : w2.cell? ⟨w.heap.size, 1, none⟩ = some (.int .i64 0) := (cell_of_row _ _ 1 _ _ _ HX2.out).trans rfl
      have f0 : w2.frozen? ⟨w.heap.size, 0, none⟩ = false := frozen_of_row _ _ 0 _ _ HX2.out
      have f1 : w2.frozen? ⟨w.heap.size, 1, none⟩ = false := frozen_of_row _ _ 1 _ _ HX2.out
      have HE : Hid (Cur B ((w2.setCell ⟨w.heap.size, 0, none⟩ (.int .i64 t)).setCell ⟨w.heap.size, 1, none⟩ (.int .i64 s)) g ∧ w.grownBy ((w2.setCell ⟨w.heap.size, 0, none⟩ (.int .i64 t)).setCell ⟨w.heap.size, 1, none⟩ (.int .i64 s)) (some g)) := ⟨(H2.out.cur.set (by omega) (by omega) _).set (by omega) (by omega) _, grown_set (grown_set H2.out.grown (Nat.le_refl _) _) (Nat.le_refl _) _⟩
      go_wp2
      refine bodyPost_ret (results_cell_row rfl _ _ w.heap.size 27 #[.int .i64 t, .int .i64 s] (0, 0) _ rfl (store2 HX2.out _ _) Try.underlying27 rfl winSize) rfl ?_
      exact ⟨t, s, rfl, HW.out, HE.out.1, HE.out.2⟩
theorem lits4 {gl : Nat} {w : World} {t : TypeId} (zs : List Int) (h : w.heap[gl]? = some (.cells (zs.map (Value.int .i64)).toArray t (0, 0))) : ∀ i, i < zs.length → w.cell? ⟨gl, i, none⟩ = some (.int .i64 (zs.getD i 0)) := fun i hi => by
  rw [cell_of_row w gl i _ _ _ h]
  simp [hi]
set_option maxHeartbeats 3200000 in
theorem anyWin_any (B g : Nat) (w : World) (hB : B ≤ w.heap.size) (hc : Cur B w g) :
    Calls Try.prog 31 #[.pointer (some ⟨g, 0, none⟩)] w fun e w' => ∃ t s : Int, e = .returned (.agg #[.int .i64 t, .int .i64 s]) ∧ (-2 ≤ t ∧ t ≤ 10000) ∧ (-1 ≤ s ∧ s ≤ 65536) ∧ Cur B w' g ∧ w.grownBy w' (some g) := by
  have hg : g < w.heap.size := hc.2.1
  have hb0 : Below w.heap.size w (w.alloc (.cells #[.int .i64 0, .int .i64 0] 27)) := (Below.refl _ _).alloc (Nat.le_refl _) _
  have hx0 := heap_alloc_new w (.cells #[.int .i64 0, .int .i64 0] 27)
  have hs0 : (w.alloc (.cells #[.int .i64 0, .int .i64 0] 27)).heap.size = w.heap.size + 1 := by simp
  have HC : Hid (Cur B w g) := hc
  clear hc
  go_enter Try.func31, Try.ntmps31
  go_wp2_with fail
  generalize w.alloc (.cells #[.int .i64 0, .int .i64 0] 27) = w0 at hb0 hx0 hs0 ⊢
  refine (below_any B g 10 _ (by omega) (by omega) (HC.out.grown hb0)).mono ?_
  rintro e w1 ⟨k, rfl, hk, hc1, hg1⟩
  have hs1 := hg1.size
  have hx1 := (hg1.block w.heap.size (by omega) (by simp; omega)).trans hx0
  have HG1 : Hid (w.grownBy w1 (some g)) := grown_trans (grown_below hb0 _) hg1
  clear hg1 hx0
  go_wp2_with fail
  refine (window_any B g _ (by omega) hc1).mono ?_
  rintro e w2 ⟨t, s, rfl, hw2, hc2, hg2⟩
  have hr := winB_range hw2
  have hs2 := hg2.size
  have hb3 : Below w2.heap.size w2 (w2.alloc (.cells #[.int .i64 t, .int .i64 s] 27)) := (Below.refl _ _).alloc (Nat.le_refl _) _
  have HX : Hid ((w2.alloc (.cells #[.int .i64 t, .int .i64 s] 27)).heap[w.heap.size]? = some (.cells #[.int .i64 0, .int .i64 0] 27 (0, 0))) := (hb3.block _ (by omega)).trans ((hg2.block _ (by omega) (by simp; omega)).trans hx1)
  have H2 : Hid (WBox w B g w2.heap.size t s (w2.alloc (.cells #[.int .i64 t, .int .i64 s] 27))) := ⟨heap_alloc_new w2 _, hc2.grown hb3, grown_then (grown_trans HG1.out hg2) (hb3.mono (by omega))⟩
  have HR : Hid ((-1 ≤ t ∧ t ≤ 9999) ∧ (0 ≤ s ∧ s ≤ 65535)) := hr
  clear hc1 hx1 HG1 hw2 hr hc2 hg2 hb3 hb0
  have HFIN : Hid (∀ (t' s' : Int) (w4 : World), WBox w B g w2.heap.size t' s' w4 → w4.heap[w.heap.size]? = some (.cells #[.int .i64 0, .int .i64 0] 27 (0, 0)) → w4.cell? ⟨w.heap.size, 0, none⟩ = some (.int .i64 0) ∧ w4.cell? ⟨w.heap.size, 1, none⟩ = some (.int .i64 0) ∧ w4.frozen? ⟨w.heap.size, 0, none⟩ = false ∧ w4.frozen? ⟨w.heap.size, 1, none⟩ = false ∧ Hid (((w4.setCell ⟨w.heap.size, 0, none⟩ (.int .i64 t')).setCell ⟨w.heap.size, 1, none⟩ (.int .i64 s')).heap[w.heap.size]? = some (.cells #[.int .i64 t', .int .i64 s'] 27 (0, 0)) ∧ Cur B ((w4.setCell ⟨w.heap.size, 0, none⟩ (.int .i64 t')).setCell ⟨w.heap.size, 1, none⟩ (.int .i64 s')) g ∧ w.grownBy ((w4.setCell ⟨w.heap.size, 0, none⟩ (.int .i64 t')).setCell ⟨w.heap.size, 1, none⟩ (.int .i64 s')) (some g))) := fun t' s' w4 h hx =>
    ⟨(cell_of_row _ _ 0 _ _ _ hx).trans rfl, (cell_of_row _ _ 1 _ _ _ hx).trans rfl, frozen_of_row _ _ 0 _ _ hx, frozen_of_row _ _ 1 _ _ hx, store2 hx _ _, (h.cur.set (by omega) (by omega) _).set (by omega) (by omega) _, grown_set (grown_set h.grown (Nat.le_refl _) _) (Nat.le_refl _) _⟩
  by_cases h0 : k = 0
  · subst h0
    have hbL : Below (w2.alloc (.cells #[.int .i64 t, .int .i64 s] 27)).heap.size (w2.alloc (.cells #[.int .i64 t, .int .i64 s] 27)) ((w2.alloc (.cells #[.int .i64 t, .int .i64 s] 27)).alloc (.cells #[.int .i64 (-2), .int .i64 10000, .int .i64 (-1), .int .i64 3] 3)) := (Below.refl _ _).alloc (Nat.le_refl _) _
    have HL : Hid (((w2.alloc (.cells #[.int .i64 t, .int .i64 s] 27)).alloc (.cells #[.int .i64 (-2), .int .i64 10000, .int .i64 (-1), .int .i64 3] 3)).heap[w2.heap.size + 1]? = some (.cells #[.int .i64 (-2), .int .i64 10000, .int .i64 (-1), .int .i64 3] 3 (0, 0))) := by show _ = _; have := heap_alloc_new (w2.alloc (.cells #[.int .i64 t, .int .i64 s] 27)) (.cells #[.int .i64 (-2), .int .i64 10000, .int .i64 (-1), .int .i64 3] 3); simpa using this
    have H3 : Hid (WBox w B g w2.heap.size t s ((w2.alloc (.cells #[.int .i64 t, .int .i64 s] 27)).alloc (.cells #[.int .i64 (-2), .int .i64 10000, .int .i64 (-1), .int .i64 3] 3))) := H2.out.next hbL
    have HX3 : Hid (((w2.alloc (.cells #[.int .i64 t, .int .i64 s] 27)).alloc (.cells #[.int .i64 (-2), .int .i64 10000, .int .i64 (-1), .int .i64 3] 3)).heap[w.heap.size]? = some (.cells #[.int .i64 0, .int .i64 0] 27 (0, 0))) := (hbL.block _ (by simp; omega)).trans HX.out
    clear hbL H2 HX
    go_wp2_with fail
    generalize ((w2.alloc (.cells #[.int .i64 t, .int .i64 s] 27)).alloc (.cells #[.int .i64 (-2), .int .i64 10000, .int .i64 (-1), .int .i64 3] 3)) = w3 at HL H3 HX3 ⊢
    refine (pickInt_any B g (w2.heap.size + 1) 4 4 [-2, 10000, -1, 3] _ (by omega) (by omega) rfl (by omega) (lits4 [-2, 10000, -1, 3] HL.out) H3.out.cur).mono ?_
    rintro e w4 ⟨z, hz, rfl, hc4, hg4⟩
    have hlx := (Array.getElem?_eq_some_iff.1 HX3.out).1
    have H4 : Hid (WBox w B g w2.heap.size t s w4) := H3.out.draw (by omega) hc4 hg4
    have HX4 : Hid (w4.heap[w.heap.size]? = some (.cells #[.int .i64 0, .int .i64 0] 27 (0, 0))) := (hg4.block _ hlx (by simp; omega)).trans HX3.out
    have HZ : Hid (z ∈ ([-2, 10000, -1, 3] : List Int)) := hz
    have q0 := H4.out.c0
    have fq := H4.out.f0 0
    have H5 : Hid (WBox w B g w2.heap.size z s (w4.setCell ⟨w2.heap.size, 0, none⟩ (.int .i64 z))) := ⟨(heap_setCell_same _ _ 0 _ _ _ H4.out.box).trans rfl, H4.out.cur.set (by omega) (by omega) _, grown_set H4.out.grown (by omega) _⟩
    have HX5 : Hid ((w4.setCell ⟨w2.heap.size, 0, none⟩ (.int .i64 z)).heap[w.heap.size]? = some (.cells #[.int .i64 0, .int .i64 0] 27 (0, 0))) := (heap_setCell_other _ ⟨w2.heap.size, 0, none⟩ w.heap.size _ (show w.heap.size ≠ w2.heap.size by omega)).trans HX4.out
    have e0 := H5.out.c0
    have e1 := H5.out.c1
    obtain ⟨x0, x1, f0, f1, HE⟩ := HFIN.out z s _ H5.out HX5.out
    clear HFIN H3 HX3 hz hc4 hg4 H4 HX4 H5 HX5 hlx HL
    go_wp2
    refine bodyPost_ret (results_cell_row rfl _ _ w.heap.size 27 #[.int .i64 z, .int .i64 s] (0, 0) _ rfl HE.out.1 Try.underlying27 rfl winSize) rfl ?_
    have hzz := HZ.out
    simp only [List.mem_cons, List.not_mem_nil, or_false] at hzz
    exact ⟨_, _, rfl, by have := HR.out; omega, by have := HR.out; omega, HE.out.2.1, HE.out.2.2⟩
  · by_cases h1 : k = 1
    · subst h1
      have hbL : Below (w2.alloc (.cells #[.int .i64 t, .int .i64 s] 27)).heap.size (w2.alloc (.cells #[.int .i64 t, .int .i64 s] 27)) ((w2.alloc (.cells #[.int .i64 t, .int .i64 s] 27)).alloc (.cells #[.int .i64 0, .int .i64 65535, .int .i64 65536, .int .i64 (-1), .int .i64 2] 3)) := (Below.refl _ _).alloc (Nat.le_refl _) _
      have HL : Hid (((w2.alloc (.cells #[.int .i64 t, .int .i64 s] 27)).alloc (.cells #[.int .i64 0, .int .i64 65535, .int .i64 65536, .int .i64 (-1), .int .i64 2] 3)).heap[w2.heap.size + 1]? = some (.cells #[.int .i64 0, .int .i64 65535, .int .i64 65536, .int .i64 (-1), .int .i64 2] 3 (0, 0))) := by show _ = _; have := heap_alloc_new (w2.alloc (.cells #[.int .i64 t, .int .i64 s] 27)) (.cells #[.int .i64 0, .int .i64 65535, .int .i64 65536, .int .i64 (-1), .int .i64 2] 3); simpa using this
      have H3 : Hid (WBox w B g w2.heap.size t s ((w2.alloc (.cells #[.int .i64 t, .int .i64 s] 27)).alloc (.cells #[.int .i64 0, .int .i64 65535, .int .i64 65536, .int .i64 (-1), .int .i64 2] 3))) := H2.out.next hbL
      have HX3 : Hid (((w2.alloc (.cells #[.int .i64 t, .int .i64 s] 27)).alloc (.cells #[.int .i64 0, .int .i64 65535, .int .i64 65536, .int .i64 (-1), .int .i64 2] 3)).heap[w.heap.size]? = some (.cells #[.int .i64 0, .int .i64 0] 27 (0, 0))) := (hbL.block _ (by simp; omega)).trans HX.out
      clear hbL H2 HX
      go_wp2_with fail
      generalize ((w2.alloc (.cells #[.int .i64 t, .int .i64 s] 27)).alloc (.cells #[.int .i64 0, .int .i64 65535, .int .i64 65536, .int .i64 (-1), .int .i64 2] 3)) = w3 at HL H3 HX3 ⊢
      refine (pickInt_any B g (w2.heap.size + 1) 5 5 [0, 65535, 65536, -1, 2] _ (by omega) (by omega) rfl (by omega) (lits4 [0, 65535, 65536, -1, 2] HL.out) H3.out.cur).mono ?_
      rintro e w4 ⟨z, hz, rfl, hc4, hg4⟩
      have hlx := (Array.getElem?_eq_some_iff.1 HX3.out).1
      have H4 : Hid (WBox w B g w2.heap.size t s w4) := H3.out.draw (by omega) hc4 hg4
      have HX4 : Hid (w4.heap[w.heap.size]? = some (.cells #[.int .i64 0, .int .i64 0] 27 (0, 0))) := (hg4.block _ hlx (by simp; omega)).trans HX3.out
      have HZ : Hid (z ∈ ([0, 65535, 65536, -1, 2] : List Int)) := hz
      have q1 := H4.out.c1
      have fq := H4.out.f0 1
      have H5 : Hid (WBox w B g w2.heap.size t z (w4.setCell ⟨w2.heap.size, 1, none⟩ (.int .i64 z))) := ⟨(heap_setCell_same _ _ 1 _ _ _ H4.out.box).trans rfl, H4.out.cur.set (by omega) (by omega) _, grown_set H4.out.grown (by omega) _⟩
      have HX5 : Hid ((w4.setCell ⟨w2.heap.size, 1, none⟩ (.int .i64 z)).heap[w.heap.size]? = some (.cells #[.int .i64 0, .int .i64 0] 27 (0, 0))) := (heap_setCell_other _ ⟨w2.heap.size, 1, none⟩ w.heap.size _ (show w.heap.size ≠ w2.heap.size by omega)).trans HX4.out
      have e0 := H5.out.c0
      have e1 := H5.out.c1
      obtain ⟨x0, x1, f0, f1, HE⟩ := HFIN.out t z _ H5.out HX5.out
      clear HFIN H3 HX3 hz hc4 hg4 H4 HX4 H5 HX5 hlx HL
      go_wp2
      refine bodyPost_ret (results_cell_row rfl _ _ w.heap.size 27 #[.int .i64 t, .int .i64 z] (0, 0) _ rfl HE.out.1 Try.underlying27 rfl winSize) rfl ?_
      have hzz := HZ.out
      simp only [List.mem_cons, List.not_mem_nil, or_false] at hzz
      exact ⟨_, _, rfl, by have := HR.out; omega, by have := HR.out; omega, HE.out.2.1, HE.out.2.2⟩
    · have h0' : ¬ (k : Int) = 0 := by omega
      have h1' : ¬ (k : Int) = 1 := by omega
      have e0 := H2.out.c0
      have e1 := H2.out.c1
      obtain ⟨x0, x1, f0, f1, HE⟩ := HFIN.out t s _ H2.out HX.out
      clear HFIN h0 h1
      go_wp2
      refine bodyPost_ret (results_cell_row rfl _ _ w.heap.size 27 #[.int .i64 t, .int .i64 s] (0, 0) _ rfl HE.out.1 Try.underlying27 rfl winSize) rfl ?_
      exact ⟨t, s, rfl, by have := HR.out; omega, by have := HR.out; omega, HE.out.2.1, HE.out.2.2⟩
set_option maxHeartbeats 3200000 in
theorem drawFresh_any (a : Option Addr) (len cap : Nat) (w : World) (hc : CodeIn w.heap.size w a len) :
    Calls Try.prog 28 #[.slice a len cap] w fun e w' => ∃ t s q : Int, e = .returned (.tuple #[.agg #[.int .i64 t, .int .i64 s], .int .i64 q]) ∧ (-2 ≤ t ∧ t ≤ 10000) ∧ (-1 ≤ s ∧ s ≤ 65536) ∧ (-1 ≤ q ∧ q ≤ 10000) ∧ Below w.heap.size w w' := by
  have hb0 : Below w.heap.size w (w.alloc (.cells #[.int .i64 0, .int .i64 0] 27)) := (Below.refl _ _).alloc (Nat.le_refl _) _
  have hx0 := heap_alloc_new w (.cells #[.int .i64 0, .int .i64 0] 27)
  have hs0 : (w.alloc (.cells #[.int .i64 0, .int .i64 0] 27)).heap.size = w.heap.size + 1 := by simp
  have hc0 := codeIn_later hc hb0
  clear hc
  go_enter Try.func28, Try.ntmps28
  go_wp2_with fail
  generalize w.alloc (.cells #[.int .i64 0, .int .i64 0] 27) = w0 at hb0 hx0 hs0 hc0 ⊢
  refine (new_any _ _ _ _ hc0).mono ?_
  rintro e w1 ⟨g, rfl, hc1, hb1⟩
  have hge := hc1.1
  have hgl := hc1.2.1
  have hs1 := hb1.size
  have hbL : Below w1.heap.size w1 (w1.alloc (.cells #[.int .i64 0, .int .i64 1, .int .i64 5, .int .i64 9, .int .i64 14, .int .i64 20, .int .i64 29, .int .i64 31, .int .i64 (-1), .int .i64 9999, .int .i64 10000] 3)) := (Below.refl _ _).alloc (Nat.le_refl _) _
  have hL := heap_alloc_new w1 (.cells #[.int .i64 0, .int .i64 1, .int .i64 5, .int .i64 9, .int .i64 14, .int .i64 20, .int .i64 29, .int .i64 31, .int .i64 (-1), .int .i64 9999, .int .i64 10000] 3)
  have hc2 := hc1.grown hbL
  have HB2 : Hid (Below w0.heap.size w0 (w1.alloc (.cells #[.int .i64 0, .int .i64 1, .int .i64 5, .int .i64 9, .int .i64 14, .int .i64 20, .int .i64 29, .int .i64 31, .int .i64 (-1), .int .i64 9999, .int .i64 10000] 3))) := hb1.trans (hbL.mono hs1)
  have hs2 : (w1.alloc (.cells #[.int .i64 0, .int .i64 1, .int .i64 5, .int .i64 9, .int .i64 14, .int .i64 20, .int .i64 29, .int .i64 31, .int .i64 (-1), .int .i64 9999, .int .i64 10000] 3)).heap.size = w1.heap.size + 1 := by simp
  clear hb1 hc1 hc0 hbL
  go_wp2_with fail
  generalize w1.alloc (.cells #[.int .i64 0, .int .i64 1, .int .i64 5, .int .i64 9, .int .i64 14, .int .i64 20, .int .i64 29, .int .i64 31, .int .i64 (-1), .int .i64 9999, .int .i64 10000] 3) = w2 at hL hc2 HB2 hs2 ⊢
  refine (pickInt_any w0.heap.size g w1.heap.size 11 11 [0, 1, 5, 9, 14, 20, 29, 31, -1, 9999, 10000] _ (by omega) (by omega) rfl (by omega) (lits4 [0, 1, 5, 9, 14, 20, 29, 31, -1, 9999, 10000] hL) hc2).mono ?_
  rintro e w3 ⟨q, hq, rfl, hc3, hg3⟩
  have hs3 := hg3.size
  have HB3 : Hid (Below w0.heap.size w0 w3) := HB2.out.grown hg3 HB2.out.size (fun k hk => by cases hk; exact hge)
  have HQ : Hid (q ∈ ([0, 1, 5, 9, 14, 20, 29, 31, -1, 9999, 10000] : List Int)) := hq
  clear hq hL hc2 HB2 hg3
  go_wp2_with fail
  refine (anyWin_any w0.heap.size g _ (by omega) hc3).mono ?_
  rintro e w4 ⟨t, s, rfl, ht, hs, hc4, hg4⟩
  have HB4 : Hid (Below w0.heap.size w0 w4) := HB3.out.grown hg4 HB3.out.size (fun k hk => by cases hk; exact hge)
  have HTS : Hid ((-2 ≤ t ∧ t ≤ 10000) ∧ (-1 ≤ s ∧ s ≤ 65536)) := ⟨ht, hs⟩
  have hx4 := (HB4.out.block w.heap.size (by omega)).trans hx0
  have x0 : w4.cell? ⟨w.heap.size, 0, none⟩ = some (.int .i64 0) := (cell_of_row _ _ 0 _ _ _ hx4).trans rfl
  have x1 : w4.cell? ⟨w.heap.size, 1, none⟩ = some (.int .i64 0) := (cell_of_row _ _ 1 _ _ _ hx4).trans rfl
  have f0 : w4.frozen? ⟨w.heap.size, 0, none⟩ = false := frozen_of_row _ _ 0 _ _ hx4
  have f1 : w4.frozen? ⟨w.heap.size, 1, none⟩ = false := frozen_of_row _ _ 1 _ _ hx4
  have HX4 : Hid (w4.heap[w.heap.size]? = some (.cells #[.int .i64 0, .int .i64 0] 27 (0, 0))) := hx4
  have HBW : Hid (Below w.heap.size w w4) := hb0.trans (HB4.out.mono (by omega))
  clear ht hs hc4 hg4 hx4 HB3 HB4 hx0 hc3 hb0
  go_wp2
  refine bodyPost_ret (res_win rfl _ _ w.heap.size 27 #[.int .i64 t, .int .i64 s] (0, 0) _ rfl (store2 HX4.out _ _) Try.underlying27 rfl winSize) rfl ?_
  have hqq := HQ.out
  simp only [List.mem_cons, List.not_mem_nil, or_false] at hqq
  exact ⟨_, _, _, rfl, HTS.out.1, HTS.out.2, by omega, below_two HBW.out (Nat.le_refl _) _ _⟩
set_option maxHeartbeats 1600000 in
theorem drawNoted_any (a : Option Addr) (len cap : Nat) (w : World) (hc : CodeIn w.heap.size w a len) :
    Calls Try.prog 14 #[.slice a len cap] w fun e w' => ∃ t s q : Int, e = .returned (.tuple #[.agg #[.int .i64 t, .int .i64 s], .int .i64 q]) ∧ (-2 ≤ t ∧ t ≤ 10000) ∧ (-1 ≤ s ∧ s ≤ 65536) ∧ (-1 ≤ q ∧ q ≤ 10000) ∧ Below w.heap.size w w' := by
  have hb0 : Below w.heap.size w (w.alloc (.cells #[.int .i64 0, .int .i64 0] 27)) := (Below.refl _ _).alloc (Nat.le_refl _) _
  have hx0 := heap_alloc_new w (.cells #[.int .i64 0, .int .i64 0] 27)
  have hs0 : (w.alloc (.cells #[.int .i64 0, .int .i64 0] 27)).heap.size = w.heap.size + 1 := by simp
  have hc0 := codeIn_later hc hb0
  clear hc
  go_enter Try.func14, Try.ntmps14
  go_wp2_with fail
  generalize w.alloc (.cells #[.int .i64 0, .int .i64 0] 27) = w0 at hb0 hx0 hs0 hc0 ⊢
  refine (drawFresh_any _ _ _ _ hc0).mono ?_
  rintro e w4 ⟨t, s, q, rfl, ht, hs, hq, hb4⟩
  have hx4 := (hb4.block w.heap.size (by omega)).trans hx0
  have x0 : w4.cell? ⟨w.heap.size, 0, none⟩ = some (.int .i64 0) := (cell_of_row _ _ 0 _ _ _ hx4).trans rfl
  have x1 : w4.cell? ⟨w.heap.size, 1, none⟩ = some (.int .i64 0) := (cell_of_row _ _ 1 _ _ _ hx4).trans rfl
  have f0 : w4.frozen? ⟨w.heap.size, 0, none⟩ = false := frozen_of_row _ _ 0 _ _ hx4
  have f1 : w4.frozen? ⟨w.heap.size, 1, none⟩ = false := frozen_of_row _ _ 1 _ _ hx4
  have HX4 : Hid (w4.heap[w.heap.size]? = some (.cells #[.int .i64 0, .int .i64 0] 27 (0, 0))) := hx4
  have HBW : Hid (Below w.heap.size w w4) := hb0.trans (hb4.mono (by omega))
  have HTS : Hid ((-2 ≤ t ∧ t ≤ 10000) ∧ (-1 ≤ s ∧ s ≤ 65536) ∧ (-1 ≤ q ∧ q ≤ 10000)) := ⟨ht, hs, hq⟩
  clear ht hs hq hx4 hx0 hb0 hb4 hc0
  go_wp2
  refine bodyPost_ret (res_win rfl _ _ w.heap.size 27 #[.int .i64 t, .int .i64 s] (0, 0) _ rfl (store2 HX4.out _ _) Try.underlying27 rfl winSize) rfl ?_
  exact ⟨_, _, _, rfl, HTS.out.1, HTS.out.2.1, HTS.out.2.2, below_two HBW.out (Nat.le_refl _) _ _⟩
end Go.Proofs.Ytmbaipednonhpaa
