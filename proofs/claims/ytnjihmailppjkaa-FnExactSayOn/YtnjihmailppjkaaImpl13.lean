/- Chapter 13's TurnOn, ChanNew and ChanOk, the program's. -/
import Derived.Test.YtnjihmailppjkaaSpec13
import Derived.Test.YtnjihmailppjkaaImplW7
import Derived.Test.YtnjihmailppjkaaImplOk
import Derived.Test.YtnjihmailppjkaaHead8
import Derived.Test.YtnjihmailppjkaaTold8
namespace Go.Proofs.Ytnjihmailppjkaa
open Go.RowKit
set_option linter.unusedVariables false
set_option maxHeartbeats 1600000 in
set_option maxRecDepth 20000 in
theorem implTurn_any (x : Ch) (w : World) :
    Calls Try.prog 22 #[.agg #[.int .i64 x.a, .int .i64 x.s, .int .i64 x.e, .int .i64 x.q, .int .i64 x.h, .int .i64 x.t, .int .i64 x.u, .int .i64 x.l, .int .i64 x.m]] w fun e w' => e = .returned (.tuple #[.agg #[.int .i64 (turnC x).a, .int .i64 (turnC x).s, .int .i64 (turnC x).e, .int .i64 (turnC x).q, .int .i64 (turnC x).h, .int .i64 (turnC x).t, .int .i64 (turnC x).u, .int .i64 (turnC x).l, .int .i64 (turnC x).m], .bool (turnB x)]) ∧ Below w.heap.size w w' := by
  obtain ⟨G, HG⟩ : ∃ G, Hid (turnC x = G) := ⟨_, rfl⟩
  obtain ⟨E, HE⟩ : ∃ E, Hid (turnB x = E) := ⟨_, rfl⟩
  rw [HG.out, HE.out]
  by_cases h1 : x.e < 0
  · have HQ : Hid (G = x ∧ E = false) := by
      have e : turnB x = false := by unfold turnB inB; rw [Bool.eq_false_iff]; simp; omega
      exact ⟨by rw [← HG.out]; unfold turnC; rw [if_neg (by rw [e]; simp)], by rw [← HE.out]; exact e⟩
    have HB : Hid (Below w.heap.size w ((w.alloc (.cells #[.int .i64 x.a, .int .i64 x.s, .int .i64 x.e, .int .i64 x.q, .int .i64 x.h, .int .i64 x.t, .int .i64 x.u, .int .i64 x.l, .int .i64 x.m] 25)).alloc (.cells #[.int .i64 x.a, .int .i64 x.s, .int .i64 x.e, .int .i64 x.q, .int .i64 x.h, .int .i64 x.t, .int .i64 x.u, .int .i64 x.l, .int .i64 x.m] 25))) := ((Below.refl _ _).alloc (Nat.le_refl _) _).alloc (by simp) _
    have HX : Hid (((w.alloc (.cells #[.int .i64 x.a, .int .i64 x.s, .int .i64 x.e, .int .i64 x.q, .int .i64 x.h, .int .i64 x.t, .int .i64 x.u, .int .i64 x.l, .int .i64 x.m] 25)).alloc (.cells #[.int .i64 x.a, .int .i64 x.s, .int .i64 x.e, .int .i64 x.q, .int .i64 x.h, .int .i64 x.t, .int .i64 x.u, .int .i64 x.l, .int .i64 x.m] 25)).heap[w.heap.size + 1]? = some (.cells #[.int .i64 x.a, .int .i64 x.s, .int .i64 x.e, .int .i64 x.q, .int .i64 x.h, .int .i64 x.t, .int .i64 x.u, .int .i64 x.l, .int .i64 x.m] 25 (0, 0))) := by
      have := heap_alloc_new (w.alloc (.cells #[.int .i64 x.a, .int .i64 x.s, .int .i64 x.e, .int .i64 x.q, .int .i64 x.h, .int .i64 x.t, .int .i64 x.u, .int .i64 x.l, .int .i64 x.m] 25)) (.cells #[.int .i64 x.a, .int .i64 x.s, .int .i64 x.e, .int .i64 x.q, .int .i64 x.h, .int .i64 x.t, .int .i64 x.u, .int .i64 x.l, .int .i64 x.m] 25)
      rw [show (w.alloc (.cells #[.int .i64 x.a, .int .i64 x.s, .int .i64 x.e, .int .i64 x.q, .int .i64 x.h, .int .i64 x.t, .int .i64 x.u, .int .i64 x.l, .int .i64 x.m] 25)).heap.size = w.heap.size + 1 by simp] at this
      exact this
    have t1 : decide (x.e < 0) = true := decide_eq_true h1
    clear h1
    go_enter Try.func22, Try.ntmps22
    go_wp2
    refine bodyPost_ret (res_chan rfl _ _ (w.heap.size + 1) 25 #[.int .i64 x.a, .int .i64 x.s, .int .i64 x.e, .int .i64 x.q, .int .i64 x.h, .int .i64 x.t, .int .i64 x.u, .int .i64 x.l, .int .i64 x.m] (0, 0) _ rfl ?_ Try.underlying25 rfl chanSize) rfl ?_
    · exact HX.out
    · exact ⟨by rw [HQ.out.1, HQ.out.2]; rfl, HB.out⟩
  · by_cases h2 : 8 ≤ x.e
    · have HQ : Hid (G = x ∧ E = false) := by
        have e : turnB x = false := by unfold turnB inB; rw [Bool.eq_false_iff]; simp; omega
        exact ⟨by rw [← HG.out]; unfold turnC; rw [if_neg (by rw [e]; simp)], by rw [← HE.out]; exact e⟩
      have HB : Hid (Below w.heap.size w ((w.alloc (.cells #[.int .i64 x.a, .int .i64 x.s, .int .i64 x.e, .int .i64 x.q, .int .i64 x.h, .int .i64 x.t, .int .i64 x.u, .int .i64 x.l, .int .i64 x.m] 25)).alloc (.cells #[.int .i64 x.a, .int .i64 x.s, .int .i64 x.e, .int .i64 x.q, .int .i64 x.h, .int .i64 x.t, .int .i64 x.u, .int .i64 x.l, .int .i64 x.m] 25))) := ((Below.refl _ _).alloc (Nat.le_refl _) _).alloc (by simp) _
      have HX : Hid (((w.alloc (.cells #[.int .i64 x.a, .int .i64 x.s, .int .i64 x.e, .int .i64 x.q, .int .i64 x.h, .int .i64 x.t, .int .i64 x.u, .int .i64 x.l, .int .i64 x.m] 25)).alloc (.cells #[.int .i64 x.a, .int .i64 x.s, .int .i64 x.e, .int .i64 x.q, .int .i64 x.h, .int .i64 x.t, .int .i64 x.u, .int .i64 x.l, .int .i64 x.m] 25)).heap[w.heap.size + 1]? = some (.cells #[.int .i64 x.a, .int .i64 x.s, .int .i64 x.e, .int .i64 x.q, .int .i64 x.h, .int .i64 x.t, .int .i64 x.u, .int .i64 x.l, .int .i64 x.m] 25 (0, 0))) := by
        have := heap_alloc_new (w.alloc (.cells #[.int .i64 x.a, .int .i64 x.s, .int .i64 x.e, .int .i64 x.q, .int .i64 x.h, .int .i64 x.t, .int .i64 x.u, .int .i64 x.l, .int .i64 x.m] 25)) (.cells #[.int .i64 x.a, .int .i64 x.s, .int .i64 x.e, .int .i64 x.q, .int .i64 x.h, .int .i64 x.t, .int .i64 x.u, .int .i64 x.l, .int .i64 x.m] 25)
        rw [show (w.alloc (.cells #[.int .i64 x.a, .int .i64 x.s, .int .i64 x.e, .int .i64 x.q, .int .i64 x.h, .int .i64 x.t, .int .i64 x.u, .int .i64 x.l, .int .i64 x.m] 25)).heap.size = w.heap.size + 1 by simp] at this
        exact this
      have t1 : decide (x.e < 0) = false := decide_eq_false h1
      have t2 : decide (8 ≤ x.e) = true := decide_eq_true h2
      clear h1 h2
      go_enter Try.func22, Try.ntmps22
      go_wp2
      refine bodyPost_ret (res_chan rfl _ _ (w.heap.size + 1) 25 #[.int .i64 x.a, .int .i64 x.s, .int .i64 x.e, .int .i64 x.q, .int .i64 x.h, .int .i64 x.t, .int .i64 x.u, .int .i64 x.l, .int .i64 x.m] (0, 0) _ rfl ?_ Try.underlying25 rfl chanSize) rfl ?_
      · exact HX.out
      · exact ⟨by rw [HQ.out.1, HQ.out.2]; rfl, HB.out⟩
    · by_cases h3 : x.h < x.e
      · have HQ : Hid (G = x ∧ E = false) := by
          have e : turnB x = false := by unfold turnB inB; rw [Bool.eq_false_iff]; simp; omega
          exact ⟨by rw [← HG.out]; unfold turnC; rw [if_neg (by rw [e]; simp)], by rw [← HE.out]; exact e⟩
        have HB : Hid (Below w.heap.size w ((w.alloc (.cells #[.int .i64 x.a, .int .i64 x.s, .int .i64 x.e, .int .i64 x.q, .int .i64 x.h, .int .i64 x.t, .int .i64 x.u, .int .i64 x.l, .int .i64 x.m] 25)).alloc (.cells #[.int .i64 x.a, .int .i64 x.s, .int .i64 x.e, .int .i64 x.q, .int .i64 x.h, .int .i64 x.t, .int .i64 x.u, .int .i64 x.l, .int .i64 x.m] 25))) := ((Below.refl _ _).alloc (Nat.le_refl _) _).alloc (by simp) _
        have HX : Hid (((w.alloc (.cells #[.int .i64 x.a, .int .i64 x.s, .int .i64 x.e, .int .i64 x.q, .int .i64 x.h, .int .i64 x.t, .int .i64 x.u, .int .i64 x.l, .int .i64 x.m] 25)).alloc (.cells #[.int .i64 x.a, .int .i64 x.s, .int .i64 x.e, .int .i64 x.q, .int .i64 x.h, .int .i64 x.t, .int .i64 x.u, .int .i64 x.l, .int .i64 x.m] 25)).heap[w.heap.size + 1]? = some (.cells #[.int .i64 x.a, .int .i64 x.s, .int .i64 x.e, .int .i64 x.q, .int .i64 x.h, .int .i64 x.t, .int .i64 x.u, .int .i64 x.l, .int .i64 x.m] 25 (0, 0))) := by
          have := heap_alloc_new (w.alloc (.cells #[.int .i64 x.a, .int .i64 x.s, .int .i64 x.e, .int .i64 x.q, .int .i64 x.h, .int .i64 x.t, .int .i64 x.u, .int .i64 x.l, .int .i64 x.m] 25)) (.cells #[.int .i64 x.a, .int .i64 x.s, .int .i64 x.e, .int .i64 x.q, .int .i64 x.h, .int .i64 x.t, .int .i64 x.u, .int .i64 x.l, .int .i64 x.m] 25)
          rw [show (w.alloc (.cells #[.int .i64 x.a, .int .i64 x.s, .int .i64 x.e, .int .i64 x.q, .int .i64 x.h, .int .i64 x.t, .int .i64 x.u, .int .i64 x.l, .int .i64 x.m] 25)).heap.size = w.heap.size + 1 by simp] at this
          exact this
        have t1 : decide (x.e < 0) = false := decide_eq_false h1
        have t2 : decide (8 ≤ x.e) = false := decide_eq_false h2
        have t3 : decide (x.h < x.e) = true := decide_eq_true h3
        clear h1 h2 h3
        go_enter Try.func22, Try.ntmps22
        go_wp2
        refine bodyPost_ret (res_chan rfl _ _ (w.heap.size + 1) 25 #[.int .i64 x.a, .int .i64 x.s, .int .i64 x.e, .int .i64 x.q, .int .i64 x.h, .int .i64 x.t, .int .i64 x.u, .int .i64 x.l, .int .i64 x.m] (0, 0) _ rfl ?_ Try.underlying25 rfl chanSize) rfl ?_
        · exact HX.out
        · exact ⟨by rw [HQ.out.1, HQ.out.2]; rfl, HB.out⟩
      · have HQ : Hid (G = ⟨x.a, x.s, x.e + 1, 0, x.h, x.t, x.u, x.l, x.m⟩ ∧ E = true) := by
          have e : turnB x = true := by unfold turnB inB; simp; omega
          exact ⟨by rw [← HG.out]; unfold turnC; rw [if_pos e], by rw [← HE.out]; exact e⟩
        have HB : Hid (Below w.heap.size w ((w.alloc (.cells #[.int .i64 x.a, .int .i64 x.s, .int .i64 (x.e + 1), .int .i64 0, .int .i64 x.h, .int .i64 x.t, .int .i64 x.u, .int .i64 x.l, .int .i64 x.m] 25)).alloc (.cells #[.int .i64 x.a, .int .i64 x.s, .int .i64 (x.e + 1), .int .i64 0, .int .i64 x.h, .int .i64 x.t, .int .i64 x.u, .int .i64 x.l, .int .i64 x.m] 25))) := ((Below.refl _ _).alloc (Nat.le_refl _) _).alloc (by simp) _
        have HX : Hid (((w.alloc (.cells #[.int .i64 x.a, .int .i64 x.s, .int .i64 (x.e + 1), .int .i64 0, .int .i64 x.h, .int .i64 x.t, .int .i64 x.u, .int .i64 x.l, .int .i64 x.m] 25)).alloc (.cells #[.int .i64 x.a, .int .i64 x.s, .int .i64 (x.e + 1), .int .i64 0, .int .i64 x.h, .int .i64 x.t, .int .i64 x.u, .int .i64 x.l, .int .i64 x.m] 25)).heap[w.heap.size + 1]? = some (.cells #[.int .i64 x.a, .int .i64 x.s, .int .i64 (x.e + 1), .int .i64 0, .int .i64 x.h, .int .i64 x.t, .int .i64 x.u, .int .i64 x.l, .int .i64 x.m] 25 (0, 0))) := by
          have := heap_alloc_new (w.alloc (.cells #[.int .i64 x.a, .int .i64 x.s, .int .i64 (x.e + 1), .int .i64 0, .int .i64 x.h, .int .i64 x.t, .int .i64 x.u, .int .i64 x.l, .int .i64 x.m] 25)) (.cells #[.int .i64 x.a, .int .i64 x.s, .int .i64 (x.e + 1), .int .i64 0, .int .i64 x.h, .int .i64 x.t, .int .i64 x.u, .int .i64 x.l, .int .i64 x.m] 25)
          rw [show (w.alloc (.cells #[.int .i64 x.a, .int .i64 x.s, .int .i64 (x.e + 1), .int .i64 0, .int .i64 x.h, .int .i64 x.t, .int .i64 x.u, .int .i64 x.l, .int .i64 x.m] 25)).heap.size = w.heap.size + 1 by simp] at this
          exact this
        have t1 : decide (x.e < 0) = false := decide_eq_false h1
        have t2 : decide (8 ≤ x.e) = false := decide_eq_false h2
        have t3 : decide (x.h < x.e) = false := decide_eq_false h3
        have hw : wrap64 (x.e + 1) = x.e + 1 := by unfold wrap64; omega
        clear h1 h2 h3
        go_enter Try.func22, Try.ntmps22
        go_wp2
        refine bodyPost_ret (res_chan rfl _ _ (w.heap.size + 1) 25 #[.int .i64 x.a, .int .i64 x.s, .int .i64 (x.e + 1), .int .i64 0, .int .i64 x.h, .int .i64 x.t, .int .i64 x.u, .int .i64 x.l, .int .i64 x.m] (0, 0) _ rfl ?_ Try.underlying25 rfl chanSize) rfl ?_
        · exact HX.out
        · exact ⟨by rw [HQ.out.1, HQ.out.2]; rfl, HB.out⟩
set_option maxHeartbeats 1600000 in
set_option maxRecDepth 20000 in
theorem implChanNew_any (a s : Int) (w : World) :
    Calls Try.prog 9 #[.int .i64 a, .int .i64 s] w fun e w' => e = .returned (.agg #[.int .i64 (chanN a s).a, .int .i64 (chanN a s).s, .int .i64 (chanN a s).e, .int .i64 (chanN a s).q, .int .i64 (chanN a s).h, .int .i64 (chanN a s).t, .int .i64 (chanN a s).u, .int .i64 (chanN a s).l, .int .i64 (chanN a s).m]) ∧ Below w.heap.size w w' := by
  have hb0 : Below w.heap.size w (w.alloc (.cells #[.int .i64 0, .int .i64 0, .int .i64 0, .int .i64 0, .int .i64 0, .int .i64 0, .int .i64 0, .int .i64 0, .int .i64 0] 25)) := (Below.refl _ _).alloc (Nat.le_refl _) _
  have hz0 := heap_alloc_new w (.cells #[.int .i64 0, .int .i64 0, .int .i64 0, .int .i64 0, .int .i64 0, .int .i64 0, .int .i64 0, .int .i64 0, .int .i64 0] 25)
  have hs0 : (w.alloc (.cells #[.int .i64 0, .int .i64 0, .int .i64 0, .int .i64 0, .int .i64 0, .int .i64 0, .int .i64 0, .int .i64 0, .int .i64 0] 25)).heap.size = w.heap.size + 1 := by simp
  go_enter Try.func9, Try.ntmps9
  go_wp2_with fail
  generalize w.alloc (.cells #[.int .i64 0, .int .i64 0, .int .i64 0, .int .i64 0, .int .i64 0, .int .i64 0, .int .i64 0, .int .i64 0, .int .i64 0] 25) = w0 at hb0 hz0 hs0 ⊢
  refine (implNew_any w0).mono ?_
  rintro e w1 ⟨rfl, hb1⟩
  go_wp2_with fail
  refine (implNew_any w1).mono ?_
  rintro e w2 ⟨rfl, hb2⟩
  have hz2 := (hb2.block _ (by have := hb1.size; omega)).trans ((hb1.block _ (by omega)).trans hz0)
  have z0 : w2.cell? ⟨w.heap.size, 0, none⟩ = some (.int .i64 0) := (cell_of_row _ _ 0 _ _ _ hz2).trans rfl
  have y0 : w2.frozen? ⟨w.heap.size, 0, none⟩ = false := frozen_of_row _ _ 0 _ _ hz2
  have z1 : w2.cell? ⟨w.heap.size, 1, none⟩ = some (.int .i64 0) := (cell_of_row _ _ 1 _ _ _ hz2).trans rfl
  have y1 : w2.frozen? ⟨w.heap.size, 1, none⟩ = false := frozen_of_row _ _ 1 _ _ hz2
  have z2 : w2.cell? ⟨w.heap.size, 2, none⟩ = some (.int .i64 0) := (cell_of_row _ _ 2 _ _ _ hz2).trans rfl
  have y2 : w2.frozen? ⟨w.heap.size, 2, none⟩ = false := frozen_of_row _ _ 2 _ _ hz2
  have z3 : w2.cell? ⟨w.heap.size, 3, none⟩ = some (.int .i64 0) := (cell_of_row _ _ 3 _ _ _ hz2).trans rfl
  have y3 : w2.frozen? ⟨w.heap.size, 3, none⟩ = false := frozen_of_row _ _ 3 _ _ hz2
  have z4 : w2.cell? ⟨w.heap.size, 4, none⟩ = some (.int .i64 0) := (cell_of_row _ _ 4 _ _ _ hz2).trans rfl
  have y4 : w2.frozen? ⟨w.heap.size, 4, none⟩ = false := frozen_of_row _ _ 4 _ _ hz2
  have z5 : w2.cell? ⟨w.heap.size, 5, none⟩ = some (.int .i64 0) := (cell_of_row _ _ 5 _ _ _ hz2).trans rfl
  have y5 : w2.frozen? ⟨w.heap.size, 5, none⟩ = false := frozen_of_row _ _ 5 _ _ hz2
  have z6 : w2.cell? ⟨w.heap.size, 6, none⟩ = some (.int .i64 0) := (cell_of_row _ _ 6 _ _ _ hz2).trans rfl
  have y6 : w2.frozen? ⟨w.heap.size, 6, none⟩ = false := frozen_of_row _ _ 6 _ _ hz2
  have z7 : w2.cell? ⟨w.heap.size, 7, none⟩ = some (.int .i64 0) := (cell_of_row _ _ 7 _ _ _ hz2).trans rfl
  have y7 : w2.frozen? ⟨w.heap.size, 7, none⟩ = false := frozen_of_row _ _ 7 _ _ hz2
  have z8 : w2.cell? ⟨w.heap.size, 8, none⟩ = some (.int .i64 0) := (cell_of_row _ _ 8 _ _ _ hz2).trans rfl
  have y8 : w2.frozen? ⟨w.heap.size, 8, none⟩ = false := frozen_of_row _ _ 8 _ _ hz2
  have HX : Hid _ := store9 hz2 (.int .i64 a) (.int .i64 s) (.int .i64 0) (.int .i64 0) (.int .i64 0) (.int .i64 (-1)) (.int .i64 0) (.int .i64 (-1)) (.int .i64 0)
  have hB : Below w.heap.size w w2 := (hb0.trans (hb1.mono (by omega))).trans (hb2.mono (by have := hb1.size; omega))
  have HB : Hid _ := below9 (g := w.heap.size) hB (Nat.le_refl _) (.int .i64 a) (.int .i64 s) (.int .i64 0) (.int .i64 0) (.int .i64 0) (.int .i64 (-1)) (.int .i64 0) (.int .i64 (-1)) (.int .i64 0)
  clear hz2 hB hb0 hb1 hb2 hz0 hs0
  go_wp2
  refine bodyPost_ret (results_cell_row rfl _ _ w.heap.size 25 #[.int .i64 a, .int .i64 s, .int .i64 0, .int .i64 0, .int .i64 0, .int .i64 (-1), .int .i64 0, .int .i64 (-1), .int .i64 0] (0, 0) _ rfl ?_ Try.underlying25 rfl chanSize) rfl ?_
  · exact HX.out
  · exact ⟨rfl, HB.out⟩
theorem ch_wf {x : Ch} (hx : x.Fits) : (Lit.int .i64 x.t).wf = true ∧ (Lit.int .i64 x.u).wf = true ∧ (Lit.int .i64 x.l).wf = true ∧ (Lit.int .i64 x.m).wf = true := by
  unfold Ch.Fits at hx
  exact ⟨WalkArith.wf_i64 (by omega), WalkArith.wf_i64 (by omega), WalkArith.wf_i64 (by omega), WalkArith.wf_i64 (by omega)⟩
theorem isSide_any (x : Int) (w : World) : Calls Try.prog 50 #[.int .i64 x] w fun e w' => e = .returned (.bool (inB x 1 2)) ∧ Below w.heap.size w w' := by
  have hin : inB x 1 2 = ((x == 1) || (x == 2)) := by unfold inB; rw [Bool.eq_iff_iff]; simp; omega
  rw [hin]
  clear hin
  go_enter Try.func50, Try.ntmps50
  cases h1 : (x == 1) with
  | true =>
    go_wp2
    go_ret
    exact ⟨by first | rfl | simp, Below.refl _ _⟩
  | false =>
    go_wp2
    go_ret
    exact ⟨by first | rfl | simp, Below.refl _ _⟩
set_option maxHeartbeats 1600000 in
set_option maxRecDepth 20000 in
theorem areRight_any (x : Ch) (w : World) (hx : x.Fits) : Calls Try.prog 51 #[.agg #[.int .i64 x.h, .int .i64 x.t, .int .i64 x.u, .int .i64 x.l, .int .i64 x.m]] w fun e w' => e = .returned (.bool (inB x.h 0 8 && (winB x.t x.u && winB x.l x.m))) ∧ Below w.heap.size w w' := by
  have HF : Hid ((Lit.int .i64 x.t).wf = true ∧ (Lit.int .i64 x.u).wf = true ∧ (Lit.int .i64 x.l).wf = true ∧ (Lit.int .i64 x.m).wf = true) := ch_wf hx
  clear hx
  have hb0 : Below w.heap.size w (w.alloc (.cells #[.int .i64 x.h, .int .i64 x.t, .int .i64 x.u, .int .i64 x.l, .int .i64 x.m] 61)) := (Below.refl _ _).alloc (Nat.le_refl _) _
  have hX := heap_alloc_new w (.cells #[.int .i64 x.h, .int .i64 x.t, .int .i64 x.u, .int .i64 x.l, .int .i64 x.m] 61)
  generalize hw0 : w.alloc (.cells #[.int .i64 x.h, .int .i64 x.t, .int .i64 x.u, .int .i64 x.l, .int .i64 x.m] 61) = w0 at hb0 hX
  have hlt : w.heap.size < w0.heap.size := (Array.getElem?_eq_some_iff.1 hX).1
  obtain ⟨E, HE⟩ : ∃ E, Hid ((inB x.h 0 8 && (winB x.t x.u && winB x.l x.m)) = E) := ⟨_, rfl⟩
  rw [HE.out]
  have z0 : w0.cell? ⟨w.heap.size, 0, none⟩ = some (.int .i64 x.h) := (cell_of_row _ _ 0 _ _ _ hX).trans rfl
  go_enter Try.func51, Try.ntmps51
  go_wp2_with fail
  refine (isEpoch_any _ _).mono ?_
  rintro e w1 ⟨rfl, hb1⟩
  have hX1 := (hb1.block _ hlt).trans hX
  have HB1 : Hid (Below w.heap.size w w1) := hb0.trans (hb1.mono (by omega))
  have hl1 : w.heap.size < w1.heap.size := Nat.lt_of_lt_of_le hlt hb1.size
  cases h0 : inB x.h 0 8 with
  | false =>
    have HQ : Hid (E = false) := by rw [← HE.out, h0]; rfl
    clear z0 hX hX1 hb0 hb1 hw0
    go_wp2
    go_ret
    exact ⟨by rw [HQ.out]; rfl, HB1.out⟩
  | true =>
    have z1 : w1.cell? ⟨w.heap.size, 1, none⟩ = some (.int .i64 x.t) := (cell_of_row _ _ 1 _ _ _ hX1).trans rfl
    have z2 : w1.cell? ⟨w.heap.size, 2, none⟩ = some (.int .i64 x.u) := (cell_of_row _ _ 2 _ _ _ hX1).trans rfl
    clear z0 hX hb0 hb1 hw0
    go_wp2_with fail
    refine Calls.mono (implWin_any x.t x.u w1 HF.out.1 HF.out.2.1) ?_
    rintro e w2 ⟨rfl, hb2⟩
    have hX2 := (hb2.block _ hl1).trans hX1
    have HB2 : Hid (Below w.heap.size w w2) := HB1.out.trans (hb2.mono (by omega))
    cases h1 : winB x.t x.u with
    | false =>
      have HQ : Hid (E = false) := by rw [← HE.out, h0, h1]; rfl
      clear z1 z2 hX1 hb2 hX2
      go_wp2
      go_ret
      exact ⟨by rw [HQ.out]; rfl, HB2.out⟩
    | true =>
      have z3 : w2.cell? ⟨w.heap.size, 3, none⟩ = some (.int .i64 x.l) := (cell_of_row _ _ 3 _ _ _ hX2).trans rfl
      have z4 : w2.cell? ⟨w.heap.size, 4, none⟩ = some (.int .i64 x.m) := (cell_of_row _ _ 4 _ _ _ hX2).trans rfl
      clear z1 z2 hX1 hb2
      go_wp2_with fail
      refine Calls.mono (implWin_any x.l x.m w2 HF.out.2.2.1 HF.out.2.2.2) ?_
      rintro e w3 ⟨rfl, hb3⟩
      have HB3 : Hid (Below w.heap.size w w3) := HB2.out.trans (hb3.mono (by have := HB2.out.size; omega))
      have HQ : Hid (E = winB x.l x.m) := by rw [← HE.out, h0, h1]; rfl
      clear z3 z4 hX2 hb3
      go_wp2
      go_ret
      exact ⟨by rw [HQ.out]; rfl, HB3.out⟩
set_option maxHeartbeats 1600000 in
set_option maxRecDepth 20000 in

theorem endSize13 : (Try.prog.info? 63).map (·.size) = some 7 := by kernel_rfl
set_option maxHeartbeats 1600000 in
set_option maxRecDepth 20000 in
theorem endOf_any (x : Ch) (w : World) : Calls Try.prog 34 #[.agg #[.int .i64 x.a, .int .i64 x.s, .int .i64 x.e, .int .i64 x.q, .int .i64 x.h, .int .i64 x.t, .int .i64 x.u, .int .i64 x.l, .int .i64 x.m]] w fun e w' => e = .returned (.agg #[.int .i64 x.h, .int .i64 x.t, .int .i64 x.u, .int .i64 x.l, .int .i64 x.m, .int .i64 x.a, .int .i64 x.s]) ∧ Below w.heap.size w w' := by
  have HB : Hid (Below w.heap.size w ((w.alloc (.cells #[.int .i64 x.a, .int .i64 x.s, .int .i64 x.e, .int .i64 x.q, .int .i64 x.h, .int .i64 x.t, .int .i64 x.u, .int .i64 x.l, .int .i64 x.m] 25)).alloc (.cells #[.int .i64 x.h, .int .i64 x.t, .int .i64 x.u, .int .i64 x.l, .int .i64 x.m, .int .i64 x.a, .int .i64 x.s] 63))) := ((Below.refl _ _).alloc (Nat.le_refl _) _).alloc (by simp) _
  have HX : Hid (((w.alloc (.cells #[.int .i64 x.a, .int .i64 x.s, .int .i64 x.e, .int .i64 x.q, .int .i64 x.h, .int .i64 x.t, .int .i64 x.u, .int .i64 x.l, .int .i64 x.m] 25)).alloc (.cells #[.int .i64 x.h, .int .i64 x.t, .int .i64 x.u, .int .i64 x.l, .int .i64 x.m, .int .i64 x.a, .int .i64 x.s] 63)).heap[w.heap.size + 1]? = some (.cells #[.int .i64 x.h, .int .i64 x.t, .int .i64 x.u, .int .i64 x.l, .int .i64 x.m, .int .i64 x.a, .int .i64 x.s] 63 (0, 0))) := by
    have := heap_alloc_new (w.alloc (.cells #[.int .i64 x.a, .int .i64 x.s, .int .i64 x.e, .int .i64 x.q, .int .i64 x.h, .int .i64 x.t, .int .i64 x.u, .int .i64 x.l, .int .i64 x.m] 25)) (.cells #[.int .i64 x.h, .int .i64 x.t, .int .i64 x.u, .int .i64 x.l, .int .i64 x.m, .int .i64 x.a, .int .i64 x.s] 63)
    rw [show (w.alloc (.cells #[.int .i64 x.a, .int .i64 x.s, .int .i64 x.e, .int .i64 x.q, .int .i64 x.h, .int .i64 x.t, .int .i64 x.u, .int .i64 x.l, .int .i64 x.m] 25)).heap.size = w.heap.size + 1 by simp] at this
    exact this
  go_enter Try.func34, Try.ntmps34
  go_wp2
  refine bodyPost_ret (results_cell_row rfl _ _ (w.heap.size + 1) 63 #[.int .i64 x.h, .int .i64 x.t, .int .i64 x.u, .int .i64 x.l, .int .i64 x.m, .int .i64 x.a, .int .i64 x.s] (0, 0) _ rfl ?_ Try.underlying63 rfl endSize13) rfl ?_
  · exact HX.out
  · exact ⟨rfl, HB.out⟩
set_option maxHeartbeats 1600000 in
set_option maxRecDepth 20000 in
theorem endRight_any (a : Option Addr) (cap : Nat) (ns : List Nd) (x : Ch) (w : World) (hl : ns.length ≤ 1048576) (hx : x.Fits) (hr : RowN w.heap.size w a ns) : Calls Try.prog 35 #[.agg #[.int .i64 x.h, .int .i64 x.t, .int .i64 x.u, .int .i64 x.l, .int .i64 x.m, .int .i64 x.a, .int .i64 x.s], .agg #[.slice a ns.length cap]] w fun e w' => e = .returned (.bool (okAt ns x.a && (inB x.s 1 2 && (inB x.h 0 8 && (winB x.t x.u && winB x.l x.m))))) ∧ Below w.heap.size w w' := by
  have HF : Hid x.Fits := hx
  clear hx
  have hb0 : Below w.heap.size w ((w.alloc (.cells #[.int .i64 x.h, .int .i64 x.t, .int .i64 x.u, .int .i64 x.l, .int .i64 x.m, .int .i64 x.a, .int .i64 x.s] 63)).alloc (.cells #[.slice a ns.length cap] 39)) := ((Below.refl _ _).alloc (Nat.le_refl _) _).alloc (by simp) _
  have hX : ((w.alloc (.cells #[.int .i64 x.h, .int .i64 x.t, .int .i64 x.u, .int .i64 x.l, .int .i64 x.m, .int .i64 x.a, .int .i64 x.s] 63)).alloc (.cells #[.slice a ns.length cap] 39)).heap[w.heap.size]? = some (.cells #[.int .i64 x.h, .int .i64 x.t, .int .i64 x.u, .int .i64 x.l, .int .i64 x.m, .int .i64 x.a, .int .i64 x.s] 63 (0, 0)) := (heap_alloc_old _ _ (by simp)).trans (heap_alloc_new w _)
  have hA : ((w.alloc (.cells #[.int .i64 x.h, .int .i64 x.t, .int .i64 x.u, .int .i64 x.l, .int .i64 x.m, .int .i64 x.a, .int .i64 x.s] 63)).alloc (.cells #[.slice a ns.length cap] 39)).heap[w.heap.size + 1]? = some (.cells #[.slice a ns.length cap] 39 (0, 0)) := by
    have := heap_alloc_new (w.alloc (.cells #[.int .i64 x.h, .int .i64 x.t, .int .i64 x.u, .int .i64 x.l, .int .i64 x.m, .int .i64 x.a, .int .i64 x.s] 63)) (.cells #[.slice a ns.length cap] 39)
    rw [show (w.alloc (.cells #[.int .i64 x.h, .int .i64 x.t, .int .i64 x.u, .int .i64 x.l, .int .i64 x.m, .int .i64 x.a, .int .i64 x.s] 63)).heap.size = w.heap.size + 1 by simp] at this
    exact this
  have hs0 : ((w.alloc (.cells #[.int .i64 x.h, .int .i64 x.t, .int .i64 x.u, .int .i64 x.l, .int .i64 x.m, .int .i64 x.a, .int .i64 x.s] 63)).alloc (.cells #[.slice a ns.length cap] 39)).heap.size = w.heap.size + 2 := by simp
  have HN : Hid _ := implOk_any a cap ns x.a ((w.alloc (.cells #[.int .i64 x.h, .int .i64 x.t, .int .i64 x.u, .int .i64 x.l, .int .i64 x.m, .int .i64 x.a, .int .i64 x.s] 63)).alloc (.cells #[.slice a ns.length cap] 39)) hl (hr.grown hb0)
  clear hr
  obtain ⟨E, HE⟩ : ∃ E, Hid ((okAt ns x.a && (inB x.s 1 2 && (inB x.h 0 8 && (winB x.t x.u && winB x.l x.m)))) = E) := ⟨_, rfl⟩
  rw [HE.out]
  go_enter Try.func35, Try.ntmps35
  go_wp2_with fail
  generalize (w.alloc (.cells #[.int .i64 x.h, .int .i64 x.t, .int .i64 x.u, .int .i64 x.l, .int .i64 x.m, .int .i64 x.a, .int .i64 x.s] 63)).alloc (.cells #[.slice a ns.length cap] 39) = w0 at hb0 hX hA hs0 HN ⊢
  refine Calls.mono HN.out ?_
  rintro e w1 ⟨rfl, hb1⟩
  have hX1 := (hb1.block _ (by omega)).trans hX
  have HB1 : Hid (Below w.heap.size w w1) := hb0.trans (hb1.mono (by omega))
  have hl1 : w.heap.size + 1 < w1.heap.size := by have := hb1.size; omega
  clear hX hb0 hb1 hA HN hs0
  cases h0 : okAt ns x.a with
  | false =>
    have HQ : Hid (E = false) := by rw [← HE.out, h0]; rfl
    clear hX1
    go_wp2
    go_ret
    exact ⟨by rw [HQ.out]; rfl, HB1.out⟩
  | true =>
    have z6 : w1.cell? ⟨w.heap.size, 6, none⟩ = some (.int .i64 x.s) := (cell_of_row _ _ 6 _ _ _ hX1).trans rfl
    go_wp2_with fail
    refine (isSide_any _ _).mono ?_
    rintro e w2 ⟨rfl, hb2⟩
    have hX2 := (hb2.block _ (by omega)).trans hX1
    have HB2 : Hid (Below w.heap.size w w2) := HB1.out.trans (hb2.mono (by omega))
    cases h1 : inB x.s 1 2 with
    | false =>
      have HQ : Hid (E = false) := by rw [← HE.out, h0, h1]; rfl
      clear z6 hX1 hb2 hX2
      go_wp2
      go_ret
      exact ⟨by rw [HQ.out]; rfl, HB2.out⟩
    | true =>
      have z0 : w2.cell? ⟨w.heap.size, 0, none⟩ = some (.int .i64 x.h) := (cell_of_row _ _ 0 _ _ _ hX2).trans rfl
      have z1 : w2.cell? ⟨w.heap.size, 1, none⟩ = some (.int .i64 x.t) := (cell_of_row _ _ 1 _ _ _ hX2).trans rfl
      have z2 : w2.cell? ⟨w.heap.size, 2, none⟩ = some (.int .i64 x.u) := (cell_of_row _ _ 2 _ _ _ hX2).trans rfl
      have z3 : w2.cell? ⟨w.heap.size, 3, none⟩ = some (.int .i64 x.l) := (cell_of_row _ _ 3 _ _ _ hX2).trans rfl
      have z4 : w2.cell? ⟨w.heap.size, 4, none⟩ = some (.int .i64 x.m) := (cell_of_row _ _ 4 _ _ _ hX2).trans rfl
      clear z6 hX1 hb2
      go_wp2_with fail
      refine Calls.mono (areRight_any x w2 HF.out) ?_
      rintro e w3 ⟨rfl, hb3⟩
      have HB3 : Hid (Below w.heap.size w w3) := HB2.out.trans (hb3.mono (by have := HB2.out.size; omega))
      have HQ : Hid (E = (inB x.h 0 8 && (winB x.t x.u && winB x.l x.m))) := by rw [← HE.out, h0, h1]; rfl
      clear hX2 hb3 z0 z1 z2 z3 z4
      generalize (inB x.h 0 8 && (winB x.t x.u && winB x.l x.m)) = F at HQ ⊢
      go_wp2
      go_ret
      exact ⟨by rw [HQ.out]; rfl, HB3.out⟩
theorem chan_re (ns : List Nd) (x : Ch) : chanB ns x = ((okAt ns x.a && (inB x.s 1 2 && (inB x.h 0 8 && (winB x.t x.u && winB x.l x.m)))) && (inB x.e 0 8 && (decide (0 ≤ x.q) && decide (x.q ≤ 10000)))) := by
  unfold chanB
  rw [show inB x.q 0 10000 = (decide (0 ≤ x.q) && decide (x.q ≤ 10000)) by unfold inB; first | rfl | (rw [Bool.eq_iff_iff]; simp)]
  cases okAt ns x.a <;> cases inB x.s 1 2 <;> cases inB x.e 0 8 <;> cases inB x.h 0 8 <;> cases decide (0 ≤ x.q) <;> cases decide (x.q ≤ 10000) <;> cases winB x.t x.u <;> cases winB x.l x.m <;> rfl
set_option maxHeartbeats 6400000 in
set_option maxRecDepth 20000 in
theorem implChanOk_any (a : Option Addr) (cap : Nat) (ns : List Nd) (x : Ch) (w : World) (hl : ns.length ≤ 1048576) (hx : x.Fits) (hr : RowN w.heap.size w a ns) :
    Calls Try.prog 15 #[.agg #[.slice a ns.length cap], .agg #[.int .i64 x.a, .int .i64 x.s, .int .i64 x.e, .int .i64 x.q, .int .i64 x.h, .int .i64 x.t, .int .i64 x.u, .int .i64 x.l, .int .i64 x.m]] w fun e w' => e = .returned (.bool (chanB ns x)) ∧ Below w.heap.size w w' := by
  have hb0 : Below w.heap.size w ((w.alloc (.cells #[.slice a ns.length cap] 39)).alloc (.cells #[.int .i64 x.a, .int .i64 x.s, .int .i64 x.e, .int .i64 x.q, .int .i64 x.h, .int .i64 x.t, .int .i64 x.u, .int .i64 x.l, .int .i64 x.m] 25)) := ((Below.refl _ _).alloc (Nat.le_refl _) _).alloc (by simp) _
  have hA : ((w.alloc (.cells #[.slice a ns.length cap] 39)).alloc (.cells #[.int .i64 x.a, .int .i64 x.s, .int .i64 x.e, .int .i64 x.q, .int .i64 x.h, .int .i64 x.t, .int .i64 x.u, .int .i64 x.l, .int .i64 x.m] 25)).heap[w.heap.size]? = some (.cells #[.slice a ns.length cap] 39 (0, 0)) := (heap_alloc_old _ _ (by simp)).trans (heap_alloc_new w _)
  have hX : ((w.alloc (.cells #[.slice a ns.length cap] 39)).alloc (.cells #[.int .i64 x.a, .int .i64 x.s, .int .i64 x.e, .int .i64 x.q, .int .i64 x.h, .int .i64 x.t, .int .i64 x.u, .int .i64 x.l, .int .i64 x.m] 25)).heap[w.heap.size + 1]? = some (.cells #[.int .i64 x.a, .int .i64 x.s, .int .i64 x.e, .int .i64 x.q, .int .i64 x.h, .int .i64 x.t, .int .i64 x.u, .int .i64 x.l, .int .i64 x.m] 25 (0, 0)) := by
    have := heap_alloc_new (w.alloc (.cells #[.slice a ns.length cap] 39)) (.cells #[.int .i64 x.a, .int .i64 x.s, .int .i64 x.e, .int .i64 x.q, .int .i64 x.h, .int .i64 x.t, .int .i64 x.u, .int .i64 x.l, .int .i64 x.m] 25)
    rw [show (w.alloc (.cells #[.slice a ns.length cap] 39)).heap.size = w.heap.size + 1 by simp] at this
    exact this
  have hs0 : ((w.alloc (.cells #[.slice a ns.length cap] 39)).alloc (.cells #[.int .i64 x.a, .int .i64 x.s, .int .i64 x.e, .int .i64 x.q, .int .i64 x.h, .int .i64 x.t, .int .i64 x.u, .int .i64 x.l, .int .i64 x.m] 25)).heap.size = w.heap.size + 2 := by simp
  have HF : Hid x.Fits := hx
  have hr0 := hr.grown hb0
  clear hx hr
  rw [chan_re ns x]
  obtain ⟨d0, h0⟩ : ∃ d, (okAt ns x.a && (inB x.s 1 2 && (inB x.h 0 8 && (winB x.t x.u && winB x.l x.m)))) = d := ⟨_, rfl⟩
  obtain ⟨d1, h1⟩ : ∃ d, inB x.e 0 8 = d := ⟨_, rfl⟩
  rw [h0, h1]
  go_enter Try.func15, Try.ntmps15
  go_wp2_with fail
  generalize (w.alloc (.cells #[.slice a ns.length cap] 39)).alloc (.cells #[.int .i64 x.a, .int .i64 x.s, .int .i64 x.e, .int .i64 x.q, .int .i64 x.h, .int .i64 x.t, .int .i64 x.u, .int .i64 x.l, .int .i64 x.m] 25) = w0 at hb0 hA hX hs0 hr0 ⊢
  obtain ⟨S, hS0, hNE, HK⟩ := read_class w0
  have hkk : ∀ (s : Hw S) w', Below s.w.heap.size s.w w' → S w' := HK.out.2.1
  have k0 := HK.out.1 ⟨w.heap.size, 0, none⟩ _ (show w.heap.size < w0.heap.size by omega) ((cell_of_row _ _ 0 _ _ _ hA).trans rfl)
  have x0 := HK.out.1 ⟨w.heap.size + 1, 0, none⟩ _ (show w.heap.size + 1 < w0.heap.size by omega) ((cell_of_row _ _ 0 _ _ _ hX).trans rfl)
  have x1 := HK.out.1 ⟨w.heap.size + 1, 1, none⟩ _ (show w.heap.size + 1 < w0.heap.size by omega) ((cell_of_row _ _ 1 _ _ _ hX).trans rfl)
  have x2 := HK.out.1 ⟨w.heap.size + 1, 2, none⟩ _ (show w.heap.size + 1 < w0.heap.size by omega) ((cell_of_row _ _ 2 _ _ _ hX).trans rfl)
  have x3 := HK.out.1 ⟨w.heap.size + 1, 3, none⟩ _ (show w.heap.size + 1 < w0.heap.size by omega) ((cell_of_row _ _ 3 _ _ _ hX).trans rfl)
  have x4 := HK.out.1 ⟨w.heap.size + 1, 4, none⟩ _ (show w.heap.size + 1 < w0.heap.size by omega) ((cell_of_row _ _ 4 _ _ _ hX).trans rfl)
  have x5 := HK.out.1 ⟨w.heap.size + 1, 5, none⟩ _ (show w.heap.size + 1 < w0.heap.size by omega) ((cell_of_row _ _ 5 _ _ _ hX).trans rfl)
  have x6 := HK.out.1 ⟨w.heap.size + 1, 6, none⟩ _ (show w.heap.size + 1 < w0.heap.size by omega) ((cell_of_row _ _ 6 _ _ _ hX).trans rfl)
  have x7 := HK.out.1 ⟨w.heap.size + 1, 7, none⟩ _ (show w.heap.size + 1 < w0.heap.size by omega) ((cell_of_row _ _ 7 _ _ _ hX).trans rfl)
  have x8 := HK.out.1 ⟨w.heap.size + 1, 8, none⟩ _ (show w.heap.size + 1 < w0.heap.size by omega) ((cell_of_row _ _ 8 _ _ _ hX).trans rfl)
  have H0 : Hid (∀ s : Hw S, Calls Try.prog 34 #[.agg #[.int .i64 x.a, .int .i64 x.s, .int .i64 x.e, .int .i64 x.q, .int .i64 x.h, .int .i64 x.t, .int .i64 x.u, .int .i64 x.l, .int .i64 x.m]] s.w fun e w' => e = .returned (.agg #[.int .i64 x.h, .int .i64 x.t, .int .i64 x.u, .int .i64 x.l, .int .i64 x.m, .int .i64 x.a, .int .i64 x.s]) ∧ Below s.w.heap.size s.w w') := fun s => endOf_any x s.w
  have H1 : Hid (∀ s : Hw S, Calls Try.prog 35 #[.agg #[.int .i64 x.h, .int .i64 x.t, .int .i64 x.u, .int .i64 x.l, .int .i64 x.m, .int .i64 x.a, .int .i64 x.s], .agg #[.slice a ns.length cap]] s.w fun e w' => e = .returned (.bool d0) ∧ Below s.w.heap.size s.w w') := fun s => by have := endRight_any a cap ns x s.w hl HF.out (hr0.grown (HK.out.2.2.2 s)); rw [h0] at this; exact this
  have H2 : Hid (∀ s : Hw S, Calls Try.prog 36 #[.int .i64 x.e] s.w fun e w' => e = .returned (.bool d1) ∧ Below s.w.heap.size s.w w') := fun s => by have := isEpoch_any x.e s.w; rw [h1] at this; exact this
  clear h0 h1 hr0
  cases d0 with
  | false =>
    refine wp_region_held (S := S) (by kernel_rfl) (by kernel_rfl) hS0 ?_
    try simp only [List.append_eq, List.cons_append, List.nil_append]
    repeat (go_big_quiet_step (first | (go_at_call 34; exact Calls.held (H0.out _) (hkk _)) | (go_at_call 35; exact Calls.held (H1.out _) (hkk _)) | (go_at_call 36; exact Calls.held (H2.out _) (hkk _))))
    refine wpQuiet_nil ?_
    rintro _ ⟨sw, rfl⟩
    have HB : Hid (Below w.heap.size w sw.w) := hb0.trans ((HK.out.2.2.2 sw).mono (by omega))
    generalize sw.w = w1 at HB ⊢
    clear H0 H1 H2 HK hkk hS0 hNE k0 x0 x1 x2 x3 x4 x5 x6 x7 x8 hX hA hb0
    go_wp2
    go_ret
    exact ⟨by first | rfl | (rw [hq]; first | rfl | simp) | simp, HB.out⟩
  | true =>
    cases d1 with
    | false =>
      refine wp_region_held (S := S) (by kernel_rfl) (by kernel_rfl) hS0 ?_
      try simp only [List.append_eq, List.cons_append, List.nil_append]
      repeat (go_big_quiet_step (first | (go_at_call 34; exact Calls.held (H0.out _) (hkk _)) | (go_at_call 35; exact Calls.held (H1.out _) (hkk _)) | (go_at_call 36; exact Calls.held (H2.out _) (hkk _))))
      refine wpQuiet_nil ?_
      rintro _ ⟨sw, rfl⟩
      have HB : Hid (Below w.heap.size w sw.w) := hb0.trans ((HK.out.2.2.2 sw).mono (by omega))
      generalize sw.w = w1 at HB ⊢
      clear H0 H1 H2 HK hkk hS0 hNE k0 x0 x1 x2 x3 x4 x5 x6 x7 x8 hX hA hb0
      go_wp2
      go_ret
      exact ⟨by first | rfl | (rw [hq]; first | rfl | simp) | simp, HB.out⟩
    | true =>
      cases hq : decide (0 ≤ x.q) with
      | false =>
        refine wp_region_held (S := S) (by kernel_rfl) (by kernel_rfl) hS0 ?_
        try simp only [List.append_eq, List.cons_append, List.nil_append]
        repeat (go_big_quiet_step (first | (go_at_call 34; exact Calls.held (H0.out _) (hkk _)) | (go_at_call 35; exact Calls.held (H1.out _) (hkk _)) | (go_at_call 36; exact Calls.held (H2.out _) (hkk _))))
        refine wpQuiet_nil ?_
        rintro _ ⟨sw, rfl⟩
        have HB : Hid (Below w.heap.size w sw.w) := hb0.trans ((HK.out.2.2.2 sw).mono (by omega))
        generalize sw.w = w1 at HB ⊢
        clear H0 H1 H2 HK hkk hS0 hNE k0 x0 x1 x2 x3 x4 x5 x6 x7 x8 hX hA hb0
        go_wp2
        go_ret
        exact ⟨by first | rfl | (rw [hq]; first | rfl | simp) | simp, HB.out⟩
      | true =>
        refine wp_region_held (S := S) (by kernel_rfl) (by kernel_rfl) hS0 ?_
        try simp only [List.append_eq, List.cons_append, List.nil_append]
        repeat (go_big_quiet_step (first | (go_at_call 34; exact Calls.held (H0.out _) (hkk _)) | (go_at_call 35; exact Calls.held (H1.out _) (hkk _)) | (go_at_call 36; exact Calls.held (H2.out _) (hkk _))))
        refine wpQuiet_nil ?_
        rintro _ ⟨sw, rfl⟩
        have HB : Hid (Below w.heap.size w sw.w) := hb0.trans ((HK.out.2.2.2 sw).mono (by omega))
        generalize sw.w = w1 at HB ⊢
        clear H0 H1 H2 HK hkk hS0 hNE k0 x0 x1 x2 x3 x4 x5 x6 x7 x8 hX hA hb0
        go_wp2
        go_ret
        exact ⟨by first | rfl | (rw [hq]; first | rfl | simp) | simp, HB.out⟩
end Go.Proofs.Ytnjihmailppjkaa
