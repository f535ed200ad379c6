/- The contracts of chapter 13's ChanNew, ChanOk and TurnOn, the specification's. -/
import Derived.Test.YtnjihmailppjkaaCh13
import Derived.Test.YtnjihmailppjkaaTermAt
import Derived.Test.YtnjihmailppjkaaWin7
import Derived.WalkKit
import Derived.WalkLawsBesides
import Derived.WalkSpells
import Derived.Laws.Rows
set_option warningAsError false
namespace Go.Proofs.Ytnjihmailppjkaa
open Go.RowKit
set_option linter.unusedVariables false
/-- ChanOk. -/
def chanB (ns : List Nd) (x : Ch) : Bool := okAt ns x.a && (inB x.s 1 2 && (inB x.e 0 8 && (inB x.h 0 8 && (inB x.q 0 10000 && (winB x.t x.u && (winB x.l x.m))))))
/-- TurnOn. -/
def turnB (x : Ch) : Bool := inB x.e 0 7 && decide (x.e ≤ x.h)
def turnC (x : Ch) : Ch := if turnB x = true then ⟨x.a, x.s, x.e + 1, 0, x.h, x.t, x.u, x.l, x.m⟩ else x
def chanN (a s : Int) : Ch := ⟨a, s, 0, 0, 0, -1, 0, -1, 0⟩
theorem res_chan {P : Program} {fn : Func} {p u : Tmp} {ty : TypeId} (h : fn.results = #[.cell p ty, .tmp u]) (tmps : Array Value) (w : World) (g : Nat) (t : TypeId) (cs : Array Value) (fr : Nat × Nat) (d : TypeDesc)
    (hp : tmps.getD p undef = .pointer (some ⟨g, 0, none⟩)) (hg : w.heap[g]? = some (.cells cs t fr))
    (hu : P.underlying ty = some d) (hd : (match d with | .struct _ | .array _ _ => true | _ => false) = true) (hi : (P.info? ty).map (·.size) = some cs.size) :
    (results fn tmps).run P w = .ok (.tuple #[.agg cs, tmps.getD u undef]) w := by
  rw [results_cell_tmp h, hp]
  simp [asAddr, run_loadVar_row w g t ty cs fr d hg hu hd hi]
set_option maxHeartbeats 3200000 in
set_option maxRecDepth 20000 in
theorem specTurn_any (x : Ch) (w : World) :
    Calls Try.prog 21 #[.agg #[.int .i64 x.a, .int .i64 x.s, .int .i64 x.e, .int .i64 x.q, .int .i64 x.h, .int .i64 x.t, .int .i64 x.u, .int .i64 x.l, .int .i64 x.m]] w fun e w' => e = .returned (.tuple #[.agg #[.int .i64 (turnC x).a, .int .i64 (turnC x).s, .int .i64 (turnC x).e, .int .i64 (turnC x).q, .int .i64 (turnC x).h, .int .i64 (turnC x).t, .int .i64 (turnC x).u, .int .i64 (turnC x).l, .int .i64 (turnC x).m], .bool (turnB x)]) ∧ Below w.heap.size w w' := by
  obtain ⟨G, HG⟩ : ∃ G, Hid (turnC x = G) := ⟨_, rfl⟩
  obtain ⟨E, HE⟩ : ∃ E, Hid (turnB x = E) := ⟨_, rfl⟩
  rw [HG.out, HE.out]
  have HBX : Hid (Below w.heap.size w ((w.alloc (.cells #[.int .i64 x.a, .int .i64 x.s, .int .i64 x.e, .int .i64 x.q, .int .i64 x.h, .int .i64 x.t, .int .i64 x.u, .int .i64 x.l, .int .i64 x.m] 25)).alloc (.cells #[.int .i64 x.a, .int .i64 x.s, .int .i64 x.e, .int .i64 x.q, .int .i64 x.h, .int .i64 x.t, .int .i64 x.u, .int .i64 x.l, .int .i64 x.m] 25))) := ((Below.refl _ _).alloc (Nat.le_refl _) _).alloc (by simp) _
  have HX2 : Hid (((w.alloc (.cells #[.int .i64 x.a, .int .i64 x.s, .int .i64 x.e, .int .i64 x.q, .int .i64 x.h, .int .i64 x.t, .int .i64 x.u, .int .i64 x.l, .int .i64 x.m] 25)).alloc (.cells #[.int .i64 x.a, .int .i64 x.s, .int .i64 x.e, .int .i64 x.q, .int .i64 x.h, .int .i64 x.t, .int .i64 x.u, .int .i64 x.l, .int .i64 x.m] 25)).heap[w.heap.size + 1]? = some (.cells #[.int .i64 x.a, .int .i64 x.s, .int .i64 x.e, .int .i64 x.q, .int .i64 x.h, .int .i64 x.t, .int .i64 x.u, .int .i64 x.l, .int .i64 x.m] 25 (0, 0))) := by
    have := heap_alloc_new (w.alloc (.cells #[.int .i64 x.a, .int .i64 x.s, .int .i64 x.e, .int .i64 x.q, .int .i64 x.h, .int .i64 x.t, .int .i64 x.u, .int .i64 x.l, .int .i64 x.m] 25)) (.cells #[.int .i64 x.a, .int .i64 x.s, .int .i64 x.e, .int .i64 x.q, .int .i64 x.h, .int .i64 x.t, .int .i64 x.u, .int .i64 x.l, .int .i64 x.m] 25)
    rw [show (w.alloc (.cells #[.int .i64 x.a, .int .i64 x.s, .int .i64 x.e, .int .i64 x.q, .int .i64 x.h, .int .i64 x.t, .int .i64 x.u, .int .i64 x.l, .int .i64 x.m] 25)).heap.size = w.heap.size + 1 by simp] at this
    exact this
  obtain ⟨d0, h0⟩ : ∃ d, inB x.e 0 7 = d := ⟨_, rfl⟩
  cases d0 with
  | false =>
    have HQ : Hid (G = x ∧ E = false) := by
      have e : turnB x = false := by unfold turnB; rw [h0]; rfl
      exact ⟨by rw [← HG.out]; unfold turnC; rw [if_neg (by rw [e]; simp)], by rw [← HE.out]; exact e⟩
    go_enter Try.func21, Try.ntmps21
    go_wp2_with fail
    refine (specIn_any _ _ _ _).mono ?_
    rintro e w' ⟨rfl, rfl⟩
    rw [h0]
    go_wp2
    refine bodyPost_ret (res_chan rfl _ _ (w.heap.size + 1) 25 #[.int .i64 x.a, .int .i64 x.s, .int .i64 x.e, .int .i64 x.q, .int .i64 x.h, .int .i64 x.t, .int .i64 x.u, .int .i64 x.l, .int .i64 x.m] (0, 0) _ rfl ?_ Try.underlying25 rfl chanSize) rfl ?_
    · exact HX2.out
    · exact ⟨by rw [HQ.out.1, HQ.out.2]; rfl, HBX.out⟩
  | true =>
    have H0 := h0
    unfold inB at H0
    simp at H0
    by_cases hh : x.e ≤ x.h
    · have HQ : Hid (G = ⟨x.a, x.s, x.e + 1, 0, x.h, x.t, x.u, x.l, x.m⟩ ∧ E = true) := by
        have e : turnB x = true := by unfold turnB; rw [h0, decide_eq_true hh]; rfl
        exact ⟨by rw [← HG.out]; unfold turnC; rw [if_pos e], by rw [← HE.out]; exact e⟩
      have hg' : decide (x.h < x.e) = false := decide_eq_false (by omega)
      clear hh
      go_enter Try.func21, Try.ntmps21
      go_wp2_with fail
      refine (specIn_any _ _ _ _).mono ?_
      rintro e w' ⟨rfl, rfl⟩
      rw [h0]
      go_wp2
      refine bodyPost_ret (res_chan rfl _ _ (w.heap.size + 1) 25 #[.int .i64 x.a, .int .i64 x.s, .int .i64 (x.e + 1), .int .i64 0, .int .i64 x.h, .int .i64 x.t, .int .i64 x.u, .int .i64 x.l, .int .i64 x.m] (0, 0) _ rfl ?_ Try.underlying25 rfl chanSize) rfl ?_
      · rw [heap_alloc_old _ _ (by simp)]
        have := heap_alloc_new (w.alloc (.cells #[.int .i64 x.a, .int .i64 x.s, .int .i64 x.e, .int .i64 x.q, .int .i64 x.h, .int .i64 x.t, .int .i64 x.u, .int .i64 x.l, .int .i64 x.m] 25)) (.cells #[.int .i64 x.a, .int .i64 x.s, .int .i64 (x.e + 1), .int .i64 0, .int .i64 x.h, .int .i64 x.t, .int .i64 x.u, .int .i64 x.l, .int .i64 x.m] 25)
        rw [show (w.alloc (.cells #[.int .i64 x.a, .int .i64 x.s, .int .i64 x.e, .int .i64 x.q, .int .i64 x.h, .int .i64 x.t, .int .i64 x.u, .int .i64 x.l, .int .i64 x.m] 25)).heap.size = w.heap.size + 1 by simp] at this
        exact this
      · exact ⟨by rw [HQ.out.1, HQ.out.2]; rfl, (((Below.refl _ _).alloc (Nat.le_refl _) _).alloc (by simp) _).alloc (by simp; omega) _⟩
    · have HQ : Hid (G = x ∧ E = false) := by
        have e : turnB x = false := by unfold turnB; rw [h0, decide_eq_false hh]; rfl
        exact ⟨by rw [← HG.out]; unfold turnC; rw [if_neg (by rw [e]; simp)], by rw [← HE.out]; exact e⟩
      have hg' : decide (x.h < x.e) = true := decide_eq_true (by omega)
      clear hh
      go_enter Try.func21, Try.ntmps21
      go_wp2_with fail
      refine (specIn_any _ _ _ _).mono ?_
      rintro e w' ⟨rfl, rfl⟩
      rw [h0]
      go_wp2
      refine bodyPost_ret (res_chan rfl _ _ (w.heap.size + 1) 25 #[.int .i64 x.a, .int .i64 x.s, .int .i64 x.e, .int .i64 x.q, .int .i64 x.h, .int .i64 x.t, .int .i64 x.u, .int .i64 x.l, .int .i64 x.m] (0, 0) _ rfl ?_ Try.underlying25 rfl chanSize) rfl ?_
      · exact HX2.out
      · exact ⟨by rw [HQ.out.1, HQ.out.2]; rfl, HBX.out⟩
theorem specNewC_any (w : World) : Calls Try.prog 25 #[] w fun e w' => e = .returned (.agg #[.int .i64 (-1), .int .i64 0]) ∧ Below w.heap.size w w' := by
  go_enter Try.func25, Try.ntmps25
  go_wp2
  refine bodyPost_ret (results_cell_row rfl _ _ (w.heap.size) 23 #[.int .i64 (-1), .int .i64 0] (0, 0) _ rfl ?_ Try.underlying23 rfl winSize) rfl ?_
  · exact heap_alloc_new w _
  · exact ⟨rfl, (Below.refl _ _).alloc (Nat.le_refl _) _⟩
set_option maxHeartbeats 3200000 in
set_option maxRecDepth 20000 in
theorem specChanNew_any (a s : Int) (w : World) :
    Calls Try.prog 8 #[.int .i64 a, .int .i64 s] w fun e w' => e = .returned (.agg #[.int .i64 (chanN a s).a, .int .i64 (chanN a s).s, .int .i64 (chanN a s).e, .int .i64 (chanN a s).q, .int .i64 (chanN a s).h, .int .i64 (chanN a s).t, .int .i64 (chanN a s).u, .int .i64 (chanN a s).l, .int .i64 (chanN a s).m]) ∧ Below w.heap.size w w' := by
  have HB0 : Hid (Below w.heap.size w (w.alloc (.cells #[.int .i64 0, .int .i64 0, .int .i64 0, .int .i64 0, .int .i64 0, .int .i64 0, .int .i64 0, .int .i64 0, .int .i64 0] 25))) := (Below.refl _ _).alloc (Nat.le_refl _) _
  have HX0 : Hid ((w.alloc (.cells #[.int .i64 0, .int .i64 0, .int .i64 0, .int .i64 0, .int .i64 0, .int .i64 0, .int .i64 0, .int .i64 0, .int .i64 0] 25)).heap[w.heap.size]? = some (.cells #[.int .i64 0, .int .i64 0, .int .i64 0, .int .i64 0, .int .i64 0, .int .i64 0, .int .i64 0, .int .i64 0, .int .i64 0] 25 (0, 0))) := heap_alloc_new w _
  go_enter Try.func8, Try.ntmps8
  go_wp2_with fail
  generalize w.alloc (.cells #[.int .i64 0, .int .i64 0, .int .i64 0, .int .i64 0, .int .i64 0, .int .i64 0, .int .i64 0, .int .i64 0, .int .i64 0] 25) = w0 at HB0 HX0 ⊢
  refine (specNewC_any _).mono ?_
  rintro e w1 ⟨rfl, hb⟩
  have HB1 : Hid (Below w.heap.size w w1) := HB0.out.trans (hb.mono HB0.out.size)
  have HX1 : Hid _ := (hb.block _ (Array.getElem?_eq_some_iff.1 HX0.out).1).trans HX0.out
  clear hb HB0 HX0
  go_wp2_with fail
  refine (specNewC_any _).mono ?_
  rintro e w2 ⟨rfl, hb⟩
  have HB2 : Hid (Below w.heap.size w w2) := HB1.out.trans (hb.mono HB1.out.size)
  have hx := (hb.block _ (Array.getElem?_eq_some_iff.1 HX1.out).1).trans HX1.out
  have r0 : w2.cell? ⟨w.heap.size, 0, none⟩ = some (.int .i64 0) := (cell_of_row _ _ 0 _ _ _ hx).trans rfl
  have f0 : w2.frozen? ⟨w.heap.size, 0, none⟩ = false := frozen_of_row _ _ 0 _ _ hx
  have r1 : w2.cell? ⟨w.heap.size, 1, none⟩ = some (.int .i64 0) := (cell_of_row _ _ 1 _ _ _ hx).trans rfl
  have f1 : w2.frozen? ⟨w.heap.size, 1, none⟩ = false := frozen_of_row _ _ 1 _ _ hx
  have r2 : w2.cell? ⟨w.heap.size, 2, none⟩ = some (.int .i64 0) := (cell_of_row _ _ 2 _ _ _ hx).trans rfl
  have f2 : w2.frozen? ⟨w.heap.size, 2, none⟩ = false := frozen_of_row _ _ 2 _ _ hx
  have r3 : w2.cell? ⟨w.heap.size, 3, none⟩ = some (.int .i64 0) := (cell_of_row _ _ 3 _ _ _ hx).trans rfl
  have f3 : w2.frozen? ⟨w.heap.size, 3, none⟩ = false := frozen_of_row _ _ 3 _ _ hx
  have r4 : w2.cell? ⟨w.heap.size, 4, none⟩ = some (.int .i64 0) := (cell_of_row _ _ 4 _ _ _ hx).trans rfl
  have f4 : w2.frozen? ⟨w.heap.size, 4, none⟩ = false := frozen_of_row _ _ 4 _ _ hx
  have r5 : w2.cell? ⟨w.heap.size, 5, none⟩ = some (.int .i64 0) := (cell_of_row _ _ 5 _ _ _ hx).trans rfl
  have f5 : w2.frozen? ⟨w.heap.size, 5, none⟩ = false := frozen_of_row _ _ 5 _ _ hx
  have r6 : w2.cell? ⟨w.heap.size, 6, none⟩ = some (.int .i64 0) := (cell_of_row _ _ 6 _ _ _ hx).trans rfl
  have f6 : w2.frozen? ⟨w.heap.size, 6, none⟩ = false := frozen_of_row _ _ 6 _ _ hx
  have r7 : w2.cell? ⟨w.heap.size, 7, none⟩ = some (.int .i64 0) := (cell_of_row _ _ 7 _ _ _ hx).trans rfl
  have f7 : w2.frozen? ⟨w.heap.size, 7, none⟩ = false := frozen_of_row _ _ 7 _ _ hx
  have r8 : w2.cell? ⟨w.heap.size, 8, none⟩ = some (.int .i64 0) := (cell_of_row _ _ 8 _ _ _ hx).trans rfl
  have f8 : w2.frozen? ⟨w.heap.size, 8, none⟩ = false := frozen_of_row _ _ 8 _ _ hx
  have HST : Hid _ := store9 hx (.int .i64 a) (.int .i64 s) (.int .i64 0) (.int .i64 0) (.int .i64 0) (.int .i64 (-1)) (.int .i64 0) (.int .i64 (-1)) (.int .i64 0)
  have HBE : Hid _ := below9 (g := w.heap.size) HB2.out (Nat.le_refl _) (.int .i64 a) (.int .i64 s) (.int .i64 0) (.int .i64 0) (.int .i64 0) (.int .i64 (-1)) (.int .i64 0) (.int .i64 (-1)) (.int .i64 0)
  clear hb HB1 HX1 HB2 hx
  go_wp2
  refine bodyPost_ret (results_cell_row rfl _ _ (w.heap.size) 25 #[.int .i64 (chanN a s).a, .int .i64 (chanN a s).s, .int .i64 (chanN a s).e, .int .i64 (chanN a s).q, .int .i64 (chanN a s).h, .int .i64 (chanN a s).t, .int .i64 (chanN a s).u, .int .i64 (chanN a s).l, .int .i64 (chanN a s).m] (0, 0) _ rfl ?_ Try.underlying25 rfl chanSize) rfl ?_
  · exact HST.out
  · exact ⟨rfl, HBE.out⟩
set_option maxHeartbeats 6400000 in
set_option maxRecDepth 20000 in
theorem specChanOk_any (a : Option Addr) (cap : Nat) (ns : List Nd) (x : Ch) (w : World) (hl : ns.length ≤ 1048576) (hr : RowN w.heap.size w a ns) :
    Calls Try.prog 12 #[.agg #[.slice a ns.length cap], .agg #[.int .i64 x.a, .int .i64 x.s, .int .i64 x.e, .int .i64 x.q, .int .i64 x.h, .int .i64 x.t, .int .i64 x.u, .int .i64 x.l, .int .i64 x.m]] w fun e w' => e = .returned (.bool (chanB ns x)) ∧ Below w.heap.size w w' := by
  have hb0 : Below w.heap.size w ((w.alloc (.cells #[.slice a ns.length cap] 39)).alloc (.cells #[.int .i64 x.a, .int .i64 x.s, .int .i64 x.e, .int .i64 x.q, .int .i64 x.h, .int .i64 x.t, .int .i64 x.u, .int .i64 x.l, .int .i64 x.m] 25)) := ((Below.refl _ _).alloc (Nat.le_refl _) _).alloc (by simp) _
  have HR0 : Hid _ := hr.grown hb0
  have HB0 : Hid _ := hb0
  have HC0 : Hid (((w.alloc (.cells #[.slice a ns.length cap] 39)).alloc (.cells #[.int .i64 x.a, .int .i64 x.s, .int .i64 x.e, .int .i64 x.q, .int .i64 x.h, .int .i64 x.t, .int .i64 x.u, .int .i64 x.l, .int .i64 x.m] 25)).heap[w.heap.size + 1]? = some (.cells #[.int .i64 x.a, .int .i64 x.s, .int .i64 x.e, .int .i64 x.q, .int .i64 x.h, .int .i64 x.t, .int .i64 x.u, .int .i64 x.l, .int .i64 x.m] 25 (0, 0))) := by
    have := heap_alloc_new (w.alloc (.cells #[.slice a ns.length cap] 39)) (.cells #[.int .i64 x.a, .int .i64 x.s, .int .i64 x.e, .int .i64 x.q, .int .i64 x.h, .int .i64 x.t, .int .i64 x.u, .int .i64 x.l, .int .i64 x.m] 25)
    rw [show (w.alloc (.cells #[.slice a ns.length cap] 39)).heap.size = w.heap.size + 1 by simp] at this
    exact this
  clear hb0 hr
  obtain ⟨V, HV⟩ : ∃ V, Hid (chanB ns x = V) := ⟨_, rfl⟩
  rw [HV.out]
  obtain ⟨d0, h0⟩ : ∃ d, okAt ns x.a = d := ⟨_, rfl⟩
  cases d0
  · have HQ : Hid (V = false) := by show _ = _; rw [← HV.out]; unfold chanB; rw [h0]; rfl
    go_enter Try.func12, Try.ntmps12
    go_wp2_with fail
    generalize (w.alloc (.cells #[.slice a ns.length cap] 39)).alloc (.cells #[.int .i64 x.a, .int .i64 x.s, .int .i64 x.e, .int .i64 x.q, .int .i64 x.h, .int .i64 x.t, .int .i64 x.u, .int .i64 x.l, .int .i64 x.m] 25) = w0 at HB0 HC0 HR0 ⊢
    refine (specOk_any a cap ns x.a w0 hl HR0.out).mono ?_
    rintro e v0 ⟨rfl, hb⟩
    rw [h0]
    have HV0 : Hid (Below w.heap.size w v0) := HB0.out.trans (hb.mono HB0.out.size)
    have HD0 : Hid (v0.heap[w.heap.size + 1]? = some (.cells #[.int .i64 x.a, .int .i64 x.s, .int .i64 x.e, .int .i64 x.q, .int .i64 x.h, .int .i64 x.t, .int .i64 x.u, .int .i64 x.l, .int .i64 x.m] 25 (0, 0))) := (hb.block _ (Array.getElem?_eq_some_iff.1 HC0.out).1).trans HC0.out
    clear hb HB0 HC0 HR0
    have c1 : v0.cell? ⟨w.heap.size + 1, 1, none⟩ = some (.int .i64 x.s) := (cell_of_row _ _ 1 _ _ _ HD0.out).trans rfl
    have c2 : v0.cell? ⟨w.heap.size + 1, 2, none⟩ = some (.int .i64 x.e) := (cell_of_row _ _ 2 _ _ _ HD0.out).trans rfl
    have c3 : v0.cell? ⟨w.heap.size + 1, 3, none⟩ = some (.int .i64 x.q) := (cell_of_row _ _ 3 _ _ _ HD0.out).trans rfl
    have c4 : v0.cell? ⟨w.heap.size + 1, 4, none⟩ = some (.int .i64 x.h) := (cell_of_row _ _ 4 _ _ _ HD0.out).trans rfl
    have c5 : v0.cell? ⟨w.heap.size + 1, 5, none⟩ = some (.int .i64 x.t) := (cell_of_row _ _ 5 _ _ _ HD0.out).trans rfl
    have c6 : v0.cell? ⟨w.heap.size + 1, 6, none⟩ = some (.int .i64 x.u) := (cell_of_row _ _ 6 _ _ _ HD0.out).trans rfl
    have c7 : v0.cell? ⟨w.heap.size + 1, 7, none⟩ = some (.int .i64 x.l) := (cell_of_row _ _ 7 _ _ _ HD0.out).trans rfl
    have c8 : v0.cell? ⟨w.heap.size + 1, 8, none⟩ = some (.int .i64 x.m) := (cell_of_row _ _ 8 _ _ _ HD0.out).trans rfl
    go_wp2
    go_ret
    exact ⟨by rw [HQ.out]; rfl, HV0.out⟩
  obtain ⟨d1, h1⟩ : ∃ d, inB x.s 1 2 = d := ⟨_, rfl⟩
  cases d1
  · have HQ : Hid (V = false) := by show _ = _; rw [← HV.out]; unfold chanB; rw [h0, h1]; rfl
    go_enter Try.func12, Try.ntmps12
    go_wp2_with fail
    generalize (w.alloc (.cells #[.slice a ns.length cap] 39)).alloc (.cells #[.int .i64 x.a, .int .i64 x.s, .int .i64 x.e, .int .i64 x.q, .int .i64 x.h, .int .i64 x.t, .int .i64 x.u, .int .i64 x.l, .int .i64 x.m] 25) = w0 at HB0 HC0 HR0 ⊢
    refine (specOk_any a cap ns x.a w0 hl HR0.out).mono ?_
    rintro e v0 ⟨rfl, hb⟩
    rw [h0]
    have HV0 : Hid (Below w.heap.size w v0) := HB0.out.trans (hb.mono HB0.out.size)
    have HD0 : Hid (v0.heap[w.heap.size + 1]? = some (.cells #[.int .i64 x.a, .int .i64 x.s, .int .i64 x.e, .int .i64 x.q, .int .i64 x.h, .int .i64 x.t, .int .i64 x.u, .int .i64 x.l, .int .i64 x.m] 25 (0, 0))) := (hb.block _ (Array.getElem?_eq_some_iff.1 HC0.out).1).trans HC0.out
    clear hb HB0 HC0 HR0
    have c1 : v0.cell? ⟨w.heap.size + 1, 1, none⟩ = some (.int .i64 x.s) := (cell_of_row _ _ 1 _ _ _ HD0.out).trans rfl
    have c2 : v0.cell? ⟨w.heap.size + 1, 2, none⟩ = some (.int .i64 x.e) := (cell_of_row _ _ 2 _ _ _ HD0.out).trans rfl
    have c3 : v0.cell? ⟨w.heap.size + 1, 3, none⟩ = some (.int .i64 x.q) := (cell_of_row _ _ 3 _ _ _ HD0.out).trans rfl
    have c4 : v0.cell? ⟨w.heap.size + 1, 4, none⟩ = some (.int .i64 x.h) := (cell_of_row _ _ 4 _ _ _ HD0.out).trans rfl
    have c5 : v0.cell? ⟨w.heap.size + 1, 5, none⟩ = some (.int .i64 x.t) := (cell_of_row _ _ 5 _ _ _ HD0.out).trans rfl
    have c6 : v0.cell? ⟨w.heap.size + 1, 6, none⟩ = some (.int .i64 x.u) := (cell_of_row _ _ 6 _ _ _ HD0.out).trans rfl
    have c7 : v0.cell? ⟨w.heap.size + 1, 7, none⟩ = some (.int .i64 x.l) := (cell_of_row _ _ 7 _ _ _ HD0.out).trans rfl
    have c8 : v0.cell? ⟨w.heap.size + 1, 8, none⟩ = some (.int .i64 x.m) := (cell_of_row _ _ 8 _ _ _ HD0.out).trans rfl
    go_wp2_with fail
    refine (specIn_any _ _ _ _).mono ?_
    rintro e w' ⟨rfl, rfl⟩
    rw [h1]
    go_wp2
    go_ret
    exact ⟨by rw [HQ.out]; rfl, HV0.out⟩
  obtain ⟨d2, h2⟩ : ∃ d, inB x.e 0 8 = d := ⟨_, rfl⟩
  cases d2
  · have HQ : Hid (V = false) := by show _ = _; rw [← HV.out]; unfold chanB; rw [h0, h1, h2]; rfl
    go_enter Try.func12, Try.ntmps12
    go_wp2_with fail
    generalize (w.alloc (.cells #[.slice a ns.length cap] 39)).alloc (.cells #[.int .i64 x.a, .int .i64 x.s, .int .i64 x.e, .int .i64 x.q, .int .i64 x.h, .int .i64 x.t, .int .i64 x.u, .int .i64 x.l, .int .i64 x.m] 25) = w0 at HB0 HC0 HR0 ⊢
    refine (specOk_any a cap ns x.a w0 hl HR0.out).mono ?_
    rintro e v0 ⟨rfl, hb⟩
    rw [h0]
    have HV0 : Hid (Below w.heap.size w v0) := HB0.out.trans (hb.mono HB0.out.size)
    have HD0 : Hid (v0.heap[w.heap.size + 1]? = some (.cells #[.int .i64 x.a, .int .i64 x.s, .int .i64 x.e, .int .i64 x.q, .int .i64 x.h, .int .i64 x.t, .int .i64 x.u, .int .i64 x.l, .int .i64 x.m] 25 (0, 0))) := (hb.block _ (Array.getElem?_eq_some_iff.1 HC0.out).1).trans HC0.out
    clear hb HB0 HC0 HR0
    have c1 : v0.cell? ⟨w.heap.size + 1, 1, none⟩ = some (.int .i64 x.s) := (cell_of_row _ _ 1 _ _ _ HD0.out).trans rfl
    have c2 : v0.cell? ⟨w.heap.size + 1, 2, none⟩ = some (.int .i64 x.e) := (cell_of_row _ _ 2 _ _ _ HD0.out).trans rfl
    have c3 : v0.cell? ⟨w.heap.size + 1, 3, none⟩ = some (.int .i64 x.q) := (cell_of_row _ _ 3 _ _ _ HD0.out).trans rfl
    have c4 : v0.cell? ⟨w.heap.size + 1, 4, none⟩ = some (.int .i64 x.h) := (cell_of_row _ _ 4 _ _ _ HD0.out).trans rfl
    have c5 : v0.cell? ⟨w.heap.size + 1, 5, none⟩ = some (.int .i64 x.t) := (cell_of_row _ _ 5 _ _ _ HD0.out).trans rfl
    have c6 : v0.cell? ⟨w.heap.size + 1, 6, none⟩ = some (.int .i64 x.u) := (cell_of_row _ _ 6 _ _ _ HD0.out).trans rfl
    have c7 : v0.cell? ⟨w.heap.size + 1, 7, none⟩ = some (.int .i64 x.l) := (cell_of_row _ _ 7 _ _ _ HD0.out).trans rfl
    have c8 : v0.cell? ⟨w.heap.size + 1, 8, none⟩ = some (.int .i64 x.m) := (cell_of_row _ _ 8 _ _ _ HD0.out).trans rfl
    go_wp2_with fail
    refine (specIn_any _ _ _ _).mono ?_
    rintro e w' ⟨rfl, rfl⟩
    rw [h1]
    go_wp2_with fail
    refine (specIn_any _ _ _ _).mono ?_
    rintro e w' ⟨rfl, rfl⟩
    rw [h2]
    go_wp2
    go_ret
    exact ⟨by rw [HQ.out]; rfl, HV0.out⟩
  obtain ⟨d3, h3⟩ : ∃ d, inB x.h 0 8 = d := ⟨_, rfl⟩
  cases d3
  · have HQ : Hid (V = false) := by show _ = _; rw [← HV.out]; unfold chanB; rw [h0, h1, h2, h3]; rfl
    go_enter Try.func12, Try.ntmps12
    go_wp2_with fail
    generalize (w.alloc (.cells #[.slice a ns.length cap] 39)).alloc (.cells #[.int .i64 x.a, .int .i64 x.s, .int .i64 x.e, .int .i64 x.q, .int .i64 x.h, .int .i64 x.t, .int .i64 x.u, .int .i64 x.l, .int .i64 x.m] 25) = w0 at HB0 HC0 HR0 ⊢
    refine (specOk_any a cap ns x.a w0 hl HR0.out).mono ?_
    rintro e v0 ⟨rfl, hb⟩
    rw [h0]
    have HV0 : Hid (Below w.heap.size w v0) := HB0.out.trans (hb.mono HB0.out.size)
    have HD0 : Hid (v0.heap[w.heap.size + 1]? = some (.cells #[.int .i64 x.a, .int .i64 x.s, .int .i64 x.e, .int .i64 x.q, .int .i64 x.h, .int .i64 x.t, .int .i64 x.u, .int .i64 x.l, .int .i64 x.m] 25 (0, 0))) := (hb.block _ (Array.getElem?_eq_some_iff.1 HC0.out).1).trans HC0.out
    clear hb HB0 HC0 HR0
    have c1 : v0.cell? ⟨w.heap.size + 1, 1, none⟩ = some (.int .i64 x.s) := (cell_of_row _ _ 1 _ _ _ HD0.out).trans rfl
    have c2 : v0.cell? ⟨w.heap.size + 1, 2, none⟩ = some (.int .i64 x.e) := (cell_of_row _ _ 2 _ _ _ HD0.out).trans rfl
    have c3 : v0.cell? ⟨w.heap.size + 1, 3, none⟩ = some (.int .i64 x.q) := (cell_of_row _ _ 3 _ _ _ HD0.out).trans rfl
    have c4 : v0.cell? ⟨w.heap.size + 1, 4, none⟩ = some (.int .i64 x.h) := (cell_of_row _ _ 4 _ _ _ HD0.out).trans rfl
    have c5 : v0.cell? ⟨w.heap.size + 1, 5, none⟩ = some (.int .i64 x.t) := (cell_of_row _ _ 5 _ _ _ HD0.out).trans rfl
    have c6 : v0.cell? ⟨w.heap.size + 1, 6, none⟩ = some (.int .i64 x.u) := (cell_of_row _ _ 6 _ _ _ HD0.out).trans rfl
    have c7 : v0.cell? ⟨w.heap.size + 1, 7, none⟩ = some (.int .i64 x.l) := (cell_of_row _ _ 7 _ _ _ HD0.out).trans rfl
    have c8 : v0.cell? ⟨w.heap.size + 1, 8, none⟩ = some (.int .i64 x.m) := (cell_of_row _ _ 8 _ _ _ HD0.out).trans rfl
    go_wp2_with fail
    refine (specIn_any _ _ _ _).mono ?_
    rintro e w' ⟨rfl, rfl⟩
    rw [h1]
    go_wp2_with fail
    refine (specIn_any _ _ _ _).mono ?_
    rintro e w' ⟨rfl, rfl⟩
    rw [h2]
    go_wp2_with fail
    refine (specIn_any _ _ _ _).mono ?_
    rintro e w' ⟨rfl, rfl⟩
    rw [h3]
    go_wp2
    go_ret
    exact ⟨by rw [HQ.out]; rfl, HV0.out⟩
  obtain ⟨d4, h4⟩ : ∃ d, inB x.q 0 10000 = d := ⟨_, rfl⟩
  cases d4
  · have HQ : Hid (V = false) := by show _ = _; rw [← HV.out]; unfold chanB; rw [h0, h1, h2, h3, h4]; rfl
    go_enter Try.func12, Try.ntmps12
    go_wp2_with fail
    generalize (w.alloc (.cells #[.slice a ns.length cap] 39)).alloc (.cells #[.int .i64 x.a, .int .i64 x.s, .int .i64 x.e, .int .i64 x.q, .int .i64 x.h, .int .i64 x.t, .int .i64 x.u, .int .i64 x.l, .int .i64 x.m] 25) = w0 at HB0 HC0 HR0 ⊢
    refine (specOk_any a cap ns x.a w0 hl HR0.out).mono ?_
    rintro e v0 ⟨rfl, hb⟩
    rw [h0]
    have HV0 : Hid (Below w.heap.size w v0) := HB0.out.trans (hb.mono HB0.out.size)
    have HD0 : Hid (v0.heap[w.heap.size + 1]? = some (.cells #[.int .i64 x.a, .int .i64 x.s, .int .i64 x.e, .int .i64 x.q, .int .i64 x.h, .int .i64 x.t, .int .i64 x.u, .int .i64 x.l, .int .i64 x.m] 25 (0, 0))) := (hb.block _ (Array.getElem?_eq_some_iff.1 HC0.out).1).trans HC0.out
    clear hb HB0 HC0 HR0
    have c1 : v0.cell? ⟨w.heap.size + 1, 1, none⟩ = some (.int .i64 x.s) := (cell_of_row _ _ 1 _ _ _ HD0.out).trans rfl
    have c2 : v0.cell? ⟨w.heap.size + 1, 2, none⟩ = some (.int .i64 x.e) := (cell_of_row _ _ 2 _ _ _ HD0.out).trans rfl
    have c3 : v0.cell? ⟨w.heap.size + 1, 3, none⟩ = some (.int .i64 x.q) := (cell_of_row _ _ 3 _ _ _ HD0.out).trans rfl
    have c4 : v0.cell? ⟨w.heap.size + 1, 4, none⟩ = some (.int .i64 x.h) := (cell_of_row _ _ 4 _ _ _ HD0.out).trans rfl
    have c5 : v0.cell? ⟨w.heap.size + 1, 5, none⟩ = some (.int .i64 x.t) := (cell_of_row _ _ 5 _ _ _ HD0.out).trans rfl
    have c6 : v0.cell? ⟨w.heap.size + 1, 6, none⟩ = some (.int .i64 x.u) := (cell_of_row _ _ 6 _ _ _ HD0.out).trans rfl
    have c7 : v0.cell? ⟨w.heap.size + 1, 7, none⟩ = some (.int .i64 x.l) := (cell_of_row _ _ 7 _ _ _ HD0.out).trans rfl
    have c8 : v0.cell? ⟨w.heap.size + 1, 8, none⟩ = some (.int .i64 x.m) := (cell_of_row _ _ 8 _ _ _ HD0.out).trans rfl
    go_wp2_with fail
    refine (specIn_any _ _ _ _).mono ?_
    rintro e w' ⟨rfl, rfl⟩
    rw [h1]
    go_wp2_with fail
    refine (specIn_any _ _ _ _).mono ?_
    rintro e w' ⟨rfl, rfl⟩
    rw [h2]
    go_wp2_with fail
    refine (specIn_any _ _ _ _).mono ?_
    rintro e w' ⟨rfl, rfl⟩
    rw [h3]
    go_wp2_with fail
    refine (specIn_any _ _ _ _).mono ?_
    rintro e w' ⟨rfl, rfl⟩
    rw [h4]
    go_wp2
    go_ret
    exact ⟨by rw [HQ.out]; rfl, HV0.out⟩
  obtain ⟨d5, h5⟩ : ∃ d, winB x.t x.u = d := ⟨_, rfl⟩
  cases d5
  · have HQ : Hid (V = false) := by show _ = _; rw [← HV.out]; unfold chanB; rw [h0, h1, h2, h3, h4, h5]; rfl
    go_enter Try.func12, Try.ntmps12
    go_wp2_with fail
    generalize (w.alloc (.cells #[.slice a ns.length cap] 39)).alloc (.cells #[.int .i64 x.a, .int .i64 x.s, .int .i64 x.e, .int .i64 x.q, .int .i64 x.h, .int .i64 x.t, .int .i64 x.u, .int .i64 x.l, .int .i64 x.m] 25) = w0 at HB0 HC0 HR0 ⊢
    refine (specOk_any a cap ns x.a w0 hl HR0.out).mono ?_
    rintro e v0 ⟨rfl, hb⟩
    rw [h0]
    have HV0 : Hid (Below w.heap.size w v0) := HB0.out.trans (hb.mono HB0.out.size)
    have HD0 : Hid (v0.heap[w.heap.size + 1]? = some (.cells #[.int .i64 x.a, .int .i64 x.s, .int .i64 x.e, .int .i64 x.q, .int .i64 x.h, .int .i64 x.t, .int .i64 x.u, .int .i64 x.l, .int .i64 x.m] 25 (0, 0))) := (hb.block _ (Array.getElem?_eq_some_iff.1 HC0.out).1).trans HC0.out
    clear hb HB0 HC0 HR0
    have c1 : v0.cell? ⟨w.heap.size + 1, 1, none⟩ = some (.int .i64 x.s) := (cell_of_row _ _ 1 _ _ _ HD0.out).trans rfl
    have c2 : v0.cell? ⟨w.heap.size + 1, 2, none⟩ = some (.int .i64 x.e) := (cell_of_row _ _ 2 _ _ _ HD0.out).trans rfl
    have c3 : v0.cell? ⟨w.heap.size + 1, 3, none⟩ = some (.int .i64 x.q) := (cell_of_row _ _ 3 _ _ _ HD0.out).trans rfl
    have c4 : v0.cell? ⟨w.heap.size + 1, 4, none⟩ = some (.int .i64 x.h) := (cell_of_row _ _ 4 _ _ _ HD0.out).trans rfl
    have c5 : v0.cell? ⟨w.heap.size + 1, 5, none⟩ = some (.int .i64 x.t) := (cell_of_row _ _ 5 _ _ _ HD0.out).trans rfl
    have c6 : v0.cell? ⟨w.heap.size + 1, 6, none⟩ = some (.int .i64 x.u) := (cell_of_row _ _ 6 _ _ _ HD0.out).trans rfl
    have c7 : v0.cell? ⟨w.heap.size + 1, 7, none⟩ = some (.int .i64 x.l) := (cell_of_row _ _ 7 _ _ _ HD0.out).trans rfl
    have c8 : v0.cell? ⟨w.heap.size + 1, 8, none⟩ = some (.int .i64 x.m) := (cell_of_row _ _ 8 _ _ _ HD0.out).trans rfl
    go_wp2_with fail
    refine (specIn_any _ _ _ _).mono ?_
    rintro e w' ⟨rfl, rfl⟩
    rw [h1]
    go_wp2_with fail
    refine (specIn_any _ _ _ _).mono ?_
    rintro e w' ⟨rfl, rfl⟩
    rw [h2]
    go_wp2_with fail
    refine (specIn_any _ _ _ _).mono ?_
    rintro e w' ⟨rfl, rfl⟩
    rw [h3]
    go_wp2_with fail
    refine (specIn_any _ _ _ _).mono ?_
    rintro e w' ⟨rfl, rfl⟩
    rw [h4]
    go_wp2_with fail
    refine (specWin_any x.t x.u _).mono ?_
    rintro e v1 ⟨rfl, hb⟩
    rw [h5]
    have HV1 : Hid (Below w.heap.size w v1) := HV0.out.trans (hb.mono HV0.out.size)
    have HD1 : Hid (v1.heap[w.heap.size + 1]? = some (.cells #[.int .i64 x.a, .int .i64 x.s, .int .i64 x.e, .int .i64 x.q, .int .i64 x.h, .int .i64 x.t, .int .i64 x.u, .int .i64 x.l, .int .i64 x.m] 25 (0, 0))) := (hb.block _ (Array.getElem?_eq_some_iff.1 HD0.out).1).trans HD0.out
    clear hb HV0 HD0
    clear c1 c2 c3 c4 c5 c6 c7 c8
    have c1 : v1.cell? ⟨w.heap.size + 1, 1, none⟩ = some (.int .i64 x.s) := (cell_of_row _ _ 1 _ _ _ HD1.out).trans rfl
    have c2 : v1.cell? ⟨w.heap.size + 1, 2, none⟩ = some (.int .i64 x.e) := (cell_of_row _ _ 2 _ _ _ HD1.out).trans rfl
    have c3 : v1.cell? ⟨w.heap.size + 1, 3, none⟩ = some (.int .i64 x.q) := (cell_of_row _ _ 3 _ _ _ HD1.out).trans rfl
    have c4 : v1.cell? ⟨w.heap.size + 1, 4, none⟩ = some (.int .i64 x.h) := (cell_of_row _ _ 4 _ _ _ HD1.out).trans rfl
    have c5 : v1.cell? ⟨w.heap.size + 1, 5, none⟩ = some (.int .i64 x.t) := (cell_of_row _ _ 5 _ _ _ HD1.out).trans rfl
    have c6 : v1.cell? ⟨w.heap.size + 1, 6, none⟩ = some (.int .i64 x.u) := (cell_of_row _ _ 6 _ _ _ HD1.out).trans rfl
    have c7 : v1.cell? ⟨w.heap.size + 1, 7, none⟩ = some (.int .i64 x.l) := (cell_of_row _ _ 7 _ _ _ HD1.out).trans rfl
    have c8 : v1.cell? ⟨w.heap.size + 1, 8, none⟩ = some (.int .i64 x.m) := (cell_of_row _ _ 8 _ _ _ HD1.out).trans rfl
    go_wp2
    go_ret
    exact ⟨by rw [HQ.out]; rfl, HV1.out⟩
  obtain ⟨d6, h6⟩ : ∃ d, winB x.l x.m = d := ⟨_, rfl⟩
  cases d6
  · have HQ : Hid (V = false) := by show _ = _; rw [← HV.out]; unfold chanB; rw [h0, h1, h2, h3, h4, h5, h6]; rfl
    go_enter Try.func12, Try.ntmps12
    go_wp2_with fail
    generalize (w.alloc (.cells #[.slice a ns.length cap] 39)).alloc (.cells #[.int .i64 x.a, .int .i64 x.s, .int .i64 x.e, .int .i64 x.q, .int .i64 x.h, .int .i64 x.t, .int .i64 x.u, .int .i64 x.l, .int .i64 x.m] 25) = w0 at HB0 HC0 HR0 ⊢
    refine (specOk_any a cap ns x.a w0 hl HR0.out).mono ?_
    rintro e v0 ⟨rfl, hb⟩
    rw [h0]
    have HV0 : Hid (Below w.heap.size w v0) := HB0.out.trans (hb.mono HB0.out.size)
    have HD0 : Hid (v0.heap[w.heap.size + 1]? = some (.cells #[.int .i64 x.a, .int .i64 x.s, .int .i64 x.e, .int .i64 x.q, .int .i64 x.h, .int .i64 x.t, .int .i64 x.u, .int .i64 x.l, .int .i64 x.m] 25 (0, 0))) := (hb.block _ (Array.getElem?_eq_some_iff.1 HC0.out).1).trans HC0.out
    clear hb HB0 HC0 HR0
    have c1 : v0.cell? ⟨w.heap.size + 1, 1, none⟩ = some (.int .i64 x.s) := (cell_of_row _ _ 1 _ _ _ HD0.out).trans rfl
    have c2 : v0.cell? ⟨w.heap.size + 1, 2, none⟩ = some (.int .i64 x.e) := (cell_of_row _ _ 2 _ _ _ HD0.out).trans rfl
    have c3 : v0.cell? ⟨w.heap.size + 1, 3, none⟩ = some (.int .i64 x.q) := (cell_of_row _ _ 3 _ _ _ HD0.out).trans rfl
    have c4 : v0.cell? ⟨w.heap.size + 1, 4, none⟩ = some (.int .i64 x.h) := (cell_of_row _ _ 4 _ _ _ HD0.out).trans rfl
    have c5 : v0.cell? ⟨w.heap.size + 1, 5, none⟩ = some (.int .i64 x.t) := (cell_of_row _ _ 5 _ _ _ HD0.out).trans rfl
    have c6 : v0.cell? ⟨w.heap.size + 1, 6, none⟩ = some (.int .i64 x.u) := (cell_of_row _ _ 6 _ _ _ HD0.out).trans rfl
    have c7 : v0.cell? ⟨w.heap.size + 1, 7, none⟩ = some (.int .i64 x.l) := (cell_of_row _ _ 7 _ _ _ HD0.out).trans rfl
    have c8 : v0.cell? ⟨w.heap.size + 1, 8, none⟩ = some (.int .i64 x.m) := (cell_of_row _ _ 8 _ _ _ HD0.out).trans rfl
    go_wp2_with fail
    refine (specIn_any _ _ _ _).mono ?_
    rintro e w' ⟨rfl, rfl⟩
    rw [h1]
    go_wp2_with fail
    refine (specIn_any _ _ _ _).mono ?_
    rintro e w' ⟨rfl, rfl⟩
    rw [h2]
    go_wp2_with fail
    refine (specIn_any _ _ _ _).mono ?_
    rintro e w' ⟨rfl, rfl⟩
    rw [h3]
    go_wp2_with fail
    refine (specIn_any _ _ _ _).mono ?_
    rintro e w' ⟨rfl, rfl⟩
    rw [h4]
    go_wp2_with fail
    refine (specWin_any x.t x.u _).mono ?_
    rintro e v1 ⟨rfl, hb⟩
    rw [h5]
    have HV1 : Hid (Below w.heap.size w v1) := HV0.out.trans (hb.mono HV0.out.size)
    have HD1 : Hid (v1.heap[w.heap.size + 1]? = some (.cells #[.int .i64 x.a, .int .i64 x.s, .int .i64 x.e, .int .i64 x.q, .int .i64 x.h, .int .i64 x.t, .int .i64 x.u, .int .i64 x.l, .int .i64 x.m] 25 (0, 0))) := (hb.block _ (Array.getElem?_eq_some_iff.1 HD0.out).1).trans HD0.out
    clear hb HV0 HD0
    clear c1 c2 c3 c4 c5 c6 c7 c8
    have c1 : v1.cell? ⟨w.heap.size + 1, 1, none⟩ = some (.int .i64 x.s) := (cell_of_row _ _ 1 _ _ _ HD1.out).trans rfl
    have c2 : v1.cell? ⟨w.heap.size + 1, 2, none⟩ = some (.int .i64 x.e) := (cell_of_row _ _ 2 _ _ _ HD1.out).trans rfl
    have c3 : v1.cell? ⟨w.heap.size + 1, 3, none⟩ = some (.int .i64 x.q) := (cell_of_row _ _ 3 _ _ _ HD1.out).trans rfl
    have c4 : v1.cell? ⟨w.heap.size + 1, 4, none⟩ = some (.int .i64 x.h) := (cell_of_row _ _ 4 _ _ _ HD1.out).trans rfl
    have c5 : v1.cell? ⟨w.heap.size + 1, 5, none⟩ = some (.int .i64 x.t) := (cell_of_row _ _ 5 _ _ _ HD1.out).trans rfl
    have c6 : v1.cell? ⟨w.heap.size + 1, 6, none⟩ = some (.int .i64 x.u) := (cell_of_row _ _ 6 _ _ _ HD1.out).trans rfl
    have c7 : v1.cell? ⟨w.heap.size + 1, 7, none⟩ = some (.int .i64 x.l) := (cell_of_row _ _ 7 _ _ _ HD1.out).trans rfl
    have c8 : v1.cell? ⟨w.heap.size + 1, 8, none⟩ = some (.int .i64 x.m) := (cell_of_row _ _ 8 _ _ _ HD1.out).trans rfl
    go_wp2_with fail
    refine (specWin_any x.l x.m _).mono ?_
    rintro e v2 ⟨rfl, hb⟩
    rw [h6]
    have HV2 : Hid (Below w.heap.size w v2) := HV1.out.trans (hb.mono HV1.out.size)
    have HD2 : Hid (v2.heap[w.heap.size + 1]? = some (.cells #[.int .i64 x.a, .int .i64 x.s, .int .i64 x.e, .int .i64 x.q, .int .i64 x.h, .int .i64 x.t, .int .i64 x.u, .int .i64 x.l, .int .i64 x.m] 25 (0, 0))) := (hb.block _ (Array.getElem?_eq_some_iff.1 HD1.out).1).trans HD1.out
    clear hb HV1 HD1
    clear c1 c2 c3 c4 c5 c6 c7 c8
    have c1 : v2.cell? ⟨w.heap.size + 1, 1, none⟩ = some (.int .i64 x.s) := (cell_of_row _ _ 1 _ _ _ HD2.out).trans rfl
    have c2 : v2.cell? ⟨w.heap.size + 1, 2, none⟩ = some (.int .i64 x.e) := (cell_of_row _ _ 2 _ _ _ HD2.out).trans rfl
    have c3 : v2.cell? ⟨w.heap.size + 1, 3, none⟩ = some (.int .i64 x.q) := (cell_of_row _ _ 3 _ _ _ HD2.out).trans rfl
    have c4 : v2.cell? ⟨w.heap.size + 1, 4, none⟩ = some (.int .i64 x.h) := (cell_of_row _ _ 4 _ _ _ HD2.out).trans rfl
    have c5 : v2.cell? ⟨w.heap.size + 1, 5, none⟩ = some (.int .i64 x.t) := (cell_of_row _ _ 5 _ _ _ HD2.out).trans rfl
    have c6 : v2.cell? ⟨w.heap.size + 1, 6, none⟩ = some (.int .i64 x.u) := (cell_of_row _ _ 6 _ _ _ HD2.out).trans rfl
    have c7 : v2.cell? ⟨w.heap.size + 1, 7, none⟩ = some (.int .i64 x.l) := (cell_of_row _ _ 7 _ _ _ HD2.out).trans rfl
    have c8 : v2.cell? ⟨w.heap.size + 1, 8, none⟩ = some (.int .i64 x.m) := (cell_of_row _ _ 8 _ _ _ HD2.out).trans rfl
    go_wp2
    go_ret
    exact ⟨by rw [HQ.out]; rfl, HV2.out⟩
  have HQ : Hid (V = true) := by show _ = _; rw [← HV.out]; unfold chanB; rw [h0, h1, h2, h3, h4, h5, h6]; rfl
  go_enter Try.func12, Try.ntmps12
  go_wp2_with fail
  generalize (w.alloc (.cells #[.slice a ns.length cap] 39)).alloc (.cells #[.int .i64 x.a, .int .i64 x.s, .int .i64 x.e, .int .i64 x.q, .int .i64 x.h, .int .i64 x.t, .int .i64 x.u, .int .i64 x.l, .int .i64 x.m] 25) = w0 at HB0 HC0 HR0 ⊢
  refine (specOk_any a cap ns x.a w0 hl HR0.out).mono ?_
  rintro e v0 ⟨rfl, hb⟩
  rw [h0]
  have HV0 : Hid (Below w.heap.size w v0) := HB0.out.trans (hb.mono HB0.out.size)
  have HD0 : Hid (v0.heap[w.heap.size + 1]? = some (.cells #[.int .i64 x.a, .int .i64 x.s, .int .i64 x.e, .int .i64 x.q, .int .i64 x.h, .int .i64 x.t, .int .i64 x.u, .int .i64 x.l, .int .i64 x.m] 25 (0, 0))) := (hb.block _ (Array.getElem?_eq_some_iff.1 HC0.out).1).trans HC0.out
  clear hb HB0 HC0 HR0
  have c1 : v0.cell? ⟨w.heap.size + 1, 1, none⟩ = some (.int .i64 x.s) := (cell_of_row _ _ 1 _ _ _ HD0.out).trans rfl
  have c2 : v0.cell? ⟨w.heap.size + 1, 2, none⟩ = some (.int .i64 x.e) := (cell_of_row _ _ 2 _ _ _ HD0.out).trans rfl
  have c3 : v0.cell? ⟨w.heap.size + 1, 3, none⟩ = some (.int .i64 x.q) := (cell_of_row _ _ 3 _ _ _ HD0.out).trans rfl
  have c4 : v0.cell? ⟨w.heap.size + 1, 4, none⟩ = some (.int .i64 x.h) := (cell_of_row _ _ 4 _ _ _ HD0.out).trans rfl
  have c5 : v0.cell? ⟨w.heap.size + 1, 5, none⟩ = some (.int .i64 x.t) := (cell_of_row _ _ 5 _ _ _ HD0.out).trans rfl
  have c6 : v0.cell? ⟨w.heap.size + 1, 6, none⟩ = some (.int .i64 x.u) := (cell_of_row _ _ 6 _ _ _ HD0.out).trans rfl
  have c7 : v0.cell? ⟨w.heap.size + 1, 7, none⟩ = some (.int .i64 x.l) := (cell_of_row _ _ 7 _ _ _ HD0.out).trans rfl
  have c8 : v0.cell? ⟨w.heap.size + 1, 8, none⟩ = some (.int .i64 x.m) := (cell_of_row _ _ 8 _ _ _ HD0.out).trans rfl
  go_wp2_with fail
  refine (specIn_any _ _ _ _).mono ?_
  rintro e w' ⟨rfl, rfl⟩
  rw [h1]
  go_wp2_with fail
  refine (specIn_any _ _ _ _).mono ?_
  rintro e w' ⟨rfl, rfl⟩
  rw [h2]
  go_wp2_with fail
  refine (specIn_any _ _ _ _).mono ?_
  rintro e w' ⟨rfl, rfl⟩
  rw [h3]
  go_wp2_with fail
  refine (specIn_any _ _ _ _).mono ?_
  rintro e w' ⟨rfl, rfl⟩
  rw [h4]
  go_wp2_with fail
  refine (specWin_any x.t x.u _).mono ?_
  rintro e v1 ⟨rfl, hb⟩
  rw [h5]
  have HV1 : Hid (Below w.heap.size w v1) := HV0.out.trans (hb.mono HV0.out.size)
  have HD1 : Hid (v1.heap[w.heap.size + 1]? = some (.cells #[.int .i64 x.a, .int .i64 x.s, .int .i64 x.e, .int .i64 x.q, .int .i64 x.h, .int .i64 x.t, .int .i64 x.u, .int .i64 x.l, .int .i64 x.m] 25 (0, 0))) := (hb.block _ (Array.getElem?_eq_some_iff.1 HD0.out).1).trans HD0.out
  clear hb HV0 HD0
  clear c1 c2 c3 c4 c5 c6 c7 c8
  have c1 : v1.cell? ⟨w.heap.size + 1, 1, none⟩ = some (.int .i64 x.s) := (cell_of_row _ _ 1 _ _ _ HD1.out).trans rfl
  have c2 : v1.cell? ⟨w.heap.size + 1, 2, none⟩ = some (.int .i64 x.e) := (cell_of_row _ _ 2 _ _ _ HD1.out).trans rfl
  have c3 : v1.cell? ⟨w.heap.size + 1, 3, none⟩ = some (.int .i64 x.q) := (cell_of_row _ _ 3 _ _ _ HD1.out).trans rfl
  have c4 : v1.cell? ⟨w.heap.size + 1, 4, none⟩ = some (.int .i64 x.h) := (cell_of_row _ _ 4 _ _ _ HD1.out).trans rfl
  have c5 : v1.cell? ⟨w.heap.size + 1, 5, none⟩ = some (.int .i64 x.t) := (cell_of_row _ _ 5 _ _ _ HD1.out).trans rfl
  have c6 : v1.cell? ⟨w.heap.size + 1, 6, none⟩ = some (.int .i64 x.u) := (cell_of_row _ _ 6 _ _ _ HD1.out).trans rfl
  have c7 : v1.cell? ⟨w.heap.size + 1, 7, none⟩ = some (.int .i64 x.l) := (cell_of_row _ _ 7 _ _ _ HD1.out).trans rfl
  have c8 : v1.cell? ⟨w.heap.size + 1, 8, none⟩ = some (.int .i64 x.m) := (cell_of_row _ _ 8 _ _ _ HD1.out).trans rfl
  go_wp2_with fail
  refine (specWin_any x.l x.m _).mono ?_
  rintro e v2 ⟨rfl, hb⟩
  rw [h6]
  have HV2 : Hid (Below w.heap.size w v2) := HV1.out.trans (hb.mono HV1.out.size)
  have HD2 : Hid (v2.heap[w.heap.size + 1]? = some (.cells #[.int .i64 x.a, .int .i64 x.s, .int .i64 x.e, .int .i64 x.q, .int .i64 x.h, .int .i64 x.t, .int .i64 x.u, .int .i64 x.l, .int .i64 x.m] 25 (0, 0))) := (hb.block _ (Array.getElem?_eq_some_iff.1 HD1.out).1).trans HD1.out
  clear hb HV1 HD1
  clear c1 c2 c3 c4 c5 c6 c7 c8
  have c1 : v2.cell? ⟨w.heap.size + 1, 1, none⟩ = some (.int .i64 x.s) := (cell_of_row _ _ 1 _ _ _ HD2.out).trans rfl
  have c2 : v2.cell? ⟨w.heap.size + 1, 2, none⟩ = some (.int .i64 x.e) := (cell_of_row _ _ 2 _ _ _ HD2.out).trans rfl
  have c3 : v2.cell? ⟨w.heap.size + 1, 3, none⟩ = some (.int .i64 x.q) := (cell_of_row _ _ 3 _ _ _ HD2.out).trans rfl
  have c4 : v2.cell? ⟨w.heap.size + 1, 4, none⟩ = some (.int .i64 x.h) := (cell_of_row _ _ 4 _ _ _ HD2.out).trans rfl
  have c5 : v2.cell? ⟨w.heap.size + 1, 5, none⟩ = some (.int .i64 x.t) := (cell_of_row _ _ 5 _ _ _ HD2.out).trans rfl
  have c6 : v2.cell? ⟨w.heap.size + 1, 6, none⟩ = some (.int .i64 x.u) := (cell_of_row _ _ 6 _ _ _ HD2.out).trans rfl
  have c7 : v2.cell? ⟨w.heap.size + 1, 7, none⟩ = some (.int .i64 x.l) := (cell_of_row _ _ 7 _ _ _ HD2.out).trans rfl
  have c8 : v2.cell? ⟨w.heap.size + 1, 8, none⟩ = some (.int .i64 x.m) := (cell_of_row _ _ 8 _ _ _ HD2.out).trans rfl
  go_wp2
  go_ret
  exact ⟨by rw [HQ.out]; rfl, HV2.out⟩
end Go.Proofs.Ytnjihmailppjkaa
