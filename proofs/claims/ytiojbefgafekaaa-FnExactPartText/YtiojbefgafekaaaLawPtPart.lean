/- The laws' own helpers over a Part: its opening as an argument, toPart, szPart. -/
import Derived.Test.YtiojbefgafekaaaPtP
import Derived.WalkKit
import Derived.WalkLawsBesides
import Derived.WalkSpells
import Derived.Laws.Rows
import Derived.Lib.SmallJoins
import Derived.OpenShut
import Derived.ShutString
import Derived.ProofKit
import Derived.BigRegion
namespace Go.Proofs.Ytiojbefgafekaaa
open Go.ChangeShapes Go.WideShapes Go.ChangeAt Go.RowKit Go.Joins Go.Deep
set_option linter.unusedVariables false
theorem cellsLPart : Try.prog.cellsOf 23 = 4 := by kernel_rfl
theorem cellsIntPart : Try.prog.cellsOf 3 = 1 := by kernel_rfl
theorem cellsStrPart : Try.prog.cellsOf 9 = 1 := by kernel_rfl
theorem partSize : (Try.prog.info? 26).map (·.size) = some 4 := by kernel_rfl
set_option maxRecDepth 100000 in
theorem part_cells {H : Type} {enc : TypeId × Value → H} {W : World} {base : Nat} {sp : Nat → Bool} {held : Bool} {fuel : Nat} {cs : List Value} {x : DataW H × List MemPlace} (h : DataW.trod enc Try.prog W base sp held fuel 23 cs = some x) :
    ∃ y : Pt, cs = [.int .i64 y.n, .int .i64 y.a, .int .i64 y.b, .string y.t] ∧ y.Fits := by
  obtain ⟨y0, y1, y2, y3, n, _, hl, h0, h1, h2, h3⟩ := trod_struct4 Try.underlying23 h
  rw [cellsLPart] at hl
  match cs, hl with
  | [c0, c1, c2, c3], _ =>
    simp only [cellsIntPart, cellsStrPart, List.drop_zero, List.drop_succ_cons, List.take_succ_cons, List.take_zero] at h0 h1 h2 h3
    obtain ⟨z0, e0, _, w0⟩ := DataW.trod_int Try.underlying3 h0
    obtain ⟨z1, e1, _, w1⟩ := DataW.trod_int Try.underlying3 h1
    obtain ⟨z2, e2, _, w2⟩ := DataW.trod_int Try.underlying3 h2
    obtain ⟨z3, e3, _, w3⟩ := DataW.trod_string Try.underlying9 h3
    simp only [List.cons.injEq, and_true] at e0 e1 e2 e3
    subst e0 e1 e2 e3
    exact ⟨⟨z0, z1, z2, z3⟩, rfl, bounds_i64 w0, bounds_i64 w1, bounds_i64 w2, w3⟩
set_option maxRecDepth 100000 in
theorem part_of {H : Type} {enc : TypeId × Value → H} {W : World} {base b0 : Nat} {sp : Nat → Bool} {held : Bool} {r : Reach} {v : Value} {d : DataW H} {p : List MemPlace} (hv : Value.okWide Try.prog W r b0 23 v) (h : DataW.Trod enc Try.prog W base sp held 23 v d p) :
    ∃ y : Pt, v = .agg #[.int .i64 y.n, .int .i64 y.a, .int .i64 y.b, .string y.t] ∧ y.Fits := by
  obtain ⟨cs, rfl, hsz⟩ := okWide_struct Try.underlying23 hv
  obtain ⟨fuel, hf⟩ := h
  obtain ⟨y, he, hfit⟩ := part_cells hf
  refine ⟨y, ?_, hfit⟩
  congr 1
  apply Array.ext'
  exact he
set_option maxHeartbeats 800000 in
theorem toPart_any (x : Pt) (w : World) :
    Calls Try.prog 10 #[(.agg #[.int .i64 x.n, .int .i64 x.a, .int .i64 x.b, .string x.t])] w fun e w' => e = .returned (.agg #[.int .i64 x.n, .int .i64 x.a, .int .i64 x.b, .string x.t]) ∧ Below w.heap.size w w' := by
  go_enter Try.func10, Try.ntmps10
  go_wp2
  refine bodyPost_ret (results_cell_row rfl _ _ (w.heap.size + 1) 26 #[.int .i64 x.n, .int .i64 x.a, .int .i64 x.b, .string x.t] (0, 0) _ rfl ?_ Try.underlying26 rfl partSize) rfl ?_
  · rw [heap_alloc_old _ _ (by simp)]
    have := heap_alloc_new (w.alloc (.cells #[.int .i64 x.n, .int .i64 x.a, .int .i64 x.b, .string x.t] 23)) (.cells #[.int .i64 x.n, .int .i64 x.a, .int .i64 x.b, .string x.t] 26)
    simpa using this
  · exact ⟨rfl, (((Below.refl _ _).alloc (Nat.le_refl _) _).alloc (by simp) _).alloc (by simp; omega) _⟩
set_option maxHeartbeats 800000 in
theorem szPart_any (x : Pt) (w : World) (h : x.t.size ≤ 1048576) :
    Calls Try.prog 8 #[(.agg #[.int .i64 x.n, .int .i64 x.a, .int .i64 x.b, .string x.t]), .int .i64 1048576] w fun e w' => e = .returned (.int .i64 (1048576 - ((x.t.size : Nat) : Int))) ∧ Below w.heap.size w w' := by
  have hw : IntKind.i64.wrap (1048576 - ((x.t.size : Nat) : Int)) = 1048576 - ((x.t.size : Nat) : Int) := by rw [IntKind.wrap_i64]; omega
  have hn : ¬ (1048576 - ((x.t.size : Nat) : Int)) < 0 := by omega
  have hB : Below w.heap.size w (w.alloc (.cells #[.int .i64 x.n, .int .i64 x.a, .int .i64 x.b, .string x.t] 23)) := (Below.refl _ _).alloc (Nat.le_refl _) _
  go_enter Try.func8, Try.ntmps8
  go_wp2
  go_ret
  exact ⟨rfl, hB⟩
set_option maxHeartbeats 800000 in
theorem szPart_big (x : Pt) (w : World) (h : 1048576 < x.t.size) (h2 : x.t.size ≤ maxLen) :
    Calls Try.prog 8 #[(.agg #[.int .i64 x.n, .int .i64 x.a, .int .i64 x.b, .string x.t]), .int .i64 1048576] w fun e w' => e = .returned (.int .i64 (-1)) ∧ Below w.heap.size w w' := by
  have hm : ((x.t.size : Nat) : Int) ≤ 9223372036854775807 := by have : maxLen ≤ 9223372036854775807 := by decide
                                                                 omega
  have hw : IntKind.i64.wrap (1048576 - ((x.t.size : Nat) : Int)) = 1048576 - ((x.t.size : Nat) : Int) := by rw [IntKind.wrap_i64]; omega
  have hn : (1048576 - ((x.t.size : Nat) : Int)) < 0 := by omega
  have hB : Below w.heap.size w (w.alloc (.cells #[.int .i64 x.n, .int .i64 x.a, .int .i64 x.b, .string x.t] 23)) := (Below.refl _ _).alloc (Nat.le_refl _) _
  clear hm
  go_enter Try.func8, Try.ntmps8
  go_wp2
  go_ret
  exact ⟨rfl, hB⟩
end Go.Proofs.Ytiojbefgafekaaa
