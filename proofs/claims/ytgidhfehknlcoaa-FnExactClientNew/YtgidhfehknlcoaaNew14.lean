/- ClientNew, the specification's and the program's. -/
import Derived.Test.YtgidhfehknlcoaaCl14
import Derived.Deep.Cut
import Derived.Great.BuildSlice
import Derived.Deep.WholeRow
namespace Go.Proofs.Ytgidhfehknlcoaa
open Go.RowKit
set_option linter.unusedVariables false
set_option linter.unusedSimpArgs false
theorem wpList_moveTo {P : Program} {ops : Array Oper} {rest : List Oper} {o : Oper} {a : Act} {w : World} {Q : Exit → Act → World → Prop} (hg : o.guard = none) (x : Operand) (ho : o.op = .move x) (d : Option Tmp) (v : Value) (hd : o.dst = d) (hv : a.eval x = v) (h : wpList P ops Q rest (a.put d v) w) : wpList P ops Q (o :: rest) a w :=
  wpList_plain hg fun _ hK => by
    subst hd hv
    unfold Oper.wp execOp
    simp only [ho, Sem.run_bind, Sem.run_pure, Result.andThen_ok]
    exact hK _ _ h
theorem wpList_load_rowTo {P : Program} {ops : Array Oper} {rest : List Oper} {o : Oper} {a : Act} {w : World} {Q : Exit → Act → World → Prop} (hgd : o.guard = none) (ty : TypeId) (x : Operand) (ho : o.op = .load ty x) (d : Option Tmp) (hd : o.dst = d) (g : Nat) (cells : Array Value) (hx : a.eval x = .pointer (some ⟨g, 0, none⟩))
    (t : TypeId) (fr : Nat × Nat) (hg : w.heap[g]? = some (.cells cells t fr)) (du : TypeDesc) (hu : P.underlying ty = some du) (hs : (match du with | .struct _ | .array _ _ => true | _ => false) = true) (hi : (P.info? ty).map (·.size) = some cells.size)
    (h : wpList P ops Q rest (a.put d (.agg cells)) w) : wpList P ops Q (o :: rest) a w :=
  wpList_plain hgd fun _ hK => by
    subst hd
    unfold Oper.wp execOp
    simp only [ho, hx, Instr.loadAt, Instr.sureAddr, Sem.run_bind, Sem.run_pure, Result.andThen_ok, run_loadVar_row w g t ty cells fr du hg hu hs hi]
    exact hK _ _ h
def clNew (n g m : Int) : Cl := ⟨n, g, m, 0, 0, false, 0, 0, 0, 0, 0, ⟨0, 0, 0, 0, 0, 0, 0, 0, 0⟩, 0, 0, 0⟩
set_option maxHeartbeats 3200000 in
set_option maxRecDepth 20000 in
theorem specClNew_any (n g m : Int) (w : World) : Calls Try.prog 4 #[.int .i64 n, .int .i64 g, .int .i64 m] w fun e w' => e = .returned (.agg #[.int .i64 (clNew n g m).n, .int .i64 (clNew n g m).g, .int .i64 (clNew n g m).m, .int .i64 (clNew n g m).st, .int .i64 (clNew n g m).d, .bool (clNew n g m).ck, .int .i64 (clNew n g m).he, .int .i64 (clNew n g m).sa, .int .i64 (clNew n g m).ha, .int .i64 (clNew n g m).la, .int .i64 (clNew n g m).le, .int .i64 (clNew n g m).c.a, .int .i64 (clNew n g m).c.s, .int .i64 (clNew n g m).c.e, .int .i64 (clNew n g m).c.q, .int .i64 (clNew n g m).c.h, .int .i64 (clNew n g m).c.t, .int .i64 (clNew n g m).c.u, .int .i64 (clNew n g m).c.l, .int .i64 (clNew n g m).c.m, .int .i64 (clNew n g m).du, .int .i64 (clNew n g m).wa, .int .i64 (clNew n g m).tr]) ∧ Below w.heap.size w w' := by
  have HB : Hid (Below w.heap.size w (w.alloc (.cells #[.int .i64 n, .int .i64 g, .int .i64 m, .int .i64 0, .int .i64 0, .bool false, .int .i64 0, .int .i64 0, .int .i64 0, .int .i64 0, .int .i64 0, .int .i64 0, .int .i64 0, .int .i64 0, .int .i64 0, .int .i64 0, .int .i64 0, .int .i64 0, .int .i64 0, .int .i64 0, .int .i64 0, .int .i64 0, .int .i64 0] 27))) := (Below.refl _ _).alloc (Nat.le_refl _) _
  have HX : Hid _ := heap_alloc_new w (.cells #[.int .i64 n, .int .i64 g, .int .i64 m, .int .i64 0, .int .i64 0, .bool false, .int .i64 0, .int .i64 0, .int .i64 0, .int .i64 0, .int .i64 0, .int .i64 0, .int .i64 0, .int .i64 0, .int .i64 0, .int .i64 0, .int .i64 0, .int .i64 0, .int .i64 0, .int .i64 0, .int .i64 0, .int .i64 0, .int .i64 0] 27)
  go_enter Try.func4, Try.ntmps4
  go_upto_region 1 with fail
  refine wp_region_lit ?_
  refine wpList_moveTo rfl _ rfl _ (.int .i64 n) rfl rfl ?_
  refine wpList_moveTo rfl _ rfl _ (.int .i64 g) rfl rfl ?_
  refine wpList_moveTo rfl _ rfl _ (.int .i64 m) rfl rfl ?_
  refine wpList_buildTo rfl _ _ rfl _ rfl #[.int .i64 n, .int .i64 g, .int .i64 m, .int .i64 0, .int .i64 0, .bool false, .int .i64 0, .int .i64 0, .int .i64 0, .int .i64 0, .int .i64 0, .int .i64 0, .int .i64 0, .int .i64 0, .int .i64 0, .int .i64 0, .int .i64 0, .int .i64 0, .int .i64 0, .int .i64 0, .int .i64 0, .int .i64 0, .int .i64 0] (by kernel_rfl) ?_
  refine wpList_store_rowTo rfl _ _ _ rfl rfl w.heap.size #[.int .i64 n, .int .i64 g, .int .i64 m, .int .i64 0, .int .i64 0, .bool false, .int .i64 0, .int .i64 0, .int .i64 0, .int .i64 0, .int .i64 0, .int .i64 0, .int .i64 0, .int .i64 0, .int .i64 0, .int .i64 0, .int .i64 0, .int .i64 0, .int .i64 0, .int .i64 0, .int .i64 0, .int .i64 0, .int .i64 0] rfl rfl 27 #[.int .i64 0, .int .i64 0, .int .i64 0, .int .i64 0, .int .i64 0, .bool false, .int .i64 0, .int .i64 0, .int .i64 0, .int .i64 0, .int .i64 0, .int .i64 0, .int .i64 0, .int .i64 0, .int .i64 0, .int .i64 0, .int .i64 0, .int .i64 0, .int .i64 0, .int .i64 0, .int .i64 0, .int .i64 0, .int .i64 0] (heap_alloc_new w _) clSize rfl (by simp [Value.oneCell']) ?_
  rw [World.setRow_alloc_new]
  refine wpList_nil ?_
  simp only [Act.put, List.getElem_toArray, List.getElem_cons_succ, List.getElem_cons_zero, List.setIfInBounds_toArray, List.set_cons_succ, List.set_cons_zero]
  go_wp2
  refine bodyPost_ret (results_cell_row rfl _ _ w.heap.size 27 #[.int .i64 n, .int .i64 g, .int .i64 m, .int .i64 0, .int .i64 0, .bool false, .int .i64 0, .int .i64 0, .int .i64 0, .int .i64 0, .int .i64 0, .int .i64 0, .int .i64 0, .int .i64 0, .int .i64 0, .int .i64 0, .int .i64 0, .int .i64 0, .int .i64 0, .int .i64 0, .int .i64 0, .int .i64 0, .int .i64 0] (0, 0) _ rfl ?_ Try.underlying27 rfl clSize) rfl ?_
  · exact HX.out
  · exact ⟨rfl, HB.out⟩
set_option maxHeartbeats 3200000 in
set_option maxRecDepth 20000 in
theorem implClNew_any (n g m : Int) (w : World) : Calls Try.prog 5 #[.int .i64 n, .int .i64 g, .int .i64 m] w fun e w' => e = .returned (.agg #[.int .i64 (clNew n g m).n, .int .i64 (clNew n g m).g, .int .i64 (clNew n g m).m, .int .i64 (clNew n g m).st, .int .i64 (clNew n g m).d, .bool (clNew n g m).ck, .int .i64 (clNew n g m).he, .int .i64 (clNew n g m).sa, .int .i64 (clNew n g m).ha, .int .i64 (clNew n g m).la, .int .i64 (clNew n g m).le, .int .i64 (clNew n g m).c.a, .int .i64 (clNew n g m).c.s, .int .i64 (clNew n g m).c.e, .int .i64 (clNew n g m).c.q, .int .i64 (clNew n g m).c.h, .int .i64 (clNew n g m).c.t, .int .i64 (clNew n g m).c.u, .int .i64 (clNew n g m).c.l, .int .i64 (clNew n g m).c.m, .int .i64 (clNew n g m).du, .int .i64 (clNew n g m).wa, .int .i64 (clNew n g m).tr]) ∧ Below w.heap.size w w' := by
  have HB : Hid (Below w.heap.size w (w.alloc (.cells #[.int .i64 n, .int .i64 g, .int .i64 m, .int .i64 0, .int .i64 0, .bool false, .int .i64 0, .int .i64 0, .int .i64 0, .int .i64 0, .int .i64 0, .int .i64 0, .int .i64 0, .int .i64 0, .int .i64 0, .int .i64 0, .int .i64 0, .int .i64 0, .int .i64 0, .int .i64 0, .int .i64 0, .int .i64 0, .int .i64 0] 27))) := (Below.refl _ _).alloc (Nat.le_refl _) _
  have HX : Hid _ := heap_alloc_new w (.cells #[.int .i64 n, .int .i64 g, .int .i64 m, .int .i64 0, .int .i64 0, .bool false, .int .i64 0, .int .i64 0, .int .i64 0, .int .i64 0, .int .i64 0, .int .i64 0, .int .i64 0, .int .i64 0, .int .i64 0, .int .i64 0, .int .i64 0, .int .i64 0, .int .i64 0, .int .i64 0, .int .i64 0, .int .i64 0, .int .i64 0] 27)
  go_enter Try.func5, Try.ntmps5
  go_upto_region 1 with fail
  refine wp_region_lit ?_
  refine wpList_moveTo rfl _ rfl _ (.int .i64 n) rfl rfl ?_
  refine wpList_moveTo rfl _ rfl _ (.int .i64 g) rfl rfl ?_
  refine wpList_moveTo rfl _ rfl _ (.int .i64 m) rfl rfl ?_
  refine wpList_buildTo rfl _ _ rfl _ rfl #[.int .i64 n, .int .i64 g, .int .i64 m, .int .i64 0, .int .i64 0, .bool false, .int .i64 0, .int .i64 0, .int .i64 0, .int .i64 0, .int .i64 0, .int .i64 0, .int .i64 0, .int .i64 0, .int .i64 0, .int .i64 0, .int .i64 0, .int .i64 0, .int .i64 0, .int .i64 0, .int .i64 0, .int .i64 0, .int .i64 0] (by kernel_rfl) ?_
  refine wpList_store_rowTo rfl _ _ _ rfl rfl w.heap.size #[.int .i64 n, .int .i64 g, .int .i64 m, .int .i64 0, .int .i64 0, .bool false, .int .i64 0, .int .i64 0, .int .i64 0, .int .i64 0, .int .i64 0, .int .i64 0, .int .i64 0, .int .i64 0, .int .i64 0, .int .i64 0, .int .i64 0, .int .i64 0, .int .i64 0, .int .i64 0, .int .i64 0, .int .i64 0, .int .i64 0] rfl rfl 27 #[.int .i64 0, .int .i64 0, .int .i64 0, .int .i64 0, .int .i64 0, .bool false, .int .i64 0, .int .i64 0, .int .i64 0, .int .i64 0, .int .i64 0, .int .i64 0, .int .i64 0, .int .i64 0, .int .i64 0, .int .i64 0, .int .i64 0, .int .i64 0, .int .i64 0, .int .i64 0, .int .i64 0, .int .i64 0, .int .i64 0] (heap_alloc_new w _) clSize rfl (by simp [Value.oneCell']) ?_
  rw [World.setRow_alloc_new]
  refine wpList_nil ?_
  simp only [Act.put, List.getElem_toArray, List.getElem_cons_succ, List.getElem_cons_zero, List.setIfInBounds_toArray, List.set_cons_succ, List.set_cons_zero]
  go_wp2
  refine bodyPost_ret (results_cell_row rfl _ _ w.heap.size 27 #[.int .i64 n, .int .i64 g, .int .i64 m, .int .i64 0, .int .i64 0, .bool false, .int .i64 0, .int .i64 0, .int .i64 0, .int .i64 0, .int .i64 0, .int .i64 0, .int .i64 0, .int .i64 0, .int .i64 0, .int .i64 0, .int .i64 0, .int .i64 0, .int .i64 0, .int .i64 0, .int .i64 0, .int .i64 0, .int .i64 0] (0, 0) _ rfl ?_ Try.underlying27 rfl clSize) rfl ?_
  · exact HX.out
  · exact ⟨rfl, HB.out⟩
end Go.Proofs.Ytgidhfehknlcoaa
