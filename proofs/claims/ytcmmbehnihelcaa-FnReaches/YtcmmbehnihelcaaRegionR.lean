/- A region of the text's order that only reads: each operation's value told ahead; what is passed over by its guard holds nothing. -/
import Derived.Test.YtcmmbehnihelcaaRegionK
import Derived.Test.YtcmmbehnihelcaaTermPut2
namespace Go.Proofs.Ytcmmbehnihelcaa
open Go.RowKit
set_option linter.unusedVariables false

/-- The operations yield these values, one behind the other, and leave the world as it is. -/
def runsR (P : Program) (ops : Array Oper) (w : World) : List Oper → List Value → Act → Prop
  | [], [], _ => True
  | o :: os, v :: vs, a => ((Region.wanted o (yielded ops a.tmps) = true ∧ (execOp a.eval o).run P w = .ok (.value v) w) ∨ (Region.wanted o (yielded ops a.tmps) = false ∧ v = undef)) ∧ runsR P ops w os vs (a.put o.dst v)
  | _, _, _ => False
theorem wpList_runs {P : Program} {ops : Array Oper} {Q : Exit → Act → World → Prop} {w : World} : ∀ (l : List Oper) (vs : List Value) (a : Act), runsR P ops w l vs a → Q .normal (putAll l vs a) w → wpList P ops Q l a w
  | [], [], a, _, hq => hq
  | [], _ :: _, a, h, _ => h.elim
  | _ :: _, [], a, h, _ => h.elim
  | o :: os, v :: vs, a, ⟨h, hr⟩, hq => by
    have ih := wpList_runs (P := P) (ops := ops) (Q := Q) (w := w) os vs (a.put o.dst v) hr hq
    rcases h with ⟨hw, he⟩ | ⟨hw, rfl⟩
    · unfold wpList
      rw [hw]
      simp only [if_true]
      refine .inl ?_
      unfold Oper.wp
      rw [he]
      exact ih
    · unfold wpList
      rw [hw]
      simpa using ih
theorem wp_region_runs {P : Program} {id : Nat} {Q : Exit → Act → World → Prop} {w : World} {a : Act} {l : List Oper} (vs : List Value) (h : runsR P l.toArray w l vs a) (hq : Q .normal (putAll l vs a) w) : (Code.region id l.toArray false).wp P Q a w := by
  refine wp_region ?_
  have e := wpOps_eq_wpList (P := P) (ops := l.toArray) (Q := Q) l 0 (fun j => by simp)
  rw [← List.range_eq_range'] at e
  simp only [List.size_toArray]
  rw [e]
  exact wpList_runs l vs a h hq
/-- One operation that is wanted; one that is passed over. -/
theorem runs_do {P : Program} {ops : Array Oper} {w : World} {o : Oper} {os : List Oper} {v : Value} {vs : List Value} {a : Act} (hw : Region.wanted o (yielded ops a.tmps) = true) (he : (execOp a.eval o).run P w = .ok (.value v) w) (h : runsR P ops w os vs (a.put o.dst v)) : runsR P ops w (o :: os) (v :: vs) a := ⟨.inl ⟨hw, he⟩, h⟩
theorem runs_skip {P : Program} {ops : Array Oper} {w : World} {o : Oper} {os : List Oper} {vs : List Value} {a : Act} (hw : Region.wanted o (yielded ops a.tmps) = false) (h : runsR P ops w os vs (a.put o.dst undef)) : runsR P ops w (o :: os) (undef :: vs) a := ⟨.inr ⟨hw, rfl⟩, h⟩
theorem runs_nil {P : Program} {ops : Array Oper} {w : World} {a : Act} : runsR P ops w [] [] a := trivial
variable {P : Program} {w : World} {a : Act} {d : Option Nat} {ty : TypeId} {pos : String} {af : Array Edge} {gd : Option (Nat × Bool)}
theorem run_move {t : Nat} {v : Value} (h : a.tmps.getD t undef = v) : (execOp a.eval ⟨d, .move (.tmp t), ty, pos, af, gd⟩).run P w = .ok (.value v) w := by
  have h' : a.tmps[t]?.getD undef = v := by simpa using h
  simp [go_sem, Act.eval, h']
theorem run_pick {t : Nat} {x y : Operand} {b : Bool} {v : Value} (h : a.tmps.getD t undef = .bool b) (hv : a.eval (if b = true then x else y) = v) : (execOp a.eval ⟨d, .pick (.tmp t) x y, ty, pos, af, gd⟩).run P w = .ok (.value v) w := by
  have h' : a.tmps[t]?.getD undef = .bool b := by simpa using h
  cases b
  · simp only [Bool.false_eq_true, if_false] at hv
    simp [go_sem, Act.eval, h'] at hv ⊢
    try exact hv
  · simp only [if_true] at hv
    simp [go_sem, Act.eval, h'] at hv ⊢
    try exact hv
theorem run_not {t : Nat} {T : TypeId} {b : Bool} (h : a.tmps.getD t undef = .bool b) : (execOp a.eval ⟨d, .unOp .not T (.tmp t), ty, pos, af, gd⟩).run P w = .ok (.value (.bool !b)) w := by
  have h' : a.tmps[t]?.getD undef = .bool b := by simpa using h
  simp [go_sem, Act.eval, h']
theorem run_loadBool {t g o : Nat} {v : Bool} (h : a.tmps.getD t undef = .pointer (some ⟨g, o, none⟩)) (hc : w.cell? ⟨g, o, none⟩ = some (.bool v)) : (execOp a.eval ⟨d, .load 4 (.tmp t), ty, pos, af, gd⟩).run Try.prog w = .ok (.value (.bool v)) w := by
  have h' : a.tmps[t]?.getD undef = .pointer (some ⟨g, o, none⟩) := by simpa using h
  simp [go_sem, Act.eval, h', hc]
theorem run_loadInt {t g o : Nat} {v : Int} (h : a.tmps.getD t undef = .pointer (some ⟨g, o, none⟩)) (hc : w.cell? ⟨g, o, none⟩ = some (.int .i64 v)) : (execOp a.eval ⟨d, .load 3 (.tmp t), ty, pos, af, gd⟩).run Try.prog w = .ok (.value (.int .i64 v)) w := by
  have h' : a.tmps[t]?.getD undef = .pointer (some ⟨g, o, none⟩) := by simpa using h
  simp [go_sem, Act.eval, h', hc]
theorem run_idxBool {s t g o n c k : Nat} (h : a.tmps.getD s undef = .slice (some ⟨g, o, none⟩) n c) (h2 : a.tmps.getD t undef = .int .i64 (k : Int)) (hk : k < n) : (execOp a.eval ⟨d, .indexAddr 30 (.tmp s) (.tmp t), ty, pos, af, gd⟩).run Try.prog w = .ok (.value (.pointer (some ⟨g, o + k, none⟩))) w := by
  have h' : a.tmps[s]?.getD undef = .slice (some ⟨g, o, none⟩) n c := by simpa using h
  have h2' : a.tmps[t]?.getD undef = .int .i64 (k : Int) := by simpa using h2
  have h3 : (k : Int) < (n : Int) := by omega
  simp [go_sem, Act.eval, h', h2', h3]
theorem run_fieldNode {t g j : Nat} (hj : j < 4) (h : a.tmps.getD t undef = .pointer (some ⟨g, 0, none⟩)) : (execOp a.eval ⟨d, .fieldAddr 34 (.tmp t) j, ty, pos, af, gd⟩).run Try.prog w = .ok (.value (.pointer (some ⟨g, j, none⟩))) w := by
  have h' : a.tmps[t]?.getD undef = .pointer (some ⟨g, 0, none⟩) := by simpa using h
  rcases (show j = 0 ∨ j = 1 ∨ j = 2 ∨ j = 3 by omega) with rfl | rfl | rfl | rfl <;> simp [go_sem, Act.eval, h']
theorem run_eqlInt {t : Nat} {x c : Int} {b : Bool} (h : a.tmps.getD t undef = .int .i64 x) (hb : (x == c) = b) : (execOp a.eval ⟨d, .binOp .eql 3 (.tmp t) (.const (.int .i64 c)) 3, ty, pos, af, gd⟩).run Try.prog w = .ok (.value (.bool b)) w := by
  have h' : a.tmps[t]?.getD undef = .int .i64 x := by simpa using h
  subst hb
  simp [go_sem, Act.eval, h']
end Go.Proofs.Ytcmmbehnihelcaa
