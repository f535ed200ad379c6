/- Arrays of whole numbers by value: an element, and '=='. -/
import Derived.Test.YtjhglbdknjoeeaaProg
import Derived.Test.YtjhglbdknjoeeaaRowL
import Derived.ChangeKeysEq
import Derived.Laws.StructEq
import Derived.WalkKit
import Derived.OrdersHeld
namespace Go.Proofs.Ytjhglbdknjoeeaa
open Go.RowKit
set_option linter.unusedSimpArgs false
theorem part_row (l : List Int) {k : Nat} (hk : k < l.length) (w : World) : (part 3 (rowL .i64 l) k).run Try.prog w = .ok (.int .i64 (l.getD k 0)) w := by
  simp only [part, Sem.run_bind, isAgg, run_underlying Try.underlying3, Sem.run_pure, Result.andThen_ok, rowL_get .i64 hk]
  rfl
theorem index_row (T : TypeId) (n : Nat) (hT : Try.prog.underlying T = some (.array n 3)) (l : List Int) (hl : l.length = n) {k : Nat} (hk : k < l.length) (w : World) : (Instr.index T (.agg (rowL .i64 l)) (.int .i64 (k : Int))).run Try.prog w = .ok (.int .i64 (l.getD k 0)) w := by
  have h1 : (0 : Int) ≤ (k : Int) ∧ (k : Int) < (n : Int) := by omega
  simp only [Instr.index, asIntOf, Sem.run_bind, Sem.run_pure, Result.andThen_ok, run_underlying hT, if_pos h1, Try.sizeOf3, Nat.mul_one, Int.toNat_natCast]
  exact part_row l hk w
theorem eqItems_row (d : Nat) (xs ys : List Int) (w : World) : ∀ is : List Nat, (∀ i ∈ is, i < xs.length ∧ i < ys.length) →
    (Op.eqItems (d + 1) 3 1 (rowL .i64 xs) (rowL .i64 ys) is).run Try.prog w = .ok (is.all fun i => xs.getD i 0 == ys.getD i 0) w
  | [], _ => rfl
  | i :: is, h => by
    have h1 := h i (by simp)
    have ih := eqItems_row d xs ys w is (fun j hj => h j (by simp [hj]))
    simp only [Op.eqItems, Sem.run_bind, Nat.mul_one, part_row xs h1.1, part_row ys h1.2, Result.andThen_ok, run_equalIn_int w d 3 .i64 .i64 _ _ Try.underlying3, List.all_cons]
    cases hb : (xs.getD i 0 == ys.getD i 0)
    · simp
    · simp [ih]
theorem all_eq {xs ys : List Int} (h : xs.length = ys.length) : ((List.range xs.length).all fun i => xs.getD i 0 == ys.getD i 0) = decide (xs = ys) := by
  rw [Bool.eq_iff_iff, List.all_eq_true, decide_eq_true_iff]
  constructor
  · intro e
    apply List.ext_getElem h
    intro i h1 h2
    have := e i (List.mem_range.2 h1)
    rw [beq_iff_eq, List.getD_eq_getElem?_getD, List.getD_eq_getElem?_getD, List.getElem?_eq_getElem h1, List.getElem?_eq_getElem h2] at this
    exact this
  · rintro rfl i _
    exact beq_self_eq_true _
theorem eql_row (T : TypeId) (n : Nat) (hT : Try.prog.underlying T = some (.array n 3)) (xs ys : List Int) (hx : xs.length = n) (hy : ys.length = n) (w : World) :
    (binOp .eql T (.agg (rowL .i64 xs)) (.agg (rowL .i64 ys))).run Try.prog w = .ok (.bool (decide (xs = ys))) w := by
  obtain ⟨i, hi⟩ := info_of_underlying (P := Try.prog) (t := 3) Try.underlying3
  have hc : Try.prog.cellsOf 3 = 1 := by kernel_rfl
  rw [run_eql_struct, run_equalIn_array w 9999 _ _ hT hi, hc, eqItems_row 9998 xs ys w (List.range n) (fun j hj => by have := List.mem_range.1 hj; omega), ← hx, all_eq (by omega)]
  rfl
/-- In a region that draws: '==' of two arrays yields, whatever the world. -/
theorem yields_eql {ops : Array Oper} {S : World → Prop} {op : Oper} {a : Act} (T : TypeId) (n : Nat) (hT : Try.prog.underlying T = some (.array n 3)) (hm : Try.prog.eqGuardType Try.prog.depth T = false) (hw : Region.wanted op (yielded ops a.tmps) = true) (x y : Operand) (t2 : TypeId) (ho : op.op = .binOp .eql T x y t2)
    (xs ys : List Int) (hx : xs.length = n) (hy : ys.length = n) (ex : a.eval x = .agg (rowL .i64 xs)) (ey : a.eval y = .agg (rowL .i64 ys)) : YieldsIf Try.prog ops S op (.bool (decide (xs = ys))) a :=
  .inl ⟨hw, fun w _ => by
    unfold execOp
    simp only [ho, ex, ey, Sem.run_bind, Sem.run_pure, run_eqGuard_agg w .eql T x y _ _ hm, eql_row T n hT xs ys hx hy w, Result.andThen_ok]⟩
end Go.Proofs.Ytjhglbdknjoeeaa
