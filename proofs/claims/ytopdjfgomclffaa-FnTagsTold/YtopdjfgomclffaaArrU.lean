/- Rows of unsigned numbers by value, and a struct of one such row: '==' and '!='. -/
import Derived.Test.YtopdjfgomclffaaProg
import Derived.Test.YtopdjfgomclffaaRowL
import Derived.ChangeKeysEq
import Derived.Laws.StructEq
import Derived.WalkKit
import Derived.OrdersHeld
namespace Go.Proofs.Ytopdjfgomclffaa
open Go.RowKit
set_option linter.unusedSimpArgs false
theorem part_row (l : List Int) {k : Nat} (hk : k < l.length) (w : World) : (part 49 (rowL .u64 l) k).run Try.prog w = .ok (.int .u64 (l.getD k 0)) w := by
  simp only [part, Sem.run_bind, isAgg, run_underlying Try.underlying49, Sem.run_pure, Result.andThen_ok, rowL_get .u64 hk]
  rfl
theorem eqItems_row (d : Nat) (xs ys : List Int) (w : World) : ∀ is : List Nat, (∀ i ∈ is, i < xs.length ∧ i < ys.length) →
    (Op.eqItems (d + 1) 49 1 (rowL .u64 xs) (rowL .u64 ys) is).run Try.prog w = .ok (is.all fun i => xs.getD i 0 == ys.getD i 0) w
  | [], _ => rfl
  | i :: is, h => by
    have h1 := h i (by simp)
    have ih := eqItems_row d xs ys w is (fun j hj => h j (by simp [hj]))
    simp only [Op.eqItems, Sem.run_bind, Nat.mul_one, part_row xs h1.1, part_row ys h1.2, Result.andThen_ok, run_equalIn_int w d 49 .u64 .u64 _ _ Try.underlying49, List.all_cons]
    cases hb : (xs.getD i 0 == ys.getD i 0)
    · simp
    · simp [ih]
theorem all_eq {xs ys : List Int} (h : xs.length = ys.length) : ((List.range xs.length).all fun i => xs.getD i 0 == ys.getD i 0) = decide (xs = ys) := by
  rw [Bool.eq_iff_iff, List.all_eq_true, decide_eq_true_iff]
  constructor
  · intro e
    apply List.ext_getElem h
    intro i h1 h2
    have := e i (List.mem_range.2 h1)
    rw [beq_iff_eq, List.getD_eq_getElem?_getD, List.getD_eq_getElem?_getD, List.getElem?_eq_getElem h1, List.getElem?_eq_getElem h2] at this
    exact this
  · rintro rfl i _
    exact beq_self_eq_true _
theorem part_arr (l : List Int) (hl : l.length = 5) (w : World) : (part 50 (rowL .u64 l) 0).run Try.prog w = .ok (.agg (rowL .u64 l)) w := by
  have he : (rowL .u64 l).extract 0 5 = rowL .u64 l := by
    have h5 : (rowL .u64 l).size = 5 := by rw [rowL_size, hl]
    rw [← h5]; simp
  simp only [part, Sem.run_bind, isAgg, run_underlying Try.underlying50, Sem.run_pure, Result.andThen_ok, if_true, Try.sizeOf50, Nat.zero_add, he]
theorem equalIn_pn (xs ys : List Int) (hx : xs.length = 5) (hy : ys.length = 5) (w : World) :
    (Op.equalIn 10000 52 (.agg (rowL .u64 xs)) (.agg (rowL .u64 ys))).run Try.prog w = .ok (decide (xs = ys)) w := by
  obtain ⟨i, hi⟩ := info_of_underlying (P := Try.prog) (t := 49) Try.underlying49
  have hc : Try.prog.cellsOf 49 = 1 := by kernel_rfl
  have hu : Try.prog.underlying 52 = some (.struct (Try.prog.fieldsOf 52)) := by kernel_rfl
  have hn : ∃ f, Try.prog.fieldsOf 52 = #[f] ∧ f.name = "limbs" ∧ f.type = 50 ∧ f.offset = 0 := by
    unfold Program.fieldsOf
    rw [Try.underlying52]
    exact ⟨_, rfl, rfl, rfl, rfl⟩
  obtain ⟨f, hf, h1, h2, h3⟩ := hn
  rw [run_equalIn_struct w 9999 52 _ _ hu (by kernel_rfl), hf]
  simp only [Op.eqFields, h1, h2, h3, Sem.run_bind, part_arr xs hx, part_arr ys hy, Result.andThen_ok]
  rw [if_pos (by decide)]
  simp only [Op.eqFields, Sem.run_bind, part_arr xs hx, part_arr ys hy, Result.andThen_ok]
  rw [run_equalIn_array w 9998 _ _ Try.underlying50 hi, hc, eqItems_row 9997 xs ys w (List.range 5) (fun j hj => by have := List.mem_range.1 hj; omega), show (List.range 5) = List.range xs.length by rw [hx], all_eq (by omega)]
  simp only [Result.andThen_ok]
  by_cases e : xs = ys
  · simp [e]
  · simp [e]
theorem eql_pn (xs ys : List Int) (hx : xs.length = 5) (hy : ys.length = 5) (w : World) :
    (binOp .eql 52 (.agg (rowL .u64 xs)) (.agg (rowL .u64 ys))).run Try.prog w = .ok (.bool (decide (xs = ys))) w := by
  rw [run_eql_struct, equalIn_pn xs ys hx hy]; rfl
theorem neq_pn (xs ys : List Int) (hx : xs.length = 5) (hy : ys.length = 5) (w : World) :
    (binOp .neq 52 (.agg (rowL .u64 xs)) (.agg (rowL .u64 ys))).run Try.prog w = .ok (.bool (!decide (xs = ys))) w := by
  rw [run_neq_struct, equalIn_pn xs ys hx hy]; rfl
theorem exec_neq {o : Oper} {a : Act} (x y : Operand) (t2 : TypeId) (ho : o.op = .binOp .neq 52 x y t2) (xs ys : List Int) (hx : xs.length = 5) (hy : ys.length = 5) (ex : a.eval x = .agg (rowL .u64 xs)) (ey : a.eval y = .agg (rowL .u64 ys)) (w : World) :
    (execOp a.eval o).run Try.prog w = .ok (.value (.bool (!decide (xs = ys)))) w := by
  have hgd : Try.prog.eqGuardType Try.prog.depth 52 = false := by kernel_rfl
  unfold execOp
  simp only [ho, ex, ey, Sem.run_bind, Sem.run_pure, run_eqGuard_agg w .neq 52 x y _ _ hgd, neq_pn xs ys hx hy w, Result.andThen_ok]
/-- In a region that draws: '==' of two such structs yields, whatever the world. -/
theorem yields_pn {ops : Array Oper} {S : World → Prop} {op : Oper} {a : Act} (hw : Region.wanted op (yielded ops a.tmps) = true) (x y : Operand) (t2 : TypeId) (ho : op.op = .binOp .eql 52 x y t2)
    (xs ys : List Int) (hx : xs.length = 5) (hy : ys.length = 5) (ex : a.eval x = .agg (rowL .u64 xs)) (ey : a.eval y = .agg (rowL .u64 ys)) : YieldsIf Try.prog ops S op (.bool (decide (xs = ys))) a :=
  .inl ⟨hw, fun w _ => by
    have hgd : Try.prog.eqGuardType Try.prog.depth 52 = false := by kernel_rfl
    unfold execOp
    simp only [ho, ex, ey, Sem.run_bind, Sem.run_pure, run_eqGuard_agg w .eql 52 x y _ _ hgd, eql_pn xs ys hx hy w, Result.andThen_ok]⟩
end Go.Proofs.Ytopdjfgomclffaa
