/- Rows of numbers of one kind in memory, told by a list; over any dump. -/
import Derived.Test.YtkcbolcodgmpaaaArrW
import Derived.Test.YtkcbolcodgmpaaaProg
import Derived.ChangeKeysEq
import Derived.Laws.StructEq
import Derived.WalkKit
import Derived.OrdersHeld
namespace Go.Proofs.Ytkcbolcodgmpaaa
open Go.RowKit
set_option linter.unusedVariables false
/-- The cells of a list of numbers. -/
def rowL (k : IntKind) (l : List Int) : Array Value := (l.map (Value.int k)).toArray
theorem rowL_size (k : IntKind) (l : List Int) : (rowL k l).size = l.length := by simp [rowL]
theorem rowL_get (k : IntKind) {l : List Int} {i : Nat} (h : i < l.length) : (rowL k l)[i]? = some (.int k (l.getD i 0)) := by
  simp [rowL, List.getD, List.getElem?_eq_getElem h]
theorem rowL_one (k : IntKind) (l : List Int) : (rowL k l).all (·.oneCell') = true := by
  rw [Array.all_eq_true]
  intro i hi
  have h := rowL_get k (show i < l.length by rw [rowL_size] at hi; exact hi)
  rw [Array.getElem?_eq_getElem hi] at h
  rw [Option.some.inj h]; rfl
theorem rowL_set (k : IntKind) (l : List Int) (i : Nat) (x : Int) : (rowL k l).setIfInBounds i (.int k x) = rowL k (l.set i x) := by
  unfold rowL
  rw [List.setIfInBounds_toArray, List.map_set]
/-- A block that is such a row. -/
def RowZ (w : World) (g : Nat) (t : TypeId) (k : IntKind) (l : List Int) : Prop := w.heap[g]? = some (.cells (rowL k l) t (0, 0))
theorem RowZ.cell {w : World} {g i : Nat} {t : TypeId} {k : IntKind} {l : List Int} (h : RowZ w g t k l) (hi : i < l.length) : w.cell? ⟨g, i, none⟩ = some (.int k (l.getD i 0)) :=
  (cell_of_row _ _ _ _ _ _ h).trans (rowL_get k hi)
theorem RowZ.froz {w : World} {g : Nat} {t : TypeId} {k : IntKind} {l : List Int} (h : RowZ w g t k l) (i : Nat) : w.frozen? ⟨g, i, none⟩ = false := frozen_of_row _ _ _ _ _ h
theorem RowZ.lt {w : World} {g : Nat} {t : TypeId} {k : IntKind} {l : List Int} (h : RowZ w g t k l) : g < w.heap.size := (Array.getElem?_eq_some_iff.1 h).1
theorem RowZ.set {w : World} {g : Nat} {t : TypeId} {k : IntKind} {l : List Int} (h : RowZ w g t k l) (i : Nat) (x : Int) : RowZ (w.setCell ⟨g, i, none⟩ (.int k x)) g t k (l.set i x) := by
  show _ = _
  rw [heap_setCell_same w g i _ _ _ h, rowL_set k l i x]
theorem RowZ.drew {w : World} {g : Nat} {t : TypeId} {k : IntKind} {l : List Int} (h : RowZ w g t k l) : RowZ w.drew g t k l := h
theorem RowZ.below {B : Nat} {w w' : World} {g : Nat} {t : TypeId} {k : IntKind} {l : List Int} (h : RowZ w g t k l) (hb : Below B w w') (hg : g < B) : RowZ w' g t k l := (hb.block g hg).trans h
theorem RowZ.next {w w' : World} {g : Nat} {t : TypeId} {k : IntKind} {l : List Int} (h : RowZ w g t k l) (hb : Below w.heap.size w w') : RowZ w' g t k l := h.below hb h.lt
theorem RowZ.other {w : World} {g g' i : Nat} {t : TypeId} {k : IntKind} {l : List Int} (h : RowZ w g t k l) (u : Value) (hne : g ≠ g') : RowZ (w.setCell ⟨g', i, none⟩ u) g t k l := (Below.heap_setCell _ _ _ _ hne).trans h
theorem RowZ.grown {w w' : World} {g h : Nat} {t : TypeId} {k : IntKind} {l : List Int} (hr : RowZ w g t k l) (hb : w.grownBy w' (some h)) (hne : g ≠ h) : RowZ w' g t k l :=
  (hb.block g hr.lt (by simpa using hne)).trans hr
end Go.Proofs.Ytkcbolcodgmpaaa

namespace Go.Proofs.Ytkcbolcodgmpaaa
open Go.RowKit
set_option linter.unusedSimpArgs false
theorem part_row (l : List Int) {k : Nat} (hk : k < l.length) (w : World) : (part 61 (rowL .u64 l) k).run Try.prog w = .ok (.int .u64 (l.getD k 0)) w := by
  simp only [part, Sem.run_bind, isAgg, run_underlying Try.underlying61, Sem.run_pure, Result.andThen_ok, rowL_get .u64 hk]
  rfl
theorem eqItems_row (d : Nat) (xs ys : List Int) (w : World) : ∀ is : List Nat, (∀ i ∈ is, i < xs.length ∧ i < ys.length) →
    (Op.eqItems (d + 1) 61 1 (rowL .u64 xs) (rowL .u64 ys) is).run Try.prog w = .ok (is.all fun i => xs.getD i 0 == ys.getD i 0) w
  | [], _ => rfl
  | i :: is, h => by
    have h1 := h i (by simp)
    have ih := eqItems_row d xs ys w is (fun j hj => h j (by simp [hj]))
    simp only [Op.eqItems, Sem.run_bind, Nat.mul_one, part_row xs h1.1, part_row ys h1.2, Result.andThen_ok, run_equalIn_int w d 61 .u64 .u64 _ _ Try.underlying61, List.all_cons]
    cases hb : (xs.getD i 0 == ys.getD i 0)
    · simp
    · simp [ih]
theorem all_eq {xs ys : List Int} (h : xs.length = ys.length) : ((List.range xs.length).all fun i => xs.getD i 0 == ys.getD i 0) = decide (xs = ys) := by
  rw [Bool.eq_iff_iff, List.all_eq_true, decide_eq_true_iff]
  constructor
  · intro e
    apply List.ext_getElem h
    intro i h1 h2
    have := e i (List.mem_range.2 h1)
    rw [beq_iff_eq, List.getD_eq_getElem?_getD, List.getD_eq_getElem?_getD, List.getElem?_eq_getElem h1, List.getElem?_eq_getElem h2] at this
    exact this
  · rintro rfl i _
    exact beq_self_eq_true _
theorem part_arr (l : List Int) (hl : l.length = 5) (w : World) : (part 62 (rowL .u64 l) 0).run Try.prog w = .ok (.agg (rowL .u64 l)) w := by
  have he : (rowL .u64 l).extract 0 5 = rowL .u64 l := by
    have h5 : (rowL .u64 l).size = 5 := by rw [rowL_size, hl]
    rw [← h5]; simp
  simp only [part, Sem.run_bind, isAgg, run_underlying Try.underlying62, Sem.run_pure, Result.andThen_ok, if_true, Try.sizeOf62, Nat.zero_add, he]
theorem equalIn_pn (xs ys : List Int) (hx : xs.length = 5) (hy : ys.length = 5) (w : World) :
    (Op.equalIn 10000 64 (.agg (rowL .u64 xs)) (.agg (rowL .u64 ys))).run Try.prog w = .ok (decide (xs = ys)) w := by
  obtain ⟨i, hi⟩ := info_of_underlying (P := Try.prog) (t := 61) Try.underlying61
  have hc : Try.prog.cellsOf 61 = 1 := by kernel_rfl
  have hu : Try.prog.underlying 64 = some (.struct (Try.prog.fieldsOf 64)) := by kernel_rfl
  have hn : ∃ f, Try.prog.fieldsOf 64 = #[f] ∧ f.name = "limbs" ∧ f.type = 62 ∧ f.offset = 0 := by
    unfold Program.fieldsOf
    rw [Try.underlying64]
    exact ⟨_, rfl, rfl, rfl, rfl⟩
  obtain ⟨f, hf, h1, h2, h3⟩ := hn
  rw [run_equalIn_struct w 9999 64 _ _ hu (by kernel_rfl), hf]
  simp only [Op.eqFields, h1, h2, h3, Sem.run_bind, part_arr xs hx, part_arr ys hy, Result.andThen_ok]
  rw [if_pos (by decide)]
  simp only [Op.eqFields, Sem.run_bind, part_arr xs hx, part_arr ys hy, Result.andThen_ok]
  rw [run_equalIn_array w 9998 _ _ Try.underlying62 hi, hc, eqItems_row 9997 xs ys w (List.range 5) (fun j hj => by have := List.mem_range.1 hj; omega), show (List.range 5) = List.range xs.length by rw [hx], all_eq (by omega)]
  simp only [Result.andThen_ok]
  by_cases e : xs = ys
  · simp [e]
  · simp [e]
theorem eql_pn (xs ys : List Int) (hx : xs.length = 5) (hy : ys.length = 5) (w : World) :
    (binOp .eql 64 (.agg (rowL .u64 xs)) (.agg (rowL .u64 ys))).run Try.prog w = .ok (.bool (decide (xs = ys))) w := by
  rw [run_eql_struct, equalIn_pn xs ys hx hy]; rfl
theorem neq_pn (xs ys : List Int) (hx : xs.length = 5) (hy : ys.length = 5) (w : World) :
    (binOp .neq 64 (.agg (rowL .u64 xs)) (.agg (rowL .u64 ys))).run Try.prog w = .ok (.bool (!decide (xs = ys))) w := by
  rw [run_neq_struct, equalIn_pn xs ys hx hy]; rfl
theorem exec_neq {o : Oper} {a : Act} (x y : Operand) (t2 : TypeId) (ho : o.op = .binOp .neq 64 x y t2) (xs ys : List Int) (hx : xs.length = 5) (hy : ys.length = 5) (ex : a.eval x = .agg (rowL .u64 xs)) (ey : a.eval y = .agg (rowL .u64 ys)) (w : World) :
    (execOp a.eval o).run Try.prog w = .ok (.value (.bool (!decide (xs = ys)))) w := by
  have hgd : Try.prog.eqGuardType Try.prog.depth 64 = false := by kernel_rfl
  unfold execOp
  simp only [ho, ex, ey, Sem.run_bind, Sem.run_pure, run_eqGuard_agg w .neq 64 x y _ _ hgd, neq_pn xs ys hx hy w, Result.andThen_ok]
/-- In a region that draws: '==' of two such structs yields, whatever the world. -/
theorem yields_pn {ops : Array Oper} {S : World → Prop} {op : Oper} {a : Act} (hw : Region.wanted op (yielded ops a.tmps) = true) (x y : Operand) (t2 : TypeId) (ho : op.op = .binOp .eql 64 x y t2)
    (xs ys : List Int) (hx : xs.length = 5) (hy : ys.length = 5) (ex : a.eval x = .agg (rowL .u64 xs)) (ey : a.eval y = .agg (rowL .u64 ys)) : YieldsIf Try.prog ops S op (.bool (decide (xs = ys))) a :=
  .inl ⟨hw, fun w _ => by
    have hgd : Try.prog.eqGuardType Try.prog.depth 64 = false := by kernel_rfl
    unfold execOp
    simp only [ho, ex, ey, Sem.run_bind, Sem.run_pure, run_eqGuard_agg w .eql 64 x y _ _ hgd, eql_pn xs ys hx hy w, Result.andThen_ok]⟩
end Go.Proofs.Ytkcbolcodgmpaaa
