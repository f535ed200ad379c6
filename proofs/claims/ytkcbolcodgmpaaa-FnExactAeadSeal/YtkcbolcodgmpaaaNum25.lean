/- The program's numbers of a tag (chapter 25): numberOf. -/
import Derived.Test.YtkcbolcodgmpaaaRed25
import Derived.Test.YtkcbolcodgmpaaaLawI
import Derived.OrdersHeld
import Derived.Deep.RegionHeld
import Derived.Deep.RegionHeld3
import Derived.Deep.MidRow
import Derived.Laws.Cover3
import Derived.WalkKit
import Derived.WalkLawsBesides
import Derived.WalkSpells
import Derived.BigRegion
import Derived.Laws.ShiftsVar
import Derived.Below
import Derived.OwnWalk
import Derived.PlainAid
import Derived.Great.Walk
import Derived.Test.YtkcbolcodgmpaaaCloneI
import Derived.Test.YtkcbolcodgmpaaaArrW
import Derived.Laws.OwnMore
import Derived.Laws.MakeOwn
import Derived.Deep.RegionWith
namespace Go.Proofs.Ytkcbolcodgmpaaa
open Go.RowKit Go.PlainAid
set_option maxRecDepth 20000
set_option linter.unusedVariables false
set_option linter.unusedSimpArgs false
/-- Is a list a number of limbs, each of 26 bits, below the modulus? -/
def okP (l : List Int) : Bool := l.length == 5 && (l.all fun x => decide (0 ≤ x ∧ x ≤ 67108863)) && !abP l
theorem lok_all {l : List Int} (hl : l.length = 5) (h : ∀ x ∈ l, 0 ≤ x ∧ x ≤ 67108863) : lok pb l := by
  obtain ⟨a, b, c, d, e, rfl⟩ := five hl
  have ha := h a (by simp); have hb := h b (by simp); have hc := h c (by simp); have hd := h d (by simp); have he := h e (by simp)
  exact ⟨ha.1, by omega, hb.1, by omega, hc.1, by omega, hd.1, by omega, he.1, by omega, trivial⟩
theorem okP_len {l : List Int} (h : okP l = true) : l.length = 5 := by
  unfold okP at h
  simp only [Bool.and_eq_true, beq_iff_eq] at h
  exact h.1.1
theorem okP_lok {l : List Int} (h : okP l = true) : lok pb l := by
  have hl := okP_len h
  unfold okP at h
  simp only [Bool.and_eq_true, List.all_eq_true, decide_eq_true_eq] at h
  exact lok_all hl h.1.2
theorem okP_is {l : List Int} (h : okP l = true) : canonP (lval pb l) = l := by
  have hk := okP_lok h
  unfold okP at h
  simp only [Bool.and_eq_true, Bool.not_eq_true'] at h
  exact abP_no hk h.2
theorem okP_red {l : List Int} (hl : l.length = 5) (h : ∀ x ∈ l, 0 ≤ x ∧ x ≤ 67108863) : decide (l = canonP (lval pb l)) = okP l := by
  have hk := lok_all hl h
  have e : okP l = !abP l := by
    unfold okP
    rw [hl, show (l.all fun x => decide (0 ≤ x ∧ x ≤ 67108863)) = true from List.all_eq_true.2 (fun x hx => decide_eq_true (h x hx))]
    simp
  rw [e]
  cases hb : abP l with
  | false => rw [abP_no hk hb]; simp
  | true =>
    have h1 := canonP_val (lval pb l)
    have h2 := Int.emod_lt_of_pos (lval pb l) (show 0 < pp by decide)
    have h3 := abP_is hk
    rw [hb] at h3
    have h4 := of_decide_eq_true h3.symm
    refine decide_eq_false (fun e => ?_)
    rw [← e] at h1
    omega
theorem okP_bad {l : List Int} {k : Nat} (hk : k < l.length) (h : ¬ (0 ≤ l.getD k 0 ∧ l.getD k 0 ≤ 67108863)) : okP l = false := by
  cases e : okP l with
  | false => rfl
  | true =>
    unfold okP at e
    simp only [Bool.and_eq_true, List.all_eq_true, decide_eq_true_eq] at e
    exact absurd (e.1.2 (l.getD k 0) (by rw [List.getD_eq_getElem?_getD, List.getElem?_eq_getElem hk]; exact List.getElem_mem _)) h
/-- The first k places done, the others 0. -/
def fillP (z : List Int) (k : Nat) : List Int := z.take k ++ List.replicate (5 - k) 0
theorem fillP_all {z : List Int} (h : z.length = 5) : fillP z 5 = z := by
  unfold fillP
  rw [List.take_of_length_le (by omega)]; simp
theorem fillP_len {z : List Int} (h : z.length = 5) {k : Nat} (hk : k ≤ 5) : (fillP z k).length = 5 := by
  unfold fillP
  rw [List.length_append, List.length_take, List.length_replicate]; omega
theorem fillP_next {z : List Int} (h : z.length = 5) {k : Nat} (hk : k < 5) : (fillP z k).set k (z.getD k 0) = fillP z (k + 1) := by
  unfold fillP
  have ht : (z.take k).length = k := by rw [List.length_take]; omega
  rw [show 5 - k = (5 - (k + 1)) + 1 by omega, List.replicate_succ, List.set_append_right _ _ (by rw [ht]; omega), ht, Nat.sub_self, take_snocP (by omega)]
  simp
theorem rangePn {w : World} {g : Nat} {l : List Int} (h : RowZ w g 64 .u64 l) : w.rangeAt g 0 (l.map (Value.int .u64)) := by
  intro j v hv
  rcases Nat.lt_or_ge j l.length with hj | hj
  · rw [List.getElem?_map, List.getElem?_eq_getElem hj] at hv
    rw [Nat.zero_add, h.cell hj, List.getD_eq_getElem?_getD, List.getElem?_eq_getElem hj]
    exact hv
  · rw [List.getElem?_eq_none (by simpa using hj)] at hv; cases hv
end Go.Proofs.Ytkcbolcodgmpaaa

namespace Go.Proofs.Ytkcbolcodgmpaaa
open Go.RowKit Go.PlainAid
set_option maxRecDepth 20000
set_option linter.unusedVariables false
set_option linter.unusedSimpArgs false
theorem sizeLimbs : (Try.prog.info? 40).map (·.size) = some 1 := by kernel_rfl
theorem sizeLimbs1 (v : Value) : (Try.prog.info? 40).map (·.size) = some (#[v] : Array Value).size := sizeLimbs
end Go.Proofs.Ytkcbolcodgmpaaa

namespace Go.Proofs.Ytkcbolcodgmpaaa
open Go.RowKit Go.PlainAid
set_option maxRecDepth 20000
set_option linter.unusedVariables false
set_option linter.unusedSimpArgs false
theorem index_pn (l : List Int) (hl : l.length = 5) {k : Nat} (hk : k < 5) (w : World) : (Instr.index 62 (.agg (rowL .u64 l)) (.int .i64 (k : Int))).run Try.prog w = .ok (.int .u64 (l.getD k 0)) w := by
  have h1 : (0 : Int) ≤ (k : Int) ∧ (k : Int) < (5 : Int) := by omega
  simp only [Instr.index, asIntOf, Sem.run_bind, Sem.run_pure, Result.andThen_ok, run_underlying Try.underlying62, Try.sizeOf61, Nat.mul_one, Int.toNat_natCast]
  rw [if_pos (by omega)]
  simp only [Sem.run_bind, Sem.run_pure, Result.andThen_ok, Try.sizeOf61, Nat.mul_one, Int.toNat_natCast]
  exact part_row l (by omega) w
theorem own_int5 {B : Nat} {w : World} {v : Value} {f : List Int} (h : w.ownsRow B 3 1 v 5 (f.map (Value.int .i64))) (hf : f.length = 5) : OwnInt B w v f := by unfold OwnInt; rw [hf]; exact h
theorem size5 : (Try.prog.info? 62).map (·.size) = some 5 := by kernel_rfl
end Go.Proofs.Ytkcbolcodgmpaaa
