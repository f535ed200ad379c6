/- For all texts: ReadPart of the program answers as the specification's ReadPart does. No condition. -/
import Derived.Test.YtiojbefgafekaaaRows
import Derived.Test.YtiojbefgafekaaaRps30
import Derived.Test.YtiojbefgafekaaaEqPart
import Derived.WalkKit
import Derived.ProofKit
import Derived.OpenShut
import Derived.ShutString
import Derived.ChangeOld
import Derived.PlainAid
import Derived.BigRegion
import Derived.Deep.Cut
namespace Go.Proofs.Ytiojbefgafekaaa
namespace fnExactReadPart
open Go.ChangeShapes Go.WideShapes Go.ChangeAt Go.RowKit Go.PlainAid
open Go.ChangeMaps (open_string shut_string)
set_option linter.unusedVariables false

theorem own : ownKnob Try.prog.godebug = none := by kernel_rfl

set_option maxHeartbeats 1600000 in
set_option maxRecDepth 20000 in
theorem walk (a0 : ByteArray) (w0 : a0.size ≤ maxLen) (w : World) :
    Calls Try.prog 5 #[.string a0] w fun e w' => e = .returned (.bool true) ∧ Below w.heap.size w w' := by
  clear w0
  by_cases h0 : a0.size ≤ 1048576
  rotate_left
  · have hq0 : (1048576 : Int) < ((a0.size : Nat) : Int) := by omega
    go_enter Try.func5, Try.ntmps5
    go_wp2
    go_ret
    exact ⟨rfl, Below.refl _ _⟩
  have hq0 : ¬ (1048576 : Int) < ((a0.size : Nat) : Int) := by omega
  have HS : Hid (∀ wz, _) := fun wz => specReadPart_any a0 wz h0
  have HI : Hid (∀ wz, _) := fun wz => implReadPart_any a0 wz h0
  clear h0
  generalize rpP a0 = x at HS HI
  generalize rpOk a0 = K at HS HI
  have hK : (K != K) = false := by simp
  have HQ : Hid (∀ wz, _) := fun wz => eqPart_same x wz
  go_enter Try.func5, Try.ntmps5
  go_wp2_with fail
  refine Calls.mono (HS.out _) ?_
  rintro e z1 ⟨rfl, hb1⟩
  have hB := hb1
  have hW : (z1.alloc (.cells #[.int .i64 x.n, .int .i64 x.a, .int .i64 x.b, .string x.t] 26)).heap[z1.heap.size]? = some (.cells #[.int .i64 x.n, .int .i64 x.a, .int .i64 x.b, .string x.t] 26 (0, 0)) := heap_alloc_new z1 _
  have hBW : Below w.heap.size w (z1.alloc (.cells #[.int .i64 x.n, .int .i64 x.a, .int .i64 x.b, .string x.t] 26)) := hB.alloc hB.size _
  go_wp2_with fail
  generalize (z1.alloc (.cells #[.int .i64 x.n, .int .i64 x.a, .int .i64 x.b, .string x.t] 26)) = z2 at hW hBW ⊢
  have hlW := (Array.getElem?_eq_some_iff.1 hW).1
  refine Calls.mono (HI.out _) ?_
  rintro e z3 ⟨rfl, hb⟩
  replace hW := (hb.block _ hlW).trans hW
  replace hlW := (Array.getElem?_eq_some_iff.1 hW).1
  replace hB := hBW.trans (hb.mono hBW.size)
  clear hb hBW hb1
  have hG : (z3.alloc (.cells #[.int .i64 x.n, .int .i64 x.a, .int .i64 x.b, .string x.t] 26)).heap[z3.heap.size]? = some (.cells #[.int .i64 x.n, .int .i64 x.a, .int .i64 x.b, .string x.t] 26 (0, 0)) := heap_alloc_new z3 _
  have hBG : Below w.heap.size w (z3.alloc (.cells #[.int .i64 x.n, .int .i64 x.a, .int .i64 x.b, .string x.t] 26)) := hB.alloc hB.size _
  go_upto_region 5 with fail
  replace hW := (heap_alloc_old z3 (.cells #[.int .i64 x.n, .int .i64 x.a, .int .i64 x.b, .string x.t] 26) hlW).trans hW
  generalize (z3.alloc (.cells #[.int .i64 x.n, .int .i64 x.a, .int .i64 x.b, .string x.t] 26)) = z4 at hW hG hBG ⊢
  have c0 : z4.cell? ⟨z1.heap.size, 0, none⟩ = some (.int .i64 x.n) := (cell_of_row _ _ 0 _ _ _ hW).trans rfl
  have c1 : z4.cell? ⟨z1.heap.size, 1, none⟩ = some (.int .i64 x.a) := (cell_of_row _ _ 1 _ _ _ hW).trans rfl
  have c2 : z4.cell? ⟨z1.heap.size, 2, none⟩ = some (.int .i64 x.b) := (cell_of_row _ _ 2 _ _ _ hW).trans rfl
  have c3 : z4.cell? ⟨z1.heap.size, 3, none⟩ = some (.string x.t) := (cell_of_row _ _ 3 _ _ _ hW).trans rfl
  have d0 : z4.cell? ⟨z3.heap.size, 0, none⟩ = some (.int .i64 x.n) := (cell_of_row _ _ 0 _ _ _ hG).trans rfl
  have d1 : z4.cell? ⟨z3.heap.size, 1, none⟩ = some (.int .i64 x.a) := (cell_of_row _ _ 1 _ _ _ hG).trans rfl
  have d2 : z4.cell? ⟨z3.heap.size, 2, none⟩ = some (.int .i64 x.b) := (cell_of_row _ _ 2 _ _ _ hG).trans rfl
  have d3 : z4.cell? ⟨z3.heap.size, 3, none⟩ = some (.string x.t) := (cell_of_row _ _ 3 _ _ _ hG).trans rfl
  go_wp2_with fail
  refine Calls.mono (HQ.out _) ?_
  rintro e z5 ⟨rfl, hb⟩
  have HB : Hid (Below w.heap.size w z5) := hBG.trans (hb.mono hBG.size)
  clear hb hBG hW hG hB
  go_wp2
  go_ret
  exact ⟨rfl, HB.out⟩

set_option maxRecDepth 100000 in
theorem lifted (os : Os) (started : os.Started) (H : Type) (enc : TypeId × Value → H) :
    ReturnsInHanded {} Try.checked os 5 .any (Rows.fnExactReadPartSpec.pre6 enc Try.prog Try.f5 Rows.fnExactReadPartRow.domain false) (Rows.fnExactReadPartSpec.post enc Try.prog Try.f5 false true false false) := by
  refine returnsInHanded_of_change (C := Try.checked) own started (by kernel_rfl) Try.func5
    (ChangeSpec.witness6 (enc := enc) (C := Try.checked) false ⟨#[], #[.string ByteArray.empty], []⟩ 8 (by kernel_rfl) (by kernel_rfl) (by kernel_rfl) (by kernel_rfl)) ?_
  intro W base args ds gs before hval0 hW hcnd _
  have hval : ∀ (j : Nat) t v, Try.f5.params[j]? = some t → args[j]? = some v → Value.okWide Try.prog W .any base t v := hval0
  have hW' := hW
  obtain ⟨p, q, hA0, hV, rfl, hfz, hnd⟩ := hW
  have hA : DataW.TrodAll enc Try.prog W 0 (fun _ => true) true Try.f5.params.toList args.toList ds p := hA0
  rw [Try.params5] at hA hval
  obtain ⟨v0, vs0, d0, ds0, p0, q0, hargs, rfl, rfl, h0, r0⟩ := trodAll_cons hA
  obtain ⟨rfl, rfl, rfl⟩ := trodAll_nil r0
  obtain rfl : args = #[v0] := by cases args; simp_all
  obtain ⟨rfl, rfl⟩ := trodVars_none hV
  obtain ⟨a0, rfl, rfl, rfl, w0⟩ := open_string Try.underlying9 (hval 0 9 v0 rfl rfl) h0
  clear hA0 hval0
  refine (walk a0 w0 W ).mono fun e W' ⟨he, bel⟩ => ?_
  subst he
  exact ⟨_, rfl, _, _, _, [], _, [], hW', trodAll_mk1 (shut_bool Try.underlying4 _), (trodAll_cons_mk (shut_string Try.underlying9 w0) trodAll_mk0), rfl, bel.frame _, fun h => by cases h⟩

theorem over : Rows.fnExactReadPartRow.holds Try.pinned (OpenSpec.ofChange Rows.fnExactReadPartSpec) :=
  OpenClaim.holds_of_wide 5 Try.f5 rfl rfl rfl rfl rfl rfl rfl ⟨rfl, rfl, rfl, rfl, rfl⟩ rfl rfl rfl rfl rfl (by kernel_rfl) Try.func5 (by kernel_rfl)
    (of_decide_eq_true (by kernel_rfl)) (by unfold Func.isWrapper; first | (rw [if_pos (by decide +kernel)]; kernel_rfl) | (rw [if_neg (by decide +kernel)]; exact ⟨rfl, rfl⟩))
    (fun os started H enc _ => lifted os started H enc)
end fnExactReadPart

theorem fnExactReadPart_holds : Rows.FnExactReadPartSaid := fnExactReadPart.over
#print axioms fnExactReadPart_holds
end Go.Proofs.Ytiojbefgafekaaa
