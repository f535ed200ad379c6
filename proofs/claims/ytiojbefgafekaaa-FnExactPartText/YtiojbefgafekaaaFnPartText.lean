/- For every part: PartText of the program answers as the specification's PartText does. No condition. -/
import Derived.Test.YtiojbefgafekaaaRows
import Derived.Test.YtiojbefgafekaaaLawPtPart
import Derived.Test.YtiojbefgafekaaaPtx30
import Derived.WalkKit
import Derived.ProofKit
import Derived.OpenShut
import Derived.ShutString
import Derived.ChangeOld
import Derived.PlainAid
import Derived.BigRegion
import Derived.Deep.Cut
namespace Go.Proofs.Ytiojbefgafekaaa
namespace fnExactPartText
open Go.ChangeShapes Go.WideShapes Go.ChangeAt Go.RowKit Go.PlainAid
open Go.ChangeMaps (open_string shut_string)
set_option linter.unusedVariables false

theorem own : ownKnob Try.prog.godebug = none := by kernel_rfl

set_option maxHeartbeats 1600000 in
set_option maxRecDepth 20000 in
theorem walk (a0 : Pt) (w0 : a0.Fits) (w : World) :
    Calls Try.prog 4 #[(.agg #[.int .i64 a0.n, .int .i64 a0.a, .int .i64 a0.b, .string a0.t])] w fun e w' => e = .returned (.bool true) ∧ Below w.heap.size w w' := by
  have hA : (w.alloc (.cells #[.int .i64 a0.n, .int .i64 a0.a, .int .i64 a0.b, .string a0.t] 23)).heap[w.heap.size]? = some (.cells #[.int .i64 a0.n, .int .i64 a0.a, .int .i64 a0.b, .string a0.t] 23 (0, 0)) := heap_alloc_new w _
  have hB : Below w.heap.size w (w.alloc (.cells #[.int .i64 a0.n, .int .i64 a0.a, .int .i64 a0.b, .string a0.t] 23)) := (Below.refl _ _).alloc (Nat.le_refl _) _
  by_cases h0 : a0.t.size ≤ 1048576
  rotate_left
  · have HZ : Hid (∀ wz, _) := fun wz => szPart_big a0 wz (by omega) w0.2.2.2
    go_enter Try.func4, Try.ntmps4
    go_upto_region 1 with fail
    generalize (w.alloc (.cells #[.int .i64 a0.n, .int .i64 a0.a, .int .i64 a0.b, .string a0.t] 23)) = z0 at hA hB ⊢
    have c0 : z0.cell? ⟨w.heap.size, 0, none⟩ = some (.int .i64 a0.n) := (cell_of_row _ _ 0 _ _ _ hA).trans rfl
    have c1 : z0.cell? ⟨w.heap.size, 1, none⟩ = some (.int .i64 a0.a) := (cell_of_row _ _ 1 _ _ _ hA).trans rfl
    have c2 : z0.cell? ⟨w.heap.size, 2, none⟩ = some (.int .i64 a0.b) := (cell_of_row _ _ 2 _ _ _ hA).trans rfl
    have c3 : z0.cell? ⟨w.heap.size, 3, none⟩ = some (.string a0.t) := (cell_of_row _ _ 3 _ _ _ hA).trans rfl
    have hlt : w.heap.size < z0.heap.size := (Array.getElem?_eq_some_iff.1 hA).1
    go_wp2_with fail
    refine Calls.mono (HZ.out _) ?_
    rintro e z1 ⟨rfl, hb⟩
    go_wp2
    go_ret
    exact ⟨rfl, hB.trans (hb.mono hB.size)⟩
  have HZ : Hid (∀ wz, _) := fun wz => szPart_any a0 wz h0
  have hn0 : ¬ (1048576 - ((a0.t.size : Nat) : Int)) < 0 := by omega
  have HT : Hid (∀ wz, _) := fun wz => toPart_any a0 wz
  obtain ⟨T0, B0, HS, HI⟩ : ∃ (T0 : ByteArray) (B0 : Bool), Hid (∀ wz : World, Calls Try.prog 12 #[(.agg #[.int .i64 a0.n, .int .i64 a0.a, .int .i64 a0.b, .string a0.t])] wz fun e w' => e = .returned (.tuple #[.string T0, .bool B0]) ∧ Below wz.heap.size wz w') ∧ Hid (∀ wz : World, Calls Try.prog 13 #[(.agg #[.int .i64 a0.n, .int .i64 a0.a, .int .i64 a0.b, .string a0.t])] wz fun e w' => e = .returned (.tuple #[.string T0, .bool B0]) ∧ Below wz.heap.size wz w') := ⟨ptT a0, ptOk a0, fun wz => specPtx_any a0 wz h0, fun wz => implPtx_any a0 wz h0⟩
  have hRB0 : (B0 != B0) = false := by simp
  clear w0 h0
  go_enter Try.func4, Try.ntmps4
  go_upto_region 1 with fail
  generalize (w.alloc (.cells #[.int .i64 a0.n, .int .i64 a0.a, .int .i64 a0.b, .string a0.t] 23)) = z0 at hA hB ⊢
  have c0 : z0.cell? ⟨w.heap.size, 0, none⟩ = some (.int .i64 a0.n) := (cell_of_row _ _ 0 _ _ _ hA).trans rfl
  have c1 : z0.cell? ⟨w.heap.size, 1, none⟩ = some (.int .i64 a0.a) := (cell_of_row _ _ 1 _ _ _ hA).trans rfl
  have c2 : z0.cell? ⟨w.heap.size, 2, none⟩ = some (.int .i64 a0.b) := (cell_of_row _ _ 2 _ _ _ hA).trans rfl
  have c3 : z0.cell? ⟨w.heap.size, 3, none⟩ = some (.string a0.t) := (cell_of_row _ _ 3 _ _ _ hA).trans rfl
  have hlt : w.heap.size < z0.heap.size := (Array.getElem?_eq_some_iff.1 hA).1
  go_wp2_with fail
  refine Calls.mono (HZ.out _) ?_
  rintro e z1 ⟨rfl, hb⟩
  replace hA := (hb.block _ hlt).trans hA
  replace hB := hB.trans (hb.mono hB.size)
  clear hb c0 c1 c2 c3 hlt
  have c0 : z1.cell? ⟨w.heap.size, 0, none⟩ = some (.int .i64 a0.n) := (cell_of_row _ _ 0 _ _ _ hA).trans rfl
  have c1 : z1.cell? ⟨w.heap.size, 1, none⟩ = some (.int .i64 a0.a) := (cell_of_row _ _ 1 _ _ _ hA).trans rfl
  have c2 : z1.cell? ⟨w.heap.size, 2, none⟩ = some (.int .i64 a0.b) := (cell_of_row _ _ 2 _ _ _ hA).trans rfl
  have c3 : z1.cell? ⟨w.heap.size, 3, none⟩ = some (.string a0.t) := (cell_of_row _ _ 3 _ _ _ hA).trans rfl
  have hlt : w.heap.size < z1.heap.size := (Array.getElem?_eq_some_iff.1 hA).1
  go_wp2_with fail
  refine Calls.mono (HT.out _) ?_
  rintro e z2 ⟨rfl, hb⟩
  replace hA := (hb.block _ hlt).trans hA
  replace hB := hB.trans (hb.mono hB.size)
  clear hb c0 c1 c2 c3 hlt
  have c0 : z2.cell? ⟨w.heap.size, 0, none⟩ = some (.int .i64 a0.n) := (cell_of_row _ _ 0 _ _ _ hA).trans rfl
  have c1 : z2.cell? ⟨w.heap.size, 1, none⟩ = some (.int .i64 a0.a) := (cell_of_row _ _ 1 _ _ _ hA).trans rfl
  have c2 : z2.cell? ⟨w.heap.size, 2, none⟩ = some (.int .i64 a0.b) := (cell_of_row _ _ 2 _ _ _ hA).trans rfl
  have c3 : z2.cell? ⟨w.heap.size, 3, none⟩ = some (.string a0.t) := (cell_of_row _ _ 3 _ _ _ hA).trans rfl
  have hlt : w.heap.size < z2.heap.size := (Array.getElem?_eq_some_iff.1 hA).1
  go_wp2_with fail
  refine Calls.mono (HS.out _) ?_
  rintro e z3 ⟨rfl, hb⟩
  replace hA := (hb.block _ hlt).trans hA
  replace hB := hB.trans (hb.mono hB.size)
  clear hb c0 c1 c2 c3 hlt
  have c0 : z3.cell? ⟨w.heap.size, 0, none⟩ = some (.int .i64 a0.n) := (cell_of_row _ _ 0 _ _ _ hA).trans rfl
  have c1 : z3.cell? ⟨w.heap.size, 1, none⟩ = some (.int .i64 a0.a) := (cell_of_row _ _ 1 _ _ _ hA).trans rfl
  have c2 : z3.cell? ⟨w.heap.size, 2, none⟩ = some (.int .i64 a0.b) := (cell_of_row _ _ 2 _ _ _ hA).trans rfl
  have c3 : z3.cell? ⟨w.heap.size, 3, none⟩ = some (.string a0.t) := (cell_of_row _ _ 3 _ _ _ hA).trans rfl
  have hlt : w.heap.size < z3.heap.size := (Array.getElem?_eq_some_iff.1 hA).1
  go_wp2_with fail
  refine Calls.mono (HT.out _) ?_
  rintro e z4 ⟨rfl, hb⟩
  replace hA := (hb.block _ hlt).trans hA
  replace hB := hB.trans (hb.mono hB.size)
  clear hb c0 c1 c2 c3 hlt
  have c0 : z4.cell? ⟨w.heap.size, 0, none⟩ = some (.int .i64 a0.n) := (cell_of_row _ _ 0 _ _ _ hA).trans rfl
  have c1 : z4.cell? ⟨w.heap.size, 1, none⟩ = some (.int .i64 a0.a) := (cell_of_row _ _ 1 _ _ _ hA).trans rfl
  have c2 : z4.cell? ⟨w.heap.size, 2, none⟩ = some (.int .i64 a0.b) := (cell_of_row _ _ 2 _ _ _ hA).trans rfl
  have c3 : z4.cell? ⟨w.heap.size, 3, none⟩ = some (.string a0.t) := (cell_of_row _ _ 3 _ _ _ hA).trans rfl
  have hlt : w.heap.size < z4.heap.size := (Array.getElem?_eq_some_iff.1 hA).1
  go_wp2_with fail
  refine Calls.mono (HI.out _) ?_
  rintro e z5 ⟨rfl, hb⟩
  replace hA := (hb.block _ hlt).trans hA
  replace hB := hB.trans (hb.mono hB.size)
  clear hb c0 c1 c2 c3 hlt
  have c0 : z5.cell? ⟨w.heap.size, 0, none⟩ = some (.int .i64 a0.n) := (cell_of_row _ _ 0 _ _ _ hA).trans rfl
  have c1 : z5.cell? ⟨w.heap.size, 1, none⟩ = some (.int .i64 a0.a) := (cell_of_row _ _ 1 _ _ _ hA).trans rfl
  have c2 : z5.cell? ⟨w.heap.size, 2, none⟩ = some (.int .i64 a0.b) := (cell_of_row _ _ 2 _ _ _ hA).trans rfl
  have c3 : z5.cell? ⟨w.heap.size, 3, none⟩ = some (.string a0.t) := (cell_of_row _ _ 3 _ _ _ hA).trans rfl
  have hlt : w.heap.size < z5.heap.size := (Array.getElem?_eq_some_iff.1 hA).1
  go_wp2
  go_ret
  exact ⟨rfl, hB⟩

theorem laidOut : laidOutB Try.prog = true := by kernel_rfl
set_option maxRecDepth 100000 in
theorem lifted (os : Os) (started : os.Started) (H : Type) (enc : TypeId × Value → H) :
    ReturnsInHanded {} Try.checked os 4 .any (Rows.fnExactPartTextSpec.pre6 enc Try.prog Try.f4 Rows.fnExactPartTextRow.domain false) (Rows.fnExactPartTextSpec.post enc Try.prog Try.f4 false true false false) := by
  refine returnsInHanded_of_change (C := Try.checked) own started (by kernel_rfl) Try.func4
    (ChangeSpec.witness6 (enc := enc) (C := Try.checked) false ⟨#[], #[.agg #[.int .i64 0, .int .i64 0, .int .i64 0, .string ByteArray.empty]], []⟩ 8 (by kernel_rfl) (by kernel_rfl) (by kernel_rfl) (by kernel_rfl)) ?_
  intro W base args ds gs before hval0 hW hcnd _
  have hval : ∀ (j : Nat) t v, Try.f4.params[j]? = some t → args[j]? = some v → Value.okWide Try.prog W .any base t v := hval0
  have hW' := hW
  obtain ⟨p, q, hA0, hV, rfl, hfz, hnd⟩ := hW
  have hA : DataW.TrodAll enc Try.prog W 0 (fun _ => true) true Try.f4.params.toList args.toList ds p := hA0
  rw [Try.params4] at hA hval
  obtain ⟨v0, vs0, d0, ds0, p0, q0, hargs, rfl, rfl, h0, r0⟩ := trodAll_cons hA
  obtain ⟨rfl, rfl, rfl⟩ := trodAll_nil r0
  obtain rfl : args = #[v0] := by cases args; simp_all
  obtain ⟨rfl, rfl⟩ := trodVars_none hV
  have k0 := h0
  have lt0 : ∀ x ∈ p0, x.block < W.heap.size := by obtain ⟨m, hm⟩ := k0; exact DataW.trod_lt m _ _ _ hm
  obtain ⟨a0, rfl, w0⟩ := part_of (hval 0 23 v0 rfl rfl) h0
  clear hA0 hval0
  refine (walk a0 w0 W ).mono fun e W' ⟨he, bel⟩ => ?_
  subst he
  exact ⟨_, rfl, _, _, _, [], _, [], hW', trodAll_mk1 (shut_bool Try.underlying4 _), (trodAll_cons_mk (Below.trod laidOut (by kernel_rfl) (of_decide_eq_true (by kernel_rfl)) k0 bel lt0) trodAll_mk0), rfl, bel.frame _, fun h => by cases h⟩

theorem over : Rows.fnExactPartTextRow.holds Try.pinned (OpenSpec.ofChange Rows.fnExactPartTextSpec) :=
  OpenClaim.holds_of_wide 4 Try.f4 rfl rfl rfl rfl rfl rfl rfl ⟨rfl, rfl, rfl, rfl, rfl⟩ rfl rfl rfl rfl rfl (by kernel_rfl) Try.func4 (by kernel_rfl)
    (of_decide_eq_true (by kernel_rfl)) (by unfold Func.isWrapper; first | (rw [if_pos (by decide +kernel)]; kernel_rfl) | (rw [if_neg (by decide +kernel)]; exact ⟨rfl, rfl⟩))
    (fun os started H enc _ => lifted os started H enc)
end fnExactPartText

theorem fnExactPartText_holds : Rows.FnExactPartTextSaid := fnExactPartText.over
#print axioms fnExactPartText_holds
end Go.Proofs.Ytiojbefgafekaaa
