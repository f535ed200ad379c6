/- For every way and address: FitsRoute of the program answers as the specification's FitsRoute does; and the arguments read as before. No condition. -/
import Derived.Test.YtclnhjkmhemebaaRows
import Derived.Test.YtclnhjkmhemebaaLawRt
import Derived.Test.YtclnhjkmhemebaaImplW16
import Derived.WalkKit
import Derived.ProofKit
import Derived.OpenShut
import Derived.ShutString
import Derived.ChangeOld
import Derived.PlainAid
namespace Go.Proofs.Ytclnhjkmhemebaa
namespace fnExactFitsRoute
open Go.ChangeShapes Go.WideShapes Go.ChangeAt Go.RowKit Go.PlainAid
open Go.ChangeMaps (open_string shut_string)
set_option linter.unusedVariables false

theorem own : ownKnob Try.prog.godebug = none := by kernel_rfl

set_option maxHeartbeats 1600000 in
theorem walk (x : Rt) (k1 : Int) (f0 : x.Fits) (w1 : (Lit.int .i64 k1).wf = true) (w : World) :
    Calls Try.prog 14 #[.agg #[.int .i64 x.n, .int .i64 x.b, .int .i64 x.t], .int .i64 k1] w fun e w' => e = .returned (.bool true) ∧ Below w.heap.size w w' := by
  have hb0 : Below w.heap.size w (w.alloc (.cells #[.int .i64 x.n, .int .i64 x.b, .int .i64 x.t] 84)) := (Below.refl _ _).alloc (Nat.le_refl _) _
  have hx := heap_alloc_new w (.cells #[.int .i64 x.n, .int .i64 x.b, .int .i64 x.t] 84)
  obtain ⟨V, HS, HI⟩ : ∃ V : Bool, Hid (∀ w : World, Calls Try.prog 55 #[.agg #[.int .i64 x.n, .int .i64 x.b, .int .i64 x.t], .int .i64 k1] w fun e w' => e = .returned (.bool V) ∧ Below w.heap.size w w') ∧ Hid (∀ w : World, Calls Try.prog 39 #[.agg #[.int .i64 x.n, .int .i64 x.b, .int .i64 x.t], .int .i64 k1] w fun e w' => e = .returned (.bool V) ∧ Below w.heap.size w w') := ⟨fitB x k1, fun w => specFits_any x k1 w, fun w => implFits_any x k1 w f0 w1⟩
  have hVV : (V != V) = false := by simp
  have HB0 : Hid _ := hb0
  have c0 : (w.alloc (.cells #[.int .i64 x.n, .int .i64 x.b, .int .i64 x.t] 84)).cell? ⟨w.heap.size, 0, none⟩ = some (.int .i64 x.n) := (cell_of_row _ _ 0 _ _ _ hx).trans rfl
  have c1 : (w.alloc (.cells #[.int .i64 x.n, .int .i64 x.b, .int .i64 x.t] 84)).cell? ⟨w.heap.size, 1, none⟩ = some (.int .i64 x.b) := (cell_of_row _ _ 1 _ _ _ hx).trans rfl
  have c2 : (w.alloc (.cells #[.int .i64 x.n, .int .i64 x.b, .int .i64 x.t] 84)).cell? ⟨w.heap.size, 2, none⟩ = some (.int .i64 x.t) := (cell_of_row _ _ 2 _ _ _ hx).trans rfl
  have hs0 : w.heap.size < (w.alloc (.cells #[.int .i64 x.n, .int .i64 x.b, .int .i64 x.t] 84)).heap.size := by simp
  have HX : Hid _ := hx
  clear hb0 hx
  go_enter Try.func14, Try.ntmps14
  go_wp2_with fail
  generalize w.alloc (.cells #[.int .i64 x.n, .int .i64 x.b, .int .i64 x.t] 84) = w0 at HB0 HX hs0 c0 c1 c2 ⊢
  refine (toRoute_any x _).mono ?_
  rintro e w1 ⟨rfl, hb⟩
  have HB1 : Hid (Below w.heap.size w w1) := HB0.out.trans (hb.mono HB0.out.size)
  have HX1 : Hid _ := (hb.block _ hs0).trans HX.out
  have hs1 : w.heap.size < w1.heap.size := Nat.lt_of_lt_of_le hs0 hb.size
  clear hb HB0 HX c0 c1 c2
  go_wp2_with fail
  refine (HS.out _).mono ?_
  rintro e w2 ⟨rfl, hb⟩
  have HB2 : Hid (Below w.heap.size w w2) := HB1.out.trans (hb.mono HB1.out.size)
  have hx2 := (hb.block _ hs1).trans HX1.out
  have c0 : w2.cell? ⟨w.heap.size, 0, none⟩ = some (.int .i64 x.n) := (cell_of_row _ _ 0 _ _ _ hx2).trans rfl
  have c1 : w2.cell? ⟨w.heap.size, 1, none⟩ = some (.int .i64 x.b) := (cell_of_row _ _ 1 _ _ _ hx2).trans rfl
  have c2 : w2.cell? ⟨w.heap.size, 2, none⟩ = some (.int .i64 x.t) := (cell_of_row _ _ 2 _ _ _ hx2).trans rfl
  clear hb HB1 HX1 hx2
  go_wp2_with fail
  refine (toRoute_any x _).mono ?_
  rintro e w3 ⟨rfl, hb⟩
  have HB3 : Hid (Below w.heap.size w w3) := HB2.out.trans (hb.mono HB2.out.size)
  clear hb HB2 c0 c1 c2
  go_wp2_with fail
  refine (HI.out _).mono ?_
  rintro e w4 ⟨rfl, hb⟩
  have HB4 : Hid (Below w.heap.size w w4) := HB3.out.trans (hb.mono HB3.out.size)
  clear hb HB3
  go_wp2
  go_ret
  exact ⟨rfl, HB4.out⟩

theorem laidOut : laidOutB Try.prog = true := by kernel_rfl
set_option maxRecDepth 100000 in
theorem lifted (os : Os) (started : os.Started) (H : Type) (enc : TypeId × Value → H) :
    ReturnsInHanded {} Try.checked os 14 .any (Rows.fnExactFitsRouteSpec.pre6 enc Try.prog Try.f14 Rows.fnExactFitsRouteRow.domain false) (Rows.fnExactFitsRouteSpec.post enc Try.prog Try.f14 false true false false) := by
  refine returnsInHanded_of_change (C := Try.checked) own started (by kernel_rfl) Try.func14
    (ChangeSpec.witness6 (enc := enc) (C := Try.checked) false ⟨#[], #[.agg #[.int .i64 0, .int .i64 0, .int .i64 0], .int .i64 0], []⟩ 8 (by kernel_rfl) (by kernel_rfl) (by kernel_rfl) (by kernel_rfl)) ?_
  intro W base args ds gs before hval0 hW hcnd _
  have hval : ∀ (j : Nat) t v, Try.f14.params[j]? = some t → args[j]? = some v → Value.okWide Try.prog W .any base t v := hval0
  have hW' := hW
  obtain ⟨p, q, hA0, hV, rfl, hfz, hnd⟩ := hW
  have hA : DataW.TrodAll enc Try.prog W 0 (fun _ => true) true Try.f14.params.toList args.toList ds p := hA0
  rw [Try.params14] at hA hval
  obtain ⟨v0, vs0, d0, ds0, p0, q0, hargs, rfl, rfl, h0, r0⟩ := trodAll_cons hA
  obtain ⟨v1, vs1, d1, ds1, p1, q1, rfl, rfl, rfl, h1, r1⟩ := trodAll_cons r0
  obtain ⟨rfl, rfl, rfl⟩ := trodAll_nil r1
  obtain rfl : args = #[v0, v1] := by cases args; simp_all
  obtain ⟨rfl, rfl⟩ := trodVars_none hV
  have k0 := h0
  have lt0 : ∀ x ∈ p0, x.block < W.heap.size := by obtain ⟨m, hm⟩ := k0; exact DataW.trod_lt m _ _ _ hm
  obtain ⟨a0, rfl, w0⟩ := rt_of (hval 0 84 v0 rfl rfl) h0
  obtain ⟨a1, rfl, rfl, rfl, w1⟩ := open_int Try.underlying3 (hval 1 3 v1 rfl rfl) h1
  clear hA0 hval0
  refine (walk a0 a1 w0 w1 W ).mono fun e W' ⟨he, bel⟩ => ?_
  subst he
  exact ⟨_, rfl, _, _, _, [], _, [], hW', trodAll_mk1 (shut_bool Try.underlying4 _), (trodAll_cons_mk (Below.trod laidOut (by kernel_rfl) (of_decide_eq_true (by kernel_rfl)) k0 bel lt0) (trodAll_cons_mk (shut_int Try.underlying3 w1) trodAll_mk0)), rfl, bel.frame _, fun h => by cases h⟩

theorem over : Rows.fnExactFitsRouteRow.holds Try.pinned (OpenSpec.ofChange Rows.fnExactFitsRouteSpec) :=
  OpenClaim.holds_of_wide 14 Try.f14 rfl rfl rfl rfl rfl rfl rfl ⟨rfl, rfl, rfl, rfl, rfl⟩ rfl rfl rfl rfl rfl (by kernel_rfl) Try.func14 (by kernel_rfl)
    (of_decide_eq_true (by kernel_rfl)) (by unfold Func.isWrapper; first | (rw [if_pos (by decide +kernel)]; kernel_rfl) | (rw [if_neg (by decide +kernel)]; exact ⟨rfl, rfl⟩))
    (fun os started H enc _ => lifted os started H enc)
end fnExactFitsRoute

theorem fnExactFitsRoute_holds : Rows.FnExactFitsRouteSaid := fnExactFitsRoute.over
#print axioms fnExactFitsRoute_holds
end Go.Proofs.Ytclnhjkmhemebaa
