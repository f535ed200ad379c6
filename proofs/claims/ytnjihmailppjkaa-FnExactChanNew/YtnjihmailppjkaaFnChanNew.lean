/- For every place and side: ChanNew of the program answers as the specification's ChanNew does. No condition. -/
import Derived.Test.YtnjihmailppjkaaRows
import Derived.Test.YtnjihmailppjkaaCh13
import Derived.Test.YtnjihmailppjkaaImpl13
import Derived.WalkKit
import Derived.ProofKit
import Derived.OpenShut
import Derived.ShutString
import Derived.ChangeOld
import Derived.PlainAid
import Derived.Deep.RegionHeld3
namespace Go.Proofs.Ytnjihmailppjkaa
namespace fnExactChanNew
open Go.ChangeShapes Go.WideShapes Go.ChangeAt Go.RowKit Go.PlainAid
open Go.ChangeMaps (open_string shut_string)
set_option linter.unusedVariables false

theorem own : ownKnob Try.prog.godebug = none := by kernel_rfl

set_option maxHeartbeats 3200000 in
set_option maxRecDepth 20000 in
theorem walk (k1 k2 : Int) (w1 : (Lit.int .i64 k1).wf = true) (w2 : (Lit.int .i64 k2).wf = true) (w : World) :
    Calls Try.prog 3 #[.int .i64 k1, .int .i64 k2] w fun e w' => e = .returned (.bool true) ∧ Below w.heap.size w w' := by
  obtain ⟨G, HS, HI⟩ : ∃ G : Ch, Hid (∀ w : World, Calls Try.prog 8 #[.int .i64 k1, .int .i64 k2] w fun e w' => e = .returned (.agg #[.int .i64 G.a, .int .i64 G.s, .int .i64 G.e, .int .i64 G.q, .int .i64 G.h, .int .i64 G.t, .int .i64 G.u, .int .i64 G.l, .int .i64 G.m]) ∧ Below w.heap.size w w') ∧ Hid (∀ w : World, Calls Try.prog 9 #[.int .i64 k1, .int .i64 k2] w fun e w' => e = .returned (.agg #[.int .i64 G.a, .int .i64 G.s, .int .i64 G.e, .int .i64 G.q, .int .i64 G.h, .int .i64 G.t, .int .i64 G.u, .int .i64 G.l, .int .i64 G.m]) ∧ Below w.heap.size w w') := ⟨chanN k1 k2, fun w => specChanNew_any k1 k2 w, fun w => implChanNew_any k1 k2 w⟩
  clear w1 w2
  have HB0 : Hid (Below w.heap.size w w) := Below.refl _ _
  go_enter Try.func3, Try.ntmps3
  go_wp2_with fail
  refine (HS.out w).mono ?_
  rintro e w1m ⟨rfl, hbm⟩
  have hb : Below w.heap.size w (w1m.alloc (.cells #[.int .i64 G.a, .int .i64 G.s, .int .i64 G.e, .int .i64 G.q, .int .i64 G.h, .int .i64 G.t, .int .i64 G.u, .int .i64 G.l, .int .i64 G.m] 25)) := hbm.alloc hbm.size _
  have OW1 : ChIn w1m.heap.size G (w1m.alloc (.cells #[.int .i64 G.a, .int .i64 G.s, .int .i64 G.e, .int .i64 G.q, .int .i64 G.h, .int .i64 G.t, .int .i64 G.u, .int .i64 G.l, .int .i64 G.m] 25)) := ChIn.made
  have HB1 : Hid (Below w.heap.size w (w1m.alloc (.cells #[.int .i64 G.a, .int .i64 G.s, .int .i64 G.e, .int .i64 G.q, .int .i64 G.h, .int .i64 G.t, .int .i64 G.u, .int .i64 G.l, .int .i64 G.m] 25))) := HB0.out.trans (hb.mono HB0.out.size)
  clear hb hbm HB0
  go_wp2_with fail
  generalize w1m.alloc (.cells #[.int .i64 G.a, .int .i64 G.s, .int .i64 G.e, .int .i64 G.q, .int .i64 G.h, .int .i64 G.t, .int .i64 G.u, .int .i64 G.l, .int .i64 G.m] 25) = w1 at OW1 HB1 ⊢
  generalize w1m.heap.size = g1 at OW1 ⊢
  refine (HI.out w1).mono ?_
  rintro e w2m ⟨rfl, hbm⟩
  have hb : Below w1.heap.size w1 (w2m.alloc (.cells #[.int .i64 G.a, .int .i64 G.s, .int .i64 G.e, .int .i64 G.q, .int .i64 G.h, .int .i64 G.t, .int .i64 G.u, .int .i64 G.l, .int .i64 G.m] 25)) := hbm.alloc hbm.size _
  have OG2 : ChIn w2m.heap.size G (w2m.alloc (.cells #[.int .i64 G.a, .int .i64 G.s, .int .i64 G.e, .int .i64 G.q, .int .i64 G.h, .int .i64 G.t, .int .i64 G.u, .int .i64 G.l, .int .i64 G.m] 25)) := ChIn.made
  have OW2 := OW1.next hb
  have HB2 : Hid (Below w.heap.size w (w2m.alloc (.cells #[.int .i64 G.a, .int .i64 G.s, .int .i64 G.e, .int .i64 G.q, .int .i64 G.h, .int .i64 G.t, .int .i64 G.u, .int .i64 G.l, .int .i64 G.m] 25))) := HB1.out.trans (hb.mono HB1.out.size)
  clear hb hbm OW1 HB1
  have y0 := OW2.c0
  have y1 := OW2.c1
  have y2 := OW2.c2
  have y3 := OW2.c3
  have y4 := OW2.c4
  have y5 := OW2.c5
  have y6 := OW2.c6
  have y7 := OW2.c7
  have y8 := OW2.c8
  have z0 := OG2.c0
  have z1 := OG2.c1
  have z2 := OG2.c2
  have z3 := OG2.c3
  have z4 := OG2.c4
  have z5 := OG2.c5
  have z6 := OG2.c6
  have z7 := OG2.c7
  have z8 := OG2.c8
  go_wp2_with fail
  clear y0 y1 y2 y3 y4 y5 y6 y7 y8 z0 z1 z2 z3 z4 z5 z6 z7 z8
  refine (eqChan_same G _).mono ?_
  rintro e w3 ⟨rfl, hb⟩
  have HB3 : Hid (Below w.heap.size w w3) := HB2.out.trans (hb.mono HB2.out.size)
  clear hb HB2 OW2 OG2
  go_wp2
  go_ret
  exact ⟨rfl, HB3.out⟩

set_option maxRecDepth 100000 in
theorem lifted (os : Os) (started : os.Started) (H : Type) (enc : TypeId × Value → H) :
    ReturnsInHanded {} Try.checked os 3 .any (Rows.fnExactChanNewSpec.pre6 enc Try.prog Try.f3 Rows.fnExactChanNewRow.domain false) (Rows.fnExactChanNewSpec.post enc Try.prog Try.f3 false true false false) := by
  refine returnsInHanded_of_change (C := Try.checked) own started (by kernel_rfl) Try.func3
    (ChangeSpec.witness6 (enc := enc) (C := Try.checked) false ⟨#[], #[.int .i64 0, .int .i64 0], []⟩ 8 (by kernel_rfl) (by kernel_rfl) (by kernel_rfl) (by kernel_rfl)) ?_
  intro W base args ds gs before hval0 hW hcnd _
  have hval : ∀ (j : Nat) t v, Try.f3.params[j]? = some t → args[j]? = some v → Value.okWide Try.prog W .any base t v := hval0
  have hW' := hW
  obtain ⟨p, q, hA0, hV, rfl, hfz, hnd⟩ := hW
  have hA : DataW.TrodAll enc Try.prog W 0 (fun _ => true) true Try.f3.params.toList args.toList ds p := hA0
  rw [Try.params3] at hA hval
  obtain ⟨v0, vs0, d0, ds0, p0, q0, hargs, rfl, rfl, h0, r0⟩ := trodAll_cons hA
  obtain ⟨v1, vs1, d1, ds1, p1, q1, rfl, rfl, rfl, h1, r1⟩ := trodAll_cons r0
  obtain ⟨rfl, rfl, rfl⟩ := trodAll_nil r1
  obtain rfl : args = #[v0, v1] := by cases args; simp_all
  obtain ⟨rfl, rfl⟩ := trodVars_none hV
  obtain ⟨a0, rfl, rfl, rfl, w0⟩ := open_int Try.underlying3 (hval 0 3 v0 rfl rfl) h0
  obtain ⟨a1, rfl, rfl, rfl, w1⟩ := open_int Try.underlying3 (hval 1 3 v1 rfl rfl) h1
  clear hA0 hval0
  refine (walk a0 a1 w0 w1 W ).mono fun e W' ⟨he, bel⟩ => ?_
  subst he
  exact ⟨_, rfl, _, _, _, [], _, [], hW', trodAll_mk1 (shut_bool Try.underlying4 _), (trodAll_cons_mk (shut_int Try.underlying3 w0) (trodAll_cons_mk (shut_int Try.underlying3 w1) trodAll_mk0)), rfl, bel.frame _, fun h => by cases h⟩

theorem over : Rows.fnExactChanNewRow.holds Try.pinned (OpenSpec.ofChange Rows.fnExactChanNewSpec) :=
  OpenClaim.holds_of_wide 3 Try.f3 rfl rfl rfl rfl rfl rfl rfl ⟨rfl, rfl, rfl, rfl, rfl⟩ rfl rfl rfl rfl rfl (by kernel_rfl) Try.func3 (by kernel_rfl)
    (of_decide_eq_true (by kernel_rfl)) (by unfold Func.isWrapper; first | (rw [if_pos (by decide +kernel)]; kernel_rfl) | (rw [if_neg (by decide +kernel)]; exact ⟨rfl, rfl⟩))
    (fun os started H enc _ => lifted os started H enc)
end fnExactChanNew

theorem fnExactChanNew_holds : Rows.FnExactChanNewSaid := fnExactChanNew.over
#print axioms fnExactChanNew_holds
end Go.Proofs.Ytnjihmailppjkaa
