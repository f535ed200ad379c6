/- For every channel: TurnOn of the program answers as the specification's TurnOn does. No condition. -/
import Derived.Test.YtnjihmailppjkaaRows
import Derived.Test.YtnjihmailppjkaaCh13
import Derived.Test.YtnjihmailppjkaaImpl13
import Derived.WalkKit
import Derived.ProofKit
import Derived.OpenShut
import Derived.ShutString
import Derived.ChangeOld
import Derived.PlainAid
import Derived.Deep.RegionHeld3
namespace Go.Proofs.Ytnjihmailppjkaa
namespace fnExactTurnOn
open Go.ChangeShapes Go.WideShapes Go.ChangeAt Go.RowKit Go.PlainAid
open Go.ChangeMaps (open_string shut_string)
set_option linter.unusedVariables false

theorem own : ownKnob Try.prog.godebug = none := by kernel_rfl

set_option maxHeartbeats 3200000 in
set_option maxRecDepth 20000 in
theorem walk (x : Ch) (f0 : x.Fits) (w : World) :
    Calls Try.prog 6 #[.agg #[.int .i64 x.a, .int .i64 x.s, .int .i64 x.e, .int .i64 x.q, .int .i64 x.h, .int .i64 x.t, .int .i64 x.u, .int .i64 x.l, .int .i64 x.m]] w fun e w' => e = .returned (.bool true) ∧ Below w.heap.size w w' := by
  obtain ⟨G, V, HS, HI⟩ : ∃ (G : Ch) (V : Bool), Hid (∀ w : World, Calls Try.prog 21 #[.agg #[.int .i64 x.a, .int .i64 x.s, .int .i64 x.e, .int .i64 x.q, .int .i64 x.h, .int .i64 x.t, .int .i64 x.u, .int .i64 x.l, .int .i64 x.m]] w fun e w' => e = .returned (.tuple #[.agg #[.int .i64 G.a, .int .i64 G.s, .int .i64 G.e, .int .i64 G.q, .int .i64 G.h, .int .i64 G.t, .int .i64 G.u, .int .i64 G.l, .int .i64 G.m], .bool V]) ∧ Below w.heap.size w w') ∧ Hid (∀ w : World, Calls Try.prog 22 #[.agg #[.int .i64 x.a, .int .i64 x.s, .int .i64 x.e, .int .i64 x.q, .int .i64 x.h, .int .i64 x.t, .int .i64 x.u, .int .i64 x.l, .int .i64 x.m]] w fun e w' => e = .returned (.tuple #[.agg #[.int .i64 G.a, .int .i64 G.s, .int .i64 G.e, .int .i64 G.q, .int .i64 G.h, .int .i64 G.t, .int .i64 G.u, .int .i64 G.l, .int .i64 G.m], .bool V]) ∧ Below w.heap.size w w') := ⟨turnC x, turnB x, fun w => specTurn_any x w, fun w => implTurn_any x w⟩
  clear f0
  have hVV : (V != V) = false := by simp
  have HB0 : Hid (Below w.heap.size w (w.alloc (.cells #[.int .i64 x.a, .int .i64 x.s, .int .i64 x.e, .int .i64 x.q, .int .i64 x.h, .int .i64 x.t, .int .i64 x.u, .int .i64 x.l, .int .i64 x.m] 34))) := (Below.refl _ _).alloc (Nat.le_refl _) _
  have N0 : ChIn w.heap.size x (w.alloc (.cells #[.int .i64 x.a, .int .i64 x.s, .int .i64 x.e, .int .i64 x.q, .int .i64 x.h, .int .i64 x.t, .int .i64 x.u, .int .i64 x.l, .int .i64 x.m] 34)) := ChIn.made
  have x0 := N0.c0
  have x1 := N0.c1
  have x2 := N0.c2
  have x3 := N0.c3
  have x4 := N0.c4
  have x5 := N0.c5
  have x6 := N0.c6
  have x7 := N0.c7
  have x8 := N0.c8
  go_enter Try.func6, Try.ntmps6
  go_wp2_with fail
  generalize w.alloc (.cells #[.int .i64 x.a, .int .i64 x.s, .int .i64 x.e, .int .i64 x.q, .int .i64 x.h, .int .i64 x.t, .int .i64 x.u, .int .i64 x.l, .int .i64 x.m] 34) = w0 at HB0 N0 x0 x1 x2 x3 x4 x5 x6 x7 x8 ⊢
  clear x0 x1 x2 x3 x4 x5 x6 x7 x8
  refine (toChan_any x _).mono ?_
  rintro e w1 ⟨rfl, hb⟩
  have N1 := N0.next hb
  have HB1 : Hid (Below w.heap.size w w1) := HB0.out.trans (hb.mono HB0.out.size)
  clear N0 HB0
  clear hb
  go_wp2_with fail
  refine (HS.out w1).mono ?_
  rintro e w2m ⟨rfl, hbm⟩
  have hb : Below w1.heap.size w1 (w2m.alloc (.cells #[.int .i64 G.a, .int .i64 G.s, .int .i64 G.e, .int .i64 G.q, .int .i64 G.h, .int .i64 G.t, .int .i64 G.u, .int .i64 G.l, .int .i64 G.m] 25)) := hbm.alloc hbm.size _
  have OW2 : ChIn w2m.heap.size G (w2m.alloc (.cells #[.int .i64 G.a, .int .i64 G.s, .int .i64 G.e, .int .i64 G.q, .int .i64 G.h, .int .i64 G.t, .int .i64 G.u, .int .i64 G.l, .int .i64 G.m] 25)) := ChIn.made
  have N2 := N1.next hb
  have HB2 : Hid (Below w.heap.size w (w2m.alloc (.cells #[.int .i64 G.a, .int .i64 G.s, .int .i64 G.e, .int .i64 G.q, .int .i64 G.h, .int .i64 G.t, .int .i64 G.u, .int .i64 G.l, .int .i64 G.m] 25))) := HB1.out.trans (hb.mono HB1.out.size)
  clear hb hbm N1 HB1
  have x0 := N2.c0
  have x1 := N2.c1
  have x2 := N2.c2
  have x3 := N2.c3
  have x4 := N2.c4
  have x5 := N2.c5
  have x6 := N2.c6
  have x7 := N2.c7
  have x8 := N2.c8
  go_wp2_with fail
  clear x0 x1 x2 x3 x4 x5 x6 x7 x8
  generalize w2m.alloc (.cells #[.int .i64 G.a, .int .i64 G.s, .int .i64 G.e, .int .i64 G.q, .int .i64 G.h, .int .i64 G.t, .int .i64 G.u, .int .i64 G.l, .int .i64 G.m] 25) = w2 at OW2 N2 HB2 ⊢
  generalize w2m.heap.size = g2 at OW2 ⊢
  refine (toChan_any x _).mono ?_
  rintro e w3 ⟨rfl, hb⟩
  have OW3 := OW2.next hb
  have N3 := N2.next hb
  have HB3 : Hid (Below w.heap.size w w3) := HB2.out.trans (hb.mono HB2.out.size)
  clear OW2 N2 HB2
  clear hb
  go_wp2_with fail
  refine (HI.out w3).mono ?_
  rintro e w4m ⟨rfl, hbm⟩
  have hb : Below w3.heap.size w3 (w4m.alloc (.cells #[.int .i64 G.a, .int .i64 G.s, .int .i64 G.e, .int .i64 G.q, .int .i64 G.h, .int .i64 G.t, .int .i64 G.u, .int .i64 G.l, .int .i64 G.m] 25)) := hbm.alloc hbm.size _
  have OG4 : ChIn w4m.heap.size G (w4m.alloc (.cells #[.int .i64 G.a, .int .i64 G.s, .int .i64 G.e, .int .i64 G.q, .int .i64 G.h, .int .i64 G.t, .int .i64 G.u, .int .i64 G.l, .int .i64 G.m] 25)) := ChIn.made
  have OW4 := OW3.next hb
  have N4 := N3.next hb
  have HB4 : Hid (Below w.heap.size w (w4m.alloc (.cells #[.int .i64 G.a, .int .i64 G.s, .int .i64 G.e, .int .i64 G.q, .int .i64 G.h, .int .i64 G.t, .int .i64 G.u, .int .i64 G.l, .int .i64 G.m] 25))) := HB3.out.trans (hb.mono HB3.out.size)
  clear hb hbm OW3 N3 HB3
  have y0 := OW4.c0
  have y1 := OW4.c1
  have y2 := OW4.c2
  have y3 := OW4.c3
  have y4 := OW4.c4
  have y5 := OW4.c5
  have y6 := OW4.c6
  have y7 := OW4.c7
  have y8 := OW4.c8
  have z0 := OG4.c0
  have z1 := OG4.c1
  have z2 := OG4.c2
  have z3 := OG4.c3
  have z4 := OG4.c4
  have z5 := OG4.c5
  have z6 := OG4.c6
  have z7 := OG4.c7
  have z8 := OG4.c8
  go_wp2_with fail
  clear y0 y1 y2 y3 y4 y5 y6 y7 y8 z0 z1 z2 z3 z4 z5 z6 z7 z8
  refine (eqChan_same G _).mono ?_
  rintro e w5 ⟨rfl, hb⟩
  have HB5 : Hid (Below w.heap.size w w5) := HB4.out.trans (hb.mono HB4.out.size)
  clear hb HB4 OW4 OG4 N4
  go_wp2
  go_ret
  exact ⟨rfl, HB5.out⟩

theorem laidOut : laidOutB Try.prog = true := by kernel_rfl
set_option maxRecDepth 100000 in
theorem lifted (os : Os) (started : os.Started) (H : Type) (enc : TypeId × Value → H) :
    ReturnsInHanded {} Try.checked os 6 .any (Rows.fnExactTurnOnSpec.pre6 enc Try.prog Try.f6 Rows.fnExactTurnOnRow.domain false) (Rows.fnExactTurnOnSpec.post enc Try.prog Try.f6 false true false false) := by
  refine returnsInHanded_of_change (C := Try.checked) own started (by kernel_rfl) Try.func6
    (ChangeSpec.witness6 (enc := enc) (C := Try.checked) false ⟨#[], #[.agg #[.int .i64 0, .int .i64 0, .int .i64 0, .int .i64 0, .int .i64 0, .int .i64 0, .int .i64 0, .int .i64 0, .int .i64 0]], []⟩ 8 (by kernel_rfl) (by kernel_rfl) (by kernel_rfl) (by kernel_rfl)) ?_
  intro W base args ds gs before hval0 hW hcnd _
  have hval : ∀ (j : Nat) t v, Try.f6.params[j]? = some t → args[j]? = some v → Value.okWide Try.prog W .any base t v := hval0
  have hW' := hW
  obtain ⟨p, q, hA0, hV, rfl, hfz, hnd⟩ := hW
  have hA : DataW.TrodAll enc Try.prog W 0 (fun _ => true) true Try.f6.params.toList args.toList ds p := hA0
  rw [Try.params6] at hA hval
  obtain ⟨v0, vs0, d0, ds0, p0, q0, hargs, rfl, rfl, h0, r0⟩ := trodAll_cons hA
  obtain ⟨rfl, rfl, rfl⟩ := trodAll_nil r0
  obtain rfl : args = #[v0] := by cases args; simp_all
  obtain ⟨rfl, rfl⟩ := trodVars_none hV
  have k0 := h0
  have lt0 : ∀ x ∈ p0, x.block < W.heap.size := by obtain ⟨m, hm⟩ := k0; exact DataW.trod_lt m _ _ _ hm
  obtain ⟨a0, rfl, w0⟩ := chan_of (hval 0 34 v0 rfl rfl) h0
  clear hA0 hval0
  refine (walk a0 w0 W ).mono fun e W' ⟨he, bel⟩ => ?_
  subst he
  exact ⟨_, rfl, _, _, _, [], _, [], hW', trodAll_mk1 (shut_bool Try.underlying4 _), (trodAll_cons_mk (Below.trod laidOut (by kernel_rfl) (of_decide_eq_true (by kernel_rfl)) k0 bel lt0) trodAll_mk0), rfl, bel.frame _, fun h => by cases h⟩

theorem over : Rows.fnExactTurnOnRow.holds Try.pinned (OpenSpec.ofChange Rows.fnExactTurnOnSpec) :=
  OpenClaim.holds_of_wide 6 Try.f6 rfl rfl rfl rfl rfl rfl rfl ⟨rfl, rfl, rfl, rfl, rfl⟩ rfl rfl rfl rfl rfl (by kernel_rfl) Try.func6 (by kernel_rfl)
    (of_decide_eq_true (by kernel_rfl)) (by unfold Func.isWrapper; first | (rw [if_pos (by decide +kernel)]; kernel_rfl) | (rw [if_neg (by decide +kernel)]; exact ⟨rfl, rfl⟩))
    (fun os started H enc _ => lifted os started H enc)
end fnExactTurnOn

theorem fnExactTurnOn_holds : Rows.FnExactTurnOnSaid := fnExactTurnOn.over
#print axioms fnExactTurnOn_holds
end Go.Proofs.Ytnjihmailppjkaa
