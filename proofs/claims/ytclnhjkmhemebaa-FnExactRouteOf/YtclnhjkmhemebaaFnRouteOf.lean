/- For every list and address: RouteOf of the program answers as the specification's RouteOf does, writes into no argument; and the arguments read as before. No condition. -/
import Derived.Test.YtclnhjkmhemebaaRows
import Derived.Test.YtclnhjkmhemebaaLawRt
import Derived.Test.YtclnhjkmhemebaaSpec16b
import Derived.Test.YtclnhjkmhemebaaImplR16
import Derived.WalkKit
import Derived.ProofKit
import Derived.OpenShut
import Derived.ShutString
import Derived.ChangeOld
import Derived.PlainAid
namespace Go.Proofs.Ytclnhjkmhemebaa
namespace fnExactRouteOf
open Go.ChangeShapes Go.WideShapes Go.ChangeAt Go.RowKit Go.PlainAid
open Go.ChangeMaps (open_string shut_string)
set_option linter.unusedVariables false

theorem own : ownKnob Try.prog.godebug = none := by kernel_rfl

set_option maxHeartbeats 3200000 in
set_option maxRecDepth 20000 in
theorem walk (a0 : Option Addr) (cp : Nat) (ns : List Rt) (k1 : Int) (w0 : ns.length ≤ maxLen) (f0 : ∀ y ∈ ns, y.Fits) (w1 : (Lit.int .i64 k1).wf = true) (w : World) (hr : RowRt w.heap.size w a0 ns) :
    Calls Try.prog 15 #[.slice a0 ns.length cp, .int .i64 k1] w fun e w' => e = .returned (.bool true) ∧ Below w.heap.size w w' := by
  have HF : Hid (∀ y ∈ ns, y.Fits) := f0
  clear f0
  have I0 : InRt w.heap.size a0 ns w := ⟨Nat.le_refl _, hr⟩
  clear hr
  by_cases hl : ns.length ≤ 1048576
  rotate_left
  · have hl' : (1048576 : Int) - (ns.length : Int) < 0 := by omega
    have H : Hid _ := szRouteS_big a0 ns.length cp w (by omega) w0
    clear w0 I0
    go_enter Try.func15, Try.ntmps15
    go_wp2_with fail
    refine Calls.mono H.out ?_
    rintro e wz ⟨rfl, rfl⟩
    go_wp2
    go_ret
    exact ⟨rfl, Below.refl _ _⟩
  have hl' : ¬ (1048576 : Int) - (ns.length : Int) < 0 := by omega
  clear w0
  obtain ⟨R0, R1, HS, HI⟩ : ∃ (R0 : Rt) (R1 : Bool), Hid (∀ (b off cap : Nat) (w : World), RowRt w.heap.size w (some ⟨b, off, none⟩) ns → Calls Try.prog 49 #[.slice (some ⟨b, off, none⟩) ns.length cap, .int .i64 k1] w fun e w' => e = .returned (.tuple #[.agg #[.int .i64 R0.n, .int .i64 R0.b, .int .i64 R0.t], .bool R1]) ∧ Below w.heap.size w w') ∧ Hid (∀ (b off cap : Nat) (w : World), RowRt w.heap.size w (some ⟨b, off, none⟩) ns → Calls Try.prog 38 #[.slice (some ⟨b, off, none⟩) ns.length cap, .int .i64 k1] w fun e w' => e = .returned (.tuple #[.agg #[.int .i64 R0.n, .int .i64 R0.b, .int .i64 R0.t], .bool R1]) ∧ Below w.heap.size w w') :=
    ⟨bestR ns k1, bestB ns k1, fun b off cap w hr => specRoute_any _ cap ns k1 w hl hr, fun b off cap w hr => implRoute_any _ cap ns k1 w hl HF.out w1 hr⟩
  have HB0 : Hid (Below w.heap.size w w) := Below.refl _ _
  go_enter Try.func15, Try.ntmps15
  go_wp2_with fail
  refine (szRouteS_any a0 ns.length cp _ hl).mono ?_
  rintro e wz ⟨rfl, rfl⟩
  go_wp2_with fail
  refine (toRouteS_any a0 cp ns w hl I0.all).mono ?_
  rintro e w1 ⟨v, rfl, ⟨g1, rfl⟩, ho, hb⟩
  have hs1 := hb.size
  have I1 := I0.next hb
  have HB1 : Hid (Below w.heap.size w w1) := HB0.out.trans (hb.mono HB0.out.size)
  clear I0 HB0
  have OV1 := OwnRtZ.made ho
  clear ho hb
  go_wp2_with fail
  refine (HS.out g1 0 ns.length w1 OV1.rowAt).mono ?_
  rintro e w2m ⟨rfl, hbm⟩
  have hb : Below w1.heap.size w1 (w2m.alloc (.cells #[.int .i64 R0.n, .int .i64 R0.b, .int .i64 R0.t] 44)) := hbm.alloc hbm.size _
  have OW2 : BxRt w2m.heap.size R0 (w2m.alloc (.cells #[.int .i64 R0.n, .int .i64 R0.b, .int .i64 R0.t] 44)) := BxRt.made
  have I2 := I1.next hb
  have OV2 := OV1.next hb
  have HB2 : Hid (Below w.heap.size w (w2m.alloc (.cells #[.int .i64 R0.n, .int .i64 R0.b, .int .i64 R0.t] 44))) := HB1.out.trans (hb.mono HB1.out.size)
  clear hb hbm I1 OV1 HB1
  go_wp2_with fail
  generalize w2m.alloc (.cells #[.int .i64 R0.n, .int .i64 R0.b, .int .i64 R0.t] 44) = w2 at HB2 OW2 I2 OV2 ⊢
  generalize w2m.heap.size = bOW at OW2 ⊢
  clear OV2 HS
  refine (toRouteS_any a0 cp ns w2 hl I2.all).mono ?_
  rintro e w3 ⟨v, rfl, ⟨g3, rfl⟩, ho, hb⟩
  have hs3 := hb.size
  have I3 := I2.next hb
  have OW3 := OW2.next hb
  have HB3 : Hid (Below w.heap.size w w3) := HB2.out.trans (hb.mono HB2.out.size)
  clear I2 OW2 HB2
  have OX3 := OwnRtZ.made ho
  clear ho hb
  go_wp2_with fail
  refine (HI.out g3 0 ns.length w3 OX3.rowAt).mono ?_
  rintro e w4m ⟨rfl, hbm⟩
  have hb : Below w3.heap.size w3 (w4m.alloc (.cells #[.int .i64 R0.n, .int .i64 R0.b, .int .i64 R0.t] 44)) := hbm.alloc hbm.size _
  have OG4 : BxRt w4m.heap.size R0 (w4m.alloc (.cells #[.int .i64 R0.n, .int .i64 R0.b, .int .i64 R0.t] 44)) := BxRt.made
  have I4 := I3.next hb
  have OW4 := OW3.next hb
  have OX4 := OX3.next hb
  have HB4 : Hid (Below w.heap.size w (w4m.alloc (.cells #[.int .i64 R0.n, .int .i64 R0.b, .int .i64 R0.t] 44))) := HB3.out.trans (hb.mono HB3.out.size)
  clear hb hbm I3 OW3 OX3 HB3
  have y0 := OW4.c0
  have y1 := OW4.c1
  have y2 := OW4.c2
  have z0 := OG4.c0
  have z1 := OG4.c1
  have z2 := OG4.c2
  go_wp2_with fail
  clear y0 z0 y1 z1 y2 z2
  generalize w4m.alloc (.cells #[.int .i64 R0.n, .int .i64 R0.b, .int .i64 R0.t] 44) = w4 at HB4 OG4 I4 OW4 OX4 ⊢
  generalize w4m.heap.size = bOG at OG4 ⊢
  refine (eqRoute_any R0 R0 _).mono ?_
  rintro e w5 ⟨rfl, hb⟩
  have I5 := I4.next hb
  have OW5 := OW4.next hb
  have OX5 := OX4.next hb
  have OG5 := OG4.next hb
  have HB5 : Hid (Below w.heap.size w w5) := HB4.out.trans (hb.mono HB4.out.size)
  clear I4 OW4 OX4 OG4 HB4
  clear hb
  rw [decide_eq_true (rfl : R0 = R0)]
  have hR1 : (R1 != R1) = false := by simp
  go_wp2_with fail
  refine (toRouteS_any a0 cp ns w5 hl I5.all).mono ?_
  rintro e w6 ⟨v, rfl, ⟨g6, rfl⟩, ho, hb⟩
  have hs6 := hb.size
  have I6 := I5.next hb
  have OW6 := OW5.next hb
  have OX6 := OX5.next hb
  have OG6 := OG5.next hb
  have HB6 : Hid (Below w.heap.size w w6) := HB5.out.trans (hb.mono HB5.out.size)
  clear I5 OW5 OX5 OG5 HB5
  have OZ6 := OwnRtZ.made ho
  clear ho hb
  go_wp2_with fail
  refine (eqRouteS_same _ _ _ _ _ w6 (by omega) OX6.rowAt OZ6.rowAt).mono ?_
  rintro e w7 ⟨rfl, hb⟩
  have I7 := I6.next hb
  have OW7 := OW6.next hb
  have OX7 := OX6.next hb
  have OG7 := OG6.next hb
  have OZ7 := OZ6.next hb
  have HB7 : Hid (Below w.heap.size w w7) := HB6.out.trans (hb.mono HB6.out.size)
  clear I6 OW6 OX6 OG6 OZ6 HB6
  clear hb
  clear OZ7
  go_wp2
  go_ret
  exact ⟨rfl, HB7.out⟩

theorem laidOut : laidOutB Try.prog = true := by kernel_rfl
set_option maxRecDepth 100000 in
theorem lifted (os : Os) (started : os.Started) (H : Type) (enc : TypeId × Value → H) :
    ReturnsInHanded {} Try.checked os 15 .any (Rows.fnExactRouteOfSpec.pre6 enc Try.prog Try.f15 Rows.fnExactRouteOfRow.domain false) (Rows.fnExactRouteOfSpec.post enc Try.prog Try.f15 false true false false) := by
  refine returnsInHanded_of_change (C := Try.checked) own started (by kernel_rfl) Try.func15
    (ChangeSpec.witness6 (enc := enc) (C := Try.checked) false ⟨#[], #[.slice none 0 0, .int .i64 0], []⟩ 8 (by kernel_rfl) (by kernel_rfl) (by kernel_rfl) (by kernel_rfl)) ?_
  intro W base args ds gs before hval0 hW hcnd _
  have hval : ∀ (j : Nat) t v, Try.f15.params[j]? = some t → args[j]? = some v → Value.okWide Try.prog W .any base t v := hval0
  have hW' := hW
  obtain ⟨p, q, hA0, hV, rfl, hfz, hnd⟩ := hW
  have hA : DataW.TrodAll enc Try.prog W 0 (fun _ => true) true Try.f15.params.toList args.toList ds p := hA0
  rw [Try.params15] at hA hval
  obtain ⟨v0, vs0, d0, ds0, p0, q0, hargs, rfl, rfl, h0, r0⟩ := trodAll_cons hA
  obtain ⟨v1, vs1, d1, ds1, p1, q1, rfl, rfl, rfl, h1, r1⟩ := trodAll_cons r0
  obtain ⟨rfl, rfl, rfl⟩ := trodAll_nil r1
  obtain rfl : args = #[v0, v1] := by cases args; simp_all
  obtain ⟨rfl, rfl⟩ := trodVars_none hV
  have k0 := h0
  have lt0 : ∀ x ∈ p0, x.block < W.heap.size := by obtain ⟨m, hm⟩ := k0; exact DataW.trod_lt m _ _ _ hm
  obtain ⟨a0, len0, c0, rfl⟩ := okWide_slice Try.underlying79 (hval 0 79 v0 rfl rfl)
  obtain ⟨n0, rfl, w0, rn0, f0⟩ := rts_of h0
  obtain ⟨a1, rfl, rfl, rfl, w1⟩ := open_int Try.underlying3 (hval 1 3 v1 rfl rfl) h1
  clear hA0 hval0
  refine (walk a0 c0 n0 a1 w0 f0 w1 W rn0).mono fun e W' ⟨he, bel⟩ => ?_
  subst he
  exact ⟨_, rfl, _, _, _, [], _, [], hW', trodAll_mk1 (shut_bool Try.underlying4 _), (trodAll_cons_mk (Below.trod laidOut (by kernel_rfl) (of_decide_eq_true (by kernel_rfl)) k0 bel lt0) (trodAll_cons_mk (shut_int Try.underlying3 w1) trodAll_mk0)), rfl, bel.frame _, fun h => by cases h⟩

theorem over : Rows.fnExactRouteOfRow.holds Try.pinned (OpenSpec.ofChange Rows.fnExactRouteOfSpec) :=
  OpenClaim.holds_of_wide 15 Try.f15 rfl rfl rfl rfl rfl rfl rfl ⟨rfl, rfl, rfl, rfl, rfl⟩ rfl rfl rfl rfl rfl (by kernel_rfl) Try.func15 (by kernel_rfl)
    (of_decide_eq_true (by kernel_rfl)) (by unfold Func.isWrapper; first | (rw [if_pos (by decide +kernel)]; kernel_rfl) | (rw [if_neg (by decide +kernel)]; exact ⟨rfl, rfl⟩))
    (fun os started H enc _ => lifted os started H enc)
end fnExactRouteOf

theorem fnExactRouteOf_holds : Rows.FnExactRouteOfSaid := fnExactRouteOf.over
#print axioms fnExactRouteOf_holds
end Go.Proofs.Ytclnhjkmhemebaa
