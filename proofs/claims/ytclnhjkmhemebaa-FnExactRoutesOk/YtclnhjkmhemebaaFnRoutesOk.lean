/- For every list: RoutesOk of the program answers as the specification's RoutesOk does, writes into no argument; and the arguments read as before. No condition. -/
import Derived.Test.YtclnhjkmhemebaaRows
import Derived.Test.YtclnhjkmhemebaaLawRt
import Derived.Test.YtclnhjkmhemebaaSpec16b
import Derived.Test.YtclnhjkmhemebaaImplR16
import Derived.WalkKit
import Derived.ProofKit
import Derived.OpenShut
import Derived.ShutString
import Derived.ChangeOld
import Derived.PlainAid
namespace Go.Proofs.Ytclnhjkmhemebaa
namespace fnExactRoutesOk
open Go.ChangeShapes Go.WideShapes Go.ChangeAt Go.RowKit Go.PlainAid
open Go.ChangeMaps (open_string shut_string)
set_option linter.unusedVariables false

theorem own : ownKnob Try.prog.godebug = none := by kernel_rfl

set_option maxHeartbeats 3200000 in
set_option maxRecDepth 20000 in
theorem walk (a0 : Option Addr) (cp : Nat) (ns : List Rt)  (w0 : ns.length ≤ maxLen) (f0 : ∀ y ∈ ns, y.Fits)  (w : World) (hr : RowRt w.heap.size w a0 ns) :
    Calls Try.prog 13 #[.slice a0 ns.length cp] w fun e w' => e = .returned (.bool true) ∧ Below w.heap.size w w' := by
  have HF : Hid (∀ y ∈ ns, y.Fits) := f0
  clear f0
  have I0 : InRt w.heap.size a0 ns w := ⟨Nat.le_refl _, hr⟩
  clear hr
  by_cases hl : ns.length ≤ 1048576
  rotate_left
  · have hl' : (1048576 : Int) - (ns.length : Int) < 0 := by omega
    have H : Hid _ := szRouteS_big a0 ns.length cp w (by omega) w0
    clear w0 I0
    go_enter Try.func13, Try.ntmps13
    go_wp2_with fail
    refine Calls.mono H.out ?_
    rintro e wz ⟨rfl, rfl⟩
    go_wp2
    go_ret
    exact ⟨rfl, Below.refl _ _⟩
  have hl' : ¬ (1048576 : Int) - (ns.length : Int) < 0 := by omega
  clear w0
  obtain ⟨R0, HS, HI⟩ : ∃ (R0 : Bool), Hid (∀ (b off cap : Nat) (w : World), ns.length ≤ cap → RowRt w.heap.size w (some ⟨b, off, none⟩) ns → Calls Try.prog 54 #[.slice (some ⟨b, off, none⟩) ns.length cap] w fun e w' => e = .returned (.bool R0) ∧ Below w.heap.size w w') ∧ Hid (∀ (b off cap : Nat) (w : World), ns.length ≤ cap → RowRt w.heap.size w (some ⟨b, off, none⟩) ns → Calls Try.prog 50 #[.slice (some ⟨b, off, none⟩) ns.length cap] w fun e w' => e = .returned (.bool R0) ∧ Below w.heap.size w w') :=
    ⟨rtsB ns, fun b off cap w hc hr => specRoutes_any _ cap ns w hl hr, fun b off cap w hc hr => implRoutes_any _ cap ns w hl hc HF.out hr⟩
  have HB0 : Hid (Below w.heap.size w w) := Below.refl _ _
  go_enter Try.func13, Try.ntmps13
  go_wp2_with fail
  refine (szRouteS_any a0 ns.length cp _ hl).mono ?_
  rintro e wz ⟨rfl, rfl⟩
  go_wp2_with fail
  refine (toRouteS_any a0 cp ns w hl I0.all).mono ?_
  rintro e w1 ⟨v, rfl, ⟨g1, rfl⟩, ho, hb⟩
  have hs1 := hb.size
  have I1 := I0.next hb
  have HB1 : Hid (Below w.heap.size w w1) := HB0.out.trans (hb.mono HB0.out.size)
  clear I0 HB0
  have OV1 := OwnRtZ.made ho
  clear ho hb
  go_wp2_with fail
  refine (HS.out g1 0 ns.length w1 (Nat.le_refl _) OV1.rowAt).mono ?_
  rintro e w2 ⟨rfl, hb⟩
  have I2 := I1.next hb
  have OV2 := OV1.next hb
  have HB2 : Hid (Below w.heap.size w w2) := HB1.out.trans (hb.mono HB1.out.size)
  clear I1 OV1 HB1
  clear hb
  clear OV2 HS
  go_wp2_with fail
  refine (toRouteS_any a0 cp ns w2 hl I2.all).mono ?_
  rintro e w3 ⟨v, rfl, ⟨g3, rfl⟩, ho, hb⟩
  have hs3 := hb.size
  have I3 := I2.next hb
  have HB3 : Hid (Below w.heap.size w w3) := HB2.out.trans (hb.mono HB2.out.size)
  clear I2 HB2
  have OX3 := OwnRtZ.made ho
  clear ho hb
  go_wp2_with fail
  refine (HI.out g3 0 ns.length w3 (Nat.le_refl _) OX3.rowAt).mono ?_
  rintro e w4 ⟨rfl, hb⟩
  have I4 := I3.next hb
  have OX4 := OX3.next hb
  have HB4 : Hid (Below w.heap.size w w4) := HB3.out.trans (hb.mono HB3.out.size)
  clear I3 OX3 HB3
  clear hb
  go_wp2_with fail
  refine (toRouteS_any a0 cp ns w4 hl I4.all).mono ?_
  rintro e w5 ⟨v, rfl, ⟨g5, rfl⟩, ho, hb⟩
  have hs5 := hb.size
  have I5 := I4.next hb
  have OX5 := OX4.next hb
  have HB5 : Hid (Below w.heap.size w w5) := HB4.out.trans (hb.mono HB4.out.size)
  clear I4 OX4 HB4
  have OZ5 := OwnRtZ.made ho
  clear ho hb
  go_wp2_with fail
  refine (eqRouteS_same _ _ _ _ _ w5 (by omega) OX5.rowAt OZ5.rowAt).mono ?_
  rintro e w6 ⟨rfl, hb⟩
  have I6 := I5.next hb
  have OX6 := OX5.next hb
  have OZ6 := OZ5.next hb
  have HB6 : Hid (Below w.heap.size w w6) := HB5.out.trans (hb.mono HB5.out.size)
  clear I5 OX5 OZ5 HB5
  clear hb
  clear OZ6
  go_wp2
  go_ret
  exact ⟨rfl, HB6.out⟩

theorem laidOut : laidOutB Try.prog = true := by kernel_rfl
set_option maxRecDepth 100000 in
theorem lifted (os : Os) (started : os.Started) (H : Type) (enc : TypeId × Value → H) :
    ReturnsInHanded {} Try.checked os 13 .any (Rows.fnExactRoutesOkSpec.pre6 enc Try.prog Try.f13 Rows.fnExactRoutesOkRow.domain false) (Rows.fnExactRoutesOkSpec.post enc Try.prog Try.f13 false true false false) := by
  refine returnsInHanded_of_change (C := Try.checked) own started (by kernel_rfl) Try.func13
    (ChangeSpec.witness6 (enc := enc) (C := Try.checked) false ⟨#[], #[.slice none 0 0], []⟩ 8 (by kernel_rfl) (by kernel_rfl) (by kernel_rfl) (by kernel_rfl)) ?_
  intro W base args ds gs before hval0 hW hcnd _
  have hval : ∀ (j : Nat) t v, Try.f13.params[j]? = some t → args[j]? = some v → Value.okWide Try.prog W .any base t v := hval0
  have hW' := hW
  obtain ⟨p, q, hA0, hV, rfl, hfz, hnd⟩ := hW
  have hA : DataW.TrodAll enc Try.prog W 0 (fun _ => true) true Try.f13.params.toList args.toList ds p := hA0
  rw [Try.params13] at hA hval
  obtain ⟨v0, vs0, d0, ds0, p0, q0, hargs, rfl, rfl, h0, r0⟩ := trodAll_cons hA
  obtain ⟨rfl, rfl, rfl⟩ := trodAll_nil r0
  obtain rfl : args = #[v0] := by cases args; simp_all
  obtain ⟨rfl, rfl⟩ := trodVars_none hV
  have k0 := h0
  have lt0 : ∀ x ∈ p0, x.block < W.heap.size := by obtain ⟨m, hm⟩ := k0; exact DataW.trod_lt m _ _ _ hm
  obtain ⟨a0, len0, c0, rfl⟩ := okWide_slice Try.underlying79 (hval 0 79 v0 rfl rfl)
  obtain ⟨n0, rfl, w0, rn0, f0⟩ := rts_of h0
  clear hA0 hval0
  refine (walk a0 c0 n0 w0 f0 W rn0).mono fun e W' ⟨he, bel⟩ => ?_
  subst he
  exact ⟨_, rfl, _, _, _, [], _, [], hW', trodAll_mk1 (shut_bool Try.underlying4 _), (trodAll_cons_mk (Below.trod laidOut (by kernel_rfl) (of_decide_eq_true (by kernel_rfl)) k0 bel lt0) trodAll_mk0), rfl, bel.frame _, fun h => by cases h⟩

theorem over : Rows.fnExactRoutesOkRow.holds Try.pinned (OpenSpec.ofChange Rows.fnExactRoutesOkSpec) :=
  OpenClaim.holds_of_wide 13 Try.f13 rfl rfl rfl rfl rfl rfl rfl ⟨rfl, rfl, rfl, rfl, rfl⟩ rfl rfl rfl rfl rfl (by kernel_rfl) Try.func13 (by kernel_rfl)
    (of_decide_eq_true (by kernel_rfl)) (by unfold Func.isWrapper; first | (rw [if_pos (by decide +kernel)]; kernel_rfl) | (rw [if_neg (by decide +kernel)]; exact ⟨rfl, rfl⟩))
    (fun os started H enc _ => lifted os started H enc)
end fnExactRoutesOk

theorem fnExactRoutesOk_holds : Rows.FnExactRoutesOkSaid := fnExactRoutesOk.over
#print axioms fnExactRoutesOk_holds
end Go.Proofs.Ytclnhjkmhemebaa
