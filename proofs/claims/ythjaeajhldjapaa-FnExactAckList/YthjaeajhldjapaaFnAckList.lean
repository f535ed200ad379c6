/- For all lists of numbers: AckList of the program answers as the specification's AckList does, writes into no argument, keeps nothing of one, owns its answer's memory; the arguments read as before. -/
import Derived.Test.YthjaeajhldjapaaRows
import Derived.Test.YthjaeajhldjapaaLawI
import Derived.Test.YthjaeajhldjapaaAck31
import Derived.WalkKit
import Derived.ProofKit
import Derived.OpenShut
import Derived.ShutString
import Derived.ChangeOld
import Derived.PlainAid
namespace Go.Proofs.Ythjaeajhldjapaa
namespace fnExactAckList
open Go.ChangeShapes Go.WideShapes Go.ChangeAt Go.RowKit Go.PlainAid
open Go.ChangeMaps (open_string shut_string)
set_option linter.unusedVariables false

theorem own : ownKnob Try.prog.godebug = none := by kernel_rfl

set_option maxHeartbeats 3200000 in
set_option maxRecDepth 20000 in
theorem walk (a0 : Option Addr) (c0 : Nat) (n0 : List Int) (w0 : n0.length ≤ maxLen) (f0 : ∀ x ∈ n0, -9223372036854775808 ≤ x ∧ x ≤ 9223372036854775807) (w : World) (rn0 : RowI w.heap.size w a0 n0) :
    Calls Try.prog 3 #[.slice a0 n0.length c0] w fun e w' => e = .returned (.bool true) ∧ Below w.heap.size w w' := by
  have I0 : InI w.heap.size a0 n0 w := ⟨Nat.le_refl _, rn0⟩
  have HF : Hid (∀ x ∈ n0, -9223372036854775808 ≤ x ∧ x ≤ 9223372036854775807) := f0
  clear rn0 f0
  by_cases h0 : n0.length ≤ 1048576
  rotate_left
  · have hs' : (1048576 : Int) < (n0.length : Int) := by omega
    clear I0
    go_enter Try.func3, Try.ntmps3
    go_wp2
    go_ret
    exact ⟨rfl, Below.refl _ _⟩
  have hq0 : ¬ (1048576 : Int) < (n0.length : Int) := by omega
  clear w0
  have HB0 : Hid (Below w.heap.size w w) := Below.refl _ _
  obtain ⟨R, HS, HI, HV⟩ : ∃ R : Value, Hid (∀ (a : Option Addr) (cap : Nat) (w1 : World), Below w.heap.size w w1 → AddrN a cap → RowI w1.heap.size w1 a n0 → Calls Try.prog 5 #[.slice a n0.length cap] w1 fun e w' => e = .returned (R) ∧ Below w1.heap.size w1 w') ∧ Hid (∀ (a : Option Addr) (cap : Nat) (w1 : World), Below w.heap.size w w1 → AddrN a cap → RowI w1.heap.size w1 a n0 → Calls Try.prog 7 #[.slice a n0.length cap] w1 fun e w' => e = .returned (R) ∧ Below w1.heap.size w1 w') ∧ Hid (R = .tuple #[.string (ackT n0), .bool (ackOk n0)]) :=
    ⟨.tuple #[.string (ackT n0), .bool (ackOk n0)], fun a cap w1 hb ha hr => specAck_any a cap n0 w1 h0 hr, fun a cap w1 hb ha hr => implAck_any a cap n0 w1 h0 hr, rfl⟩
  go_enter Try.func3, Try.ntmps3
  go_wp2_with fail
  refine (toIntS_any a0 c0 n0 w h0 I0.all).mono ?_
  rintro e w1 ⟨v, rfl, ho, hb⟩
  obtain ⟨x1, y1, rfl, hA1, -⟩ := ho.row
  have hs1 := hb.size
  have I1 := I0.next hb
  have HB1 : Hid (Below w.heap.size w w1) := HB0.out.trans (hb.mono HB0.out.size)
  clear I0 HB0
  have OV1 := OwnZ.made ho
  clear ho hb
  rw [HV.out] at HS HI
  have hBR0 : ((ackOk n0) != (ackOk n0)) = false := by simp
  go_wp2_with fail
  refine Calls.mono (HS.out _ _ w1 HB1.out hA1 OV1.rowAt) ?_
  rintro e w2 ⟨rfl, hb⟩
  have I2 := I1.next hb
  have OV2 := OV1.next hb
  have HB2 : Hid (Below w.heap.size w w2) := HB1.out.trans (hb.mono HB1.out.size)
  clear I1 OV1 HB1
  clear hb OV2
  go_wp2_with fail
  refine (toIntS_any a0 c0 n0 w2 h0 I2.all).mono ?_
  rintro e w3 ⟨v, rfl, ho, hb⟩
  obtain ⟨x3, y3, rfl, hA3, -⟩ := ho.row
  have hs3 := hb.size
  have I3 := I2.next hb
  have HB3 : Hid (Below w.heap.size w w3) := HB2.out.trans (hb.mono HB2.out.size)
  clear I2 HB2
  have OX3 := OwnZ.made ho
  clear ho hb
  go_wp2_with fail
  refine Calls.mono (HI.out _ _ w3 HB3.out hA3 OX3.rowAt) ?_
  rintro e w4 ⟨rfl, hb⟩
  have I4 := I3.next hb
  have OX4 := OX3.next hb
  have HB4 : Hid (Below w.heap.size w w4) := HB3.out.trans (hb.mono HB3.out.size)
  clear I3 OX3 HB3
  clear hb
  go_wp2_with fail
  refine (toIntS_any a0 c0 n0 w4 h0 I4.all).mono ?_
  rintro e w5 ⟨v, rfl, ho, hb⟩
  obtain ⟨x5, y5, rfl, hA5, -⟩ := ho.row
  have hs5 := hb.size
  have I5 := I4.next hb
  have OX5 := OX4.next hb
  have HB5 : Hid (Below w.heap.size w w5) := HB4.out.trans (hb.mono HB4.out.size)
  clear I4 OX4 HB4
  have OZ5 := OwnZ.made ho
  clear ho hb
  go_wp2_with fail
  refine (eqIntS_same _ _ _ _ _ w5 (by omega) OX5.rowAt OZ5.rowAt).mono ?_
  rintro e w6 ⟨rfl, hb⟩
  have I6 := I5.next hb
  have OX6 := OX5.next hb
  have OZ6 := OZ5.next hb
  have HB6 : Hid (Below w.heap.size w w6) := HB5.out.trans (hb.mono HB5.out.size)
  clear I5 OX5 OZ5 HB5
  clear hb
  go_wp2
  go_ret
  exact ⟨rfl, HB6.out⟩

theorem laidOut : laidOutB Try.prog = true := by kernel_rfl
set_option maxRecDepth 100000 in
theorem lifted (os : Os) (started : os.Started) (H : Type) (enc : TypeId × Value → H) :
    ReturnsInHanded {} Try.checked os 3 .any (Rows.fnExactAckListSpec.pre6 enc Try.prog Try.f3 Rows.fnExactAckListRow.domain false) (Rows.fnExactAckListSpec.post enc Try.prog Try.f3 false true false false) := by
  refine returnsInHanded_of_change (C := Try.checked) own started (by kernel_rfl) Try.func3
    (ChangeSpec.witness6 (enc := enc) (C := Try.checked) false ⟨#[], #[.slice none 0 0], []⟩ 8 (by kernel_rfl) (by kernel_rfl) (by kernel_rfl) (by kernel_rfl)) ?_
  intro W base args ds gs before hval0 hW hcnd _
  have hval : ∀ (j : Nat) t v, Try.f3.params[j]? = some t → args[j]? = some v → Value.okWide Try.prog W .any base t v := hval0
  have hW' := hW
  obtain ⟨p, q, hA0, hV, rfl, hfz, hnd⟩ := hW
  have hA : DataW.TrodAll enc Try.prog W 0 (fun _ => true) true Try.f3.params.toList args.toList ds p := hA0
  rw [Try.params3] at hA hval
  obtain ⟨v0, vs0, d0, ds0, p0, q0, hargs, rfl, rfl, h0, r0⟩ := trodAll_cons hA
  obtain ⟨rfl, rfl, rfl⟩ := trodAll_nil r0
  obtain rfl : args = #[v0] := by cases args; simp_all
  obtain ⟨rfl, rfl⟩ := trodVars_none hV
  have k0 := h0
  have lt0 : ∀ x ∈ p0, x.block < W.heap.size := by obtain ⟨m, hm⟩ := k0; exact DataW.trod_lt m _ _ _ hm
  obtain ⟨a0, len0, c0, rfl⟩ := okWide_slice Try.underlying22 (hval 0 22 v0 rfl rfl)
  obtain ⟨n0, rfl, w0, rn0, f0⟩ := ints_of h0
  clear hA0 hval0
  refine (walk a0 c0 n0 w0 f0 W rn0).mono fun e W' ⟨he, bel⟩ => ?_
  subst he
  exact ⟨_, rfl, _, _, _, [], _, [], hW', trodAll_mk1 (shut_bool Try.underlying4 _), (trodAll_cons_mk (Below.trod laidOut (by kernel_rfl) (of_decide_eq_true (by kernel_rfl)) k0 bel lt0) trodAll_mk0), rfl, bel.frame _, fun h => by cases h⟩

theorem over : Rows.fnExactAckListRow.holds Try.pinned (OpenSpec.ofChange Rows.fnExactAckListSpec) :=
  OpenClaim.holds_of_wide 3 Try.f3 rfl rfl rfl rfl rfl rfl rfl ⟨rfl, rfl, rfl, rfl, rfl⟩ rfl rfl rfl rfl rfl (by kernel_rfl) Try.func3 (by kernel_rfl)
    (of_decide_eq_true (by kernel_rfl)) (by unfold Func.isWrapper; first | (rw [if_pos (by decide +kernel)]; kernel_rfl) | (rw [if_neg (by decide +kernel)]; exact ⟨rfl, rfl⟩))
    (fun os started H enc _ => lifted os started H enc)
end fnExactAckList

theorem fnExactAckList_holds : Rows.FnExactAckListSaid := fnExactAckList.over
#print axioms fnExactAckList_holds
end Go.Proofs.Ythjaeajhldjapaa
