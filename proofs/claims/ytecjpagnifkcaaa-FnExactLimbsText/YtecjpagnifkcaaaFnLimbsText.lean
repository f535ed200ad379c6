/- For all numbers of limbs, right or not: LimbsText of the program answers as the specification's LimbsText does, writes into no argument, keeps nothing of one, owns its answer's memory; the argument reads as before. No condition. -/
import Derived.Test.YtecjpagnifkcaaaRows
import Derived.Test.YtecjpagnifkcaaaLawL
import Derived.Test.YtecjpagnifkcaaaStx25
import Derived.WalkKit
import Derived.ProofKit
import Derived.OpenShut
import Derived.ShutString
import Derived.ChangeOld
import Derived.PlainAid
import Derived.Deep.RegionHeld3
namespace Go.Proofs.Ytecjpagnifkcaaa
namespace fnExactLimbsText
open Go.ChangeShapes Go.WideShapes Go.ChangeAt Go.RowKit Go.PlainAid
open Go.ChangeMaps (open_string shut_string)
set_option linter.unusedVariables false

theorem own : ownKnob Try.prog.godebug = none := by kernel_rfl

set_option maxHeartbeats 3200000 in
set_option maxRecDepth 20000 in
theorem walk (a0 : Option Addr) (c0 : Nat) (n0 : List Int) (w0 : n0.length ≤ maxLen) (f0 : ∀ x ∈ n0, -9223372036854775808 ≤ x ∧ x ≤ 9223372036854775807) (w : World) (rn0 : RowI w.heap.size w a0 n0) :
    Calls Try.prog 7 #[.agg #[.slice a0 n0.length c0]] w fun e w' => e = .returned (.bool true) ∧ Below w.heap.size w w' := by
  have HF : Hid (∀ x ∈ n0, -9223372036854775808 ≤ x ∧ x ≤ 9223372036854775807) := f0
  clear f0
  have hB0 : Below w.heap.size w (w.alloc (.cells #[.slice a0 n0.length c0] 30)) := below_alloc _ _
  by_cases h0 : n0.length ≤ 1048576
  rotate_left
  · have hl0 : (1048576 : Int) - (n0.length : Int) < 0 := by omega
    have H : Hid _ := szLimbs_big a0 n0.length c0 1048576 (w.alloc (.cells #[.slice a0 n0.length c0] 30)) (by omega) (by omega) w0
    have HB : Hid _ := hB0
    clear w0 hB0 rn0
    go_enter Try.func7, Try.ntmps7
    go_wp2_with fail
    refine Calls.mono H.out ?_
    rintro e w1 ⟨rfl, hb⟩
    go_wp2
    go_ret
    exact ⟨rfl, HB.out.trans (hb.mono HB.out.size)⟩
  clear w0
  obtain ⟨R0, HS, HI⟩ : ∃ (R0 : ByteArray), Hid (∀ (a : Option Addr) (cap : Nat) (w1 : World), AddrN a cap → RowI w1.heap.size w1 a n0 → Calls Try.prog 22 #[.agg #[.slice a n0.length cap]] w1 fun e w' => e = .returned (.string R0) ∧ Below w1.heap.size w1 w') ∧ Hid (∀ (a : Option Addr) (cap : Nat) (w1 : World), AddrN a cap → RowI w1.heap.size w1 a n0 → Calls Try.prog 23 #[.agg #[.slice a n0.length cap]] w1 fun e w' => e = .returned (.string R0) ∧ Below w1.heap.size w1 w') := ⟨txtP n0, fun a cap w1 ha hr => specLimbsText_any a cap n0 w1 hr h0, fun a cap w1 ha hr => implLimbsText_any a cap n0 w1 hr⟩
  have A0 : VarZ w.heap.size (.slice a0 n0.length c0) (w.alloc (.cells #[.slice a0 n0.length c0] 30)) := VarZ.made
  have I0 : InI w.heap.size a0 n0 (w.alloc (.cells #[.slice a0 n0.length c0] 30)) := ⟨hB0.size, rn0.later hB0⟩
  have HB : Hid (Below w.heap.size w (w.alloc (.cells #[.slice a0 n0.length c0] 30))) := hB0
  clear hB0 rn0
  have hl0 : ¬ (1048576 : Int) - (n0.length : Int) < 0 := by omega
  go_enter Try.func7, Try.ntmps7
  have eA0 := A0.c
  go_wp2_with fail
  generalize (w.alloc (.cells #[.slice a0 n0.length c0] 30)) = z0 at A0 I0 HB eA0 ⊢
  refine (szLimbs_any a0 n0.length c0 1048576 z0 (by omega) (by omega)).mono ?_
  have hst : w.heap.size < z0.heap.size := A0.lt
  rintro e z1 ⟨rfl, hb⟩
  clear eA0
  replace A0 := A0.next hb
  replace I0 := I0.next hb
  replace HB : Hid (Below w.heap.size w z1) := HB.out.trans (hb.mono HB.out.size)
  have hsz1 := hb.size
  clear hb
  have eA0 := A0.c
  go_wp2_with fail
  refine (toLimbs_any a0 c0 n0 z1 h0 I0.all).mono ?_
  rintro e z2 ⟨v, rfl, ho, hb⟩
  obtain ⟨qV, kV, rfl, hAV, -⟩ := ho.row
  have OV := OwnZ.made ho
  clear ho
  clear eA0
  replace A0 := A0.next hb
  replace I0 := I0.next hb
  replace HB : Hid (Below w.heap.size w z2) := HB.out.trans (hb.mono HB.out.size)
  have hsz2 := hb.size
  clear hb
  have eA0 := A0.c
  go_wp2_with fail
  refine (HS.out _ _ z2 hAV OV.rowAt).mono ?_
  rintro e z3 ⟨rfl, hb⟩
  clear eA0
  replace A0 := A0.next hb
  replace I0 := I0.next hb
  replace OV := OV.next hb
  replace HB : Hid (Below w.heap.size w z3) := HB.out.trans (hb.mono HB.out.size)
  have hsz3 := hb.size
  clear hb
  clear OV
  have eA0 := A0.c
  go_wp2_with fail
  refine (toLimbs_any a0 c0 n0 z3 h0 I0.all).mono ?_
  rintro e z4 ⟨v, rfl, ho, hb⟩
  obtain ⟨qX, kX, rfl, hAX, -⟩ := ho.row
  have OX := OwnZ.made ho
  clear ho
  clear eA0
  replace A0 := A0.next hb
  replace I0 := I0.next hb
  replace HB : Hid (Below w.heap.size w z4) := HB.out.trans (hb.mono HB.out.size)
  have hsz4 := hb.size
  clear hb
  have hb : Below z4.heap.size z4 (z4.alloc (.cells #[.slice qX n0.length kX] 24)) := below_alloc _ _
  have BX : VarZ z4.heap.size (.slice qX n0.length kX) (z4.alloc (.cells #[.slice qX n0.length kX] 24)) := VarZ.made
  replace A0 := A0.next hb
  replace I0 := I0.next hb
  replace OX := OX.next hb
  replace HB : Hid (Below w.heap.size w (z4.alloc (.cells #[.slice qX n0.length kX] 24))) := HB.out.trans (hb.mono HB.out.size)
  have hgtBX : z4.heap.size < (z4.alloc (.cells #[.slice qX n0.length kX] 24)).heap.size := BX.lt
  clear hb
  have eA0 := A0.c
  have eBX := BX.c
  go_wp2_with fail
  generalize (z4.alloc (.cells #[.slice qX n0.length kX] 24)) = z5 at HB hgtBX A0 I0 OX BX eA0 eBX ⊢
  refine (HI.out _ _ z5 hAX OX.rowAt).mono ?_
  rintro e z6 ⟨rfl, hb⟩
  clear eA0 eBX
  replace A0 := A0.next hb
  replace I0 := I0.next hb
  replace OX := OX.next hb
  replace BX := BX.next hb
  replace HB : Hid (Below w.heap.size w z6) := HB.out.trans (hb.mono HB.out.size)
  have hsz6 := hb.size
  clear hb
  have eA0 := A0.c
  have eBX := BX.c
  go_wp2_with fail
  have HBd : Hid (Below w.heap.size w z6.drew) := HB.out.drew
  have hI5 : RowI z6.drew.heap.size z6.drew a0 n0 := I0.all
  have hO5 : RowI z6.drew.heap.size z6.drew qX n0 := OX.rowAt
  have hX5 : z4.heap.size < z6.drew.heap.size := BX.lt
  have hA5 : w.heap.size < z6.drew.heap.size := A0.lt
  have hXc := eBX
  have hAc := eA0
  go_region_held3 (fun w' => w'.cell? ⟨z4.heap.size, 0, none⟩ = some (.slice qX n0.length kX) ∧ w'.cell? ⟨w.heap.size, 0, none⟩ = some (.slice a0 n0.length c0)) (first | exact ⟨eBX, eA0⟩ | assumption | exact two_keptZ (by assumption) hX5 hA5 hb6 | exact two_keptZ (by assumption) hX6 hA6 hb7) (first | (go_at_call 16; refine (toLimbs_any a0 c0 n0 _ h0 ?_).mono ?_; exact hI5; rintro e y6 ⟨v6, rfl, ho6, hb6⟩; obtain ⟨q6, k6, rfl, hA6', hr6⟩ := ho6.row; have hX6 := Nat.lt_of_lt_of_le hX5 hb6.size; have hA6 := Nat.lt_of_lt_of_le hA5 hb6.size) | (go_at_call 11; refine (eqLimbs_same qX q6 kX k6 n0 _ ?_ ?_ ?_).mono ?_; omega; exact hO5.grown hb6; exact hr6; rintro e y7 ⟨rfl, hb7⟩))
  have hb : Below z6.heap.size z6 y7 := by have h := hb6.trans (hb7.mono hb6.size); exact ⟨h.os, h.tape, h.output, h.size, h.block⟩
  replace A0 := A0.next (w := z6) (w' := y7) hb
  replace I0 := I0.next (w := z6) (w' := y7) hb
  replace OX := OX.next (w := z6) (w' := y7) hb
  replace BX := BX.next (w := z6) (w' := y7) hb
  replace HB : Hid (Below w.heap.size w y7) := HB.out.trans (hb.mono HB.out.size)
  have hszy := hb.size
  clear hb hb6 hb7 HBd hI5 hO5 hX5 hA5 hXc hAc ho6 hr6 hX6 hA6 eA0 eBX
  generalize hyy : y7 = z7 at HB hszy A0 I0 OX BX ⊢
  clear hyy
  go_wp2
  go_ret
  exact ⟨rfl, HB.out⟩

theorem laidOut : laidOutB Try.prog = true := by kernel_rfl
set_option maxRecDepth 100000 in
theorem lifted (os : Os) (started : os.Started) (H : Type) (enc : TypeId × Value → H) :
    ReturnsInHanded {} Try.checked os 7 .any (Rows.fnExactLimbsTextSpec.pre6 enc Try.prog Try.f7 Rows.fnExactLimbsTextRow.domain false) (Rows.fnExactLimbsTextSpec.post enc Try.prog Try.f7 false true false false) := by
  refine returnsInHanded_of_change (C := Try.checked) own started (by kernel_rfl) Try.func7
    (ChangeSpec.witness6 (enc := enc) (C := Try.checked) false ⟨#[], #[.agg #[.slice none 0 0]], []⟩ 8 (by kernel_rfl) (by kernel_rfl) (by kernel_rfl) (by kernel_rfl)) ?_
  intro W base args ds gs before hval0 hW hcnd _
  have hval : ∀ (j : Nat) t v, Try.f7.params[j]? = some t → args[j]? = some v → Value.okWide Try.prog W .any base t v := hval0
  have hW' := hW
  obtain ⟨p, q, hA0, hV, rfl, hfz, hnd⟩ := hW
  have hA : DataW.TrodAll enc Try.prog W 0 (fun _ => true) true Try.f7.params.toList args.toList ds p := hA0
  rw [Try.params7] at hA hval
  obtain ⟨v0, vs0, d0, ds0, p0, q0, hargs, rfl, rfl, h0, r0⟩ := trodAll_cons hA
  obtain ⟨rfl, rfl, rfl⟩ := trodAll_nil r0
  obtain rfl : args = #[v0] := by cases args; simp_all
  obtain ⟨rfl, rfl⟩ := trodVars_none hV
  have k0 := h0
  have lt0 : ∀ x ∈ p0, x.block < W.heap.size := by obtain ⟨m, hm⟩ := k0; exact DataW.trod_lt m _ _ _ hm
  obtain ⟨a0, c0, n0, rfl, w0, rn0, f0⟩ := box_of (hval 0 30 v0 rfl rfl) h0
  clear hA0 hval0
  refine (walk a0 c0 n0 w0 f0 W rn0).mono fun e W' ⟨he, bel⟩ => ?_
  subst he
  exact ⟨_, rfl, _, _, _, [], _, [], hW', trodAll_mk1 (shut_bool Try.underlying4 _), (trodAll_cons_mk (Below.trod laidOut (by kernel_rfl) (of_decide_eq_true (by kernel_rfl)) k0 bel lt0) trodAll_mk0), rfl, bel.frame _, fun h => by cases h⟩

theorem over : Rows.fnExactLimbsTextRow.holds Try.pinned (OpenSpec.ofChange Rows.fnExactLimbsTextSpec) :=
  OpenClaim.holds_of_wide 7 Try.f7 rfl rfl rfl rfl rfl rfl rfl ⟨rfl, rfl, rfl, rfl, rfl⟩ rfl rfl rfl rfl rfl (by kernel_rfl) Try.func7 (by kernel_rfl)
    (of_decide_eq_true (by kernel_rfl)) (by unfold Func.isWrapper; first | (rw [if_pos (by decide +kernel)]; kernel_rfl) | (rw [if_neg (by decide +kernel)]; exact ⟨rfl, rfl⟩))
    (fun os started H enc _ => lifted os started H enc)
end fnExactLimbsText

theorem fnExactLimbsText_holds : Rows.FnExactLimbsTextSaid := fnExactLimbsText.over
#print axioms fnExactLimbsText_holds
end Go.Proofs.Ytecjpagnifkcaaa
