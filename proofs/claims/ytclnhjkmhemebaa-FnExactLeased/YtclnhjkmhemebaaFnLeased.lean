/- For every list and cid: Leased of the program answers as the specification's Leased does, writes into no argument, keeps nothing of one, owns its answer's memory, behind another call too; and the arguments read as before. No condition. -/
import Derived.Test.YtclnhjkmhemebaaRows
import Derived.Test.YtclnhjkmhemebaaLawLs
import Derived.Test.YtclnhjkmhemebaaSpec15c
import Derived.Test.YtclnhjkmhemebaaImpl15
import Derived.WalkKit
import Derived.ProofKit
import Derived.OpenShut
import Derived.ShutString
import Derived.ChangeOld
import Derived.PlainAid
namespace Go.Proofs.Ytclnhjkmhemebaa
namespace fnExactLeased
open Go.ChangeShapes Go.WideShapes Go.ChangeAt Go.RowKit Go.PlainAid
open Go.ChangeMaps (open_string shut_string)
set_option linter.unusedVariables false

theorem own : ownKnob Try.prog.godebug = none := by kernel_rfl

set_option maxHeartbeats 3200000 in
set_option maxRecDepth 20000 in
theorem walk (a0 : Option Addr) (cp : Nat) (ns : List Ls) (k1 : Int) (w0 : ns.length ≤ maxLen) (f0 : ∀ y ∈ ns, y.Fits) (w1 : (Lit.int .i64 k1).wf = true) (w : World) (hr : RowLs w.heap.size w a0 ns) :
    Calls Try.prog 5 #[.slice a0 ns.length cp, .int .i64 k1] w fun e w' => e = .returned (.bool true) ∧ Below w.heap.size w w' := by
  have HF : Hid (∀ y ∈ ns, y.Fits) := f0
  clear f0
  have I0 : InLs w.heap.size a0 ns w := ⟨Nat.le_refl _, hr⟩
  clear hr
  by_cases hl : ns.length ≤ 1048576
  rotate_left
  · have hl' : (1048576 : Int) - (ns.length : Int) < 0 := by omega
    have H : Hid _ := szLeaseS_big a0 ns.length cp w (by omega) w0
    clear w0 I0
    go_enter Try.func5, Try.ntmps5
    go_wp2_with fail
    refine Calls.mono H.out ?_
    rintro e wz ⟨rfl, rfl⟩
    go_wp2
    go_ret
    exact ⟨rfl, Below.refl _ _⟩
  have hl' : ¬ (1048576 : Int) - (ns.length : Int) < 0 := by omega
  clear w0
  obtain ⟨R0, R1, R2, HS, HI, HL⟩ : ∃ (R0 : List Ls) (R1 : Int) (R2 : Bool), Hid (∀ (b off cap : Nat) (w : World), RowLs w.heap.size w (some ⟨b, off, none⟩) ns → Calls Try.prog 22 #[.slice (some ⟨b, off, none⟩) ns.length cap, .int .i64 k1] w fun e w' => ∃ v, e = .returned (.tuple #[v, .int .i64 R1, .bool R2]) ∧ OwnLs w.heap.size w' v R0 ∧ Below w.heap.size w w') ∧ Hid (∀ (b off cap : Nat) (w : World), RowLs w.heap.size w (some ⟨b, off, none⟩) ns → Calls Try.prog 19 #[.slice (some ⟨b, off, none⟩) ns.length cap, .int .i64 k1] w fun e w' => ∃ v, e = .returned (.tuple #[v, .int .i64 R1, .bool R2]) ∧ OwnLsC w.heap.size w' v R0 ∧ Below w.heap.size w w') ∧ Hid (R0.length ≤ 2097152) :=
    ⟨leaseL ns k1, leaseP ns k1, leaseB ns k1, fun b off cap w hr => specLeasedS_any b off cap ns k1 w hl hr, fun b off cap w hr => implLeased_any _ cap ns k1 w hl HF.out hr, leaseL_le hl⟩
  have HB0 : Hid (Below w.heap.size w w) := Below.refl _ _
  go_enter Try.func5, Try.ntmps5
  go_wp2_with fail
  refine (szLeaseS_any a0 ns.length cp _ hl).mono ?_
  rintro e wz ⟨rfl, rfl⟩
  go_wp2_with fail
  refine (toLeaseS_any a0 cp ns w hl I0.all).mono ?_
  rintro e w1 ⟨v, rfl, ⟨g1, rfl⟩, ho, hb⟩
  have hs1 := hb.size
  have I1 := I0.next hb
  have HB1 : Hid (Below w.heap.size w w1) := HB0.out.trans (hb.mono HB0.out.size)
  clear I0 HB0
  have OV1 := OwnLsZ.made ho
  clear ho hb
  go_wp2_with fail
  refine (HS.out g1 0 ns.length w1 OV1.rowAt).mono ?_
  rintro e w2 ⟨v, rfl, ho, hb⟩
  obtain ⟨a2, cap2, rfl, hA2, -⟩ := ho.row
  have hs2 := hb.size
  have I2 := I1.next hb
  have OV2 := OV1.next hb
  have HB2 : Hid (Below w.heap.size w w2) := HB1.out.trans (hb.mono HB1.out.size)
  clear I1 OV1 HB1
  have OW2 := OwnLsZ.made ho
  clear ho hb
  clear OV2 HS
  go_wp2_with fail
  refine (toLeaseS_any a0 cp ns w2 hl I2.all).mono ?_
  rintro e w3 ⟨v, rfl, ⟨g3, rfl⟩, ho, hb⟩
  have hs3 := hb.size
  have I3 := I2.next hb
  have OW3 := OW2.next hb
  have HB3 : Hid (Below w.heap.size w w3) := HB2.out.trans (hb.mono HB2.out.size)
  clear I2 OW2 HB2
  have OX3 := OwnLsZ.made ho
  clear ho hb
  go_wp2_with fail
  refine (HI.out g3 0 ns.length w3 OX3.rowAt).mono ?_
  rintro e w4 ⟨v, rfl, ho, hb⟩
  obtain ⟨a4, cap4, cq4, rfl, hA4, ho⟩ := ho
  have hs4 := hb.size
  have I4 := I3.next hb
  have OW4 := OW3.next hb
  have OX4 := OX3.next hb
  have HB4 : Hid (Below w.heap.size w w4) := HB3.out.trans (hb.mono HB3.out.size)
  clear I3 OW3 OX3 HB3
  have OG4 := OwnLsZ.made ho
  clear ho hb
  go_wp2_with fail
  refine (eqLeaseS_same _ _ _ _ _ w4 (by have := HL.out; omega) OG4.rowAt OW4.rowAt).mono ?_
  rintro e w5 ⟨rfl, hb⟩
  have I5 := I4.next hb
  have OW5 := OW4.next hb
  have OX5 := OX4.next hb
  have OG5 := OG4.next hb
  have HB5 : Hid (Below w.heap.size w w5) := HB4.out.trans (hb.mono HB4.out.size)
  clear I4 OW4 OX4 OG4 HB4
  clear hb
  go_wp2_with fail
  refine (toLeaseS_any a0 cp ns w5 hl I5.all).mono ?_
  rintro e w6 ⟨v, rfl, ⟨g6, rfl⟩, ho, hb⟩
  have hs6 := hb.size
  have I6 := I5.next hb
  have OW6 := OW5.next hb
  have OX6 := OX5.next hb
  have OG6 := OG5.next hb
  have HB6 : Hid (Below w.heap.size w w6) := HB5.out.trans (hb.mono HB5.out.size)
  clear I5 OW5 OX5 OG5 HB5
  have OZ6 := OwnLsZ.made ho
  clear ho hb
  go_wp2_with fail
  refine (eqLeaseS_same _ _ _ _ _ w6 (by omega) OX6.rowAt OZ6.rowAt).mono ?_
  rintro e w7 ⟨rfl, hb⟩
  have I7 := I6.next hb
  have OW7 := OW6.next hb
  have OX7 := OX6.next hb
  have OG7 := OG6.next hb
  have OZ7 := OZ6.next hb
  have HB7 : Hid (Below w.heap.size w w7) := HB6.out.trans (hb.mono HB6.out.size)
  clear I6 OW6 OX6 OG6 OZ6 HB6
  clear hb
  clear OZ7
  go_wp2_with fail
  refine (markLeaseS_any _ 1 (some ⟨g3, 0, none⟩) ns.length ns.length ns w7 (by omega) (by omega) (.inr ⟨_, _, rfl⟩) OX7.own).mono ?_
  rintro e w8 ⟨rfl, hox, hgr⟩
  have hbk := OX7.block
  clear hox
  have I8 := I7.mark hgr (fun g hg => by have := hbk g hg; omega)
  have OW8 := OW7.mark hgr (fun g hg => by have := hbk g hg; omega)
  have OG8 := OG7.mark hgr (fun g hg => by have := hbk g hg; omega)
  have HB8 : Hid (Below w.heap.size w w8) := HB7.out.grown hgr HB7.out.size (fun k hk => by have := hbk k hk; omega)
  clear hgr hbk HB7 I7 OW7 OX7 OG7
  have hk0 : ¬ (1 : Int) + 2 * (ns.length : Int) < 0 := by omega
  go_wp2_with fail
  refine (eqLeaseS_same _ _ _ _ _ w8 (by have := HL.out; omega) OG8.rowAt OW8.rowAt).mono ?_
  rintro e w9 ⟨rfl, hb⟩
  have I9 := I8.next hb
  have OW9 := OW8.next hb
  have OG9 := OG8.next hb
  have HB9 : Hid (Below w.heap.size w w9) := HB8.out.trans (hb.mono HB8.out.size)
  clear I8 OW8 OG8 HB8
  clear hb
  clear hk0
  go_wp2_with fail
  refine (markLeaseS_any _ 1 a4 cap4 cq4 R0 w9 (by have := HL.out; omega) (by omega) hA4 OG9.own).mono ?_
  rintro e w10 ⟨rfl, hox, hgr⟩
  have hbk := OG9.block
  have OM10 : OwnLsZ w3.heap.size w4.heap.size (.slice a4 R0.length cq4) (marksLs 1 R0.length) w10 := ⟨by rw [OwnLs, marksLs_len] at *; exact hox, Nat.le_trans OG9.le hgr.size, OG9.lt⟩
  clear hox
  have I10 := I9.mark hgr (fun g hg => by have := hbk g hg; omega)
  have OW10 := OW9.mark hgr (fun g hg => by have := hbk g hg; omega)
  have HB10 : Hid (Below w.heap.size w w10) := HB9.out.grown hgr HB9.out.size (fun k hk => by have := hbk k hk; omega)
  clear hgr hbk HB9 I9 OW9 OG9
  go_wp2_with fail
  refine (heldLeaseS_any a4 cap4 R0.length 1 w10 (by have := HL.out; omega) (by omega) OM10.rowAt).mono ?_
  rintro e w11 ⟨rfl, hb⟩
  have I11 := I10.next hb
  have OW11 := OW10.next hb
  have OM11 := OM10.next hb
  have HB11 : Hid (Below w.heap.size w w11) := HB10.out.trans (hb.mono HB10.out.size)
  clear I10 OW10 OM10 HB10
  clear hb
  have hk0 : ¬ (1 : Int) + 2 * (R0.length : Int) < 0 := by omega
  go_wp2_with fail
  refine (toLeaseS_any a0 cp ns w11 hl I11.all).mono ?_
  rintro e w12 ⟨v, rfl, ⟨g12, rfl⟩, ho, hb⟩
  have hs12 := hb.size
  have I12 := I11.next hb
  have OW12 := OW11.next hb
  have OM12 := OM11.next hb
  have HB12 : Hid (Below w.heap.size w w12) := HB11.out.trans (hb.mono HB11.out.size)
  clear I11 OW11 OM11 HB11
  have OY12 := OwnLsZ.made ho
  clear ho hb
  go_wp2_with fail
  refine (HI.out g12 0 ns.length w12 OY12.rowAt).mono ?_
  rintro e w13 ⟨v, rfl, ho, hb⟩
  obtain ⟨a13, cap13, cq13, rfl, hA13, ho⟩ := ho
  have hs13 := hb.size
  have I13 := I12.next hb
  have OW13 := OW12.next hb
  have OM13 := OM12.next hb
  have OY13 := OY12.next hb
  have HB13 : Hid (Below w.heap.size w w13) := HB12.out.trans (hb.mono HB12.out.size)
  clear I12 OW12 OM12 OY12 HB12
  have OH13 := OwnLsZ.made ho
  clear ho hb
  go_wp2_with fail
  refine (eqLeaseS_same _ _ _ _ _ w13 (by have := HL.out; omega) OH13.rowAt OW13.rowAt).mono ?_
  rintro e w14 ⟨rfl, hb⟩
  have I14 := I13.next hb
  have OW14 := OW13.next hb
  have OM14 := OM13.next hb
  have OY14 := OY13.next hb
  have OH14 := OH13.next hb
  have HB14 : Hid (Below w.heap.size w w14) := HB13.out.trans (hb.mono HB13.out.size)
  clear I13 OW13 OM13 OY13 OH13 HB13
  clear hb
  go_wp2_with fail
  refine (heldLeaseS_any a4 cap4 R0.length 1 w14 (by have := HL.out; omega) (by omega) OM14.rowAt).mono ?_
  rintro e w15 ⟨rfl, hb⟩
  have HB15 : Hid (Below w.heap.size w w15) := HB14.out.trans (hb.mono HB14.out.size)
  clear hb HB14 I14 OW14 OM14 OY14 OH14
  go_wp2
  go_ret
  exact ⟨rfl, HB15.out⟩

theorem laidOut : laidOutB Try.prog = true := by kernel_rfl
set_option maxRecDepth 100000 in
theorem lifted (os : Os) (started : os.Started) (H : Type) (enc : TypeId × Value → H) :
    ReturnsInHanded {} Try.checked os 5 .any (Rows.fnExactLeasedSpec.pre6 enc Try.prog Try.f5 Rows.fnExactLeasedRow.domain false) (Rows.fnExactLeasedSpec.post enc Try.prog Try.f5 false true false false) := by
  refine returnsInHanded_of_change (C := Try.checked) own started (by kernel_rfl) Try.func5
    (ChangeSpec.witness6 (enc := enc) (C := Try.checked) false ⟨#[], #[.slice none 0 0, .int .i64 0], []⟩ 8 (by kernel_rfl) (by kernel_rfl) (by kernel_rfl) (by kernel_rfl)) ?_
  intro W base args ds gs before hval0 hW hcnd _
  have hval : ∀ (j : Nat) t v, Try.f5.params[j]? = some t → args[j]? = some v → Value.okWide Try.prog W .any base t v := hval0
  have hW' := hW
  obtain ⟨p, q, hA0, hV, rfl, hfz, hnd⟩ := hW
  have hA : DataW.TrodAll enc Try.prog W 0 (fun _ => true) true Try.f5.params.toList args.toList ds p := hA0
  rw [Try.params5] at hA hval
  obtain ⟨v0, vs0, d0, ds0, p0, q0, hargs, rfl, rfl, h0, r0⟩ := trodAll_cons hA
  obtain ⟨v1, vs1, d1, ds1, p1, q1, rfl, rfl, rfl, h1, r1⟩ := trodAll_cons r0
  obtain ⟨rfl, rfl, rfl⟩ := trodAll_nil r1
  obtain rfl : args = #[v0, v1] := by cases args; simp_all
  obtain ⟨rfl, rfl⟩ := trodVars_none hV
  have k0 := h0
  have lt0 : ∀ x ∈ p0, x.block < W.heap.size := by obtain ⟨m, hm⟩ := k0; exact DataW.trod_lt m _ _ _ hm
  obtain ⟨a0, len0, c0, rfl⟩ := okWide_slice Try.underlying36 (hval 0 36 v0 rfl rfl)
  obtain ⟨n0, rfl, w0, rn0, f0⟩ := lss_of h0
  obtain ⟨a1, rfl, rfl, rfl, w1⟩ := open_int Try.underlying3 (hval 1 3 v1 rfl rfl) h1
  clear hA0 hval0
  refine (walk a0 c0 n0 a1 w0 f0 w1 W rn0).mono fun e W' ⟨he, bel⟩ => ?_
  subst he
  exact ⟨_, rfl, _, _, _, [], _, [], hW', trodAll_mk1 (shut_bool Try.underlying4 _), (trodAll_cons_mk (Below.trod laidOut (by kernel_rfl) (of_decide_eq_true (by kernel_rfl)) k0 bel lt0) (trodAll_cons_mk (shut_int Try.underlying3 w1) trodAll_mk0)), rfl, bel.frame _, fun h => by cases h⟩

theorem over : Rows.fnExactLeasedRow.holds Try.pinned (OpenSpec.ofChange Rows.fnExactLeasedSpec) :=
  OpenClaim.holds_of_wide 5 Try.f5 rfl rfl rfl rfl rfl rfl rfl ⟨rfl, rfl, rfl, rfl, rfl⟩ rfl rfl rfl rfl rfl (by kernel_rfl) Try.func5 (by kernel_rfl)
    (of_decide_eq_true (by kernel_rfl)) (by unfold Func.isWrapper; first | (rw [if_pos (by decide +kernel)]; kernel_rfl) | (rw [if_neg (by decide +kernel)]; exact ⟨rfl, rfl⟩))
    (fun os started H enc _ => lifted os started H enc)
end fnExactLeased

theorem fnExactLeased_holds : Rows.FnExactLeasedSaid := fnExactLeased.over
#print axioms fnExactLeased_holds
end Go.Proofs.Ytclnhjkmhemebaa
