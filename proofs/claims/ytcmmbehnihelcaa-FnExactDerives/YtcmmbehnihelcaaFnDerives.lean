/- For every arena and list of places, and place: Derives of the program answers as the specification's Derives does, writes into no argument, keeps nothing of one; and the arguments read as before. No condition. -/
import Derived.Test.YtcmmbehnihelcaaRows
import Derived.Test.YtcmmbehnihelcaaArgArena
import Derived.Test.YtcmmbehnihelcaaLawKeep
import Derived.Test.YtcmmbehnihelcaaRegionA
import Derived.Test.YtcmmbehnihelcaaLawInts2
import Derived.Test.YtcmmbehnihelcaaLawBools
import Derived.Test.YtcmmbehnihelcaaSpecReach5
import Derived.Test.YtcmmbehnihelcaaImplReach
import Derived.WalkKit
import Derived.ProofKit
import Derived.OpenShut
import Derived.ShutString
import Derived.ChangeOld
import Derived.PlainAid
import Derived.Deep.RegionHeld3
namespace Go.Proofs.Ytcmmbehnihelcaa
namespace fnExactDerives
open Go.ChangeShapes Go.WideShapes Go.ChangeAt Go.RowKit Go.PlainAid
open Go.ChangeMaps (open_string shut_string)
set_option linter.unusedVariables false

theorem own : ownKnob Try.prog.godebug = none := by kernel_rfl

set_option maxHeartbeats 3200000 in
set_option maxRecDepth 20000 in
theorem walk (a0 : Option Addr) (cp : Nat) (ns : List Nd) (la : Option Addr) (lc : Nat) (xs : List Int) (k3 : Int) (w0 : ns.length ≤ maxLen) (f0 : ∀ y ∈ ns, y.Fits) (w1 : xs.length ≤ maxLen) (f1 : ∀ x ∈ xs, -9223372036854775808 ≤ x ∧ x ≤ 9223372036854775807) (w2 : (Lit.int .i64 k3).wf = true) (w : World) (hr : RowN w.heap.size w a0 ns) (hx : RowI w.heap.size w la xs) :
    Calls Try.prog 7 #[.agg #[.slice a0 ns.length cp], .slice la xs.length lc, .int .i64 k3] w fun e w' => e = .returned (.bool true) ∧ Below w.heap.size w w' := by
  have HR : Hid (RowN w.heap.size w a0 ns) := hr
  have HF : Hid (∀ y ∈ ns, y.Fits) := f0
  have HX : Hid (RowI w.heap.size w la xs) := hx
  have HXF : Hid (∀ x ∈ xs, -9223372036854775808 ≤ x ∧ x ≤ 9223372036854775807) := f1
  clear hr f0 hx f1
  have B0 : Below w.heap.size w (w.alloc (.cells #[.slice a0 ns.length cp] 51)) := (Below.refl _ _).alloc (Nat.le_refl _) _
  by_cases hs_xs : xs.length ≤ 1048576
  rotate_left
  · have hs' : (1048576 : Int) < (xs.length : Int) := by omega
    have HA : Hid _ := B0
    clear w0 w1 w2 B0 HR HF HX HXF
    go_enter Try.func7, Try.ntmps7
    go_wp2
    go_ret
    exact ⟨rfl, HA.out⟩
  have hs'_xs : ¬ (1048576 : Int) < (xs.length : Int) := by omega
  by_cases hl : ns.length ≤ 1048576
  rotate_left
  · have hl' : (1048576 : Int) - (ns.length : Int) < 0 := by omega
    have H : Hid _ := szArena_big a0 ns.length cp (w.alloc (.cells #[.slice a0 ns.length cp] 51)) (by omega) w0
    have HA : Hid _ := B0
    clear w0 w1 w2 B0 HR HF HX HXF
    go_enter Try.func7, Try.ntmps7
    go_wp2_with fail
    refine Calls.mono H.out ?_
    rintro e w1 ⟨rfl, hb1⟩
    go_wp2
    go_ret
    exact ⟨rfl, HA.out.trans (hb1.mono HA.out.size)⟩
  have hl' : ¬ (1048576 : Int) - (ns.length : Int) < 0 := by omega
  clear w0 w1 w2
  obtain ⟨K0, HS, HI⟩ : ∃ (K0 : Bool), Hid (∀ (a : Option Addr) (cap : Nat) (la : Option Addr) (lc : Nat) (w : World), AddrN a cap → RowN w.heap.size w a ns → RowI w.heap.size w la xs → Calls Try.prog 18 #[.agg #[.slice a ns.length cap], .slice la xs.length lc, .int .i64 k3] w fun e w' => e = .returned (.bool K0) ∧ Below w.heap.size w w') ∧ Hid (∀ (a : Option Addr) (cap : Nat) (la : Option Addr) (lc : Nat) (w : World), AddrN a cap → RowN w.heap.size w a ns → RowI w.heap.size w la xs → Calls Try.prog 13 #[.agg #[.slice a ns.length cap], .slice la xs.length lc, .int .i64 k3] w fun e w' => e = .returned (.bool K0) ∧ Below w.heap.size w w') := by
    obtain ⟨bs, hbs⟩ := IsR.some ns xs
    refine ⟨derB bs k3, fun a cap la lc w ha hr hx => (specDerives_any cap lc a la ns xs k3 w hl hs_xs hr hx).mono ?_, fun a cap la lc w ha hr hx => (implDerives_any cap lc a la ns xs k3 w hl hs_xs HF.out HXF.out hr hx).mono ?_⟩
    · rintro e w' ⟨cs, h1, h2, h3⟩; rw [hbs.one h1]; exact ⟨h2, h3⟩
    · rintro e w' ⟨cs, h1, h2, h3⟩; rw [hbs.one h1]; exact ⟨h2, h3⟩
  clear HF HXF
  have A0 : Var w.heap.size (.slice a0 ns.length cp) (w.alloc (.cells #[.slice a0 ns.length cp] 51)) := Var.made
  have I0 : In w.heap.size a0 ns (w.alloc (.cells #[.slice a0 ns.length cp] 51)) := ⟨by simp, HR.out.later B0⟩
  have J0 : InI w.heap.size la xs (w.alloc (.cells #[.slice a0 ns.length cp] 51)) := ⟨by simp, HX.out.later B0⟩
  have HB0 : Hid _ := B0
  clear B0 HR HX
  go_enter Try.func7, Try.ntmps7
  go_wp2_with fail
  generalize w.alloc (.cells #[.slice a0 ns.length cp] 51) = wA at A0 I0 J0 HB0 ⊢
  refine (szArena_any a0 ns.length cp _ hl).mono ?_
  rintro e w1 ⟨rfl, hb⟩
  have A1 := A0.next hb
  have I1 := I0.next hb
  have J1 := J0.next hb
  have HB1 : Hid (Below w.heap.size w w1) := HB0.out.trans (hb.mono HB0.out.size)
  clear A0 I0 J0 HB0
  clear hb
  have hw1 := A1.lt
  have c := A1.c
  go_wp2_with fail
  refine (toArena_any a0 cp ns w1 hl I1.all).mono ?_
  rintro e w2 ⟨v2, rfl, ho2, hb⟩
  obtain ⟨a2, cap2, rfl, hA2, hr2⟩ := ho2.row
  have hsV := hb.size
  have A2 := A1.next hb
  have I2 := I1.next hb
  have J2 := J1.next hb
  have HB2 : Hid (Below w.heap.size w w2) := HB1.out.trans (hb.mono HB1.out.size)
  clear A1 I1 J1 HB1
  clear ho2 hb c
  go_wp2_with fail
  refine (toIntS_any la lc xs w2 hs_xs J2.all).mono ?_
  rintro e w2i ⟨v2i, rfl, ho2i, hb⟩
  obtain ⟨a2i, cap2i, rfl, hA2i, hr2i⟩ := ho2i.row
  have hsVi := hb.size
  replace hr2 := hr2.grown hb
  have A2i := A2.next hb
  have I2i := I2.next hb
  have J2i := J2.next hb
  have HB2i : Hid (Below w.heap.size w w2i) := HB2.out.trans (hb.mono HB2.out.size)
  clear A2 I2 J2 HB2
  clear ho2i hb
  go_wp2_with fail
  refine (HS.out a2 cap2 a2i cap2i w2i hA2 hr2 hr2i).mono ?_
  rintro e w3 ⟨rfl, hb⟩
  have hsW := hb.size
  have A3 := A2i.next hb
  have I3 := I2i.next hb
  have J3 := J2i.next hb
  have HB3 : Hid (Below w.heap.size w w3) := HB2i.out.trans (hb.mono HB2i.out.size)
  clear A2i I2i J2i HB2i
  clear hb hA2 hr2 hA2i hr2i HS
  have c := A3.c
  go_wp2_with fail
  refine (toArena_any a0 cp ns w3 hl I3.all).mono ?_
  rintro e w4 ⟨v4, rfl, ho4, hb⟩
  obtain ⟨a4, cap4, rfl, hA4, -⟩ := ho4.row
  have hsX := hb.size
  have A4 := A3.next hb
  have I4 := I3.next hb
  have J4 := J3.next hb
  have HB4 : Hid (Below w.heap.size w w4) := HB3.out.trans (hb.mono HB3.out.size)
  clear A3 I3 J3 HB3
  clear hb c
  have OX4 := Own.made ho4
  clear ho4
  have hbq : Below w4.heap.size w4 (w4.alloc (.cells #[.slice a4 ns.length cap4] 26)) := (Below.refl _ _).alloc (Nat.le_refl _) _
  have BX5 : Var w4.heap.size (.slice a4 ns.length cap4) (w4.alloc (.cells #[.slice a4 ns.length cap4] 26)) := Var.made
  have hbX : w4.heap.size < (w4.alloc (.cells #[.slice a4 ns.length cap4] 26)).heap.size := by simp
  have A5 := A4.next hbq
  have I5 := I4.next hbq
  have J5 := J4.next hbq
  have OX5 := OX4.next hbq
  have HB5 : Hid (Below w.heap.size w (w4.alloc (.cells #[.slice a4 ns.length cap4] 26))) := HB4.out.trans (hbq.mono HB4.out.size)
  clear hbq A4 I4 J4 OX4 HB4
  go_wp2_with fail
  generalize w4.alloc (.cells #[.slice a4 ns.length cap4] 26) = w5 at BX5 hbX A5 I5 J5 OX5 HB5 ⊢
  refine (toIntS_any la lc xs w5 hs_xs J5.all).mono ?_
  rintro e w5i ⟨v5i, rfl, ho5i, hb⟩
  obtain ⟨a5i, cap5i, rfl, hA5i, -⟩ := ho5i.row
  have hsZ := hb.size
  have A5i := A5.next hb
  have I5i := I5.next hb
  have J5i := J5.next hb
  have OX5i := OX5.next hb
  have BX5i := BX5.next hb
  have HB5i : Hid (Below w.heap.size w w5i) := HB5.out.trans (hb.mono HB5.out.size)
  clear A5 I5 J5 OX5 BX5 HB5
  clear hb
  have OZ5i := OwnZ.made ho5i
  clear ho5i
  have q0 := BX5i.c
  go_wp2_with fail
  clear q0
  refine (HI.out a4 cap4 a5i cap5i w5i hA4 OX5i.rowAt OZ5i.rowAt).mono ?_
  rintro e w7 ⟨rfl, hb⟩
  have hsG := hb.size
  have A7 := A5i.next hb
  have I7 := I5i.next hb
  have J7 := J5i.next hb
  have OX7 := OX5i.next hb
  have BX7 := BX5i.next hb
  have OZ7 := OZ5i.next hb
  have HB7 : Hid (Below w.heap.size w w7) := HB5i.out.trans (hb.mono HB5i.out.size)
  clear A5i I5i J5i OX5i BX5i OZ5i HB5i
  clear hb HI
  have hx5 := BX7.c
  have hc5 := A7.c
  have hs5 : w4.heap.size < w7.drew.heap.size := BX7.lt
  have hsw5 : w.heap.size < w7.drew.heap.size := A7.lt
  have HRA5 : Hid (RowN w7.drew.heap.size w7.drew a0 ns) := I7.all
  have HRX5 : Hid (RowN w7.drew.heap.size w7.drew a4 ns) := OX7.rowAt
  have HK7 : Hid _ := And.intro A7 (And.intro I7 (And.intro J7 (And.intro OX7 (And.intro BX7 OZ7))))
  clear A7 I7 J7 OX7 BX7 OZ7
  cases K0
  all_goals
    go_wp2_with fail
    go_region_held3 (fun w' => w'.cell? ⟨w4.heap.size, 0, none⟩ = some (.slice a4 ns.length cap4) ∧ w'.cell? ⟨w.heap.size, 0, none⟩ = some (.slice a0 ns.length cp)) (first | exact ⟨hx5, hc5⟩ | assumption | exact two_kept (by assumption) hs5 hsw5 hb6 | exact two_kept (by assumption) hs6 hsw6 hb7) (first | (go_at_call 35; refine (toArena_any a0 cp ns _ hl ?_).mono ?_; exact HRA5.out; rintro e wa ⟨vz, rfl, hoz, hb6⟩; obtain ⟨az, capz, rfl, hAz, hrz⟩ := hoz.row; have hs6 := Nat.lt_of_lt_of_le hs5 hb6.size; have hsw6 := Nat.lt_of_lt_of_le hsw5 hb6.size) | (go_at_call 38; refine (eqArena_same a4 az cap4 capz ns _ ?_ ?_ ?_).mono ?_; omega; exact HRX5.out.grown hb6; exact hrz; rintro e w8 ⟨rfl, hb7⟩))
    have hbT : Below w7.heap.size w7 w8 := ((Below.refl _ _).drew).trans (hb6.trans (hb7.mono hb6.size))
    obtain ⟨A7, I7, J7, OX7, BX7, OZ7⟩ := HK7.out
    have A8 := A7.next hbT
    have I8 := I7.next hbT
    have J8 := J7.next hbT
    have OX8 := OX7.next hbT
    have BX8 := BX7.next hbT
    have OZ8 := OZ7.next hbT
    have HB8 : Hid (Below w.heap.size w w8) := HB7.out.trans (hbT.mono HB7.out.size)
    clear A7 I7 J7 OX7 BX7 OZ7 HB7
    clear hoz hrz hb6 hAz hc5 hx5 hb7 hbT HRA5 HRX5 HK7 hs5 hsw5 hs6 hsw6
    go_wp2_with fail
    refine (toIntS_any la lc xs w8 hs_xs J8.all).mono ?_
    rintro e w8i ⟨v8, rfl, ho8, hb⟩
    obtain ⟨a8, cap8, rfl, hA8, hr8⟩ := ho8.row
    have A8i := A8.next hb
    have I8i := I8.next hb
    have J8i := J8.next hb
    have OX8i := OX8.next hb
    have BX8i := BX8.next hb
    have OZ8i := OZ8.next hb
    have HB8i : Hid (Below w.heap.size w w8i) := HB8.out.trans (hb.mono HB8.out.size)
    clear A8 I8 J8 OX8 BX8 OZ8 HB8
    clear ho8 hb
    go_wp2_with fail
    refine (eqIntS_same a5i a8 cap5i cap8 xs w8i (by omega) OZ8i.rowAt hr8).mono ?_
    rintro e w9 ⟨rfl, hb⟩
    have HB9 : Hid (Below w.heap.size w w9) := HB8i.out.trans (hb.mono HB8i.out.size)
    clear hb HB8i hr8 hA8 A8i I8i J8i OX8i BX8i OZ8i
    go_wp2
    go_ret
    exact ⟨rfl, HB9.out⟩

theorem laidOut : laidOutB Try.prog = true := by kernel_rfl
set_option maxRecDepth 100000 in
theorem lifted (os : Os) (started : os.Started) (H : Type) (enc : TypeId × Value → H) :
    ReturnsInHanded {} Try.checked os 7 .any (Rows.fnExactDerivesSpec.pre6 enc Try.prog Try.f7 Rows.fnExactDerivesRow.domain false) (Rows.fnExactDerivesSpec.post enc Try.prog Try.f7 false true false false) := by
  refine returnsInHanded_of_change (C := Try.checked) own started (by kernel_rfl) Try.func7
    (ChangeSpec.witness6 (enc := enc) (C := Try.checked) false ⟨#[], #[.agg #[.slice none 0 0], .slice none 0 0, .int .i64 0], []⟩ 8 (by kernel_rfl) (by kernel_rfl) (by kernel_rfl) (by kernel_rfl)) ?_
  intro W base args ds gs before hval0 hW hcnd _
  have hval : ∀ (j : Nat) t v, Try.f7.params[j]? = some t → args[j]? = some v → Value.okWide Try.prog W .any base t v := hval0
  have hW' := hW
  obtain ⟨p, q, hA0, hV, rfl, hfz, hnd⟩ := hW
  have hA : DataW.TrodAll enc Try.prog W 0 (fun _ => true) true Try.f7.params.toList args.toList ds p := hA0
  rw [Try.params7] at hA hval
  obtain ⟨v0, vs0, d0, ds0, p0, q0, hargs, rfl, rfl, h0, r0⟩ := trodAll_cons hA
  obtain ⟨v1, vs1, d1, ds1, p1, q1, rfl, rfl, rfl, h1, r1⟩ := trodAll_cons r0
  obtain ⟨v2, vs2, d2, ds2, p2, q2, rfl, rfl, rfl, h2, r2⟩ := trodAll_cons r1
  obtain ⟨rfl, rfl, rfl⟩ := trodAll_nil r2
  obtain rfl : args = #[v0, v1, v2] := by cases args; simp_all
  obtain ⟨rfl, rfl⟩ := trodVars_none hV
  have k0 := h0
  have lt0 : ∀ x ∈ p0, x.block < W.heap.size := by obtain ⟨m, hm⟩ := k0; exact DataW.trod_lt m _ _ _ hm
  obtain ⟨a0, c0, n0, rfl, w0, rn0, f0⟩ := arena_of (hval 0 51 v0 rfl rfl) h0
  have k1 := h1
  have lt1 : ∀ x ∈ p1, x.block < W.heap.size := by obtain ⟨m, hm⟩ := k1; exact DataW.trod_lt m _ _ _ hm
  obtain ⟨a1, len1, c1, rfl⟩ := okWide_slice Try.underlying27 (hval 1 27 v1 rfl rfl)
  obtain ⟨n1, rfl, w1, rn1, f1⟩ := ints_of h1
  obtain ⟨a2, rfl, rfl, rfl, w2⟩ := open_int Try.underlying3 (hval 2 3 v2 rfl rfl) h2
  clear hA0 hval0
  refine (walk a0 c0 n0 a1 c1 n1 a2 w0 f0 w1 f1 w2 W rn0 rn1).mono fun e W' ⟨he, bel⟩ => ?_
  subst he
  exact ⟨_, rfl, _, _, _, [], _, [], hW', trodAll_mk1 (shut_bool Try.underlying4 _), (trodAll_cons_mk (Below.trod laidOut (by kernel_rfl) (of_decide_eq_true (by kernel_rfl)) k0 bel lt0) (trodAll_cons_mk (Below.trod laidOut (by kernel_rfl) (of_decide_eq_true (by kernel_rfl)) k1 bel lt1) (trodAll_cons_mk (shut_int Try.underlying3 w2) trodAll_mk0))), rfl, bel.frame _, fun h => by cases h⟩

theorem over : Rows.fnExactDerivesRow.holds Try.pinned (OpenSpec.ofChange Rows.fnExactDerivesSpec) :=
  OpenClaim.holds_of_wide 7 Try.f7 rfl rfl rfl rfl rfl rfl rfl ⟨rfl, rfl, rfl, rfl, rfl⟩ rfl rfl rfl rfl rfl (by kernel_rfl) Try.func7 (by kernel_rfl)
    (of_decide_eq_true (by kernel_rfl)) (by unfold Func.isWrapper; first | (rw [if_pos (by decide +kernel)]; kernel_rfl) | (rw [if_neg (by decide +kernel)]; exact ⟨rfl, rfl⟩))
    (fun os started H enc _ => lifted os started H enc)
end fnExactDerives

theorem fnExactDerives_holds : Rows.FnExactDerivesSaid := fnExactDerives.over
#print axioms fnExactDerives_holds
end Go.Proofs.Ytcmmbehnihelcaa
