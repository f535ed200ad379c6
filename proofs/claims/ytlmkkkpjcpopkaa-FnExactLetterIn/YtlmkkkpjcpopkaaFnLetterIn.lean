/- For every arena and place: LetterIn of the program answers as the specification's LetterIn does, writes into no argument, keeps nothing of one, owns its answer's memory, behind another call too; and the arguments read as before. No condition. -/
import Derived.Test.YtlmkkkpjcpopkaaRows
import Derived.Test.YtlmkkkpjcpopkaaArgArena
import Derived.Test.YtlmkkkpjcpopkaaLawKeep
import Derived.Test.YtlmkkkpjcpopkaaLawInts
import Derived.Test.YtlmkkkpjcpopkaaLinL11
import Derived.WalkKit
import Derived.ProofKit
import Derived.OpenShut
import Derived.ShutString
import Derived.ChangeOld
import Derived.PlainAid
import Derived.Deep.RegionHeld3
namespace Go.Proofs.Ytlmkkkpjcpopkaa
namespace fnExactLetterIn
open Go.ChangeShapes Go.WideShapes Go.ChangeAt Go.RowKit Go.PlainAid
open Go.ChangeMaps (open_string shut_string)
set_option linter.unusedVariables false

theorem own : ownKnob Try.prog.godebug = none := by kernel_rfl

set_option maxHeartbeats 3200000 in
set_option maxRecDepth 20000 in
theorem walk (a0 : Option Addr) (cp : Nat) (ns : List Nd) (k1 : Int) (w0 : ns.length ≤ maxLen) (f0 : ∀ y ∈ ns, y.Fits) (w1 : (Lit.int .i64 k1).wf = true) (w : World) (hr : RowN w.heap.size w a0 ns) :
    Calls Try.prog 9 #[.agg #[.slice a0 ns.length cp], .int .i64 k1] w fun e w' => e = .returned (.bool true) ∧ Below w.heap.size w w' := by
  have HR : Hid (RowN w.heap.size w a0 ns) := hr
  clear hr f0
  have B0 : Below w.heap.size w (w.alloc (.cells #[.slice a0 ns.length cp] 51)) := (Below.refl _ _).alloc (Nat.le_refl _) _
  by_cases hl : ns.length ≤ 1048576
  rotate_left
  · have hl' : (1048576 : Int) - (ns.length : Int) < 0 := by omega
    have H : Hid _ := szArena_big a0 ns.length cp (w.alloc (.cells #[.slice a0 ns.length cp] 51)) (by omega) w0
    have HA : Hid _ := B0
    clear w0 B0 HR
    go_enter Try.func9, Try.ntmps9
    go_wp2_with fail
    refine Calls.mono H.out ?_
    rintro e w1 ⟨rfl, hb1⟩
    go_wp2
    go_ret
    exact ⟨rfl, HA.out.trans (hb1.mono HA.out.size)⟩
  have hl' : ¬ (1048576 : Int) - (ns.length : Int) < 0 := by omega
  clear w0
  obtain ⟨xs, K0, HS, HI, HL⟩ : ∃ (xs : List Int) (K0 : Int), Hid (∀ (a : Option Addr) (cap : Nat) (w : World), AddrN a cap → RowN w.heap.size w a ns → Calls Try.prog 24 #[.agg #[.slice a ns.length cap], .int .i64 k1] w fun e w' => ∃ la lc, e = .returned (.tuple #[.int .i64 K0, .slice la xs.length lc]) ∧ RowI w'.heap.size w' la xs ∧ Below w.heap.size w w') ∧ Hid (∀ (a : Option Addr) (cap : Nat) (w : World), AddrN a cap → RowN w.heap.size w a ns → Calls Try.prog 23 #[.agg #[.slice a ns.length cap], .int .i64 k1] w fun e w' => ∃ v, e = .returned (.tuple #[.int .i64 K0, v]) ∧ OwnInt w.heap.size w' v xs ∧ Below w.heap.size w w') ∧ Hid (xs.length ≤ 1048577) :=
    ⟨linV ns k1, linK ns k1, fun a cap w ha hr => specLetterIn_any a cap ns k1 w hl hr, fun a cap w ha hr => implLetterIn_any a cap ns k1 w hl hr, Nat.le_trans (linV_le ns k1) (by omega)⟩
  have A0 : Var w.heap.size (.slice a0 ns.length cp) (w.alloc (.cells #[.slice a0 ns.length cp] 51)) := Var.made
  have I0 : In w.heap.size a0 ns (w.alloc (.cells #[.slice a0 ns.length cp] 51)) := ⟨by simp, HR.out.later B0⟩
  have HB0 : Hid _ := B0
  clear B0 HR
  go_enter Try.func9, Try.ntmps9
  go_wp2_with fail
  generalize w.alloc (.cells #[.slice a0 ns.length cp] 51) = wA at A0 I0 HB0 ⊢
  refine (szArena_any a0 ns.length cp _ hl).mono ?_
  rintro e w1 ⟨rfl, hb⟩
  have A1 := A0.next hb
  have I1 := I0.next hb
  have HB1 : Hid (Below w.heap.size w w1) := HB0.out.trans (hb.mono HB0.out.size)
  clear A0 I0 HB0
  clear hb
  have hw1 := A1.lt
  have c := A1.c
  go_wp2_with fail
  refine (toArena_any a0 cp ns w1 hl I1.all).mono ?_
  rintro e w2 ⟨v2, rfl, ho2, hb⟩
  obtain ⟨a2, cap2, rfl, hA2, hr2⟩ := ho2.row
  have hsV := hb.size
  have A2 := A1.next hb
  have I2 := I1.next hb
  have HB2 : Hid (Below w.heap.size w w2) := HB1.out.trans (hb.mono HB1.out.size)
  clear A1 I1 HB1
  clear ho2 hb c
  go_wp2_with fail
  refine (HS.out a2 cap2 w2 hA2 hr2).mono ?_
  rintro e w3 ⟨a3, cap3, rfl, hr3, hb⟩
  have hsW := hb.size
  have A3 := A2.next hb
  have I3 := I2.next hb
  have HB3 : Hid (Below w.heap.size w w3) := HB2.out.trans (hb.mono HB2.out.size)
  clear A2 I2 HB2
  clear hb hA2 hr2 HS
  have OW3 : InI w3.heap.size a3 xs w3 := ⟨Nat.le_refl _, hr3⟩
  clear hr3
  have c := A3.c
  go_wp2_with fail
  refine (toArena_any a0 cp ns w3 hl I3.all).mono ?_
  rintro e w4 ⟨v4, rfl, ho4, hb⟩
  obtain ⟨a4, cap4, rfl, hA4, -⟩ := ho4.row
  have hsX := hb.size
  have A4 := A3.next hb
  have I4 := I3.next hb
  have OW4 := OW3.next hb
  have HB4 : Hid (Below w.heap.size w w4) := HB3.out.trans (hb.mono HB3.out.size)
  clear A3 I3 OW3 HB3
  clear hb c
  have OX4 := Own.made ho4
  clear ho4
  have hbq : Below w4.heap.size w4 (w4.alloc (.cells #[.slice a4 ns.length cap4] 26)) := (Below.refl _ _).alloc (Nat.le_refl _) _
  have BX5 : Var w4.heap.size (.slice a4 ns.length cap4) (w4.alloc (.cells #[.slice a4 ns.length cap4] 26)) := Var.made
  have hbX : w4.heap.size < (w4.alloc (.cells #[.slice a4 ns.length cap4] 26)).heap.size := by simp
  have A5 := A4.next hbq
  have I5 := I4.next hbq
  have OW5 := OW4.next hbq
  have OX5 := OX4.next hbq
  have HB5 : Hid (Below w.heap.size w (w4.alloc (.cells #[.slice a4 ns.length cap4] 26))) := HB4.out.trans (hbq.mono HB4.out.size)
  clear hbq HB4 A4 I4 OW4 OX4
  go_wp2_with fail
  generalize w4.alloc (.cells #[.slice a4 ns.length cap4] 26) = w5 at BX5 hbX HB5 A5 I5 OW5 OX5 ⊢
  refine (HI.out a4 cap4 w5 hA4 OX5.rowAt).mono ?_
  rintro e w6 ⟨v6, rfl, ho6, hb⟩
  obtain ⟨a6, cap6, rfl, hA6, -⟩ := ho6.row
  have hsG := hb.size
  have A6 := A5.next hb
  have I6 := I5.next hb
  have OW6 := OW5.next hb
  have OX6 := OX5.next hb
  have BX6 := BX5.next hb
  have HB6 : Hid (Below w.heap.size w w6) := HB5.out.trans (hb.mono HB5.out.size)
  clear A5 I5 OW5 OX5 BX5 HB5
  clear hb
  have OG6 := OwnZ.made ho6
  clear ho6
  go_wp2_with fail
  refine (eqIntS_same a6 a3 cap6 cap3 xs w6 (by have := HL.out; omega) OG6.rowAt OW6.all).mono ?_
  rintro e w7 ⟨rfl, hb⟩
  have A7 := A6.next hb
  have I7 := I6.next hb
  have OW7 := OW6.next hb
  have OX7 := OX6.next hb
  have BX7 := BX6.next hb
  have OG7 := OG6.next hb
  have HB7 : Hid (Below w.heap.size w w7) := HB6.out.trans (hb.mono HB6.out.size)
  clear A6 I6 OW6 OX6 BX6 OG6 HB6
  clear hb
  have hx5 := BX7.c
  have hc5 := A7.c
  have hs5 : w4.heap.size < w7.drew.heap.size := BX7.lt
  have hsw5 : w.heap.size < w7.drew.heap.size := A7.lt
  have HRA5 : Hid (RowN w7.drew.heap.size w7.drew a0 ns) := I7.all
  have HRX5 : Hid (RowN w7.drew.heap.size w7.drew a4 ns) := OX7.rowAt
  have HK7 : Hid _ := And.intro A7 (And.intro I7 (And.intro OW7 (And.intro OX7 (And.intro BX7 OG7))))
  clear A7 I7 OW7 OX7 BX7 OG7
  go_wp2_with fail
  go_region_held3 (fun w' => w'.cell? ⟨w4.heap.size, 0, none⟩ = some (.slice a4 ns.length cap4) ∧ w'.cell? ⟨w.heap.size, 0, none⟩ = some (.slice a0 ns.length cp)) (first | exact ⟨hx5, hc5⟩ | assumption | exact two_kept (by assumption) hs5 hsw5 hb6 | exact two_kept (by assumption) hs6 hsw6 hb7) (first | (go_at_call 29; refine (toArena_any a0 cp ns _ hl ?_).mono ?_; exact HRA5.out; rintro e wa ⟨vz, rfl, hoz, hb6⟩; obtain ⟨az, capz, rfl, hAz, hrz⟩ := hoz.row; have hs6 := Nat.lt_of_lt_of_le hs5 hb6.size; have hsw6 := Nat.lt_of_lt_of_le hsw5 hb6.size) | (go_at_call 31; refine (eqArena_same a4 az cap4 capz ns _ ?_ ?_ ?_).mono ?_; omega; exact HRX5.out.grown hb6; exact hrz; rintro e w8 ⟨rfl, hb7⟩))
  have hbT : Below w7.heap.size w7 w8 := ((Below.refl _ _).drew).trans (hb6.trans (hb7.mono hb6.size))
  obtain ⟨A7, I7, OW7, OX7, BX7, OG7⟩ := HK7.out
  have A8 := A7.next hbT
  have I8 := I7.next hbT
  have OW8 := OW7.next hbT
  have OX8 := OX7.next hbT
  have BX8 := BX7.next hbT
  have OG8 := OG7.next hbT
  have HB8 : Hid (Below w.heap.size w w8) := HB7.out.trans (hbT.mono HB7.out.size)
  clear A7 I7 OW7 OX7 BX7 OG7 HB7
  clear hoz hrz hb6 hAz hc5 hx5 hb7 hbT HRA5 HRX5 HK7 hs5 hsw5 hs6 hsw6
  have q0 := BX8.c
  go_wp2_with fail
  refine (markArena_any w3.heap.size 1 (.slice a4 ns.length cap4) ns w8 (by omega) (by omega) OX8.own).mono ?_
  rintro e w9 ⟨rfl, hox, hgr⟩
  have hbk := OX8.block
  clear hox q0
  have A9 := A8.mark hgr (fun h => by have := hbk _ h; omega)
  have I9 := I8.mark hgr (fun g hg => by have := hbk g hg; omega)
  have OW9 := OW8.mark hgr (fun g hg => by have := hbk g hg; omega)
  have OG9 := OG8.mark hgr (fun g hg => by have := hbk g hg; omega)
  have HB9 : Hid (Below w.heap.size w w9) := HB8.out.grown hgr HB8.out.size (fun k hk => by have := hbk k hk; omega)
  clear hgr hbk HB8 A8 I8 OW8 OX8 BX8 OG8
  have hk0 : ¬ (1 : Int) + 4 * (ns.length : Int) < 0 := by omega
  go_wp2_with fail
  refine (eqIntS_same a6 a3 cap6 cap3 xs w9 (by have := HL.out; omega) OG9.rowAt OW9.all).mono ?_
  rintro e w10 ⟨rfl, hb⟩
  have A10 := A9.next hb
  have I10 := I9.next hb
  have OW10 := OW9.next hb
  have OG10 := OG9.next hb
  have HB10 : Hid (Below w.heap.size w w10) := HB9.out.trans (hb.mono HB9.out.size)
  clear A9 I9 OW9 OG9 HB9
  clear hb hk0
  go_wp2_with fail
  refine (markIntS_any w5.heap.size 1 (.slice a6 xs.length cap6) xs w10 (by have := HL.out; omega) (by omega) OG10.own).mono ?_
  rintro e w11 ⟨rfl, hox, hgr⟩
  have hbk := OG10.block
  have OM11 : OwnZ w5.heap.size w6.heap.size (.slice a6 xs.length cap6) (marksI 1 xs.length) w11 := ⟨hox, Nat.le_trans OG10.le hgr.size, OG10.lt⟩
  clear hox
  have A11 := A10.mark hgr (fun h => by have := hbk _ h; omega)
  have I11 := I10.mark hgr (fun g hg => by have := hbk g hg; omega)
  have OW11 := OW10.mark hgr (fun g hg => by have := hbk g hg; omega)
  have HB11 : Hid (Below w.heap.size w w11) := HB10.out.grown hgr HB10.out.size (fun k hk => by have := hbk k hk; omega)
  clear hgr hbk HB10 A10 I10 OW10 OG10
  go_wp2_with fail
  refine (heldIntS_any a6 cap6 xs.length 1 w11 (by have := HL.out; omega) (by omega) OM11.rowAt).mono ?_
  rintro e w12 ⟨rfl, hb⟩
  have A12 := A11.next hb
  have I12 := I11.next hb
  have OW12 := OW11.next hb
  have OM12 := OM11.next hb
  have HB12 : Hid (Below w.heap.size w w12) := HB11.out.trans (hb.mono HB11.out.size)
  clear A11 I11 OW11 OM11 HB11
  clear hb
  have hk0 : ¬ (1 : Int) + (xs.length : Int) < 0 := by omega
  have c := A12.c
  go_wp2_with fail
  refine (toArena_any a0 cp ns w12 hl I12.all).mono ?_
  rintro e w13 ⟨v13, rfl, ho13, hb⟩
  obtain ⟨a13, cap13, rfl, hA13, hr13⟩ := ho13.row
  have A13 := A12.next hb
  have I13 := I12.next hb
  have OW13 := OW12.next hb
  have OM13 := OM12.next hb
  have HB13 : Hid (Below w.heap.size w w13) := HB12.out.trans (hb.mono HB12.out.size)
  clear A12 I12 OW12 OM12 HB12
  clear hb c ho13
  go_wp2_with fail
  refine (HI.out a13 cap13 w13 hA13 hr13).mono ?_
  rintro e w14 ⟨v14, rfl, ho14, hb⟩
  obtain ⟨a14, cap14, rfl, hA14, -⟩ := ho14.row
  have A14 := A13.next hb
  have I14 := I13.next hb
  have OW14 := OW13.next hb
  have OM14 := OM13.next hb
  have HB14 : Hid (Below w.heap.size w w14) := HB13.out.trans (hb.mono HB13.out.size)
  clear A13 I13 OW13 OM13 HB13
  clear hb hA13 hr13 HI
  have OH14 := OwnZ.made ho14
  clear ho14
  go_wp2_with fail
  refine (eqIntS_same a14 a3 cap14 cap3 xs w14 (by have := HL.out; omega) OH14.rowAt OW14.all).mono ?_
  rintro e w15 ⟨rfl, hb⟩
  have A15 := A14.next hb
  have I15 := I14.next hb
  have OW15 := OW14.next hb
  have OM15 := OM14.next hb
  have OH15 := OH14.next hb
  have HB15 : Hid (Below w.heap.size w w15) := HB14.out.trans (hb.mono HB14.out.size)
  clear A14 I14 OW14 OM14 OH14 HB14
  clear hb
  go_wp2_with fail
  refine (heldIntS_any a6 cap6 xs.length 1 w15 (by have := HL.out; omega) (by omega) OM15.rowAt).mono ?_
  rintro e w16 ⟨rfl, hb⟩
  have HB16 : Hid (Below w.heap.size w w16) := HB15.out.trans (hb.mono HB15.out.size)
  clear hb HB15 A15 I15 OW15 OM15 OH15
  go_wp2
  go_ret
  exact ⟨rfl, HB16.out⟩

theorem laidOut : laidOutB Try.prog = true := by kernel_rfl
set_option maxRecDepth 100000 in
theorem lifted (os : Os) (started : os.Started) (H : Type) (enc : TypeId × Value → H) :
    ReturnsInHanded {} Try.checked os 9 .any (Rows.fnExactLetterInSpec.pre6 enc Try.prog Try.f9 Rows.fnExactLetterInRow.domain false) (Rows.fnExactLetterInSpec.post enc Try.prog Try.f9 false true false false) := by
  refine returnsInHanded_of_change (C := Try.checked) own started (by kernel_rfl) Try.func9
    (ChangeSpec.witness6 (enc := enc) (C := Try.checked) false ⟨#[], #[.agg #[.slice none 0 0], .int .i64 0], []⟩ 8 (by kernel_rfl) (by kernel_rfl) (by kernel_rfl) (by kernel_rfl)) ?_
  intro W base args ds gs before hval0 hW hcnd _
  have hval : ∀ (j : Nat) t v, Try.f9.params[j]? = some t → args[j]? = some v → Value.okWide Try.prog W .any base t v := hval0
  have hW' := hW
  obtain ⟨p, q, hA0, hV, rfl, hfz, hnd⟩ := hW
  have hA : DataW.TrodAll enc Try.prog W 0 (fun _ => true) true Try.f9.params.toList args.toList ds p := hA0
  rw [Try.params9] at hA hval
  obtain ⟨v0, vs0, d0, ds0, p0, q0, hargs, rfl, rfl, h0, r0⟩ := trodAll_cons hA
  obtain ⟨v1, vs1, d1, ds1, p1, q1, rfl, rfl, rfl, h1, r1⟩ := trodAll_cons r0
  obtain ⟨rfl, rfl, rfl⟩ := trodAll_nil r1
  obtain rfl : args = #[v0, v1] := by cases args; simp_all
  obtain ⟨rfl, rfl⟩ := trodVars_none hV
  have k0 := h0
  have lt0 : ∀ x ∈ p0, x.block < W.heap.size := by obtain ⟨m, hm⟩ := k0; exact DataW.trod_lt m _ _ _ hm
  obtain ⟨a0, c0, n0, rfl, w0, rn0, f0⟩ := arena_of (hval 0 51 v0 rfl rfl) h0
  obtain ⟨a1, rfl, rfl, rfl, w1⟩ := open_int Try.underlying3 (hval 1 3 v1 rfl rfl) h1
  clear hA0 hval0
  refine (walk a0 c0 n0 a1 w0 f0 w1 W rn0).mono fun e W' ⟨he, bel⟩ => ?_
  subst he
  exact ⟨_, rfl, _, _, _, [], _, [], hW', trodAll_mk1 (shut_bool Try.underlying4 _), (trodAll_cons_mk (Below.trod laidOut (by kernel_rfl) (of_decide_eq_true (by kernel_rfl)) k0 bel lt0) (trodAll_cons_mk (shut_int Try.underlying3 w1) trodAll_mk0)), rfl, bel.frame _, fun h => by cases h⟩

theorem over : Rows.fnExactLetterInRow.holds Try.pinned (OpenSpec.ofChange Rows.fnExactLetterInSpec) :=
  OpenClaim.holds_of_wide 9 Try.f9 rfl rfl rfl rfl rfl rfl rfl ⟨rfl, rfl, rfl, rfl, rfl⟩ rfl rfl rfl rfl rfl (by kernel_rfl) Try.func9 (by kernel_rfl)
    (of_decide_eq_true (by kernel_rfl)) (by unfold Func.isWrapper; first | (rw [if_pos (by decide +kernel)]; kernel_rfl) | (rw [if_neg (by decide +kernel)]; exact ⟨rfl, rfl⟩))
    (fun os started H enc _ => lifted os started H enc)
end fnExactLetterIn

theorem fnExactLetterIn_holds : Rows.FnExactLetterInSaid := fnExactLetterIn.over
#print axioms fnExactLetterIn_holds
end Go.Proofs.Ytlmkkkpjcpopkaa
