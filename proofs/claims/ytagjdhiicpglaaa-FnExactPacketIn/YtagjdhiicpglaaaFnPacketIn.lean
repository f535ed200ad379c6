/- For every arena and place: PacketIn of the program answers as the specification's PacketIn does, and the arguments read as before. No condition. -/
import Derived.Test.YtagjdhiicpglaaaRows
import Derived.Test.YtagjdhiicpglaaaArgArena
import Derived.Test.YtagjdhiicpglaaaLawArena2
import Derived.Test.YtagjdhiicpglaaaPin16
import Derived.Test.YtagjdhiicpglaaaImplPi16
import Derived.Test.YtagjdhiicpglaaaLawClip
import Derived.Test.YtagjdhiicpglaaaLawKeep
import Derived.WalkKit
import Derived.ProofKit
import Derived.OpenShut
import Derived.ShutString
import Derived.ChangeOld
import Derived.PlainAid
import Derived.Deep.RegionHeld3
namespace Go.Proofs.Ytagjdhiicpglaaa
namespace fnExactPacketIn
open Go.ChangeShapes Go.WideShapes Go.ChangeAt Go.RowKit Go.PlainAid
open Go.ChangeMaps (open_string shut_string)
set_option linter.unusedVariables false

theorem own : ownKnob Try.prog.godebug = none := by kernel_rfl

set_option maxHeartbeats 400000 in
theorem walk (a0 : Option Addr) (c0 : Nat) (ns : List Nd) (k1 : Int) (w0 : ns.length ≤ maxLen) (f0 : ∀ y ∈ ns, y.Fits) (w1 : (Lit.int .i64 k1).wf = true) (w : World) (hr : RowN w.heap.size w a0 ns) :
    Calls Try.prog 3 #[.agg #[.slice a0 ns.length c0], .int .i64 k1] w fun e w' => e = .returned (.bool true) ∧ Below w.heap.size w w' := by
  have HR : Hid (RowN w.heap.size w a0 ns) := hr
  have HF : Hid (∀ y ∈ ns, y.Fits) := f0
  clear hr f0
  by_cases hl : ns.length ≤ 1048576
  · have hl' : ¬ (1048576 : Int) - (ns.length : Int) < 0 := by omega
    clear w0
    go_enter Try.func3, Try.ntmps3
    go_wp2_with fail
    have hA : Below w.heap.size w (w.alloc (.cells #[.slice a0 ns.length c0] 24)) := (Below.refl _ _).alloc (Nat.le_refl _) _
    have hcA : (w.alloc (.cells #[.slice a0 ns.length c0] 24)).cell? ⟨w.heap.size, 0, none⟩ = some (.slice a0 ns.length c0) := by rw [cell_of_row _ w.heap.size 0 _ _ _ (heap_alloc_new w _)]; rfl
    have hsA : w.heap.size < (w.alloc (.cells #[.slice a0 ns.length c0] 24)).heap.size := by simp
    generalize w.alloc (.cells #[.slice a0 ns.length c0] 24) = wA at hA hcA hsA ⊢
    have HA : Hid (Below w.heap.size w wA) := hA
    have HRA : Hid (RowN wA.heap.size wA a0 ns) := HR.out.grown hA
    clear hA
    refine (szArena_any a0 ns.length c0 _ hl).mono ?_
    rintro e w1 ⟨rfl, hb1⟩
    have hc1 := (hb1.cell (p := ⟨w.heap.size, 0, none⟩) hsA).trans hcA
    go_wp2_with fail
    refine (toArena_any a0 c0 ns _ hl (HRA.out.grown hb1)).mono ?_
    rintro e w2 ⟨v2, rfl, ho2, hb2⟩
    obtain ⟨a2, cap2, rfl, hA2, hr2⟩ := ho2.row
    have hB2 : Below wA.heap.size wA w2 := hb1.trans (hb2.mono hb1.size)
    clear ho2 hb1 hb2 hc1
    go_wp2_with fail
    refine (specPin_any a2 cap2 ns k1 _ hl hr2).mono ?_
    rintro e w3m ⟨rfl, hb3⟩
    have hb3' : Below w2.heap.size w2 (w3m.alloc (.cells #[.int .i64 ((pinR ns k1).k), .int .i64 ((pinR ns k1).n), .int .i64 ((pinR ns k1).a), .int .i64 ((pinR ns k1).b)] 27)) := hb3.alloc hb3.size _
    have hB3 : Below wA.heap.size wA (w3m.alloc (.cells #[.int .i64 ((pinR ns k1).k), .int .i64 ((pinR ns k1).n), .int .i64 ((pinR ns k1).a), .int .i64 ((pinR ns k1).b)] 27)) := hB2.trans (hb3'.mono hB2.size)
    have N3 : NodeIn w3m.heap.size (⟨(pinR ns k1).k, (pinR ns k1).n, (pinR ns k1).a, (pinR ns k1).b⟩ : Nd) (w3m.alloc (.cells #[.int .i64 ((pinR ns k1).k), .int .i64 ((pinR ns k1).n), .int .i64 ((pinR ns k1).a), .int .i64 ((pinR ns k1).b)] 27)) := NodeIn.made
    have hc3 := (hB3.cell (p := ⟨w.heap.size, 0, none⟩) hsA).trans hcA
    clear hr2 hb3 hb3' hB2 hA2
    go_wp2_with fail
    generalize w3m.alloc (.cells #[.int .i64 ((pinR ns k1).k), .int .i64 ((pinR ns k1).n), .int .i64 ((pinR ns k1).a), .int .i64 ((pinR ns k1).b)] 27) = w3 at hB3 hc3 N3 ⊢
    generalize w3m.heap.size = gW at N3 ⊢
    refine (toArena_any a0 c0 ns _ hl (HRA.out.grown hB3)).mono ?_
    rintro e w4 ⟨v4, rfl, ho4, hb4⟩
    obtain ⟨a4, cap4, rfl, hA4, hr4⟩ := ho4.row
    have hB4 : Below wA.heap.size wA w4 := hB3.trans (hb4.mono hB3.size)
    have N4 := N3.next hb4
    clear N3
    have HR4 : Hid (RowN w4.heap.size w4 a4 ns) := hr4
    have HR4' : Hid (RowN (w4.alloc (.cells #[.slice a4 ns.length cap4] 32)).heap.size (w4.alloc (.cells #[.slice a4 ns.length cap4] 32)) a4 ns) := hr4.grown ((Below.refl _ _).alloc (Nat.le_refl _) _)
    clear ho4 hr4 hb4 hB3 hA4 hc3
    go_wp2_with fail
    have hb4 : Below w4.heap.size w4 (w4.alloc (.cells #[.slice a4 ns.length cap4] 32)) := (Below.refl _ _).alloc (Nat.le_refl _) _
    have hx4 : (w4.alloc (.cells #[.slice a4 ns.length cap4] 32)).cell? ⟨w4.heap.size, 0, none⟩ = some (.slice a4 ns.length cap4) := by rw [cell_of_row _ w4.heap.size 0 _ _ _ (heap_alloc_new w4 _)]; rfl
    have hs4 : w4.heap.size < (w4.alloc (.cells #[.slice a4 ns.length cap4] 32)).heap.size := by simp
    generalize w4.alloc (.cells #[.slice a4 ns.length cap4] 32) = wX at hb4 hx4 hs4 HR4' ⊢
    have hBX : Below wA.heap.size wA wX := hB4.trans (hb4.mono hB4.size)
    have N5 := N4.next hb4
    clear N4
    clear hB4 hb4 HR4
    refine (implPin_any a4 cap4 ns k1 _ hl HF.out HR4'.out).mono ?_
    rintro e w5m ⟨rfl, hb5m⟩
    have hb5a : Below wX.heap.size wX (w5m.alloc (.cells #[.int .i64 ((pinR ns k1).k), .int .i64 ((pinR ns k1).n), .int .i64 ((pinR ns k1).a), .int .i64 ((pinR ns k1).b)] 27)) := hb5m.alloc hb5m.size _
    have G5 : NodeIn w5m.heap.size (⟨(pinR ns k1).k, (pinR ns k1).n, (pinR ns k1).a, (pinR ns k1).b⟩ : Nd) (w5m.alloc (.cells #[.int .i64 ((pinR ns k1).k), .int .i64 ((pinR ns k1).n), .int .i64 ((pinR ns k1).a), .int .i64 ((pinR ns k1).b)] 27)) := NodeIn.made
    have N6 := N5.next hb5a
    clear N5 hb5m
    have y0 : (w5m.alloc (.cells #[.int .i64 ((pinR ns k1).k), .int .i64 ((pinR ns k1).n), .int .i64 ((pinR ns k1).a), .int .i64 ((pinR ns k1).b)] 27)).cell? ⟨gW, 0, none⟩ = some (.int .i64 ((pinR ns k1).k)) := N6.c0
    have y1 : (w5m.alloc (.cells #[.int .i64 ((pinR ns k1).k), .int .i64 ((pinR ns k1).n), .int .i64 ((pinR ns k1).a), .int .i64 ((pinR ns k1).b)] 27)).cell? ⟨gW, 1, none⟩ = some (.int .i64 ((pinR ns k1).n)) := N6.c1
    have y2 : (w5m.alloc (.cells #[.int .i64 ((pinR ns k1).k), .int .i64 ((pinR ns k1).n), .int .i64 ((pinR ns k1).a), .int .i64 ((pinR ns k1).b)] 27)).cell? ⟨gW, 2, none⟩ = some (.int .i64 ((pinR ns k1).a)) := N6.c2
    have y3 : (w5m.alloc (.cells #[.int .i64 ((pinR ns k1).k), .int .i64 ((pinR ns k1).n), .int .i64 ((pinR ns k1).a), .int .i64 ((pinR ns k1).b)] 27)).cell? ⟨gW, 3, none⟩ = some (.int .i64 ((pinR ns k1).b)) := N6.c3
    have z0 : (w5m.alloc (.cells #[.int .i64 ((pinR ns k1).k), .int .i64 ((pinR ns k1).n), .int .i64 ((pinR ns k1).a), .int .i64 ((pinR ns k1).b)] 27)).cell? ⟨w5m.heap.size, 0, none⟩ = some (.int .i64 ((pinR ns k1).k)) := G5.c0
    have z1 : (w5m.alloc (.cells #[.int .i64 ((pinR ns k1).k), .int .i64 ((pinR ns k1).n), .int .i64 ((pinR ns k1).a), .int .i64 ((pinR ns k1).b)] 27)).cell? ⟨w5m.heap.size, 1, none⟩ = some (.int .i64 ((pinR ns k1).n)) := G5.c1
    have z2 : (w5m.alloc (.cells #[.int .i64 ((pinR ns k1).k), .int .i64 ((pinR ns k1).n), .int .i64 ((pinR ns k1).a), .int .i64 ((pinR ns k1).b)] 27)).cell? ⟨w5m.heap.size, 2, none⟩ = some (.int .i64 ((pinR ns k1).a)) := G5.c2
    have z3 : (w5m.alloc (.cells #[.int .i64 ((pinR ns k1).k), .int .i64 ((pinR ns k1).n), .int .i64 ((pinR ns k1).a), .int .i64 ((pinR ns k1).b)] 27)).cell? ⟨w5m.heap.size, 3, none⟩ = some (.int .i64 ((pinR ns k1).b)) := G5.c3
    have hz : (w5m.alloc (.cells #[.int .i64 ((pinR ns k1).k), .int .i64 ((pinR ns k1).n), .int .i64 ((pinR ns k1).a), .int .i64 ((pinR ns k1).b)] 27)).heap.size = (w5m.alloc (.cells #[.int .i64 ((pinR ns k1).k), .int .i64 ((pinR ns k1).n), .int .i64 ((pinR ns k1).a), .int .i64 ((pinR ns k1).b)] 27)).heap.size := rfl
    go_wp2_with fail
    clear hz y0 y1 y2 y3 z0 z1 z2 z3
    generalize w5m.alloc (.cells #[.int .i64 ((pinR ns k1).k), .int .i64 ((pinR ns k1).n), .int .i64 ((pinR ns k1).a), .int .i64 ((pinR ns k1).b)] 27) = w5n at hb5a G5 N6 ⊢
    generalize w5m.heap.size = gG at G5 ⊢
    refine (eqPacket_any (⟨(pinR ns k1).k, (pinR ns k1).n, (pinR ns k1).a, (pinR ns k1).b⟩ : Nd) (⟨(pinR ns k1).k, (pinR ns k1).n, (pinR ns k1).a, (pinR ns k1).b⟩ : Nd) _).mono ?_
    rintro e w5 ⟨rfl, hb5b⟩
    have hb5 : Below wX.heap.size wX w5 := hb5a.trans (hb5b.mono hb5a.size)
    clear hb5a hb5b G5 N6
    rw [decide_eq_true (rfl : (⟨(pinR ns k1).k, (pinR ns k1).n, (pinR ns k1).a, (pinR ns k1).b⟩ : Nd) = (⟨(pinR ns k1).k, (pinR ns k1).n, (pinR ns k1).a, (pinR ns k1).b⟩ : Nd))]
    have hB5 : Below wA.heap.size wA w5 := hBX.trans (hb5.mono hBX.size)
    have hc5 := (hB5.cell (p := ⟨w.heap.size, 0, none⟩) hsA).trans hcA
    have hx5 := (hb5.cell (p := ⟨w4.heap.size, 0, none⟩) hs4).trans hx4
    have hs5 : w4.heap.size < w5.drew.heap.size := Nat.lt_of_lt_of_le hs4 hb5.size
    have hsw5 : w.heap.size < w5.drew.heap.size := Nat.lt_of_lt_of_le hsA hB5.size
    have HB5 : Hid (Below w.heap.size w w5) := HA.out.trans (hB5.mono HA.out.size)
    have HRA5 : Hid (RowN w5.drew.heap.size w5.drew a0 ns) := HRA.out.grown hB5.drew
    have HRX5 : Hid (RowN w5.drew.heap.size w5.drew a4 ns) := HR4'.out.grown hb5.drew
    clear hB5 hb5 hBX HR4' hx4 hcA HRA HR
    go_wp2_with fail
    go_region_held3 (fun w' => w'.cell? ⟨w4.heap.size, 0, none⟩ = some (.slice a4 ns.length cap4) ∧ w'.cell? ⟨w.heap.size, 0, none⟩ = some (.slice a0 ns.length c0)) (first | exact ⟨hx5, hc5⟩ | assumption | exact two_kept (by assumption) hs5 hsw5 hb6 | exact two_kept (by assumption) hs6 hsw6 hb7) (first | (go_at_call 6; refine (toArena_any a0 c0 ns _ hl ?_).mono ?_; exact HRA5.out; rintro e w6 ⟨v6, rfl, ho6, hb6⟩; obtain ⟨a6, cap6, rfl, hA6, hr6⟩ := ho6.row; have hs6 := Nat.lt_of_lt_of_le hs5 hb6.size; have hsw6 := Nat.lt_of_lt_of_le hsw5 hb6.size) | (go_at_call 9; refine (eqArena_same a4 a6 cap4 cap6 ns _ ?_ ?_ ?_).mono ?_; omega; exact HRX5.out.grown hb6; exact hr6; rintro e w7 ⟨rfl, hb7⟩))
    have hB6 : Below w.heap.size w w6 := HB5.out.drew.trans (hb6.mono HB5.out.size)
    have hB7 : Below w.heap.size w w7 := hB6.trans (hb7.mono hB6.size)
    clear ho6 hr6 hb6 hA6 hc5 hx5 hb7 hB6
    go_wp2
    go_ret
    exact ⟨rfl, hB7⟩
  · have hl' : (1048576 : Int) - (ns.length : Int) < 0 := by omega
    have hA : Below w.heap.size w (w.alloc (.cells #[.slice a0 ns.length c0] 24)) := (Below.refl _ _).alloc (Nat.le_refl _) _
    have H : Hid _ := szArena_big a0 ns.length c0 (w.alloc (.cells #[.slice a0 ns.length c0] 24)) (by omega) w0
    have HA : Hid _ := hA
    clear w0 hA
    go_enter Try.func3, Try.ntmps3
    go_wp2_with fail
    refine Calls.mono H.out ?_
    rintro e w1 ⟨rfl, hb1⟩
    go_wp2
    go_ret
    exact ⟨rfl, HA.out.trans (hb1.mono HA.out.size)⟩

theorem laidOut : laidOutB Try.prog = true := by kernel_rfl
set_option maxRecDepth 100000 in
theorem lifted (os : Os) (started : os.Started) (H : Type) (enc : TypeId × Value → H) :
    ReturnsInHanded {} Try.checked os 3 .any (Rows.fnExactPacketInSpec.pre6 enc Try.prog Try.f3 Rows.fnExactPacketInRow.domain false) (Rows.fnExactPacketInSpec.post enc Try.prog Try.f3 false true false false) := by
  refine returnsInHanded_of_change (C := Try.checked) own started (by kernel_rfl) Try.func3
    (ChangeSpec.witness6 (enc := enc) (C := Try.checked) false ⟨#[], #[.agg #[.slice none 0 0], .int .i64 0], []⟩ 8 (by kernel_rfl) (by kernel_rfl) (by kernel_rfl) (by kernel_rfl)) ?_
  intro W base args ds gs before hval0 hW hcnd _
  have hval : ∀ (j : Nat) t v, Try.f3.params[j]? = some t → args[j]? = some v → Value.okWide Try.prog W .any base t v := hval0
  have hW' := hW
  obtain ⟨p, q, hA0, hV, rfl, hfz, hnd⟩ := hW
  have hA : DataW.TrodAll enc Try.prog W 0 (fun _ => true) true Try.f3.params.toList args.toList ds p := hA0
  rw [Try.params3] at hA hval
  obtain ⟨v0, vs0, d0, ds0, p0, q0, hargs, rfl, rfl, h0, r0⟩ := trodAll_cons hA
  obtain ⟨v1, vs1, d1, ds1, p1, q1, rfl, rfl, rfl, h1, r1⟩ := trodAll_cons r0
  obtain ⟨rfl, rfl, rfl⟩ := trodAll_nil r1
  obtain rfl : args = #[v0, v1] := by cases args; simp_all
  obtain ⟨rfl, rfl⟩ := trodVars_none hV
  have k0 := h0
  have lt0 : ∀ x ∈ p0, x.block < W.heap.size := by obtain ⟨m, hm⟩ := k0; exact DataW.trod_lt m _ _ _ hm
  obtain ⟨a0, c0, n0, rfl, w0, rn0, f0⟩ := arena_of (hval 0 24 v0 rfl rfl) h0
  obtain ⟨a1, rfl, rfl, rfl, w1⟩ := open_int Try.underlying3 (hval 1 3 v1 rfl rfl) h1
  clear hA0 hval0
  refine (walk a0 c0 n0 a1 w0 f0 w1 W rn0).mono fun e W' ⟨he, bel⟩ => ?_
  subst he
  exact ⟨_, rfl, _, _, _, [], _, [], hW', trodAll_mk1 (shut_bool Try.underlying4 _), (trodAll_cons_mk (Below.trod laidOut (by kernel_rfl) (of_decide_eq_true (by kernel_rfl)) k0 bel lt0) (trodAll_cons_mk (shut_int Try.underlying3 w1) trodAll_mk0)), rfl, bel.frame _, fun h => by cases h⟩

theorem over : Rows.fnExactPacketInRow.holds Try.pinned (OpenSpec.ofChange Rows.fnExactPacketInSpec) :=
  OpenClaim.holds_of_wide 3 Try.f3 rfl rfl rfl rfl rfl rfl rfl ⟨rfl, rfl, rfl, rfl, rfl⟩ rfl rfl rfl rfl rfl (by kernel_rfl) Try.func3 (by kernel_rfl)
    (of_decide_eq_true (by kernel_rfl)) (by unfold Func.isWrapper; first | (rw [if_pos (by decide +kernel)]; kernel_rfl) | (rw [if_neg (by decide +kernel)]; exact ⟨rfl, rfl⟩))
    (fun os started H enc _ => lifted os started H enc)
end fnExactPacketIn

theorem fnExactPacketIn_holds : Rows.FnExactPacketInSaid := fnExactPacketIn.over
#print axioms fnExactPacketIn_holds
end Go.Proofs.Ytagjdhiicpglaaa
