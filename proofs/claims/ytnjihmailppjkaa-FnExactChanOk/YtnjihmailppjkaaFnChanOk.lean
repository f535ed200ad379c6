/- For every arena and channel: ChanOk of the program answers as the specification's ChanOk does, and the arguments read as before. No condition. -/
import Derived.Test.YtnjihmailppjkaaRows
import Derived.Test.YtnjihmailppjkaaArgArena
import Derived.Test.YtnjihmailppjkaaLawArena2
import Derived.Test.YtnjihmailppjkaaLawKeep
import Derived.Test.YtnjihmailppjkaaCh13
import Derived.Test.YtnjihmailppjkaaImpl13
import Derived.WalkKit
import Derived.ProofKit
import Derived.OpenShut
import Derived.ShutString
import Derived.ChangeOld
import Derived.PlainAid
import Derived.Deep.RegionHeld3
namespace Go.Proofs.Ytnjihmailppjkaa
namespace fnExactChanOk
open Go.ChangeShapes Go.WideShapes Go.ChangeAt Go.RowKit Go.PlainAid
open Go.ChangeMaps (open_string shut_string)
set_option linter.unusedVariables false

theorem own : ownKnob Try.prog.godebug = none := by kernel_rfl

set_option maxHeartbeats 3200000 in
set_option maxRecDepth 20000 in
theorem walk (a0 : Option Addr) (cp : Nat) (ns : List Nd) (x : Ch) (w0 : ns.length ≤ maxLen) (f0 : ∀ y ∈ ns, y.Fits) (w1 : x.Fits) (w : World) (hr : RowN w.heap.size w a0 ns) :
    Calls Try.prog 4 #[.agg #[.slice a0 ns.length cp], .agg #[.int .i64 x.a, .int .i64 x.s, .int .i64 x.e, .int .i64 x.q, .int .i64 x.h, .int .i64 x.t, .int .i64 x.u, .int .i64 x.l, .int .i64 x.m]] w fun e w' => e = .returned (.bool true) ∧ Below w.heap.size w w' := by
  have hB0 : Below w.heap.size w ((w.alloc (.cells #[.slice a0 ns.length cp] 31)).alloc (.cells #[.int .i64 x.a, .int .i64 x.s, .int .i64 x.e, .int .i64 x.q, .int .i64 x.h, .int .i64 x.t, .int .i64 x.u, .int .i64 x.l, .int .i64 x.m] 34)) := ((Below.refl _ _).alloc (Nat.le_refl _) _).alloc (by simp) _
  by_cases hl : ns.length ≤ 1048576
  rotate_left
  · have hl' : (1048576 : Int) - (ns.length : Int) < 0 := by omega
    have H : Hid _ := szArena_big a0 ns.length cp ((w.alloc (.cells #[.slice a0 ns.length cp] 31)).alloc (.cells #[.int .i64 x.a, .int .i64 x.s, .int .i64 x.e, .int .i64 x.q, .int .i64 x.h, .int .i64 x.t, .int .i64 x.u, .int .i64 x.l, .int .i64 x.m] 34)) (by omega) w0
    have HA : Hid _ := hB0
    clear w0 hB0 hr
    go_enter Try.func4, Try.ntmps4
    go_wp2_with fail
    refine Calls.mono H.out ?_
    rintro e w1 ⟨rfl, hb1⟩
    go_wp2
    go_ret
    exact ⟨rfl, HA.out.trans (hb1.mono HA.out.size)⟩
  have hl' : ¬ (1048576 : Int) - (ns.length : Int) < 0 := by omega
  clear w0 f0
  obtain ⟨V, HS, HI⟩ : ∃ V : Bool, Hid (∀ (a : Option Addr) (cap : Nat) (w : World), RowN w.heap.size w a ns → Calls Try.prog 12 #[.agg #[.slice a ns.length cap], .agg #[.int .i64 x.a, .int .i64 x.s, .int .i64 x.e, .int .i64 x.q, .int .i64 x.h, .int .i64 x.t, .int .i64 x.u, .int .i64 x.l, .int .i64 x.m]] w fun e w' => e = .returned (.bool V) ∧ Below w.heap.size w w') ∧ Hid (∀ (a : Option Addr) (cap : Nat) (w : World), RowN w.heap.size w a ns → Calls Try.prog 15 #[.agg #[.slice a ns.length cap], .agg #[.int .i64 x.a, .int .i64 x.s, .int .i64 x.e, .int .i64 x.q, .int .i64 x.h, .int .i64 x.t, .int .i64 x.u, .int .i64 x.l, .int .i64 x.m]] w fun e w' => e = .returned (.bool V) ∧ Below w.heap.size w w') := ⟨chanB ns x, fun a cap w hr => specChanOk_any a cap ns x w hl hr, fun a cap w hr => implChanOk_any a cap ns x w hl w1 hr⟩
  clear w1
  have hVV : (V != V) = false := by simp
  have A0 : Var w.heap.size (.slice a0 ns.length cp) ((w.alloc (.cells #[.slice a0 ns.length cp] 31)).alloc (.cells #[.int .i64 x.a, .int .i64 x.s, .int .i64 x.e, .int .i64 x.q, .int .i64 x.h, .int .i64 x.t, .int .i64 x.u, .int .i64 x.l, .int .i64 x.m] 34)) := Var.made.next ((Below.refl _ _).alloc (Nat.le_refl _) _)
  have N0 : ChIn (w.heap.size + 1) x ((w.alloc (.cells #[.slice a0 ns.length cp] 31)).alloc (.cells #[.int .i64 x.a, .int .i64 x.s, .int .i64 x.e, .int .i64 x.q, .int .i64 x.h, .int .i64 x.t, .int .i64 x.u, .int .i64 x.l, .int .i64 x.m] 34)) := by
    have := ChIn.made (w := w.alloc (.cells #[.slice a0 ns.length cp] 31)) (x := x) (t := 34)
    simpa using this
  have I0 : In w.heap.size a0 ns ((w.alloc (.cells #[.slice a0 ns.length cp] 31)).alloc (.cells #[.int .i64 x.a, .int .i64 x.s, .int .i64 x.e, .int .i64 x.q, .int .i64 x.h, .int .i64 x.t, .int .i64 x.u, .int .i64 x.l, .int .i64 x.m] 34)) := ⟨by simp; omega, hr.later hB0⟩
  have HB0 : Hid _ := hB0
  clear hB0 hr
  go_enter Try.func4, Try.ntmps4
  go_wp2_with fail
  generalize (w.alloc (.cells #[.slice a0 ns.length cp] 31)).alloc (.cells #[.int .i64 x.a, .int .i64 x.s, .int .i64 x.e, .int .i64 x.q, .int .i64 x.h, .int .i64 x.t, .int .i64 x.u, .int .i64 x.l, .int .i64 x.m] 34) = wA at A0 N0 I0 HB0 ⊢
  refine (szArena_any a0 ns.length cp _ hl).mono ?_
  rintro e w1 ⟨rfl, hb⟩
  have A1 := A0.next hb
  have N1 := N0.next hb
  have I1 := I0.next hb
  have HB1 : Hid (Below w.heap.size w w1) := HB0.out.trans (hb.mono HB0.out.size)
  clear A0 N0 I0 HB0 hb
  go_wp2_with fail
  have A1d := A1.next ((Below.refl _ _).drew)
  have N1d := N1.next ((Below.refl _ _).drew)
  have I1d := I1.next ((Below.refl _ _).drew)
  have HB1d : Hid (Below w.heap.size w w1.drew) := HB1.out.drew
  clear A1 N1 I1 HB1
  refine _root_.Go.wp_region_held (S := fun w' : World => Var w.heap.size (.slice a0 ns.length cp) w' ∧ ChIn (w.heap.size + 1) x w') (by kernel_rfl) ?_
  have hS : (fun w' : World => Var w.heap.size (.slice a0 ns.length cp) w' ∧ ChIn (w.heap.size + 1) x w') w1.drew := ⟨A1d, N1d⟩
  refine wpAnyH_take (i := 0) (v := ?_) rfl (by kernel_rfl) (by kernel_rfl) (by kernel_rfl) (fun _ _ _ h => h) (Or.inl ⟨by rfl, ?_⟩) hS ?_
  rotate_left
  · intro w hSw; obtain ⟨yA, yN⟩ := hSw; have y0 := yA.c; have z0 := yN.c0; have z1 := yN.c1; have z2 := yN.c2; have z3 := yN.c3; have z4 := yN.c4; have z5 := yN.c5; have z6 := yN.c6; have z7 := yN.c7; have z8 := yN.c8; go_simp; try with_reducible rfl
  simp only [Act.put, List.getElem_toArray, List.getElem_cons_zero, List.setIfInBounds_toArray, List.set_cons_succ, List.set_cons_zero]
  refine wpAnyH_take (i := 2) (v := ?_) rfl (by kernel_rfl) (by kernel_rfl) (by kernel_rfl) (fun _ _ _ h => h) (Or.inl ⟨by rfl, ?_⟩) hS ?_
  rotate_left
  · intro w hSw; obtain ⟨yA, yN⟩ := hSw; have y0 := yA.c; have z0 := yN.c0; have z1 := yN.c1; have z2 := yN.c2; have z3 := yN.c3; have z4 := yN.c4; have z5 := yN.c5; have z6 := yN.c6; have z7 := yN.c7; have z8 := yN.c8; go_simp; try with_reducible rfl
  simp only [Act.put, List.getElem_toArray, List.getElem_cons_succ, List.getElem_cons_zero, List.setIfInBounds_toArray, List.set_cons_succ, List.set_cons_zero]
  refine wpAnyH_ready (rs := [1]) (by kernel_rfl) (by simp) ?_
  refine AllReadyH.cons rfl (fun K hK => ?_) AllReadyH.nil
  go_simp
  refine (toArena_any a0 cp ns _ hl I1d.all).mono ?_
  rintro e w2 ⟨v2, rfl, ho2, hb⟩
  obtain ⟨a2, cap2, rfl, hA2, hr2⟩ := ho2.row
  have A2 := A1d.next hb
  have N2 := N1d.next hb
  have I2 := I1d.next hb
  have HB2 : Hid (Below w.heap.size w w2) := HB1d.out.trans (hb.mono HB1d.out.size)
  clear A1d N1d I1d HB1d
  clear hb
  refine hK.out _ _ ⟨A2, N2⟩ (fun hS => ?_)
  clear hK K
  refine wpAnyH_ready (rs := [3]) (by kernel_rfl) (by simp) ?_
  refine AllReadyH.cons rfl (fun K hK => ?_) AllReadyH.nil
  go_simp
  refine (toChan_any x _).mono ?_
  rintro e w3 ⟨rfl, hb⟩
  have hr3 := hr2.grown hb
  have A3 := A2.next hb
  have N3 := N2.next hb
  have I3 := I2.next hb
  have HB3 : Hid (Below w.heap.size w w3) := HB2.out.trans (hb.mono HB2.out.size)
  clear A2 N2 I2 HB2
  clear hb
  refine hK.out _ _ ⟨A3, N3⟩ (fun hS => ?_)
  clear hK K
  refine wpAnyH_ready (rs := [4]) (by kernel_rfl) (by simp) ?_
  refine AllReadyH.cons rfl (fun K hK => ?_) AllReadyH.nil
  go_simp
  refine (HS.out _ _ _ hr3).mono ?_
  rintro e w4 ⟨rfl, hb⟩
  have A4 := A3.next hb
  have N4 := N3.next hb
  have I4 := I3.next hb
  have HB4 : Hid (Below w.heap.size w w4) := HB3.out.trans (hb.mono HB3.out.size)
  clear A3 N3 I3 HB3
  clear hb
  refine hK.out _ _ ⟨A4, N4⟩ (fun hS => ?_)
  clear hK K
  refine wpAnyH_take (i := 5) (v := ?_) rfl (by kernel_rfl) (by kernel_rfl) (by kernel_rfl) (fun _ _ _ h => h) (Or.inl ⟨by rfl, ?_⟩) hS ?_
  rotate_left
  · intro w hSw; obtain ⟨yA, yN⟩ := hSw; have y0 := yA.c; have z0 := yN.c0; have z1 := yN.c1; have z2 := yN.c2; have z3 := yN.c3; have z4 := yN.c4; have z5 := yN.c5; have z6 := yN.c6; have z7 := yN.c7; have z8 := yN.c8; go_simp; try with_reducible rfl
  simp only [Act.put, List.getElem_toArray, List.getElem_cons_succ, List.getElem_cons_zero, List.setIfInBounds_toArray, List.set_cons_succ, List.set_cons_zero]
  clear hS
  refine wpAnyH_done (by kernel_rfl) ?_ _
  clear ho2 hr2 hr3 hA2 HS
  have y0 := A4.c
  go_wp2_with fail
  refine (toArena_any a0 cp ns _ hl I4.all).mono ?_
  rintro e w5 ⟨v5, rfl, ho5, hb⟩
  obtain ⟨a5, cap5, rfl, hA5, hr5⟩ := ho5.row
  have A5 := A4.next hb
  have N5 := N4.next hb
  have I5 := I4.next hb
  have HB5 : Hid (Below w.heap.size w w5) := HB4.out.trans (hb.mono HB4.out.size)
  clear A4 N4 I4 HB4
  clear hb y0 ho5 hA5
  have hb : Below w5.heap.size w5 (w5.alloc (.cells #[.slice a5 ns.length cap5] 39)) := (Below.refl _ _).alloc (Nat.le_refl _) _
  have X6 : Var w5.heap.size (.slice a5 ns.length cap5) (w5.alloc (.cells #[.slice a5 ns.length cap5] 39)) := Var.made
  have IX6 : In (w5.alloc (.cells #[.slice a5 ns.length cap5] 39)).heap.size a5 ns (w5.alloc (.cells #[.slice a5 ns.length cap5] 39)) := ⟨Nat.le_refl _, hr5.grown hb⟩
  have A6 := A5.next hb
  have N6 := N5.next hb
  have I6 := I5.next hb
  have HB6 : Hid (Below w.heap.size w (w5.alloc (.cells #[.slice a5 ns.length cap5] 39))) := HB5.out.trans (hb.mono HB5.out.size)
  clear hb A5 N5 I5 HB5 hr5
  go_wp2_with fail
  generalize w5.alloc (.cells #[.slice a5 ns.length cap5] 39) = w6 at X6 IX6 A6 N6 I6 HB6 ⊢
  generalize w5.heap.size = g5 at X6 ⊢
  have X6d := X6.next ((Below.refl _ _).drew)
  have IX6d := IX6.next ((Below.refl _ _).drew)
  have A6d := A6.next ((Below.refl _ _).drew)
  have N6d := N6.next ((Below.refl _ _).drew)
  have I6d := I6.next ((Below.refl _ _).drew)
  have HB6d : Hid (Below w.heap.size w w6.drew) := HB6.out.drew
  clear X6 IX6 A6 N6 I6 HB6
  refine _root_.Go.wp_region_held (S := fun w' : World => Var g5 (.slice a5 ns.length cap5) w' ∧ ChIn (w.heap.size + 1) x w') (by kernel_rfl) ?_
  have hS : (fun w' : World => Var g5 (.slice a5 ns.length cap5) w' ∧ ChIn (w.heap.size + 1) x w') w6.drew := ⟨X6d, N6d⟩
  refine wpAnyH_take (i := 0) (v := ?_) rfl (by kernel_rfl) (by kernel_rfl) (by kernel_rfl) (fun _ _ _ h => h) (Or.inl ⟨by rfl, ?_⟩) hS ?_
  rotate_left
  · intro w hSw; obtain ⟨yA, yN⟩ := hSw; have y0 := yA.c; have z0 := yN.c0; have z1 := yN.c1; have z2 := yN.c2; have z3 := yN.c3; have z4 := yN.c4; have z5 := yN.c5; have z6 := yN.c6; have z7 := yN.c7; have z8 := yN.c8; go_simp; try with_reducible rfl
  simp only [Act.put, List.getElem_toArray, List.getElem_cons_zero, List.setIfInBounds_toArray, List.set_cons_succ, List.set_cons_zero]
  refine wpAnyH_take (i := 1) (v := ?_) rfl (by kernel_rfl) (by kernel_rfl) (by kernel_rfl) (fun _ _ _ h => h) (Or.inl ⟨by rfl, ?_⟩) hS ?_
  rotate_left
  · intro w hSw; obtain ⟨yA, yN⟩ := hSw; have y0 := yA.c; have z0 := yN.c0; have z1 := yN.c1; have z2 := yN.c2; have z3 := yN.c3; have z4 := yN.c4; have z5 := yN.c5; have z6 := yN.c6; have z7 := yN.c7; have z8 := yN.c8; go_simp; try with_reducible rfl
  simp only [Act.put, List.getElem_toArray, List.getElem_cons_succ, List.getElem_cons_zero, List.setIfInBounds_toArray, List.set_cons_succ, List.set_cons_zero]
  refine wpAnyH_ready (rs := [2]) (by kernel_rfl) (by simp) ?_
  refine AllReadyH.cons rfl (fun K hK => ?_) AllReadyH.nil
  go_simp
  refine (toChan_any x _).mono ?_
  rintro e w7 ⟨rfl, hb⟩
  have X7 := X6d.next hb
  have IX7 := IX6d.next hb
  have A7 := A6d.next hb
  have N7 := N6d.next hb
  have I7 := I6d.next hb
  have HB7 : Hid (Below w.heap.size w w7) := HB6d.out.trans (hb.mono HB6d.out.size)
  clear X6d IX6d A6d N6d I6d HB6d
  clear hb
  refine hK.out _ _ ⟨X7, N7⟩ (fun hS => ?_)
  clear hK K
  refine wpAnyH_ready (rs := [3]) (by kernel_rfl) (by simp) ?_
  refine AllReadyH.cons rfl (fun K hK => ?_) AllReadyH.nil
  go_simp
  refine (HI.out _ _ _ IX7.all).mono ?_
  rintro e w8 ⟨rfl, hb⟩
  have X8 := X7.next hb
  have IX8 := IX7.next hb
  have A8 := A7.next hb
  have N8 := N7.next hb
  have I8 := I7.next hb
  have HB8 : Hid (Below w.heap.size w w8) := HB7.out.trans (hb.mono HB7.out.size)
  clear X7 IX7 A7 N7 I7 HB7
  clear hb
  refine hK.out _ _ ⟨X8, N8⟩ (fun hS => ?_)
  clear hK K
  refine wpAnyH_take (i := 4) (v := ?_) rfl (by kernel_rfl) (by kernel_rfl) (by kernel_rfl) (fun _ _ _ h => h) (Or.inl ⟨by rfl, ?_⟩) hS ?_
  rotate_left
  · intro w hSw; obtain ⟨yA, yN⟩ := hSw; have y0 := yA.c; have z0 := yN.c0; have z1 := yN.c1; have z2 := yN.c2; have z3 := yN.c3; have z4 := yN.c4; have z5 := yN.c5; have z6 := yN.c6; have z7 := yN.c7; have z8 := yN.c8; go_simp; try with_reducible rfl
  simp only [Act.put, List.getElem_toArray, List.getElem_cons_succ, List.getElem_cons_zero, List.setIfInBounds_toArray, List.set_cons_succ, List.set_cons_zero]
  clear hS
  refine wpAnyH_done (by kernel_rfl) ?_ _
  clear HI
  go_wp2_with fail
  have X8d := X8.next ((Below.refl _ _).drew)
  have IX8d := IX8.next ((Below.refl _ _).drew)
  have A8d := A8.next ((Below.refl _ _).drew)
  have N8d := N8.next ((Below.refl _ _).drew)
  have I8d := I8.next ((Below.refl _ _).drew)
  have HB8d : Hid (Below w.heap.size w w8.drew) := HB8.out.drew
  clear X8 IX8 A8 N8 I8 HB8
  refine _root_.Go.wp_region_held (S := fun w' : World => Var g5 (.slice a5 ns.length cap5) w' ∧ Var w.heap.size (.slice a0 ns.length cp) w') (by kernel_rfl) ?_
  have hS : (fun w' : World => Var g5 (.slice a5 ns.length cap5) w' ∧ Var w.heap.size (.slice a0 ns.length cp) w') w8.drew := ⟨X8d, A8d⟩
  refine wpAnyH_take (i := 0) (v := ?_) rfl (by kernel_rfl) (by kernel_rfl) (by kernel_rfl) (fun _ _ _ h => h) (Or.inl ⟨by rfl, ?_⟩) hS ?_
  rotate_left
  · intro w hSw; obtain ⟨yA, yN⟩ := hSw; have y0 := yA.c; have y1 := yN.c; go_simp; try with_reducible rfl
  simp only [Act.put, List.getElem_toArray, List.getElem_cons_zero, List.setIfInBounds_toArray, List.set_cons_succ, List.set_cons_zero]
  refine wpAnyH_take (i := 1) (v := ?_) rfl (by kernel_rfl) (by kernel_rfl) (by kernel_rfl) (fun _ _ _ h => h) (Or.inl ⟨by rfl, ?_⟩) hS ?_
  rotate_left
  · intro w hSw; obtain ⟨yA, yN⟩ := hSw; have y0 := yA.c; have y1 := yN.c; go_simp; try with_reducible rfl
  simp only [Act.put, List.getElem_toArray, List.getElem_cons_succ, List.getElem_cons_zero, List.setIfInBounds_toArray, List.set_cons_succ, List.set_cons_zero]
  refine wpAnyH_ready (rs := [2]) (by kernel_rfl) (by simp) ?_
  refine AllReadyH.cons rfl (fun K hK => ?_) AllReadyH.nil
  go_simp
  refine (toArena_any a0 cp ns _ hl I8d.all).mono ?_
  rintro e w9 ⟨v9, rfl, ho9, hb⟩
  obtain ⟨a9, cap9, rfl, hA9, hr9⟩ := ho9.row
  have X9 := X8d.next hb
  have IX9 := IX8d.next hb
  have A9 := A8d.next hb
  have N9 := N8d.next hb
  have I9 := I8d.next hb
  have HB9 : Hid (Below w.heap.size w w9) := HB8d.out.trans (hb.mono HB8d.out.size)
  clear X8d IX8d A8d N8d I8d HB8d
  clear hb
  refine hK.out _ _ ⟨X9, A9⟩ (fun hS => ?_)
  clear hK K
  refine wpAnyH_ready (rs := [3]) (by kernel_rfl) (by simp) ?_
  refine AllReadyH.cons rfl (fun K hK => ?_) AllReadyH.nil
  go_simp
  refine (eqArena_same a5 a9 cap5 cap9 ns _ (by omega) IX9.all hr9).mono ?_
  rintro e w10 ⟨rfl, hb⟩
  have X10 := X9.next hb
  have IX10 := IX9.next hb
  have A10 := A9.next hb
  have N10 := N9.next hb
  have I10 := I9.next hb
  have HB10 : Hid (Below w.heap.size w w10) := HB9.out.trans (hb.mono HB9.out.size)
  clear X9 IX9 A9 N9 I9 HB9
  clear hb
  refine hK.out _ _ ⟨X10, A10⟩ (fun hS => ?_)
  clear hK K
  refine wpAnyH_take (i := 4) (v := ?_) rfl (by kernel_rfl) (by kernel_rfl) (by kernel_rfl) (fun _ _ _ h => h) (Or.inl ⟨by rfl, ?_⟩) hS ?_
  rotate_left
  · intro w hSw; obtain ⟨yA, yN⟩ := hSw; have y0 := yA.c; have y1 := yN.c; go_simp; try with_reducible rfl
  simp only [Act.put, List.getElem_toArray, List.getElem_cons_succ, List.getElem_cons_zero, List.setIfInBounds_toArray, List.set_cons_succ, List.set_cons_zero]
  clear hS
  refine wpAnyH_done (by kernel_rfl) ?_ _
  go_wp2
  go_ret
  exact ⟨rfl, HB10.out⟩

theorem laidOut : laidOutB Try.prog = true := by kernel_rfl
set_option maxRecDepth 100000 in
theorem lifted (os : Os) (started : os.Started) (H : Type) (enc : TypeId × Value → H) :
    ReturnsInHanded {} Try.checked os 4 .any (Rows.fnExactChanOkSpec.pre6 enc Try.prog Try.f4 Rows.fnExactChanOkRow.domain false) (Rows.fnExactChanOkSpec.post enc Try.prog Try.f4 false true false false) := by
  refine returnsInHanded_of_change (C := Try.checked) own started (by kernel_rfl) Try.func4
    (ChangeSpec.witness6 (enc := enc) (C := Try.checked) false ⟨#[], #[.agg #[.slice none 0 0], .agg #[.int .i64 0, .int .i64 0, .int .i64 0, .int .i64 0, .int .i64 0, .int .i64 0, .int .i64 0, .int .i64 0, .int .i64 0]], []⟩ 8 (by kernel_rfl) (by kernel_rfl) (by kernel_rfl) (by kernel_rfl)) ?_
  intro W base args ds gs before hval0 hW hcnd _
  have hval : ∀ (j : Nat) t v, Try.f4.params[j]? = some t → args[j]? = some v → Value.okWide Try.prog W .any base t v := hval0
  have hW' := hW
  obtain ⟨p, q, hA0, hV, rfl, hfz, hnd⟩ := hW
  have hA : DataW.TrodAll enc Try.prog W 0 (fun _ => true) true Try.f4.params.toList args.toList ds p := hA0
  rw [Try.params4] at hA hval
  obtain ⟨v0, vs0, d0, ds0, p0, q0, hargs, rfl, rfl, h0, r0⟩ := trodAll_cons hA
  obtain ⟨v1, vs1, d1, ds1, p1, q1, rfl, rfl, rfl, h1, r1⟩ := trodAll_cons r0
  obtain ⟨rfl, rfl, rfl⟩ := trodAll_nil r1
  obtain rfl : args = #[v0, v1] := by cases args; simp_all
  obtain ⟨rfl, rfl⟩ := trodVars_none hV
  have k0 := h0
  have lt0 : ∀ x ∈ p0, x.block < W.heap.size := by obtain ⟨m, hm⟩ := k0; exact DataW.trod_lt m _ _ _ hm
  obtain ⟨a0, c0, n0, rfl, w0, rn0, f0⟩ := arena_of (hval 0 31 v0 rfl rfl) h0
  have k1 := h1
  have lt1 : ∀ x ∈ p1, x.block < W.heap.size := by obtain ⟨m, hm⟩ := k1; exact DataW.trod_lt m _ _ _ hm
  obtain ⟨a1, rfl, w1⟩ := chan_of (hval 1 34 v1 rfl rfl) h1
  clear hA0 hval0
  refine (walk a0 c0 n0 a1 w0 f0 w1 W rn0).mono fun e W' ⟨he, bel⟩ => ?_
  subst he
  exact ⟨_, rfl, _, _, _, [], _, [], hW', trodAll_mk1 (shut_bool Try.underlying4 _), (trodAll_cons_mk (Below.trod laidOut (by kernel_rfl) (of_decide_eq_true (by kernel_rfl)) k0 bel lt0) (trodAll_cons_mk (Below.trod laidOut (by kernel_rfl) (of_decide_eq_true (by kernel_rfl)) k1 bel lt1) trodAll_mk0)), rfl, bel.frame _, fun h => by cases h⟩

theorem over : Rows.fnExactChanOkRow.holds Try.pinned (OpenSpec.ofChange Rows.fnExactChanOkSpec) :=
  OpenClaim.holds_of_wide 4 Try.f4 rfl rfl rfl rfl rfl rfl rfl ⟨rfl, rfl, rfl, rfl, rfl⟩ rfl rfl rfl rfl rfl (by kernel_rfl) Try.func4 (by kernel_rfl)
    (of_decide_eq_true (by kernel_rfl)) (by unfold Func.isWrapper; first | (rw [if_pos (by decide +kernel)]; kernel_rfl) | (rw [if_neg (by decide +kernel)]; exact ⟨rfl, rfl⟩))
    (fun os started H enc _ => lifted os started H enc)
end fnExactChanOk

theorem fnExactChanOk_holds : Rows.FnExactChanOkSaid := fnExactChanOk.over
#print axioms fnExactChanOk_holds
end Go.Proofs.Ytnjihmailppjkaa
