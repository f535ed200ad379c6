/- For every window, right or not: WindowOk of the program answers as the specification's WindowOk does, and the argument reads as before. No condition. -/
import Derived.Test.YtmbaipednonhpaaRows
import Derived.Test.YtmbaipednonhpaaLawWin
import Derived.Test.YtmbaipednonhpaaImplW7
import Derived.WalkKit
import Derived.ProofKit
import Derived.OpenShut
import Derived.ShutString
import Derived.ChangeOld
import Derived.PlainAid
namespace Go.Proofs.Ytmbaipednonhpaa
namespace fnExactWindowOk
open Go.ChangeShapes Go.WideShapes Go.ChangeAt Go.RowKit Go.PlainAid
open Go.ChangeMaps (open_string shut_string)
set_option linter.unusedVariables false

theorem own : ownKnob Try.prog.godebug = none := by kernel_rfl

set_option maxHeartbeats 800000 in
theorem walk (t s : Int) (w0 : (Lit.int .i64 t).wf = true) (f0 : (Lit.int .i64 s).wf = true) (w : World) : Calls Try.prog 5 #[.agg #[.int .i64 t, .int .i64 s]] w fun e w' => e = .returned (.bool true) ∧ Below w.heap.size w w' := by
  have X0 : Hid (WinIn w.heap.size t s (w.alloc (.cells #[.int .i64 t, .int .i64 s] 37)) ∧ Below w.heap.size w (w.alloc (.cells #[.int .i64 t, .int .i64 s] 37))) := ⟨WinIn.made, (Below.refl _ _).alloc (Nat.le_refl _) _⟩
  have HS : Hid (∀ w, Calls Try.prog 17 #[.agg #[.int .i64 t, .int .i64 s]] w fun e w' => e = .returned (.bool (winB t s)) ∧ Below w.heap.size w w') := fun w => specWin_any t s w
  have HI : Hid (∀ w, Calls Try.prog 13 #[.agg #[.int .i64 t, .int .i64 s]] w fun e w' => e = .returned (.bool (winB t s)) ∧ Below w.heap.size w w') := fun w => implWin_any t s w w0 f0
  generalize winB t s = d at HS HI
  go_enter Try.func5, Try.ntmps5
  go_wp2_with fail
  generalize (w.alloc (.cells #[.int .i64 t, .int .i64 s] 37)) = wA at X0 ⊢
  refine (toWin_any t s _).mono ?_
  rintro e w1 ⟨rfl, hb⟩
  replace X0 : Hid (WinIn w.heap.size t s w1 ∧ Below w.heap.size w w1) := ⟨X0.out.1.next hb, X0.out.2.trans (hb.mono X0.out.2.size)⟩
  clear hb
  go_wp2_with fail
  refine (HS.out _).mono ?_
  rintro e w2 ⟨rfl, hb⟩
  replace X0 : Hid (WinIn w.heap.size t s w2 ∧ Below w.heap.size w w2) := ⟨X0.out.1.next hb, X0.out.2.trans (hb.mono X0.out.2.size)⟩
  clear hb
  have c0 := X0.out.1.c0
  have c1 := X0.out.1.c1
  go_wp2_with fail
  refine (toWin_any t s _).mono ?_
  rintro e w3 ⟨rfl, hb⟩
  replace X0 : Hid (WinIn w.heap.size t s w3 ∧ Below w.heap.size w w3) := ⟨X0.out.1.next hb, X0.out.2.trans (hb.mono X0.out.2.size)⟩
  clear hb c0 c1
  go_wp2_with fail
  refine (HI.out _).mono ?_
  rintro e w4 ⟨rfl, hb⟩
  replace X0 : Hid (WinIn w.heap.size t s w4 ∧ Below w.heap.size w w4) := ⟨X0.out.1.next hb, X0.out.2.trans (hb.mono X0.out.2.size)⟩
  clear hb
  go_wp2
  go_ret
  exact ⟨rfl, X0.out.2⟩

theorem laidOut : laidOutB Try.prog = true := by kernel_rfl
set_option maxRecDepth 100000 in
theorem lifted (os : Os) (started : os.Started) (H : Type) (enc : TypeId × Value → H) :
    ReturnsInHanded {} Try.checked os 5 .any (Rows.fnExactWindowOkSpec.pre6 enc Try.prog Try.f5 Rows.fnExactWindowOkRow.domain false) (Rows.fnExactWindowOkSpec.post enc Try.prog Try.f5 false true false false) := by
  refine returnsInHanded_of_change (C := Try.checked) own started (by kernel_rfl) Try.func5
    (ChangeSpec.witness6 (enc := enc) (C := Try.checked) false ⟨#[], #[.agg #[.int .i64 0, .int .i64 0]], []⟩ 8 (by kernel_rfl) (by kernel_rfl) (by kernel_rfl) (by kernel_rfl)) ?_
  intro W base args ds gs before hval0 hW hcnd _
  have hval : ∀ (j : Nat) t v, Try.f5.params[j]? = some t → args[j]? = some v → Value.okWide Try.prog W .any base t v := hval0
  have hW' := hW
  obtain ⟨p, q, hA0, hV, rfl, hfz, hnd⟩ := hW
  have hA : DataW.TrodAll enc Try.prog W 0 (fun _ => true) true Try.f5.params.toList args.toList ds p := hA0
  rw [Try.params5] at hA hval
  obtain ⟨v0, vs0, d0, ds0, p0, q0, hargs, rfl, rfl, h0, r0⟩ := trodAll_cons hA
  obtain ⟨rfl, rfl, rfl⟩ := trodAll_nil r0
  obtain rfl : args = #[v0] := by cases args; simp_all
  obtain ⟨rfl, rfl⟩ := trodVars_none hV
  have k0 := h0
  have lt0 : ∀ x ∈ p0, x.block < W.heap.size := by obtain ⟨m, hm⟩ := k0; exact DataW.trod_lt m _ _ _ hm
  obtain ⟨a0, b0, rfl, w0, f0⟩ := win_of (hval 0 37 v0 rfl rfl) h0
  clear hA0 hval0
  refine (walk a0 b0 w0 f0 W ).mono fun e W' ⟨he, bel⟩ => ?_
  subst he
  exact ⟨_, rfl, _, _, _, [], _, [], hW', trodAll_mk1 (shut_bool Try.underlying4 _), (trodAll_cons_mk (Below.trod laidOut (by kernel_rfl) (of_decide_eq_true (by kernel_rfl)) k0 bel lt0) trodAll_mk0), rfl, bel.frame _, fun h => by cases h⟩

theorem over : Rows.fnExactWindowOkRow.holds Try.pinned (OpenSpec.ofChange Rows.fnExactWindowOkSpec) :=
  OpenClaim.holds_of_wide 5 Try.f5 rfl rfl rfl rfl rfl rfl rfl ⟨rfl, rfl, rfl, rfl, rfl⟩ rfl rfl rfl rfl rfl (by kernel_rfl) Try.func5 (by kernel_rfl)
    (of_decide_eq_true (by kernel_rfl)) (by unfold Func.isWrapper; first | (rw [if_pos (by decide +kernel)]; kernel_rfl) | (rw [if_neg (by decide +kernel)]; exact ⟨rfl, rfl⟩))
    (fun os started H enc _ => lifted os started H enc)
end fnExactWindowOk

theorem fnExactWindowOk_holds : Rows.FnExactWindowOkSaid := fnExactWindowOk.over
#print axioms fnExactWindowOk_holds
end Go.Proofs.Ytmbaipednonhpaa
