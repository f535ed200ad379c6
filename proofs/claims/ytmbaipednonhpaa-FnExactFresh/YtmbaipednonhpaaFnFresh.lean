/- For every window, right or not, and every number: Fresh of the program answers as the specification's Fresh does, and the arguments read as before. No condition. -/
import Derived.Test.YtmbaipednonhpaaRows
import Derived.Test.YtmbaipednonhpaaLawWin
import Derived.Test.YtmbaipednonhpaaImplW7
import Derived.WalkKit
import Derived.ProofKit
import Derived.OpenShut
import Derived.ShutString
import Derived.ChangeOld
import Derived.PlainAid
namespace Go.Proofs.Ytmbaipednonhpaa
namespace fnExactFresh
open Go.ChangeShapes Go.WideShapes Go.ChangeAt Go.RowKit Go.PlainAid
open Go.ChangeMaps (open_string shut_string)
set_option linter.unusedVariables false

theorem own : ownKnob Try.prog.godebug = none := by kernel_rfl

set_option maxHeartbeats 800000 in
theorem walk (t s : Int) (a1 : Int) (w0 : (Lit.int .i64 t).wf = true) (f0 : (Lit.int .i64 s).wf = true) (w1 : (Lit.int .i64 a1).wf = true) (w : World) : Calls Try.prog 6 #[.agg #[.int .i64 t, .int .i64 s], .int .i64 a1] w fun e w' => e = .returned (.bool true) ∧ Below w.heap.size w w' := by
  have X0 : Hid (WinIn w.heap.size t s (w.alloc (.cells #[.int .i64 t, .int .i64 s] 37)) ∧ Below w.heap.size w (w.alloc (.cells #[.int .i64 t, .int .i64 s] 37))) := ⟨WinIn.made, (Below.refl _ _).alloc (Nat.le_refl _) _⟩
  have HS : Hid (∀ w, Calls Try.prog 16 #[.agg #[.int .i64 t, .int .i64 s], .int .i64 a1] w fun e w' => e = .returned (.bool (freshB t s a1)) ∧ Below w.heap.size w w') := fun w => specFresh_any t s a1 w
  have HI : Hid (∀ w, Calls Try.prog 12 #[.agg #[.int .i64 t, .int .i64 s], .int .i64 a1] w fun e w' => e = .returned (.bool (freshB t s a1)) ∧ Below w.heap.size w w') := fun w => implFresh_any t s a1 w w0 f0 w1
  generalize freshB t s a1 = d at HS HI
  go_enter Try.func6, Try.ntmps6
  go_wp2_with fail
  generalize (w.alloc (.cells #[.int .i64 t, .int .i64 s] 37)) = wA at X0 ⊢
  refine (toWin_any t s _).mono ?_
  rintro e w1 ⟨rfl, hb⟩
  replace X0 : Hid (WinIn w.heap.size t s w1 ∧ Below w.heap.size w w1) := ⟨X0.out.1.next hb, X0.out.2.trans (hb.mono X0.out.2.size)⟩
  clear hb
  go_wp2_with fail
  refine (HS.out _).mono ?_
  rintro e w2 ⟨rfl, hb⟩
  replace X0 : Hid (WinIn w.heap.size t s w2 ∧ Below w.heap.size w w2) := ⟨X0.out.1.next hb, X0.out.2.trans (hb.mono X0.out.2.size)⟩
  clear hb
  have c0 := X0.out.1.c0
  have c1 := X0.out.1.c1
  go_wp2_with fail
  refine (toWin_any t s _).mono ?_
  rintro e w3 ⟨rfl, hb⟩
  replace X0 : Hid (WinIn w.heap.size t s w3 ∧ Below w.heap.size w w3) := ⟨X0.out.1.next hb, X0.out.2.trans (hb.mono X0.out.2.size)⟩
  clear hb c0 c1
  go_wp2_with fail
  refine (HI.out _).mono ?_
  rintro e w4 ⟨rfl, hb⟩
  replace X0 : Hid (WinIn w.heap.size t s w4 ∧ Below w.heap.size w w4) := ⟨X0.out.1.next hb, X0.out.2.trans (hb.mono X0.out.2.size)⟩
  clear hb
  go_wp2
  go_ret
  exact ⟨rfl, X0.out.2⟩

theorem laidOut : laidOutB Try.prog = true := by kernel_rfl
set_option maxRecDepth 100000 in
theorem lifted (os : Os) (started : os.Started) (H : Type) (enc : TypeId × Value → H) :
    ReturnsInHanded {} Try.checked os 6 .any (Rows.fnExactFreshSpec.pre6 enc Try.prog Try.f6 Rows.fnExactFreshRow.domain false) (Rows.fnExactFreshSpec.post enc Try.prog Try.f6 false true false false) := by
  refine returnsInHanded_of_change (C := Try.checked) own started (by kernel_rfl) Try.func6
    (ChangeSpec.witness6 (enc := enc) (C := Try.checked) false ⟨#[], #[.agg #[.int .i64 0, .int .i64 0], .int .i64 0], []⟩ 8 (by kernel_rfl) (by kernel_rfl) (by kernel_rfl) (by kernel_rfl)) ?_
  intro W base args ds gs before hval0 hW hcnd _
  have hval : ∀ (j : Nat) t v, Try.f6.params[j]? = some t → args[j]? = some v → Value.okWide Try.prog W .any base t v := hval0
  have hW' := hW
  obtain ⟨p, q, hA0, hV, rfl, hfz, hnd⟩ := hW
  have hA : DataW.TrodAll enc Try.prog W 0 (fun _ => true) true Try.f6.params.toList args.toList ds p := hA0
  rw [Try.params6] at hA hval
  obtain ⟨v0, vs0, d0, ds0, p0, q0, hargs, rfl, rfl, h0, r0⟩ := trodAll_cons hA
  obtain ⟨v1, vs1, d1, ds1, p1, q1, rfl, rfl, rfl, h1, r1⟩ := trodAll_cons r0
  obtain ⟨rfl, rfl, rfl⟩ := trodAll_nil r1
  obtain rfl : args = #[v0, v1] := by cases args; simp_all
  obtain ⟨rfl, rfl⟩ := trodVars_none hV
  have k0 := h0
  have lt0 : ∀ x ∈ p0, x.block < W.heap.size := by obtain ⟨m, hm⟩ := k0; exact DataW.trod_lt m _ _ _ hm
  obtain ⟨a0, b0, rfl, w0, f0⟩ := win_of (hval 0 37 v0 rfl rfl) h0
  obtain ⟨a1, rfl, rfl, rfl, w1⟩ := open_int Try.underlying3 (hval 1 3 v1 rfl rfl) h1
  clear hA0 hval0
  refine (walk a0 b0 a1 w0 f0 w1 W ).mono fun e W' ⟨he, bel⟩ => ?_
  subst he
  exact ⟨_, rfl, _, _, _, [], _, [], hW', trodAll_mk1 (shut_bool Try.underlying4 _), (trodAll_cons_mk (Below.trod laidOut (by kernel_rfl) (of_decide_eq_true (by kernel_rfl)) k0 bel lt0) (trodAll_cons_mk (shut_int Try.underlying3 w1) trodAll_mk0)), rfl, bel.frame _, fun h => by cases h⟩

theorem over : Rows.fnExactFreshRow.holds Try.pinned (OpenSpec.ofChange Rows.fnExactFreshSpec) :=
  OpenClaim.holds_of_wide 6 Try.f6 rfl rfl rfl rfl rfl rfl rfl ⟨rfl, rfl, rfl, rfl, rfl⟩ rfl rfl rfl rfl rfl (by kernel_rfl) Try.func6 (by kernel_rfl)
    (of_decide_eq_true (by kernel_rfl)) (by unfold Func.isWrapper; first | (rw [if_pos (by decide +kernel)]; kernel_rfl) | (rw [if_neg (by decide +kernel)]; exact ⟨rfl, rfl⟩))
    (fun os started H enc _ => lifted os started H enc)
end fnExactFresh

theorem fnExactFresh_holds : Rows.FnExactFreshSaid := fnExactFresh.over
#print axioms fnExactFresh_holds
end Go.Proofs.Ytmbaipednonhpaa
