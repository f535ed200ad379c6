/- WindowNew of the program answers as the specification's WindowNew does. No condition. -/
import Derived.Test.YtmbaipednonhpaaRows
import Derived.Test.YtmbaipednonhpaaLawWin
import Derived.Test.YtmbaipednonhpaaImplW7
import Derived.Test.YtmbaipednonhpaaWinS7
import Derived.WalkKit
import Derived.ProofKit
import Derived.OpenShut
import Derived.ShutString
import Derived.ChangeOld
import Derived.PlainAid
namespace Go.Proofs.Ytmbaipednonhpaa
namespace fnExactWindowNew
open Go.ChangeShapes Go.WideShapes Go.ChangeAt Go.RowKit Go.PlainAid
open Go.ChangeMaps (open_string shut_string)
set_option linter.unusedVariables false

theorem own : ownKnob Try.prog.godebug = none := by kernel_rfl

set_option maxHeartbeats 800000 in
theorem walk (w : World) : Calls Try.prog 4 #[] w fun e w' => e = .returned (.bool true) ∧ Below w.heap.size w w' := by
  go_enter Try.func4, Try.ntmps4
  go_wp2_with fail
  refine (specNew_any _).mono ?_
  rintro e w2 ⟨rfl, hb2⟩
  have hb : Below w2.heap.size w2 (w2.alloc (.cells #[.int .i64 (-1), .int .i64 0] 27)) := (Below.refl _ _).alloc (Nat.le_refl _) _
  have Y0 : Hid (WinIn w2.heap.size (-1) 0 (w2.alloc (.cells #[.int .i64 (-1), .int .i64 0] 27))) := WinIn.made
  have X0 : Hid (Below w.heap.size w (w2.alloc (.cells #[.int .i64 (-1), .int .i64 0] 27))) := hb2.trans (hb.mono hb2.size)
  clear hb hb2
  go_wp2_with fail
  generalize w2.alloc (.cells #[.int .i64 (-1), .int .i64 0] 27) = w4 at X0 Y0 ⊢
  refine (implNew_any _).mono ?_
  rintro e w5 ⟨rfl, hb⟩
  replace X0 : Hid (Below w.heap.size w w5) := X0.out.trans (hb.mono X0.out.size)
  replace Y0 : Hid (WinIn w2.heap.size (-1) 0 w5) := Y0.out.next hb
  clear hb
  have hb : Below w5.heap.size w5 (w5.alloc (.cells #[.int .i64 (-1), .int .i64 0] 27)) := (Below.refl _ _).alloc (Nat.le_refl _) _
  have e0 := (Y0.out.next hb).c0
  have e1 := (Y0.out.next hb).c1
  replace X0 : Hid (Below w.heap.size w (w5.alloc (.cells #[.int .i64 (-1), .int .i64 0] 27))) := X0.out.trans (hb.mono X0.out.size)
  clear hb
  go_wp2_with fail
  refine (eqWin_same (-1) 0 _).mono ?_
  rintro e w6 ⟨rfl, hb⟩
  replace X0 : Hid (Below w.heap.size w w6) := X0.out.trans (hb.mono X0.out.size)
  clear hb e0 e1
  go_wp2
  go_ret
  exact ⟨rfl, X0.out⟩

set_option maxRecDepth 100000 in
theorem lifted (os : Os) (started : os.Started) (H : Type) (enc : TypeId × Value → H) :
    ReturnsInHanded {} Try.checked os 4 .any (Rows.fnExactWindowNewSpec.pre6 enc Try.prog Try.f4 Rows.fnExactWindowNewRow.domain false) (Rows.fnExactWindowNewSpec.post enc Try.prog Try.f4 false true false false) := by
  refine returnsInHanded_of_change (C := Try.checked) own started (by kernel_rfl) Try.func4
    (ChangeSpec.witness6 (enc := enc) (C := Try.checked) false ⟨#[], #[], []⟩ 8 (by kernel_rfl) (by kernel_rfl) (by kernel_rfl) (by kernel_rfl)) ?_
  intro W base args ds gs before hval0 hW hcnd _
  have hval : ∀ (j : Nat) t v, Try.f4.params[j]? = some t → args[j]? = some v → Value.okWide Try.prog W .any base t v := hval0
  have hW' := hW
  obtain ⟨p, q, hA0, hV, rfl, hfz, hnd⟩ := hW
  have hA : DataW.TrodAll enc Try.prog W 0 (fun _ => true) true Try.f4.params.toList args.toList ds p := hA0
  rw [Try.params4] at hA hval
  obtain ⟨hargs, rfl, rfl⟩ := trodAll_nil hA
  obtain rfl : args = #[] := by cases args; simp_all
  obtain ⟨rfl, rfl⟩ := trodVars_none hV
  clear hA0 hval0
  refine (walk   W ).mono fun e W' ⟨he, bel⟩ => ?_
  subst he
  exact ⟨_, rfl, _, _, _, [], _, [], hW', trodAll_mk1 (shut_bool Try.underlying4 _), trodAll_mk0, rfl, bel.frame _, fun h => by cases h⟩

theorem over : Rows.fnExactWindowNewRow.holds Try.pinned (OpenSpec.ofChange Rows.fnExactWindowNewSpec) :=
  OpenClaim.holds_of_wide 4 Try.f4 rfl rfl rfl rfl rfl rfl rfl ⟨rfl, rfl, rfl, rfl, rfl⟩ rfl rfl rfl rfl rfl (by kernel_rfl) Try.func4 (by kernel_rfl)
    (of_decide_eq_true (by kernel_rfl)) (by unfold Func.isWrapper; first | (rw [if_pos (by decide +kernel)]; kernel_rfl) | (rw [if_neg (by decide +kernel)]; exact ⟨rfl, rfl⟩))
    (fun os started H enc _ => lifted os started H enc)
end fnExactWindowNew

theorem fnExactWindowNew_holds : Rows.FnExactWindowNewSaid := fnExactWindowNew.over
#print axioms fnExactWindowNew_holds
end Go.Proofs.Ytmbaipednonhpaa
