/- For all texts: LimbsOf of the program answers as the specification's LimbsOf does, keeps nothing, owns its answer's memory. No condition. -/
import Derived.Test.YtecjpagnifkcaaaRows
import Derived.Test.YtecjpagnifkcaaaLawL
import Derived.Test.YtecjpagnifkcaaaLof25
import Derived.WalkKit
import Derived.ProofKit
import Derived.OpenShut
import Derived.ShutString
import Derived.ChangeOld
import Derived.PlainAid
import Derived.Deep.RegionHeld3
namespace Go.Proofs.Ytecjpagnifkcaaa
namespace fnExactLimbsOf
open Go.ChangeShapes Go.WideShapes Go.ChangeAt Go.RowKit Go.PlainAid
open Go.ChangeMaps (open_string shut_string)
set_option linter.unusedVariables false

theorem own : ownKnob Try.prog.godebug = none := by kernel_rfl

set_option maxHeartbeats 3200000 in
set_option maxRecDepth 20000 in
theorem walk (a0 : ByteArray) (w0 : a0.size ≤ maxLen) (w : World) :
    Calls Try.prog 3 #[.string a0] w fun e w' => e = .returned (.bool true) ∧ Below w.heap.size w w' := by
  clear w0
  by_cases h0 : a0.size ≤ 1048576
  rotate_left
  · have hq0 : (1048576 : Int) < (a0.size : Int) := by omega
    go_enter Try.func3, Try.ntmps3
    go_wp2
    go_ret
    exact ⟨rfl, Below.refl _ _⟩
  have hq0 : ¬ (1048576 : Int) < (a0.size : Int) := by omega
  obtain ⟨R0, K0, HS, HI, HL⟩ : ∃ (R0 : List Int) (K0 : Bool), Hid (∀ w1 : World, Calls Try.prog 9 #[.string a0] w1 fun e w' => ∃ v, e = .returned (.tuple #[.agg #[v], .bool K0]) ∧ OwnInt w1.heap.size w' v R0 ∧ Below w1.heap.size w1 w') ∧ Hid (∀ w1 : World, Calls Try.prog 10 #[.string a0] w1 fun e w' => ∃ v, e = .returned (.tuple #[.agg #[v], .bool K0]) ∧ OwnInt w1.heap.size w' v R0 ∧ Below w1.heap.size w1 w') ∧ Hid (R0.length ≤ 2097152) := ⟨ofLP a0, ofOkP a0, fun w1 => specLimbsOf_any a0 w1 (by omega), fun w1 => implLimbsOf_any a0 w1 (by omega), ofLP_len a0⟩
  have hRL := HL.out
  have hRR : (K0 != K0) = false := by simp
  have HB : Hid (Below w.heap.size w w) := Below.refl _ _
  go_enter Try.func3, Try.ntmps3
  go_wp2_with fail
  refine (HS.out w).mono ?_
  rintro e z1 ⟨v, rfl, ho, hb⟩
  obtain ⟨qW, kW, rfl, hAW, -⟩ := ho.row
  have OW := OwnZ.made ho
  clear ho
  replace HB : Hid (Below w.heap.size w z1) := HB.out.trans (hb.mono HB.out.size)
  have hsz1 := hb.size
  clear hb
  have hb : Below z1.heap.size z1 (z1.alloc (.cells #[.slice qW R0.length kW] 24)) := below_alloc _ _
  have BW : VarZ z1.heap.size (.slice qW R0.length kW) (z1.alloc (.cells #[.slice qW R0.length kW] 24)) := VarZ.made
  replace OW := OW.next hb
  replace HB : Hid (Below w.heap.size w (z1.alloc (.cells #[.slice qW R0.length kW] 24))) := HB.out.trans (hb.mono HB.out.size)
  have hgtBW : z1.heap.size < (z1.alloc (.cells #[.slice qW R0.length kW] 24)).heap.size := BW.lt
  clear hb
  have eBW := BW.c
  go_wp2_with fail
  generalize (z1.alloc (.cells #[.slice qW R0.length kW] 24)) = z2 at HB hgtBW OW BW eBW ⊢
  refine (HI.out z2).mono ?_
  rintro e z3 ⟨v, rfl, ho, hb⟩
  obtain ⟨qG, kG, rfl, hAG, -⟩ := ho.row
  have OG := OwnZ.made ho
  clear ho
  clear eBW
  replace OW := OW.next hb
  replace BW := BW.next hb
  replace HB : Hid (Below w.heap.size w z3) := HB.out.trans (hb.mono HB.out.size)
  have hsz3 := hb.size
  clear hb
  have hb : Below z3.heap.size z3 (z3.alloc (.cells #[.slice qG R0.length kG] 24)) := below_alloc _ _
  have BG : VarZ z3.heap.size (.slice qG R0.length kG) (z3.alloc (.cells #[.slice qG R0.length kG] 24)) := VarZ.made
  replace OW := OW.next hb
  replace BW := BW.next hb
  replace OG := OG.next hb
  replace HB : Hid (Below w.heap.size w (z3.alloc (.cells #[.slice qG R0.length kG] 24))) := HB.out.trans (hb.mono HB.out.size)
  have hgtBG : z3.heap.size < (z3.alloc (.cells #[.slice qG R0.length kG] 24)).heap.size := BG.lt
  clear hb
  have eBW := BW.c
  have eBG := BG.c
  go_wp2_with fail
  generalize (z3.alloc (.cells #[.slice qG R0.length kG] 24)) = z4 at HB hgtBG OW BW OG BG eBW eBG ⊢
  refine (eqLimbs_same _ _ _ _ R0 z4 HL.out OG.rowAt OW.rowAt).mono ?_
  rintro e z5 ⟨rfl, hb⟩
  clear eBW eBG
  replace OW := OW.next hb
  replace BW := BW.next hb
  replace OG := OG.next hb
  replace BG := BG.next hb
  replace HB : Hid (Below w.heap.size w z5) := HB.out.trans (hb.mono HB.out.size)
  have hsz5 := hb.size
  clear hb
  have eBW := BW.c
  have eBG := BG.c
  go_wp2_with fail
  refine (markLimbs_any _ 1 (.slice qG R0.length kG) R0 z5 (by omega) (by omega) OG.own).mono ?_
  rintro e z6 ⟨rfl, hox, hgr⟩
  have hbk := OG.block
  clear eBW eBG
  have OM : OwnZ _ _ (.slice qG R0.length kG) (marksI 1 R0.length) z6 := ⟨hox, Nat.le_trans OG.le hgr.size, OG.lt⟩
  clear hox
  replace OW := OW.mark hgr (fun g hg => by have := hbk g hg; omega)
  replace BW := BW.mark hgr (fun e => by have h1 := hbk _ e; have h2 := BW.lt; omega)
  replace BG := BG.mark hgr (fun e => by have h1 := hbk _ e; have h2 := BG.lt; omega)
  replace HB : Hid (Below w.heap.size w z6) := HB.out.grown hgr HB.out.size (fun k hk => by have := hbk k hk; omega)
  have hsz6 := hgr.size
  clear hgr hbk OG
  have eBW := BW.c
  have eBG := BG.c
  go_wp2_with fail
  refine (heldLimbs_any qG kG R0.length 1 z6 (by omega) (by omega) OM.rowAt).mono ?_
  rintro e z7 ⟨rfl, hb⟩
  clear eBW eBG
  replace OW := OW.next hb
  replace BW := BW.next hb
  replace BG := BG.next hb
  replace OM := OM.next hb
  replace HB : Hid (Below w.heap.size w z7) := HB.out.trans (hb.mono HB.out.size)
  have hsz7 := hb.size
  clear hb
  have hk1 : ¬ (1 : Int) + (R0.length : Int) < 0 := by omega
  have eBW := BW.c
  have eBG := BG.c
  go_wp2_with fail
  refine (HI.out z7).mono ?_
  rintro e z8 ⟨v, rfl, ho, hb⟩
  obtain ⟨qH, kH, rfl, hAH, -⟩ := ho.row
  have OH := OwnZ.made ho
  clear ho
  clear eBW eBG
  replace OW := OW.next hb
  replace BW := BW.next hb
  replace BG := BG.next hb
  replace OM := OM.next hb
  replace HB : Hid (Below w.heap.size w z8) := HB.out.trans (hb.mono HB.out.size)
  have hsz8 := hb.size
  clear hb
  have hb : Below z8.heap.size z8 (z8.alloc (.cells #[.slice qH R0.length kH] 24)) := below_alloc _ _
  have BH : VarZ z8.heap.size (.slice qH R0.length kH) (z8.alloc (.cells #[.slice qH R0.length kH] 24)) := VarZ.made
  replace OW := OW.next hb
  replace BW := BW.next hb
  replace BG := BG.next hb
  replace OM := OM.next hb
  replace OH := OH.next hb
  replace HB : Hid (Below w.heap.size w (z8.alloc (.cells #[.slice qH R0.length kH] 24))) := HB.out.trans (hb.mono HB.out.size)
  have hgtBH : z8.heap.size < (z8.alloc (.cells #[.slice qH R0.length kH] 24)).heap.size := BH.lt
  clear hb
  have eBW := BW.c
  have eBG := BG.c
  have eBH := BH.c
  go_wp2_with fail
  generalize (z8.alloc (.cells #[.slice qH R0.length kH] 24)) = z9 at HB hgtBH OW BW BG OM OH BH eBW eBG eBH ⊢
  refine (eqLimbs_same _ _ _ _ R0 z9 HL.out OH.rowAt OW.rowAt).mono ?_
  rintro e z10 ⟨rfl, hb⟩
  clear eBW eBG eBH
  replace OW := OW.next hb
  replace BW := BW.next hb
  replace BG := BG.next hb
  replace OM := OM.next hb
  replace OH := OH.next hb
  replace BH := BH.next hb
  replace HB : Hid (Below w.heap.size w z10) := HB.out.trans (hb.mono HB.out.size)
  have hsz10 := hb.size
  clear hb
  have eBW := BW.c
  have eBG := BG.c
  have eBH := BH.c
  go_wp2_with fail
  refine (heldLimbs_any qG kG R0.length 1 z10 (by omega) (by omega) OM.rowAt).mono ?_
  rintro e z11 ⟨rfl, hb⟩
  clear eBW eBG eBH
  replace OW := OW.next hb
  replace BW := BW.next hb
  replace BG := BG.next hb
  replace OM := OM.next hb
  replace OH := OH.next hb
  replace BH := BH.next hb
  replace HB : Hid (Below w.heap.size w z11) := HB.out.trans (hb.mono HB.out.size)
  have hsz11 := hb.size
  clear hb
  go_wp2
  go_ret
  exact ⟨rfl, HB.out⟩

set_option maxRecDepth 100000 in
theorem lifted (os : Os) (started : os.Started) (H : Type) (enc : TypeId × Value → H) :
    ReturnsInHanded {} Try.checked os 3 .any (Rows.fnExactLimbsOfSpec.pre6 enc Try.prog Try.f3 Rows.fnExactLimbsOfRow.domain false) (Rows.fnExactLimbsOfSpec.post enc Try.prog Try.f3 false true false false) := by
  refine returnsInHanded_of_change (C := Try.checked) own started (by kernel_rfl) Try.func3
    (ChangeSpec.witness6 (enc := enc) (C := Try.checked) false ⟨#[], #[.string ByteArray.empty], []⟩ 8 (by kernel_rfl) (by kernel_rfl) (by kernel_rfl) (by kernel_rfl)) ?_
  intro W base args ds gs before hval0 hW hcnd _
  have hval : ∀ (j : Nat) t v, Try.f3.params[j]? = some t → args[j]? = some v → Value.okWide Try.prog W .any base t v := hval0
  have hW' := hW
  obtain ⟨p, q, hA0, hV, rfl, hfz, hnd⟩ := hW
  have hA : DataW.TrodAll enc Try.prog W 0 (fun _ => true) true Try.f3.params.toList args.toList ds p := hA0
  rw [Try.params3] at hA hval
  obtain ⟨v0, vs0, d0, ds0, p0, q0, hargs, rfl, rfl, h0, r0⟩ := trodAll_cons hA
  obtain ⟨rfl, rfl, rfl⟩ := trodAll_nil r0
  obtain rfl : args = #[v0] := by cases args; simp_all
  obtain ⟨rfl, rfl⟩ := trodVars_none hV
  obtain ⟨a0, rfl, rfl, rfl, w0⟩ := open_string Try.underlying9 (hval 0 9 v0 rfl rfl) h0
  clear hA0 hval0
  refine (walk a0 w0 W ).mono fun e W' ⟨he, bel⟩ => ?_
  subst he
  exact ⟨_, rfl, _, _, _, [], _, [], hW', trodAll_mk1 (shut_bool Try.underlying4 _), (trodAll_cons_mk (shut_string Try.underlying9 w0) trodAll_mk0), rfl, bel.frame _, fun h => by cases h⟩

theorem over : Rows.fnExactLimbsOfRow.holds Try.pinned (OpenSpec.ofChange Rows.fnExactLimbsOfSpec) :=
  OpenClaim.holds_of_wide 3 Try.f3 rfl rfl rfl rfl rfl rfl rfl ⟨rfl, rfl, rfl, rfl, rfl⟩ rfl rfl rfl rfl rfl (by kernel_rfl) Try.func3 (by kernel_rfl)
    (of_decide_eq_true (by kernel_rfl)) (by unfold Func.isWrapper; first | (rw [if_pos (by decide +kernel)]; kernel_rfl) | (rw [if_neg (by decide +kernel)]; exact ⟨rfl, rfl⟩))
    (fun os started H enc _ => lifted os started H enc)
end fnExactLimbsOf

theorem fnExactLimbsOf_holds : Rows.FnExactLimbsOfSaid := fnExactLimbsOf.over
#print axioms fnExactLimbsOf_holds
end Go.Proofs.Ytecjpagnifkcaaa
