/- For all calls: ShaStart of the program answers as the specification's ShaStart does, writes into no argument, keeps nothing of one, owns its answer's memory; the arguments read as before. (The program's tables are as its text lays them: the card ties that.) -/
import Derived.Test.YtpnklgidbgjmbaaDoorCards
import Derived.Test.YtpnklgidbgjmbaaDoorTie
import Derived.Test.YtpnklgidbgjmbaaDoorLawI
import Derived.Test.YtpnklgidbgjmbaaDoorTab21
import Derived.WalkKit
import Derived.ProofKit
import Derived.OpenShut
import Derived.ShutString
import Derived.ChangeOld
import Derived.PlainAid
import Derived.OpenVars
import Derived.Deep.DeepHandedRow
import Derived.Deep.DeepWitnessRowRef
namespace Go.Proofs.YtpnklgidbgjmbaaDoor
namespace fnExactShaStart
open Go.ChangeShapes Go.WideShapes Go.ChangeAt Go.RowKit Go.PlainAid
open Go.ChangeMaps (open_string shut_string)
set_option linter.unusedVariables false

theorem table {W : World} (h : laidMetH Tryd.prog Rows.fnExactShaStartRow.laid W) : FirstHere W := firstHere_of h rfl
set_option maxHeartbeats 3200000 in
set_option maxRecDepth 20000 in
theorem walk   (w : World)  (ht : FirstHere w) :
    Calls Tryd.prog 7 #[] w fun e w' => e = .returned (.bool true) ∧ Below w.heap.size w w' := by
  have HT : Hid (FirstHere w) := ht
  clear ht
  have HB0 : Hid (Below w.heap.size w w) := Below.refl _ _
  obtain ⟨R0, HS, HI, HL⟩ : ∃ (R0 : List Int), Hid (∀ (w1 : World), Below w.heap.size w w1 → Calls Tryd.prog 29 #[] w1 fun e w' => ∃ v, e = .returned (v) ∧ OwnInt w1.heap.size w' v R0 ∧ Below w1.heap.size w1 w') ∧ Hid (∀ (w1 : World), Below w.heap.size w w1 → Calls Tryd.prog 16 #[] w1 fun e w' => ∃ v, e = .returned (v) ∧ OwnInt w1.heap.size w' v R0 ∧ Below w1.heap.size w1 w') ∧ Hid (R0.length ≤ 2097152) :=
    ⟨firstI, fun w1 hb => specFirst_any w1, fun w1 hb => implFirst_any w1 (HT.out.next hb HT.out.lt), by show _ ≤ _; rw [firstI_len]; omega⟩
  go_enter Tryd.func7, Tryd.ntmps7
  go_wp2_with fail
  refine Calls.mono (HS.out w HB0.out) ?_
  rintro e w1 ⟨v, rfl, ho, hb⟩
  obtain ⟨a1', cap1, rfl, hA1, -⟩ := ho.row
  have hs1 := hb.size
  have HB1 : Hid (Below w.heap.size w w1) := HB0.out.trans (hb.mono HB0.out.size)
  clear  HB0
  have OW1 := OwnZ.made ho
  clear ho hb
  go_wp2_with fail
  refine Calls.mono (HI.out w1 HB1.out) ?_
  rintro e w2 ⟨v, rfl, ho, hb⟩
  obtain ⟨a2', cap2, rfl, hA2, -⟩ := ho.row
  have hs2 := hb.size
  have OW2 := OW1.next hb
  have HB2 : Hid (Below w.heap.size w w2) := HB1.out.trans (hb.mono HB1.out.size)
  clear OW1 HB1
  have OG2 := OwnZ.made ho
  clear ho hb
  go_wp2_with fail
  refine (eqIntS_same _ _ _ _ _ w2 HL.out OG2.rowAt OW2.rowAt).mono ?_
  rintro e w3 ⟨rfl, hb⟩
  have OW3 := OW2.next hb
  have OG3 := OG2.next hb
  have HB3 : Hid (Below w.heap.size w w3) := HB2.out.trans (hb.mono HB2.out.size)
  clear OW2 OG2 HB2
  clear hb
  go_wp2_with fail
  refine (markIntS_any _ 1 (.slice a2' R0.length cap2) R0 w3 HL.out (by omega) OG3.own).mono ?_
  rintro e w4 ⟨rfl, hox, hgr⟩
  have hbk := OG3.block
  have OM4 : OwnZ w1.heap.size w2.heap.size (.slice a2' R0.length cap2) (marksI 1 R0.length) w4 := ⟨hox, Nat.le_trans OG3.le hgr.size, OG3.lt⟩
  clear hox
  have OW4 := OW3.mark hgr (fun g hg => by have := hbk g hg; omega)
  have HB4 : Hid (Below w.heap.size w w4) := HB3.out.grown hgr HB3.out.size (fun k hk => by have := hbk k hk; omega)
  clear hgr hbk HB3 OW3 OG3
  have hmr4 : RowI w4.heap.size w4 a2' (marksI 1 R0.length) := by have h := OM4.own; unfold OwnInt at h; rw [marksI_len] at h; exact (OwnZ.rowAt (n := R0.length) (cap := cap2) ⟨by unfold OwnInt; rw [marksI_len]; exact h, OM4.le, OM4.lt⟩)
  go_wp2_with fail
  refine (heldIntS_any a2' cap2 R0.length 1 w4 HL.out (by omega) hmr4).mono ?_
  rintro e w5 ⟨rfl, hb⟩
  clear hmr4
  have OW5 := OW4.next hb
  have OM5 := OM4.next hb
  have HB5 : Hid (Below w.heap.size w w5) := HB4.out.trans (hb.mono HB4.out.size)
  clear OW4 OM4 HB4
  clear hb
  have hk0 : ¬ (1 : Int) + (R0.length : Int) < 0 := by omega
  go_wp2_with fail
  refine Calls.mono (HI.out w5 HB5.out) ?_
  rintro e w6 ⟨v, rfl, ho, hb⟩
  obtain ⟨a6', cap6, rfl, hA6, -⟩ := ho.row
  have hs6 := hb.size
  have OW6 := OW5.next hb
  have OM6 := OM5.next hb
  have HB6 : Hid (Below w.heap.size w w6) := HB5.out.trans (hb.mono HB5.out.size)
  clear OW5 OM5 HB5
  have OH6 := OwnZ.made ho
  clear ho hb
  go_wp2_with fail
  refine (eqIntS_same _ _ _ _ _ w6 HL.out OH6.rowAt OW6.rowAt).mono ?_
  rintro e w7 ⟨rfl, hb⟩
  have OW7 := OW6.next hb
  have OM7 := OM6.next hb
  have OH7 := OH6.next hb
  have HB7 : Hid (Below w.heap.size w w7) := HB6.out.trans (hb.mono HB6.out.size)
  clear OW6 OM6 OH6 HB6
  clear hb
  have hmr7 : RowI w7.heap.size w7 a2' (marksI 1 R0.length) := by have h := OM7.own; unfold OwnInt at h; rw [marksI_len] at h; exact (OwnZ.rowAt (n := R0.length) (cap := cap2) ⟨by unfold OwnInt; rw [marksI_len]; exact h, OM7.le, OM7.lt⟩)
  go_wp2_with fail
  refine (heldIntS_any a2' cap2 R0.length 1 w7 HL.out (by omega) hmr7).mono ?_
  rintro e w8 ⟨rfl, hb⟩
  clear hmr7
  have HB8 : Hid (Below w.heap.size w w8) := HB7.out.trans (hb.mono HB7.out.size)
  clear hb HB7 OW7 OM7 OH7
  go_wp2
  go_ret
  exact ⟨rfl, HB8.out⟩

theorem own : ownKnob Tryd.prog.godebug = none := by kernel_rfl
theorem laidOut : laidOutB Tryd.prog = true := by kernel_rfl
set_option maxRecDepth 100000 in
theorem contract (H : Type) (enc : TypeId × Value → H) (W : World) (base : Nat) (args : Array Value) (ds gs : List (DataW H)) (before : List MemPlace)
    (hval : ∀ (j : Nat) t v, Tryd.f7.params[j]? = some t → args[j]? = some v → Value.okWide Tryd.prog W .any base t v)
    (hW : DataW.Whole enc Tryd.prog Tryd.f7.params.toList Rows.fnExactShaStartSpec.vars false W args.toList ds gs before) (hL : laidMetH Tryd.prog Rows.fnExactShaStartRow.laid W) :
    Calls Tryd.prog 7 args W fun e W' => ∃ v, e = .returned v ∧ Rows.fnExactShaStartSpec.post enc Tryd.prog Tryd.f7 false true false false W args v W' := by
  have hW' := hW
  obtain ⟨p, q, hA0, hV, rfl, hfz, hnd⟩ := hW
  have hA : DataW.TrodAll enc Tryd.prog W 0 (fun _ => true) true Tryd.f7.params.toList args.toList ds p := hA0
  rw [Tryd.params7] at hA hval
  obtain ⟨hargs, rfl, rfl⟩ := trodAll_nil hA
  obtain rfl : args = #[] := by cases args; simp_all
  have hV0 : DataW.TrodVars enc Tryd.prog W (fun _ => true) ["loop.example/g00466/impl.startWords"] gs q := hV
  obtain ⟨gv, tv, cv, fv, dv, pv, rfl, _⟩ := trodVars_one hV0
  clear hA0
  refine (walk   W  (table hL)).mono fun e W' ⟨he, bel⟩ => ?_
  subst he
  exact ⟨_, rfl, _, _, _, [], _, q, hW', trodAll_mk1 (shut_bool Tryd.underlying4 _), trodAll_mk0, bel.trodVars laidOut (by kernel_rfl) hV, bel.frame _, fun h => by cases h⟩

def relay (cs : Array Value) : Obj → Obj
  | .cells _ t frozen => .cells cs t frozen
  | o => o
noncomputable def laidWorld (os : Os) : World := { World.holding Tryd.prog os ⟨#[], #[], []⟩ with heap := ((World.holding Tryd.prog os ⟨#[], #[], []⟩).heap.modify 0 (relay #[.int .u32 1779033703, .int .u32 3144134277, .int .u32 1013904242, .int .u32 2773480762, .int .u32 1359893119, .int .u32 2600822924, .int .u32 528734635, .int .u32 1541459225])) }
theorem laid_met (os : Os) : laidMet Tryd.prog Rows.fnExactShaStartRow.laid ((laidWorld os).forCall (fun _ _ => 0) ⟨#[], #[], []⟩).memory := laidMet_of_run' 8 (by kernel_rfl) (by kernel_rfl)
theorem reads (os : Os) {H : Type} (enc : TypeId × Value → H) : ∃ places, DataW.whole enc Tryd.prog ((laidWorld os).forCall (fun _ _ => 0) ⟨#[], #[], []⟩).memory Tryd.f7.params.toList Rows.fnExactShaStartSpec.vars false #[].toList 8 = some ([], [Rows.laid_loop_example_g00466_impl_startWords], places) := ⟨MemPlace.row ⟨0, 0, none⟩ 8, by kernel_rfl⟩
set_option maxRecDepth 100000 in
theorem lifted (os : Os) (started : os.Started) (H : Type) (enc : TypeId × Value → H) (F : Stop.Interp) :
    ReturnsInHanded {} Tryd.checked os 7 .any ((OpenSpec.ofChange Rows.fnExactShaStartSpec).preRow enc Tryd.prog Tryd.f7 Rows.fnExactShaStartRow.domain false Rows.fnExactShaStartRow.laid) (((OpenSpec.ofChange Rows.fnExactShaStartSpec).at F).post enc Tryd.prog Tryd.f7 false true false false) := by
  obtain ⟨places, hx⟩ := reads os enc
  refine returnsInHanded_of_row (C := Tryd.checked) (s := OpenSpec.ofChange Rows.fnExactShaStartSpec) own started (by kernel_rfl) Tryd.func7
    (witness_row_at (enc := enc) (C := Tryd.checked) false (laidWorld os) #[] rfl (by kernel_rfl) (by kernel_rfl) (by kernel_rfl)
      (OpenSpec.preRow_of_cond 8 hx (by kernel_rfl) (fun k hk => by cases hk) (by kernel_rfl) (laid_met os))) ?_
  intro W base args ds gs before hval hW _ _ _ hL _ _
  exact contract H enc W base args ds gs before hval hW hL

theorem said : Rows.FnExactShaStartSaid :=
  OpenClaim.holds_of_cond 7 Tryd.f7 rfl rfl rfl rfl rfl rfl rfl ⟨rfl, rfl, rfl, rfl, rfl⟩ rfl rfl rfl rfl rfl (by kernel_rfl) Tryd.func7 (by kernel_rfl)
    (of_decide_eq_true (by kernel_rfl)) (by unfold Func.isWrapper; first | (rw [if_pos (by decide +kernel)]; kernel_rfl) | (rw [if_neg (by decide +kernel)]; exact ⟨rfl, rfl⟩))
    (fun os started H enc _ F => by rw [OpenClaim.pre_eq_preRow]; exact lifted os started H enc F)
theorem plain (f : FuncId) (fn : Func) (hf : Tryd.pinned.checked.prog.funcNamed "loop.example/g00466/laws.FnExactShaStart" = some f) (hfn : Tryd.pinned.checked.prog.funcs[f]? = some fn) :
    false = Tryd.pinned.checked.prog.looks [] ∧ ∀ (j : Nat) t, fn.params[j]? = some t → Tryd.pinned.checked.prog.wantsStandIn t = false := by
  obtain rfl : f = 7 := Option.some.inj ((show Tryd.prog.funcNamed "loop.example/g00466/laws.FnExactShaStart" = some 7 by kernel_rfl).symm.trans hf) |>.symm
  obtain rfl : fn = Tryd.f7 := (Option.some.inj (Tryd.func7.symm.trans hfn)).symm
  refine ⟨by kernel_rfl, fun j t ht => ?_⟩
  rw [Tryd.params7] at ht
  simp at ht
end fnExactShaStart

theorem fnExactShaStart_card : Rows.FnExactShaStartCardSaid :=
  Claim7.holds_tied_plain_at .later [] _ _ _ _ fnExactShaStart.said (fun _ h => by cases h) (by kernel_rfl) (fun _ h => by cases h) fnExactShaStart_row_tie rfl ⟨rfl, rfl⟩ (by kernel_rfl) rfl fnExactShaStart.plain (by kernel_rfl)
#print axioms fnExactShaStart_card
end Go.Proofs.YtpnklgidbgjmbaaDoor
