/- For all texts: ReadAck of the program answers as the specification's ReadAck does, writes into no argument, keeps nothing of one, owns its answer's memory; the arguments read as before. -/
import Derived.Test.YthjaeajhldjapaaRows
import Derived.Test.YthjaeajhldjapaaLawI
import Derived.Test.YthjaeajhldjapaaRai31
import Derived.WalkKit
import Derived.ProofKit
import Derived.OpenShut
import Derived.ShutString
import Derived.ChangeOld
import Derived.PlainAid
namespace Go.Proofs.Ythjaeajhldjapaa
namespace fnExactReadAck
open Go.ChangeShapes Go.WideShapes Go.ChangeAt Go.RowKit Go.PlainAid
open Go.ChangeMaps (open_string shut_string)
set_option linter.unusedVariables false

theorem own : ownKnob Try.prog.godebug = none := by kernel_rfl

set_option maxHeartbeats 3200000 in
set_option maxRecDepth 20000 in
theorem walk (a0 : ByteArray) (w0 : a0.size ≤ maxLen) (w : World)  :
    Calls Try.prog 4 #[.string a0] w fun e w' => e = .returned (.bool true) ∧ Below w.heap.size w w' := by
  by_cases h0 : a0.size ≤ 1048576
  rotate_left
  · have hs' : (1048576 : Int) < (a0.size : Int) := by omega
    go_enter Try.func4, Try.ntmps4
    go_wp2
    go_ret
    exact ⟨rfl, Below.refl _ _⟩
  have hq0 : ¬ (1048576 : Int) < (a0.size : Int) := by omega
  clear w0
  have HB0 : Hid (Below w.heap.size w w) := Below.refl _ _
  obtain ⟨R0, R1, HS, HI, HL⟩ : ∃ (R0 : List Int) (R1 : Bool), Hid (∀ (w1 : World), Below w.heap.size w w1 → Calls Try.prog 9 #[.string a0] w1 fun e w' => ∃ v, e = .returned (.tuple #[v, .bool R1]) ∧ OwnInt w1.heap.size w' v R0 ∧ Below w1.heap.size w1 w') ∧ Hid (∀ (w1 : World), Below w.heap.size w w1 → Calls Try.prog 10 #[.string a0] w1 fun e w' => ∃ v, e = .returned (.tuple #[v, .bool R1]) ∧ OwnInt w1.heap.size w' v R0 ∧ Below w1.heap.size w1 w') ∧ Hid (R0.length ≤ 2097152) :=
    ⟨raL a0, raOk a0, fun w1 hb => specRa_any a0 w1 h0, fun w1 hb => implRa_any a0 w1 h0, raL_len a0⟩
  go_enter Try.func4, Try.ntmps4
  go_wp2_with fail
  refine Calls.mono (HS.out w HB0.out) ?_
  rintro e w1 ⟨v, rfl, ho, hb⟩
  obtain ⟨a1', cap1, rfl, hA1, -⟩ := ho.row
  have hs1 := hb.size
  have HB1 : Hid (Below w.heap.size w w1) := HB0.out.trans (hb.mono HB0.out.size)
  clear  HB0
  have OW1 := OwnZ.made ho
  clear ho hb
  go_wp2_with fail
  refine Calls.mono (HI.out w1 HB1.out) ?_
  rintro e w2 ⟨v, rfl, ho, hb⟩
  obtain ⟨a2', cap2, rfl, hA2, -⟩ := ho.row
  have hs2 := hb.size
  have OW2 := OW1.next hb
  have HB2 : Hid (Below w.heap.size w w2) := HB1.out.trans (hb.mono HB1.out.size)
  clear OW1 HB1
  have OG2 := OwnZ.made ho
  clear ho hb
  go_wp2_with fail
  refine (eqIntS_same _ _ _ _ _ w2 HL.out OG2.rowAt OW2.rowAt).mono ?_
  rintro e w3 ⟨rfl, hb⟩
  have OW3 := OW2.next hb
  have OG3 := OG2.next hb
  have HB3 : Hid (Below w.heap.size w w3) := HB2.out.trans (hb.mono HB2.out.size)
  clear OW2 OG2 HB2
  clear hb
  have hR : (R1 != R1) = false := by simp
  go_wp2_with fail
  refine (markIntS_any _ 1 (.slice a2' R0.length cap2) R0 w3 HL.out (by omega) OG3.own).mono ?_
  rintro e w4 ⟨rfl, hox, hgr⟩
  have hbk := OG3.block
  have OM4 : OwnZ w1.heap.size w2.heap.size (.slice a2' R0.length cap2) (marksI 1 R0.length) w4 := ⟨hox, Nat.le_trans OG3.le hgr.size, OG3.lt⟩
  clear hox
  have OW4 := OW3.mark hgr (fun g hg => by have := hbk g hg; omega)
  have HB4 : Hid (Below w.heap.size w w4) := HB3.out.grown hgr HB3.out.size (fun k hk => by have := hbk k hk; omega)
  clear hgr hbk HB3 OW3 OG3
  have hmr4 : RowI w4.heap.size w4 a2' (marksI 1 R0.length) := by have h := OM4.own; unfold OwnInt at h; rw [marksI_len] at h; exact (OwnZ.rowAt (n := R0.length) (cap := cap2) ⟨by unfold OwnInt; rw [marksI_len]; exact h, OM4.le, OM4.lt⟩)
  go_wp2_with fail
  refine (heldIntS_any a2' cap2 R0.length 1 w4 HL.out (by omega) hmr4).mono ?_
  rintro e w5 ⟨rfl, hb⟩
  clear hmr4
  have OW5 := OW4.next hb
  have OM5 := OM4.next hb
  have HB5 : Hid (Below w.heap.size w w5) := HB4.out.trans (hb.mono HB4.out.size)
  clear OW4 OM4 HB4
  clear hb
  have hk0 : ¬ (1 : Int) + (R0.length : Int) < 0 := by omega
  go_wp2_with fail
  refine Calls.mono (HI.out w5 HB5.out) ?_
  rintro e w6 ⟨v, rfl, ho, hb⟩
  obtain ⟨a6', cap6, rfl, hA6, -⟩ := ho.row
  have hs6 := hb.size
  have OW6 := OW5.next hb
  have OM6 := OM5.next hb
  have HB6 : Hid (Below w.heap.size w w6) := HB5.out.trans (hb.mono HB5.out.size)
  clear OW5 OM5 HB5
  have OH6 := OwnZ.made ho
  clear ho hb
  go_wp2_with fail
  refine (eqIntS_same _ _ _ _ _ w6 HL.out OH6.rowAt OW6.rowAt).mono ?_
  rintro e w7 ⟨rfl, hb⟩
  have OW7 := OW6.next hb
  have OM7 := OM6.next hb
  have OH7 := OH6.next hb
  have HB7 : Hid (Below w.heap.size w w7) := HB6.out.trans (hb.mono HB6.out.size)
  clear OW6 OM6 OH6 HB6
  clear hb
  have hmr7 : RowI w7.heap.size w7 a2' (marksI 1 R0.length) := by have h := OM7.own; unfold OwnInt at h; rw [marksI_len] at h; exact (OwnZ.rowAt (n := R0.length) (cap := cap2) ⟨by unfold OwnInt; rw [marksI_len]; exact h, OM7.le, OM7.lt⟩)
  go_wp2_with fail
  refine (heldIntS_any a2' cap2 R0.length 1 w7 HL.out (by omega) hmr7).mono ?_
  rintro e w8 ⟨rfl, hb⟩
  clear hmr7
  have HB8 : Hid (Below w.heap.size w w8) := HB7.out.trans (hb.mono HB7.out.size)
  clear hb HB7 OW7 OM7 OH7
  go_wp2
  go_ret
  exact ⟨rfl, HB8.out⟩

set_option maxRecDepth 100000 in
theorem lifted (os : Os) (started : os.Started) (H : Type) (enc : TypeId × Value → H) :
    ReturnsInHanded {} Try.checked os 4 .any (Rows.fnExactReadAckSpec.pre6 enc Try.prog Try.f4 Rows.fnExactReadAckRow.domain false) (Rows.fnExactReadAckSpec.post enc Try.prog Try.f4 false true false false) := by
  refine returnsInHanded_of_change (C := Try.checked) own started (by kernel_rfl) Try.func4
    (ChangeSpec.witness6 (enc := enc) (C := Try.checked) false ⟨#[], #[.string ByteArray.empty], []⟩ 8 (by kernel_rfl) (by kernel_rfl) (by kernel_rfl) (by kernel_rfl)) ?_
  intro W base args ds gs before hval0 hW hcnd _
  have hval : ∀ (j : Nat) t v, Try.f4.params[j]? = some t → args[j]? = some v → Value.okWide Try.prog W .any base t v := hval0
  have hW' := hW
  obtain ⟨p, q, hA0, hV, rfl, hfz, hnd⟩ := hW
  have hA : DataW.TrodAll enc Try.prog W 0 (fun _ => true) true Try.f4.params.toList args.toList ds p := hA0
  rw [Try.params4] at hA hval
  obtain ⟨v0, vs0, d0, ds0, p0, q0, hargs, rfl, rfl, h0, r0⟩ := trodAll_cons hA
  obtain ⟨rfl, rfl, rfl⟩ := trodAll_nil r0
  obtain rfl : args = #[v0] := by cases args; simp_all
  obtain ⟨rfl, rfl⟩ := trodVars_none hV
  obtain ⟨a0, rfl, rfl, rfl, w0⟩ := open_string Try.underlying9 (hval 0 9 v0 rfl rfl) h0
  clear hA0 hval0
  refine (walk a0 w0 W ).mono fun e W' ⟨he, bel⟩ => ?_
  subst he
  exact ⟨_, rfl, _, _, _, [], _, [], hW', trodAll_mk1 (shut_bool Try.underlying4 _), (trodAll_cons_mk (shut_string Try.underlying9 w0) trodAll_mk0), rfl, bel.frame _, fun h => by cases h⟩

theorem over : Rows.fnExactReadAckRow.holds Try.pinned (OpenSpec.ofChange Rows.fnExactReadAckSpec) :=
  OpenClaim.holds_of_wide 4 Try.f4 rfl rfl rfl rfl rfl rfl rfl ⟨rfl, rfl, rfl, rfl, rfl⟩ rfl rfl rfl rfl rfl (by kernel_rfl) Try.func4 (by kernel_rfl)
    (of_decide_eq_true (by kernel_rfl)) (by unfold Func.isWrapper; first | (rw [if_pos (by decide +kernel)]; kernel_rfl) | (rw [if_neg (by decide +kernel)]; exact ⟨rfl, rfl⟩))
    (fun os started H enc _ => lifted os started H enc)
end fnExactReadAck

theorem fnExactReadAck_holds : Rows.FnExactReadAckSaid := fnExactReadAck.over
#print axioms fnExactReadAck_holds
end Go.Proofs.Ythjaeajhldjapaa
