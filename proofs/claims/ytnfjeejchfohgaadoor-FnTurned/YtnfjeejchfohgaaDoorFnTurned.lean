/- For every code, where the program's table is as its text lays it (the card ties that): the drawn text is Unsealed as it was Sealed, with any one byte turned it is not, SumMore goes on where SumOf stopped, and the code reads as before. -/
import Derived.Test.YtnfjeejchfohgaaDoorCards
import Derived.Test.YtnfjeejchfohgaaDoorTie
import Derived.Test.YtnfjeejchfohgaaDoorTabW
import Derived.Test.YtnfjeejchfohgaaDoorCodeW
import Derived.Test.YtnfjeejchfohgaaDoorTurned
import Derived.WalkKit
import Derived.ProofKit
import Derived.OpenShut
import Derived.ShutString
import Derived.OpenVars
import Derived.BigRegion
import Derived.ChangeOld
import Derived.Deep.DeepHandedRow
import Derived.Deep.DeepWitnessRowRef
namespace Go.Proofs.YtnfjeejchfohgaaDoor
namespace fnTurned
open Go.ChangeShapes Go.WideShapes Go.ChangeAt Go.RowKit Go.PlainAid
open Go.ChangeMaps (open_string shut_string)
set_option linter.unusedVariables false

theorem table {W : World} (h : laidMetH Tryd.prog Rows.fnTurnedRow.laid W) : TabHere W := tabHere_of h rfl

theorem drawSum_any (a : Option Addr) (len cap : Nat) (w : World) (hc : CodeIn w.heap.size w a len) :
    Calls Tryd.prog 9 #[.slice a len cap] w fun e w' => ∃ s : ByteArray, e = .returned (.string s) ∧ s.size < 40 ∧ Below w.heap.size w w' := by
  go_enter Tryd.func9, Tryd.ntmps9
  go_wp2_with fail
  refine (new_any a len cap _ hc).mono ?_
  rintro e w1 ⟨g, rfl, hc1, hb1⟩
  go_wp2_with fail
  refine (below_any w.heap.size g 40 _ (by omega) (by omega) hc1).mono ?_
  rintro e w2 ⟨y, rfl, hy, hc2, hg2⟩
  have hb2 : Below w.heap.size w w2 := hb1.grown hg2 hb1.size (fun k hk => by cases hk; exact hc1.1)
  go_wp2_with fail
  refine (text_any w.heap.size g y _ (by omega) hc2).mono ?_
  rintro e w3 ⟨s, rfl, hs, hc3, hg3⟩
  go_wp2
  go_ret
  exact ⟨s, rfl, by omega, hb2.grown hg3 hb2.size (fun k hk => by cases hk; exact hc1.1)⟩

theorem un_back (s : ByteArray) (w : World) (hs : s.size < 40) (ht : TabHere w) :
    Calls Tryd.prog 12 #[.string (sealOf s)] w fun e w' => e = .returned (.tuple #[.string s, .bool true]) ∧ Below w.heap.size w w' := by
  have hz := seal_size s
  have hc := seal_cut s
  have := implUn_good (sealOf s) s.size w hz (by omega) (by rw [hc]) ht
  rw [hc] at this
  exact this

/-- A byte turned by a mask that is not 0 is another. -/
theorem xor_other (b m : Nat) (hb : b < 256) (hm : 0 < m) (hm1 : m < 256) : bits .xor .u8 (b : Int) (m : Int) = ((b ^^^ m : Nat) : Int) ∧ b ^^^ m ≠ b ∧ b ^^^ m < 256 := by
  refine ⟨u8_xor_nat b m hb hm1, fun e => ?_, ?_⟩
  · have h2 : b ^^^ (b ^^^ m) = b ^^^ b := by rw [e]
    rw [← Nat.xor_assoc, Nat.xor_self, Nat.zero_xor] at h2
    omega
  · have : b ^^^ m < 2 ^ 8 := Nat.xor_lt_two_pow (by omega) (by omega)
    omega

set_option maxHeartbeats 1600000 in
theorem walk (a0 : Option Addr) (len0 cap0 : Nat) (w : World) (hc : len0 ≤ 1048576 → CodeIn w.heap.size w a0 len0) (ht : TabHere w) :
    Calls Tryd.prog 3 #[.slice a0 len0 cap0] w fun e w' => e = .returned (.bool true) ∧ Below w.heap.size w w' := by
  have hg := ht.lt
  have HT : Hid (TabHere w) := ht
  clear ht
  by_cases hl : len0 ≤ 1048576
  · have hd : decide ((1048576 : Int) < (len0 : Int)) = false := by simp; omega
    have HC : Hid (CodeIn w.heap.size w a0 len0) := hc hl
    clear hc
    go_enter Tryd.func3, Tryd.ntmps3
    go_wp2_with fail
    refine (big_any a0 len0 cap0 _).mono ?_
    rintro e w1 ⟨rfl, rfl⟩
    go_wp2_with fail
    refine (drawSum_any a0 len0 cap0 _ HC.out).mono ?_
    rintro e w1 ⟨s, rfl, hs, hB1⟩
    go_wp2_with fail
    refine (places_any a0 len0 cap0 _ (codeIn_later HC.out hB1)).mono ?_
    rintro e w2 ⟨gp, cp, xs, rfl, hxl, hxr, hgp, hgp1, hcp, hb2⟩
    have hB2 : Below w.heap.size w w2 := hB1.trans (hb2.mono hB1.size)
    have HX : Hid (∀ i, i < 12 → w2.cell? ⟨gp, i, none⟩ = some (.int .i64 ((xs.getD i 0 : Nat) : Int))) := hcp
    have HR : Hid (∀ x ∈ xs, x < 10000) := hxr
    clear hcp hxr hb2
    go_wp2_with fail
    refine (implSealed_yes s _ (by omega) (HT.out.below hg hB2)).mono ?_
    rintro e w3 ⟨rfl, hb3⟩
    have hB3 : Below w.heap.size w w3 := hB2.trans (hb3.mono hB2.size)
    go_wp2_with fail
    refine (un_back s _ hs (HT.out.below hg hB3)).mono ?_
    rintro e w4 ⟨rfl, hb4⟩
    have hB4 : Below w.heap.size w w4 := hB3.trans (hb4.mono hB3.size)
    have hz := seal_size s
    obtain ⟨capb, w5, hcv, hcells, hfrz, hb5, hsz5⟩ := bytes_new (sealOf s) w4
    rw [hz] at hcv hcells hfrz
    have hB5 : Below w.heap.size w w5 := hB4.trans (hb5.mono hB4.size)
    have hcp : ∀ i, i < 12 → w5.cell? ⟨gp, i, none⟩ = some (.int .i64 ((xs.getD i 0 : Nat) : Int)) := fun i hi =>
      (hb5.cell (p := ⟨gp, i, none⟩) (Nat.lt_of_lt_of_le hgp1 (Nat.le_trans hb3.size hb4.size))).trans ((hb4.cell (p := ⟨gp, i, none⟩) (Nat.lt_of_lt_of_le hgp1 hb3.size)).trans ((hb3.cell (p := ⟨gp, i, none⟩) hgp1).trans (HX.out i hi)))
    have hp0 := hcp 0 (by omega)
    have hp1 := hcp 1 (by omega)
    generalize hP0 : xs.getD 0 0 = p0 at hp0
    generalize hP1 : xs.getD 1 0 = p1 at hp1
    have hgw : gp < w4.heap.size := Nat.lt_of_lt_of_le hgp1 (Nat.le_trans hb3.size hb4.size)
    have h0 : p0 < 10000 := by rw [← hP0, List.getD_eq_getElem?_getD, List.getElem?_eq_getElem (by omega)]; exact HR.out _ (List.getElem_mem _)
    have h1 : p1 < 10000 := by rw [← hP1, List.getD_eq_getElem?_getD, List.getElem?_eq_getElem (by omega)]; exact HR.out _ (List.getElem_mem _)
    clear hP0 hP1 hcp HX HR hxl hgp hgp1 hb3 hb4 hB1 hB2 hB3
    have HL : Hid (∀ j, j < s.size + 4 → w5.cell? ⟨w4.heap.size, j, none⟩ = some (.int .u8 (bt (sealOf s) j))) := hcells
    have HF : Hid (∀ j, j < s.size + 4 → w5.frozen? ⟨w4.heap.size, j, none⟩ = false) := hfrz
    clear hcells hfrz
    have him : p0 % (s.size + 4) < s.size + 4 := Nat.mod_lt _ (by omega)
    have hie : ((p0 : Int) % ((s.size : Int) + 4)) = ((p0 % (s.size + 4) : Nat) : Int) := by rw [show ((s.size : Int) + 4) = ((s.size + 4 : Nat) : Int) by omega]; exact (Int.natCast_emod _ _).symm
    generalize p0 % (s.size + 4) = i at him hie
    have hci := HL.out i him
    have hfi := HF.out i him
    have hm1 : p1 % 255 < 255 := Nat.mod_lt _ (by omega)
    have q1 : (p1 : Int).tmod 255 = ((p1 % 255 : Nat) : Int) := by rw [Int.tmod_eq_emod_of_nonneg (by omega)]; omega
    generalize p1 % 255 = m0 at hm1 q1
    have q2 : IntKind.i64.wrap (1 + (m0 : Int)) = ((1 + m0 : Nat) : Int) := by rw [IntWalk.i64_in _ ⟨by omega, by omega⟩]; omega
    have q3 : IntKind.u8.wrap ((1 + m0 : Nat) : Int) = ((1 + m0 : Nat) : Int) := IntWalk.u8_in _ ⟨by omega, by omega⟩
    have hxo := xor_other (bt (sealOf s) i).toNat (1 + m0) (bt_lt _ _) (by omega) (by omega)
    rw [← bt_nat (sealOf s) i] at hxo
    obtain ⟨q4, hne, hlt⟩ := hxo
    have hne2 : Hid ((((bt (sealOf s) i).toNat ^^^ (1 + m0) : Nat) : Int) ≠ bt (sealOf s) i) := by
      have := bt_nonneg (sealOf s) i
      show _ ≠ _
      omega
    clear hne
    generalize (bt (sealOf s) i).toNat ^^^ (1 + m0) = x at q4 hne2 hlt
    generalize 1 + m0 = m at q2 q3 q4
    have hi0 : (0 : Int) ≤ (i : Int) := by omega
    have hi1 : (i : Int) < (s.size : Int) + 4 := by omega
    have hi2 : (i : Int) < ((s.size + 4 : Nat) : Int) := by omega
    have hgne : ¬ gp = w4.heap.size := by omega
    go_wp2
    go_region
    have hge : w.heap.size ≤ w4.heap.size := hB4.size
    have hB6 : Below w.heap.size w (w5.setCell ⟨w4.heap.size, i, none⟩ (.int .u8 (x : Int))).drew := (hB5.setCell hge _).drew
    have hcv2 := turned_conv (sealOf s) i (x : Int) w4.heap.size capb w5 (by omega) (by rw [hz]; exact HL.out)
    rw [hz] at hcv2
    have hbad := turned_bad (s := s) (u := turnedOf (sealOf s) i (x : Int)) (i := i) (by rw [turnedOf_size, hz]) (by rw [turnedOf_bt _ _ _ (by omega) (by omega) (by omega), if_pos rfl]; exact hne2.out) (fun j hj => by rw [turnedOf_bt _ _ _ (by omega) (by omega) (by omega), if_neg hj])
    have HU : Hid _ := implUn_bad (turnedOf (sealOf s) i (x : Int)) s.size (w5.setCell ⟨w4.heap.size, i, none⟩ (.int .u8 (x : Int))).drew (by rw [turnedOf_size, hz]) (by omega) hbad (HT.out.below hg hB6)
    clear hbad HL HF hcv hci hfi q1 q2 q3 q4 hp0 hp1 hB5 hb5
    generalize (w5.setCell ⟨w4.heap.size, i, none⟩ (.int .u8 (x : Int))).drew = w6 at hcv2 HU hB6 ⊢
    go_wp2_with fail
    refine Calls.mono HU.out ?_
    rintro e w7 ⟨rfl, hb7⟩
    have hB7 : Below w.heap.size w w7 := hB6.trans (hb7.mono hB6.size)
    have hT7 : TabHere w7 := HT.out.below hg hB7
    have HA : Hid _ := implSum_any s w7 (by omega) hT7
    have HB : Hid _ := implMore_any (sumOf s) ⟨#[120]⟩ w7 (sumOf_lt s) (by decide) hT7
    have HD : Hid _ := implSum_any (s ++ ⟨#[120]⟩) w7 (by rw [sz_app]; show s.size + 1 ≤ _; omega) hT7
    rw [← more_all] at HD
    clear HU hcv2 hT7 hB6 hb7
    go_wp2_with fail
    refine Calls.mono HA.out ?_
    rintro e w8 ⟨rfl, rfl⟩
    go_wp2_with fail
    refine Calls.mono HB.out ?_
    rintro e w8 ⟨rfl, rfl⟩
    have hx1 : (⟨#[120]⟩ : ByteArray).size = 1 := rfl
    go_wp2_with fail
    refine Calls.mono HD.out ?_
    rintro e w8 ⟨rfl, rfl⟩
    go_wp2
    go_ret
    exact ⟨rfl, hB7⟩
  · have hd : decide ((1048576 : Int) < (len0 : Int)) = true := by simp; omega
    clear hc
    go_enter Tryd.func3, Tryd.ntmps3
    go_wp2_with fail
    refine (big_any a0 len0 cap0 _).mono ?_
    rintro e w1 ⟨rfl, rfl⟩
    go_wp2
    go_ret
    exact ⟨rfl, Below.refl _ _⟩

theorem own : ownKnob Tryd.prog.godebug = none := by kernel_rfl
theorem laidOut : laidOutB Tryd.prog = true := by kernel_rfl
theorem contract (H : Type) (enc : TypeId × Value → H) (W : World) (base : Nat) (args : Array Value) (ds gs : List (DataW H)) (before : List MemPlace)
    (hval : ∀ (j : Nat) t v, Tryd.f3.params[j]? = some t → args[j]? = some v → Value.okWide Tryd.prog W .any base t v)
    (hW : DataW.Whole enc Tryd.prog Tryd.f3.params.toList Rows.fnTurnedSpec.vars false W args.toList ds gs before) (hL : laidMetH Tryd.prog Rows.fnTurnedRow.laid W) :
    Calls Tryd.prog 3 args W fun e W' => ∃ v, e = .returned v ∧ Rows.fnTurnedSpec.post enc Tryd.prog Tryd.f3 false true false false W args v W' := by
  have hW' := hW
  obtain ⟨p, q, hA0, hV, rfl, hfz, hnd⟩ := hW
  have hA : DataW.TrodAll enc Tryd.prog W 0 (fun _ => true) true Tryd.f3.params.toList args.toList ds p := hA0
  rw [Tryd.params3] at hA hval
  obtain ⟨v0, vs0, d0, ds0, p0, q0, hargs, rfl, rfl, h0, r0⟩ := trodAll_cons hA
  obtain ⟨rfl, rfl, rfl⟩ := trodAll_nil r0
  obtain rfl : args = #[v0] := by cases args; simp_all
  have hV0 : DataW.TrodVars enc Tryd.prog W (fun _ => true) ["loop.example/g00466/impl.fourSteps"] gs q := hV
  obtain ⟨gv, tv, cv, fv, dv, pv, rfl, _⟩ := trodVars_one hV0
  obtain ⟨a0, len0, cap0, rfl⟩ := okWide_slice Tryd.underlying22 (hval 0 22 v0 rfl rfl)
  have k0 := h0
  have lt0 : ∀ x ∈ p0, x.block < W.heap.size := by obtain ⟨m, hm⟩ := k0; exact DataW.trod_lt m _ _ _ hm
  have hcode0 := code_of h0
  clear hA0
  refine (walk a0 len0 cap0  W hcode0 (table hL)).mono fun e W' ⟨he, bel⟩ => ?_
  subst he
  exact ⟨_, rfl, _, _, _, [], _, q, hW', trodAll_mk1 (shut_bool Tryd.underlying4 _), (trodAll_cons_mk (Below.trod laidOut (by kernel_rfl) (of_decide_eq_true (by kernel_rfl)) k0 bel lt0) trodAll_mk0), bel.trodVars laidOut (by kernel_rfl) hV, bel.frame _, fun h => by cases h⟩

def relay (cs : Array Value) : Obj → Obj
  | .cells _ t frozen => .cells cs t frozen
  | o => o
noncomputable def laidWorld (os : Os) : World := { World.holding Tryd.prog os ⟨#[], #[], []⟩ with heap := ((World.holding Tryd.prog os ⟨#[], #[], []⟩).heap.modify 0 (relay #[.int .u32 0, .int .u32 1166650509, .int .u32 2333301018, .int .u32 3466261911, .int .u32 3189058079, .int .u32 4221339282, .int .u32 889615109, .int .u32 1888477064, .int .u32 3558460437, .int .u32 2442158232, .int .u32 1594529039, .int .u32 444807554, .int .u32 1779230218, .int .u32 797264519, .int .u32 3776954128, .int .u32 2761298845])) }
theorem laid_met (os : Os) : laidMet Tryd.prog Rows.fnTurnedRow.laid ((laidWorld os).forCall (fun _ _ => 0) ⟨#[], #[Value.slice none 0 0], []⟩).memory := laidMet_of_run' 8 (by kernel_rfl) (by kernel_rfl)
theorem reads (os : Os) {H : Type} (enc : TypeId × Value → H) : ∃ places, DataW.whole enc Tryd.prog ((laidWorld os).forCall (fun _ _ => 0) ⟨#[], #[Value.slice none 0 0], []⟩).memory Tryd.f3.params.toList Rows.fnTurnedSpec.vars false #[Value.slice none 0 0].toList 8 = some ([.nil], [Rows.laid_loop_example_g00466_impl_fourSteps], places) := ⟨MemPlace.row ⟨0, 0, none⟩ 16, by kernel_rfl⟩
set_option maxRecDepth 100000 in
theorem lifted (os : Os) (started : os.Started) (H : Type) (enc : TypeId × Value → H) (F : Stop.Interp) :
    ReturnsInHanded {} Tryd.checked os 3 .any ((OpenSpec.ofChange Rows.fnTurnedSpec).preRow enc Tryd.prog Tryd.f3 Rows.fnTurnedRow.domain false Rows.fnTurnedRow.laid) (((OpenSpec.ofChange Rows.fnTurnedSpec).at F).post enc Tryd.prog Tryd.f3 false true false false) := by
  obtain ⟨places, hx⟩ := reads os enc
  refine returnsInHanded_of_row (C := Tryd.checked) (s := OpenSpec.ofChange Rows.fnTurnedSpec) own started (by kernel_rfl) Tryd.func3
    (witness_row_at (enc := enc) (C := Tryd.checked) false (laidWorld os) #[Value.slice none 0 0] rfl (by kernel_rfl) (by kernel_rfl) (by kernel_rfl)
      (OpenSpec.preRow_of_cond 8 hx (by kernel_rfl) (fun k hk => by cases hk) (by kernel_rfl) (laid_met os))) ?_
  intro W base args ds gs before hval hW _ _ _ hL _ _
  exact contract H enc W base args ds gs before hval hW hL

theorem said : Rows.FnTurnedSaid :=
  OpenClaim.holds_of_cond 3 Tryd.f3 rfl rfl rfl rfl rfl rfl rfl ⟨rfl, rfl, rfl, rfl, rfl⟩ rfl rfl rfl rfl rfl (by kernel_rfl) Tryd.func3 (by kernel_rfl)
    (of_decide_eq_true (by kernel_rfl)) (by unfold Func.isWrapper; first | (rw [if_pos (by decide +kernel)]; kernel_rfl) | (rw [if_neg (by decide +kernel)]; exact ⟨rfl, rfl⟩))
    (fun os started H enc _ F => by rw [OpenClaim.pre_eq_preRow]; exact lifted os started H enc F)
theorem plain (f : FuncId) (fn : Func) (hf : Tryd.pinned.checked.prog.funcNamed "loop.example/g00466/laws.FnTurned" = some f) (hfn : Tryd.pinned.checked.prog.funcs[f]? = some fn) :
    false = Tryd.pinned.checked.prog.looks [] ∧ ∀ (j : Nat) t, fn.params[j]? = some t → Tryd.pinned.checked.prog.wantsStandIn t = false := by
  obtain rfl : f = 3 := Option.some.inj ((show Tryd.prog.funcNamed "loop.example/g00466/laws.FnTurned" = some 3 by kernel_rfl).symm.trans hf) |>.symm
  obtain rfl : fn = Tryd.f3 := (Option.some.inj (Tryd.func3.symm.trans hfn)).symm
  refine ⟨by kernel_rfl, fun j t ht => ?_⟩
  rw [Tryd.params3] at ht
  have hm : t = 22 := by simpa using Array.mem_of_getElem? ht
  rcases hm with rfl
  · exact (show Tryd.prog.wantsStandIn 22 = false by kernel_rfl)
end fnTurned

theorem fnTurned_card : Rows.FnTurnedCardSaid :=
  Claim7.holds_tied_plain_at .later [] _ _ _ _ fnTurned.said (fun _ h => by cases h) (by kernel_rfl) (fun _ h => by cases h) fnTurned_row_tie rfl ⟨rfl, rfl⟩ (by kernel_rfl) rfl fnTurned.plain (by kernel_rfl)
#print axioms fnTurned_card
end Go.Proofs.YtnfjeejchfohgaaDoor
