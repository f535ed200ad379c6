/- For every code, where the program's tables are as its text lays them (the card ties that): the digest of the drawn text, and of it with one byte turned, is the specification's; a hash of it is its beginning, of no length but 1 to 32; the texts that are filled are not the same. -/
import Derived.Test.YtpnklgidbgjmbaaDoorCards
import Derived.Test.YtpnklgidbgjmbaaDoorTie
import Derived.Test.YtpnklgidbgjmbaaDoorCut21
import Derived.Test.YtpnklgidbgjmbaaDoorTurnL21
import Derived.Test.YtpnklgidbgjmbaaDoorCodeW
import Derived.WalkKit
import Derived.ProofKit
import Derived.OpenShut
import Derived.ShutString
import Derived.OpenVars
import Derived.BigRegion
import Derived.ChangeOld
import Derived.Deep.DeepHandedRow
import Derived.Deep.DeepWitnessRowRef
namespace Go.Proofs.YtpnklgidbgjmbaaDoor
namespace fnDigestTurned
open Go.ChangeShapes Go.WideShapes Go.ChangeAt Go.RowKit Go.PlainAid
open Go.ChangeMaps (open_string shut_string)
set_option linter.unusedVariables false

theorem table {W : World} (h : laidMetH Tryd.prog Rows.fnDigestTurnedRow.laid W) : BothHere W := ⟨firstHere_of h rfl, keysHere_of h rfl⟩
theorem hexT_size (t : ByteArray) : (hexT t).size = 64 := by
  unfold hexT
  rw [strOfNums_size, hexN_len, nums_len _ _ (Nat.le_refl _), digT_size]
theorem toList_ne {a b : ByteArray} (h : a ≠ b) : (a.toList == b.toList) = false := by
  rw [ByteArray.toList_eq, ByteArray.toList_eq]
  exact beq_false_of_ne (fun e => h (Go.WideShapes.bytes_inj e))
set_option maxHeartbeats 3200000 in
set_option maxRecDepth 20000 in
theorem walk (a0 : Option Addr) (len0 cap0 : Nat) (w : World) (hc : len0 ≤ 1048576 → CodeIn w.heap.size w a0 len0) (ht : BothHere w) :
    Calls Tryd.prog 5 #[.slice a0 len0 cap0] w fun e w' => e = .returned (.bool true) ∧ Below w.heap.size w w' := by
  have HT : Hid (BothHere w) := ht
  clear ht
  by_cases hl : len0 ≤ 1048576
  · have hd : decide ((1048576 : Int) < (len0 : Int)) = false := by simp; omega
    have HC : Hid (CodeIn w.heap.size w a0 len0) := hc hl
    clear hc
    go_enter Tryd.func5, Tryd.ntmps5
    go_wp2_with fail
    refine (big_any a0 len0 cap0 _).mono ?_
    rintro e w1 ⟨rfl, rfl⟩
    go_wp2_with fail
    refine (drawText_any a0 len0 cap0 _ HC.out).mono ?_
    rintro e w1 ⟨s, rfl, hs, hb1⟩
    have HC1 : Hid (CodeIn w1.heap.size w1 a0 len0) := codeIn_later HC.out hb1
    have hx1 : (⟨#[120]⟩ : ByteArray).size = 1 := rfl
    have hts : (s ++ ⟨#[120]⟩).size = s.size + 1 := by rw [sz_app]; rfl
    go_wp2_with fail
    generalize s ++ ⟨#[120]⟩ = t at hts ⊢
    refine (places_any a0 len0 cap0 _ HC1.out).mono ?_
    rintro e w2 ⟨gp, cp, xs, rfl, hxl, hxr, hgp, hgp1, hcp, hb2⟩
    have HB2 : Hid (Below w.heap.size w w2) := hb1.trans (hb2.mono hb1.size)
    have HT2 : Hid (BothHere w2) := HT.out.next HB2.out
    have hx : ∀ i, i < 12 → xs.getD i 0 < 10000 := fun i hi => by rw [List.getD_eq_getElem?_getD, List.getElem?_eq_getElem (by omega)]; exact hxr _ (List.getElem_mem _)
    have HTU : Hid _ := turnL_any t gp cp xs w2 (by omega) (by omega) (hx 0 (by omega)) (hx 1 (by omega)) hgp1 hcp
    have HP2 : Hid (w2.cell? ⟨gp, 2, none⟩ = some (.int .i64 ((xs.getD 2 0 : Nat) : Int))) := hcp 2 (by omega)
    have hx2 := hx 2 (by omega)
    clear hcp hxr hb2 hb1 hxl hx HC1 hgp HC
    generalize xs.getD 2 0 = p at HP2 hx2
    go_wp2_with fail
    refine Calls.mono HTU.out ?_
    rintro e w3 ⟨u, rfl, hus, hne, hb3⟩
    have HB3 : Hid (Below w.heap.size w w3) := HB2.out.trans (hb3.mono HB2.out.size)
    have hp2 := (hb3.cell (p := ⟨gp, 2, none⟩) hgp1).trans HP2.out
    have HT3 : Hid (BothHere w3) := HT.out.next HB3.out
    have HNE : Hid (fillT t ≠ fillT u) := fill_ne hus hne
    clear hb3 HTU HP2 HB2 HT2 hne hgp1
    have hq1 : (p : Int).tmod 32 = ((p % 32 : Nat) : Int) := by rw [Int.tmod_eq_emod_of_nonneg (by omega)]; omega
    have hq2 : (p : Int) % 32 = ((p % 32 : Nat) : Int) := by omega
    have hk : p % 32 < 32 := Nat.mod_lt _ (by omega)
    generalize p % 32 = q at hq1 hq2 hk
    obtain ⟨k, hkq⟩ : ∃ k, k = q + 1 := ⟨_, rfl⟩
    have hq3 : IntKind.i64.wrap (1 + (q : Int)) = (k : Int) := by rw [IntKind.wrap_i64]; omega
    have hq4 : 1 + (q : Int) = (k : Int) := by omega
    have hk1 : 1 ≤ k ∧ k ≤ 32 := by omega
    clear hk hkq
    have I1 : Hid (∀ wz, BothHere wz → _) := fun wz h => implDig_any t wz (by omega) h
    have S1 : Hid (∀ wz, _) := fun wz => specDigest_any t wz (by omega)
    have I2 : Hid (∀ wz, BothHere wz → _) := fun wz h => implDig_any u wz (by omega) h
    have S2 : Hid (∀ wz, _) := fun wz => specDigest_any u wz (by omega)
    have C1 : Hid (∀ wz, BothHere wz → Calls Tryd.prog 21 #[.string t, .int .i64 (k : Int)] wz fun e w' => e = .returned (.string ((digT t).extract 0 k)) ∧ Below wz.heap.size wz w') := fun wz h => by have := implCut_any t (k : Int) wz (by omega) h; rw [cutT_yes t hk1] at this; exact this
    have C0 : Hid (∀ wz, BothHere wz → Calls Tryd.prog 21 #[.string t, .int .i64 0] wz fun e w' => e = .returned (.string ⟨#[]⟩) ∧ Below wz.heap.size wz w') := fun wz h => by have := implCut_any t 0 wz (by omega) h; rw [cutT_no t (by omega)] at this; exact this
    have C33 : Hid (∀ wz, BothHere wz → Calls Tryd.prog 21 #[.string t, .int .i64 33] wz fun e w' => e = .returned (.string ⟨#[]⟩) ∧ Below wz.heap.size wz w') := fun wz h => by have := implCut_any t 33 wz (by omega) h; rw [cutT_no t (by omega)] at this; exact this
    have HX : Hid (∀ wz, BothHere wz → _) := fun wz h => implDigHex_any u wz (by omega) h
    have hxz : (((hexT u).size : Nat) : Int) = 64 := by rw [hexT_size]; rfl
    have F1 : Hid (∀ wz, _) := fun wz => implFill_any t wz (by omega)
    have F2 : Hid (∀ wz, _) := fun wz => implFill_any u wz (by omega)
    have hl1 : (0 : Int) ≤ (k : Int) := by omega
    have hl2 : (k : Int) ≤ (((digT t).size : Nat) : Int) := by rw [digT_size]; omega
    have hfn := toList_ne HNE.out
    clear HNE
    generalize fillT t = P1 at F1 hfn
    generalize fillT u = P2 at F2 hfn
    generalize hexT u = X at HX hxz
    generalize digT u = D2 at I2 S2
    generalize digT t = D1 at I1 S1 C1 hl2
    go_wp2_with fail
    refine Calls.mono (I1.out _ (HT.out.next HB3.out)) ?_
    rintro e w4 ⟨rfl, hb⟩
    replace HB3 : Hid (Below w.heap.size w w4) := HB3.out.trans (hb.mono HB3.out.size)
    clear hb hp2
    go_wp2_with fail
    refine Calls.mono (S1.out _) ?_
    rintro e w5 ⟨rfl, hb⟩
    replace HB3 : Hid (Below w.heap.size w w5) := HB3.out.trans (hb.mono HB3.out.size)
    clear hb
    go_wp2_with fail
    refine Calls.mono (I2.out _ (HT.out.next HB3.out)) ?_
    rintro e w6 ⟨rfl, hb⟩
    replace HB3 : Hid (Below w.heap.size w w6) := HB3.out.trans (hb.mono HB3.out.size)
    clear hb
    go_wp2_with fail
    refine Calls.mono (S2.out _) ?_
    rintro e w7 ⟨rfl, hb⟩
    replace HB3 : Hid (Below w.heap.size w w7) := HB3.out.trans (hb.mono HB3.out.size)
    clear hb
    go_wp2_with fail
    refine Calls.mono (C1.out _ (HT.out.next HB3.out)) ?_
    rintro e w8 ⟨rfl, hb⟩
    replace HB3 : Hid (Below w.heap.size w w8) := HB3.out.trans (hb.mono HB3.out.size)
    clear hb
    go_wp2_with fail
    refine Calls.mono (I1.out _ (HT.out.next HB3.out)) ?_
    rintro e w9 ⟨rfl, hb⟩
    replace HB3 : Hid (Below w.heap.size w w9) := HB3.out.trans (hb.mono HB3.out.size)
    clear hb
    go_wp2_with fail
    refine Calls.mono (C0.out _ (HT.out.next HB3.out)) ?_
    rintro e w10 ⟨rfl, hb⟩
    replace HB3 : Hid (Below w.heap.size w w10) := HB3.out.trans (hb.mono HB3.out.size)
    clear hb
    go_wp2_with fail
    refine Calls.mono (C33.out _ (HT.out.next HB3.out)) ?_
    rintro e w11 ⟨rfl, hb⟩
    replace HB3 : Hid (Below w.heap.size w w11) := HB3.out.trans (hb.mono HB3.out.size)
    clear hb
    go_wp2_with fail
    refine Calls.mono (HX.out _ (HT.out.next HB3.out)) ?_
    rintro e w12 ⟨rfl, hb⟩
    replace HB3 : Hid (Below w.heap.size w w12) := HB3.out.trans (hb.mono HB3.out.size)
    clear hb
    go_wp2_with fail
    refine Calls.mono (F1.out _) ?_
    rintro e w13 ⟨rfl, hb⟩
    replace HB3 : Hid (Below w.heap.size w w13) := HB3.out.trans (hb.mono HB3.out.size)
    clear hb
    go_wp2_with fail
    refine Calls.mono (F2.out _) ?_
    rintro e w14 ⟨rfl, hb⟩
    replace HB3 : Hid (Below w.heap.size w w14) := HB3.out.trans (hb.mono HB3.out.size)
    clear hb
    go_wp2
    go_ret
    exact ⟨rfl, HB3.out⟩
  · have hd : decide ((1048576 : Int) < (len0 : Int)) = true := by simp; omega
    clear hc
    go_enter Tryd.func5, Tryd.ntmps5
    go_wp2_with fail
    refine (big_any a0 len0 cap0 _).mono ?_
    rintro e w1 ⟨rfl, rfl⟩
    go_wp2
    go_ret
    exact ⟨rfl, Below.refl _ _⟩

theorem own : ownKnob Tryd.prog.godebug = none := by kernel_rfl
theorem laidOut : laidOutB Tryd.prog = true := by kernel_rfl
set_option maxRecDepth 100000 in
theorem contract (H : Type) (enc : TypeId × Value → H) (W : World) (base : Nat) (args : Array Value) (ds gs : List (DataW H)) (before : List MemPlace)
    (hval : ∀ (j : Nat) t v, Tryd.f5.params[j]? = some t → args[j]? = some v → Value.okWide Tryd.prog W .any base t v)
    (hW : DataW.Whole enc Tryd.prog Tryd.f5.params.toList Rows.fnDigestTurnedSpec.vars false W args.toList ds gs before) (hL : laidMetH Tryd.prog Rows.fnDigestTurnedRow.laid W) :
    Calls Tryd.prog 5 args W fun e W' => ∃ v, e = .returned v ∧ Rows.fnDigestTurnedSpec.post enc Tryd.prog Tryd.f5 false true false false W args v W' := by
  have hW' := hW
  obtain ⟨p, q, hA0, hV, rfl, hfz, hnd⟩ := hW
  have hA : DataW.TrodAll enc Tryd.prog W 0 (fun _ => true) true Tryd.f5.params.toList args.toList ds p := hA0
  rw [Tryd.params5] at hA hval
  obtain ⟨v0, vs0, d0, ds0, p0, q0, hargs, rfl, rfl, h0, r0⟩ := trodAll_cons hA
  obtain ⟨rfl, rfl, rfl⟩ := trodAll_nil r0
  obtain rfl : args = #[v0] := by cases args; simp_all
  have hV0 : DataW.TrodVars enc Tryd.prog W (fun _ => true) ["loop.example/g00466/impl.startWords", "loop.example/g00466/impl.roundWords"] gs q := hV
  obtain ⟨dv, dv2, rfl⟩ : ∃ x y, gs = [x, y] := by
    cases gs with
    | nil => exact hV0.elim
    | cons x gs => cases gs with
      | nil => obtain ⟨_, _, _, _, _, _, _, _, _, _, h, _⟩ := hV0; exact h.elim
      | cons y gs => obtain ⟨_, _, _, _, _, _, _, _, _, _, h, _⟩ := hV0; obtain ⟨_, _, _, _, _, _, _, _, _, _, h, _⟩ := h; cases gs with
        | nil => exact ⟨x, y, rfl⟩
        | cons z gs => exact h.elim
  obtain ⟨a0, len0, cap0, rfl⟩ := okWide_slice Tryd.underlying22 (hval 0 22 v0 rfl rfl)
  have k0 := h0
  have lt0 : ∀ x ∈ p0, x.block < W.heap.size := by obtain ⟨m, hm⟩ := k0; exact DataW.trod_lt m _ _ _ hm
  have hcode0 := code_of h0
  clear hA0
  refine (walk a0 len0 cap0  W hcode0 (table hL)).mono fun e W' ⟨he, bel⟩ => ?_
  subst he
  exact ⟨_, rfl, _, _, _, [], _, q, hW', trodAll_mk1 (shut_bool Tryd.underlying4 _), (trodAll_cons_mk (Below.trod laidOut (by kernel_rfl) (of_decide_eq_true (by kernel_rfl)) k0 bel lt0) trodAll_mk0), bel.trodVars laidOut (by kernel_rfl) hV, bel.frame _, fun h => by cases h⟩

def relay (cs : Array Value) : Obj → Obj
  | .cells _ t frozen => .cells cs t frozen
  | o => o
noncomputable def laidWorld (os : Os) : World := { World.holding Tryd.prog os ⟨#[], #[], []⟩ with heap := (((World.holding Tryd.prog os ⟨#[], #[], []⟩).heap.modify 1 (relay #[.int .u32 1116352408, .int .u32 1899447441, .int .u32 3049323471, .int .u32 3921009573, .int .u32 961987163, .int .u32 1508970993, .int .u32 2453635748, .int .u32 2870763221, .int .u32 3624381080, .int .u32 310598401, .int .u32 607225278, .int .u32 1426881987, .int .u32 1925078388, .int .u32 2162078206, .int .u32 2614888103, .int .u32 3248222580, .int .u32 3835390401, .int .u32 4022224774, .int .u32 264347078, .int .u32 604807628, .int .u32 770255983, .int .u32 1249150122, .int .u32 1555081692, .int .u32 1996064986, .int .u32 2554220882, .int .u32 2821834349, .int .u32 2952996808, .int .u32 3210313671, .int .u32 3336571891, .int .u32 3584528711, .int .u32 113926993, .int .u32 338241895, .int .u32 666307205, .int .u32 773529912, .int .u32 1294757372, .int .u32 1396182291, .int .u32 1695183700, .int .u32 1986661051, .int .u32 2177026350, .int .u32 2456956037, .int .u32 2730485921, .int .u32 2820302411, .int .u32 3259730800, .int .u32 3345764771, .int .u32 3516065817, .int .u32 3600352804, .int .u32 4094571909, .int .u32 275423344, .int .u32 430227734, .int .u32 506948616, .int .u32 659060556, .int .u32 883997877, .int .u32 958139571, .int .u32 1322822218, .int .u32 1537002063, .int .u32 1747873779, .int .u32 1955562222, .int .u32 2024104815, .int .u32 2227730452, .int .u32 2361852424, .int .u32 2428436474, .int .u32 2756734187, .int .u32 3204031479, .int .u32 3329325298])).modify 0 (relay #[.int .u32 1779033703, .int .u32 3144134277, .int .u32 1013904242, .int .u32 2773480762, .int .u32 1359893119, .int .u32 2600822924, .int .u32 528734635, .int .u32 1541459225])) }
theorem laid_met (os : Os) : laidMet Tryd.prog Rows.fnDigestTurnedRow.laid ((laidWorld os).forCall (fun _ _ => 0) ⟨#[], #[Value.slice none 0 0], []⟩).memory := laidMet_of_run' 8 (by kernel_rfl) (by kernel_rfl)
theorem reads (os : Os) {H : Type} (enc : TypeId × Value → H) : ∃ places, DataW.whole enc Tryd.prog ((laidWorld os).forCall (fun _ _ => 0) ⟨#[], #[Value.slice none 0 0], []⟩).memory Tryd.f5.params.toList Rows.fnDigestTurnedSpec.vars false #[Value.slice none 0 0].toList 8 = some ([.nil], [Rows.laid_loop_example_g00466_impl_startWords, Rows.laid_loop_example_g00466_impl_roundWords], places) := ⟨MemPlace.row ⟨0, 0, none⟩ 8 ++ MemPlace.row ⟨1, 0, none⟩ 64, by kernel_rfl⟩
set_option maxRecDepth 100000 in
theorem lifted (os : Os) (started : os.Started) (H : Type) (enc : TypeId × Value → H) (F : Stop.Interp) :
    ReturnsInHanded {} Tryd.checked os 5 .any ((OpenSpec.ofChange Rows.fnDigestTurnedSpec).preRow enc Tryd.prog Tryd.f5 Rows.fnDigestTurnedRow.domain false Rows.fnDigestTurnedRow.laid) (((OpenSpec.ofChange Rows.fnDigestTurnedSpec).at F).post enc Tryd.prog Tryd.f5 false true false false) := by
  obtain ⟨places, hx⟩ := reads os enc
  refine returnsInHanded_of_row (C := Tryd.checked) (s := OpenSpec.ofChange Rows.fnDigestTurnedSpec) own started (by kernel_rfl) Tryd.func5
    (witness_row_at (enc := enc) (C := Tryd.checked) false (laidWorld os) #[Value.slice none 0 0] rfl (by kernel_rfl) (by kernel_rfl) (by kernel_rfl)
      (OpenSpec.preRow_of_cond 8 hx (by kernel_rfl) (fun k hk => by cases hk) (by kernel_rfl) (laid_met os))) ?_
  intro W base args ds gs before hval hW _ _ _ hL _ _
  exact contract H enc W base args ds gs before hval hW hL

theorem said : Rows.FnDigestTurnedSaid :=
  OpenClaim.holds_of_cond 5 Tryd.f5 rfl rfl rfl rfl rfl rfl rfl ⟨rfl, rfl, rfl, rfl, rfl⟩ rfl rfl rfl rfl rfl (by kernel_rfl) Tryd.func5 (by kernel_rfl)
    (of_decide_eq_true (by kernel_rfl)) (by unfold Func.isWrapper; first | (rw [if_pos (by decide +kernel)]; kernel_rfl) | (rw [if_neg (by decide +kernel)]; exact ⟨rfl, rfl⟩))
    (fun os started H enc _ F => by rw [OpenClaim.pre_eq_preRow]; exact lifted os started H enc F)
theorem plain (f : FuncId) (fn : Func) (hf : Tryd.pinned.checked.prog.funcNamed "loop.example/g00466/laws.FnDigestTurned" = some f) (hfn : Tryd.pinned.checked.prog.funcs[f]? = some fn) :
    false = Tryd.pinned.checked.prog.looks [] ∧ ∀ (j : Nat) t, fn.params[j]? = some t → Tryd.pinned.checked.prog.wantsStandIn t = false := by
  obtain rfl : f = 5 := Option.some.inj ((show Tryd.prog.funcNamed "loop.example/g00466/laws.FnDigestTurned" = some 5 by kernel_rfl).symm.trans hf) |>.symm
  obtain rfl : fn = Tryd.f5 := (Option.some.inj (Tryd.func5.symm.trans hfn)).symm
  refine ⟨by kernel_rfl, fun j t ht => ?_⟩
  rw [Tryd.params5] at ht
  have hm : t = 22 := by simpa using Array.mem_of_getElem? ht
  rcases hm with rfl
  · exact (show Tryd.prog.wantsStandIn 22 = false by kernel_rfl)
end fnDigestTurned

theorem fnDigestTurned_card : Rows.FnDigestTurnedCardSaid :=
  Claim7.holds_tied_plain_at .later [] _ _ _ _ fnDigestTurned.said (fun _ h => by cases h) (by kernel_rfl) (fun _ h => by cases h) fnDigestTurned_row_tie rfl ⟨rfl, rfl⟩ (by kernel_rfl) rfl fnDigestTurned.plain (by kernel_rfl)
#print axioms fnDigestTurned_card
end Go.Proofs.YtpnklgidbgjmbaaDoor
