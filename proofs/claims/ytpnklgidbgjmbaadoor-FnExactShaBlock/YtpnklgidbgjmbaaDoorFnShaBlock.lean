/- For all lists of numbers and texts: ShaBlock of the program answers as the specification's ShaBlock does, writes into no argument, keeps nothing of one, owns its answer's memory; the arguments read as before. (The program's tables are as its text lays them: the card ties that.) -/
import Derived.Test.YtpnklgidbgjmbaaDoorCards
import Derived.Test.YtpnklgidbgjmbaaDoorTie
import Derived.Test.YtpnklgidbgjmbaaDoorLawI
import Derived.Test.YtpnklgidbgjmbaaDoorSbs21
import Derived.WalkKit
import Derived.ProofKit
import Derived.OpenShut
import Derived.ShutString
import Derived.ChangeOld
import Derived.PlainAid
import Derived.OpenVars
import Derived.Deep.DeepHandedRow
import Derived.Deep.DeepWitnessRowRef
namespace Go.Proofs.YtpnklgidbgjmbaaDoor
namespace fnExactShaBlock
open Go.ChangeShapes Go.WideShapes Go.ChangeAt Go.RowKit Go.PlainAid
open Go.ChangeMaps (open_string shut_string)
set_option linter.unusedVariables false

theorem table {W : World} (h : laidMetH Tryd.prog Rows.fnExactShaBlockRow.laid W) : KeysHere W := keysHere_of h rfl
set_option maxHeartbeats 3200000 in
set_option maxRecDepth 20000 in
theorem walk (a0 : Option Addr) (c0 : Nat) (n0 : List Int) (a1 : ByteArray) (w0 : n0.length ≤ maxLen) (f0 : ∀ x ∈ n0, -9223372036854775808 ≤ x ∧ x ≤ 9223372036854775807) (w1 : a1.size ≤ maxLen) (w : World) (rn0 : RowI w.heap.size w a0 n0) (ht : KeysHere w) :
    Calls Tryd.prog 6 #[.slice a0 n0.length c0, .string a1] w fun e w' => e = .returned (.bool true) ∧ Below w.heap.size w w' := by
  have HT : Hid (KeysHere w) := ht
  clear ht
  have I0 : InI w.heap.size a0 n0 w := ⟨Nat.le_refl _, rn0⟩
  have HF : Hid (∀ x ∈ n0, -9223372036854775808 ≤ x ∧ x ≤ 9223372036854775807) := f0
  clear rn0 f0
  by_cases h0 : n0.length ≤ 1048576
  rotate_left
  · have hs' : (1048576 : Int) < (n0.length : Int) := by omega
    clear I0
    go_enter Tryd.func6, Tryd.ntmps6
    go_wp2
    go_ret
    exact ⟨rfl, Below.refl _ _⟩
  by_cases h1 : a1.size ≤ 1048576
  rotate_left
  · have hs' : (1048576 : Int) < (a1.size : Int) := by omega
    have hq0 : ¬ (1048576 : Int) < (n0.length : Int) := by omega
    clear I0
    go_enter Tryd.func6, Tryd.ntmps6
    go_wp2
    go_ret
    exact ⟨rfl, Below.refl _ _⟩
  have hq0 : ¬ (1048576 : Int) < (n0.length : Int) := by omega
  have hq1 : ¬ (1048576 : Int) < (a1.size : Int) := by omega
  clear w0 w1
  have HB0 : Hid (Below w.heap.size w w) := Below.refl _ _
  obtain ⟨R0, HS, HI, HL⟩ : ∃ (R0 : List Int), Hid (∀ (a : Option Addr) (cap : Nat) (w1 : World), Below w.heap.size w w1 → AddrN a cap → RowI w1.heap.size w1 a n0 → Calls Tryd.prog 23 #[.slice a n0.length cap, .string a1] w1 fun e w' => ∃ v, e = .returned (v) ∧ OwnInt w1.heap.size w' v R0 ∧ Below w1.heap.size w1 w') ∧ Hid (∀ (a : Option Addr) (cap : Nat) (w1 : World), Below w.heap.size w w1 → AddrN a cap → RowI w1.heap.size w1 a n0 → Calls Tryd.prog 17 #[.slice a n0.length cap, .string a1] w1 fun e w' => ∃ v, e = .returned (v) ∧ OwnInt w1.heap.size w' v R0 ∧ Below w1.heap.size w1 w') ∧ Hid (R0.length ≤ 2097152) :=
    ⟨sblL n0 a1, fun a cap w1 hb ha hr => specSbl_any a cap n0 a1 w1 h0 ha hr, fun a cap w1 hb ha hr => implSbl_any a cap n0 a1 w1 h0 ha hr (HT.out.next hb HT.out.lt), sblL_len n0 a1 h0⟩
  go_enter Tryd.func6, Tryd.ntmps6
  go_wp2_with fail
  refine (toIntS_any a0 c0 n0 w h0 I0.all).mono ?_
  rintro e w1 ⟨v, rfl, ho, hb⟩
  obtain ⟨x1, y1, rfl, hA1, -⟩ := ho.row
  have hs1 := hb.size
  have I1 := I0.next hb
  have HB1 : Hid (Below w.heap.size w w1) := HB0.out.trans (hb.mono HB0.out.size)
  clear I0 HB0
  have OV1 := OwnZ.made ho
  clear ho hb
  go_wp2_with fail
  refine Calls.mono (HS.out _ _ w1 HB1.out hA1 OV1.rowAt) ?_
  rintro e w2 ⟨v, rfl, ho, hb⟩
  obtain ⟨a2', cap2, rfl, hA2, -⟩ := ho.row
  have hs2 := hb.size
  have I2 := I1.next hb
  have OV2 := OV1.next hb
  have HB2 : Hid (Below w.heap.size w w2) := HB1.out.trans (hb.mono HB1.out.size)
  clear I1 OV1 HB1
  have OW2 := OwnZ.made ho
  clear ho hb
  clear OV2
  go_wp2_with fail
  refine (toIntS_any a0 c0 n0 w2 h0 I2.all).mono ?_
  rintro e w3 ⟨v, rfl, ho, hb⟩
  obtain ⟨x3, y3, rfl, hA3, -⟩ := ho.row
  have hs3 := hb.size
  have I3 := I2.next hb
  have OW3 := OW2.next hb
  have HB3 : Hid (Below w.heap.size w w3) := HB2.out.trans (hb.mono HB2.out.size)
  clear I2 OW2 HB2
  have OX3 := OwnZ.made ho
  clear ho hb
  go_wp2_with fail
  refine Calls.mono (HI.out _ _ w3 HB3.out hA3 OX3.rowAt) ?_
  rintro e w4 ⟨v, rfl, ho, hb⟩
  obtain ⟨a4', cap4, rfl, hA4, -⟩ := ho.row
  have hs4 := hb.size
  have I4 := I3.next hb
  have OW4 := OW3.next hb
  have OX4 := OX3.next hb
  have HB4 : Hid (Below w.heap.size w w4) := HB3.out.trans (hb.mono HB3.out.size)
  clear I3 OW3 OX3 HB3
  have OG4 := OwnZ.made ho
  clear ho hb
  go_wp2_with fail
  refine (eqIntS_same _ _ _ _ _ w4 HL.out OG4.rowAt OW4.rowAt).mono ?_
  rintro e w5 ⟨rfl, hb⟩
  have I5 := I4.next hb
  have OW5 := OW4.next hb
  have OX5 := OX4.next hb
  have OG5 := OG4.next hb
  have HB5 : Hid (Below w.heap.size w w5) := HB4.out.trans (hb.mono HB4.out.size)
  clear I4 OW4 OX4 OG4 HB4
  clear hb
  go_wp2_with fail
  refine (toIntS_any a0 c0 n0 w5 h0 I5.all).mono ?_
  rintro e w6 ⟨v, rfl, ho, hb⟩
  obtain ⟨x6, y6, rfl, hA6, -⟩ := ho.row
  have hs6 := hb.size
  have I6 := I5.next hb
  have OW6 := OW5.next hb
  have OX6 := OX5.next hb
  have OG6 := OG5.next hb
  have HB6 : Hid (Below w.heap.size w w6) := HB5.out.trans (hb.mono HB5.out.size)
  clear I5 OW5 OX5 OG5 HB5
  have OZ6 := OwnZ.made ho
  clear ho hb
  go_wp2_with fail
  refine (eqIntS_same _ _ _ _ _ w6 (by omega) OX6.rowAt OZ6.rowAt).mono ?_
  rintro e w7 ⟨rfl, hb⟩
  have I7 := I6.next hb
  have OW7 := OW6.next hb
  have OX7 := OX6.next hb
  have OG7 := OG6.next hb
  have OZ7 := OZ6.next hb
  have HB7 : Hid (Below w.heap.size w w7) := HB6.out.trans (hb.mono HB6.out.size)
  clear I6 OW6 OX6 OG6 OZ6 HB6
  clear hb
  clear OZ7
  go_wp2_with fail
  refine (markIntS_any _ 1 (.slice x3 n0.length y3) n0 w7 (by omega) (by omega) OX7.own).mono ?_
  rintro e w8 ⟨rfl, hox, hgr⟩
  have hbk := OX7.block
  clear hox
  have I8 := I7.mark hgr (fun g hg => by have := hbk g hg; omega)
  have OW8 := OW7.mark hgr (fun g hg => by have := hbk g hg; omega)
  have OG8 := OG7.mark hgr (fun g hg => by have := hbk g hg; omega)
  have HB8 : Hid (Below w.heap.size w w8) := HB7.out.grown hgr HB7.out.size (fun k hk => by have := hbk k hk; omega)
  clear hgr hbk HB7 I7 OW7 OX7 OG7
  have hk0 : ¬ (1 : Int) + (n0.length : Int) < 0 := by omega
  go_wp2_with fail
  refine (eqIntS_same _ _ _ _ _ w8 HL.out OG8.rowAt OW8.rowAt).mono ?_
  rintro e w9 ⟨rfl, hb⟩
  have I9 := I8.next hb
  have OW9 := OW8.next hb
  have OG9 := OG8.next hb
  have HB9 : Hid (Below w.heap.size w w9) := HB8.out.trans (hb.mono HB8.out.size)
  clear I8 OW8 OG8 HB8
  clear hb
  clear hk0
  go_wp2_with fail
  refine (markIntS_any _ 1 (.slice a4' R0.length cap4) R0 w9 HL.out (by omega) OG9.own).mono ?_
  rintro e w10 ⟨rfl, hox, hgr⟩
  have hbk := OG9.block
  have OM10 : OwnZ w3.heap.size w4.heap.size (.slice a4' R0.length cap4) (marksI 1 R0.length) w10 := ⟨hox, Nat.le_trans OG9.le hgr.size, OG9.lt⟩
  clear hox
  have I10 := I9.mark hgr (fun g hg => by have := hbk g hg; omega)
  have OW10 := OW9.mark hgr (fun g hg => by have := hbk g hg; omega)
  have HB10 : Hid (Below w.heap.size w w10) := HB9.out.grown hgr HB9.out.size (fun k hk => by have := hbk k hk; omega)
  clear hgr hbk HB9 I9 OW9 OG9
  have hmr10 : RowI w10.heap.size w10 a4' (marksI 1 R0.length) := by have h := OM10.own; unfold OwnInt at h; rw [marksI_len] at h; exact (OwnZ.rowAt (n := R0.length) (cap := cap4) ⟨by unfold OwnInt; rw [marksI_len]; exact h, OM10.le, OM10.lt⟩)
  go_wp2_with fail
  refine (heldIntS_any a4' cap4 R0.length 1 w10 HL.out (by omega) hmr10).mono ?_
  rintro e w11 ⟨rfl, hb⟩
  clear hmr10
  have I11 := I10.next hb
  have OW11 := OW10.next hb
  have OM11 := OM10.next hb
  have HB11 : Hid (Below w.heap.size w w11) := HB10.out.trans (hb.mono HB10.out.size)
  clear I10 OW10 OM10 HB10
  clear hb
  have hk0 : ¬ (1 : Int) + (R0.length : Int) < 0 := by omega
  go_wp2_with fail
  refine (toIntS_any a0 c0 n0 w11 h0 I11.all).mono ?_
  rintro e w12 ⟨v, rfl, ho, hb⟩
  obtain ⟨x12, y12, rfl, hA12, -⟩ := ho.row
  have hs12 := hb.size
  have I12 := I11.next hb
  have OW12 := OW11.next hb
  have OM12 := OM11.next hb
  have HB12 : Hid (Below w.heap.size w w12) := HB11.out.trans (hb.mono HB11.out.size)
  clear I11 OW11 OM11 HB11
  have OY12 := OwnZ.made ho
  clear ho hb
  go_wp2_with fail
  refine Calls.mono (HI.out _ _ w12 HB12.out hA12 OY12.rowAt) ?_
  rintro e w13 ⟨v, rfl, ho, hb⟩
  obtain ⟨a13', cap13, rfl, hA13, -⟩ := ho.row
  have hs13 := hb.size
  have I13 := I12.next hb
  have OW13 := OW12.next hb
  have OM13 := OM12.next hb
  have OY13 := OY12.next hb
  have HB13 : Hid (Below w.heap.size w w13) := HB12.out.trans (hb.mono HB12.out.size)
  clear I12 OW12 OM12 OY12 HB12
  have OH13 := OwnZ.made ho
  clear ho hb
  go_wp2_with fail
  refine (eqIntS_same _ _ _ _ _ w13 HL.out OH13.rowAt OW13.rowAt).mono ?_
  rintro e w14 ⟨rfl, hb⟩
  have I14 := I13.next hb
  have OW14 := OW13.next hb
  have OM14 := OM13.next hb
  have OY14 := OY13.next hb
  have OH14 := OH13.next hb
  have HB14 : Hid (Below w.heap.size w w14) := HB13.out.trans (hb.mono HB13.out.size)
  clear I13 OW13 OM13 OY13 OH13 HB13
  clear hb
  have hmr14 : RowI w14.heap.size w14 a4' (marksI 1 R0.length) := by have h := OM14.own; unfold OwnInt at h; rw [marksI_len] at h; exact (OwnZ.rowAt (n := R0.length) (cap := cap4) ⟨by unfold OwnInt; rw [marksI_len]; exact h, OM14.le, OM14.lt⟩)
  go_wp2_with fail
  refine (heldIntS_any a4' cap4 R0.length 1 w14 HL.out (by omega) hmr14).mono ?_
  rintro e w15 ⟨rfl, hb⟩
  clear hmr14
  have HB15 : Hid (Below w.heap.size w w15) := HB14.out.trans (hb.mono HB14.out.size)
  clear hb HB14 I14 OW14 OM14 OY14 OH14
  go_wp2
  go_ret
  exact ⟨rfl, HB15.out⟩

theorem own : ownKnob Tryd.prog.godebug = none := by kernel_rfl
theorem laidOut : laidOutB Tryd.prog = true := by kernel_rfl
set_option maxRecDepth 100000 in
theorem contract (H : Type) (enc : TypeId × Value → H) (W : World) (base : Nat) (args : Array Value) (ds gs : List (DataW H)) (before : List MemPlace)
    (hval : ∀ (j : Nat) t v, Tryd.f6.params[j]? = some t → args[j]? = some v → Value.okWide Tryd.prog W .any base t v)
    (hW : DataW.Whole enc Tryd.prog Tryd.f6.params.toList Rows.fnExactShaBlockSpec.vars false W args.toList ds gs before) (hL : laidMetH Tryd.prog Rows.fnExactShaBlockRow.laid W) :
    Calls Tryd.prog 6 args W fun e W' => ∃ v, e = .returned v ∧ Rows.fnExactShaBlockSpec.post enc Tryd.prog Tryd.f6 false true false false W args v W' := by
  have hW' := hW
  obtain ⟨p, q, hA0, hV, rfl, hfz, hnd⟩ := hW
  have hA : DataW.TrodAll enc Tryd.prog W 0 (fun _ => true) true Tryd.f6.params.toList args.toList ds p := hA0
  rw [Tryd.params6] at hA hval
  obtain ⟨v0, vs0, d0, ds0, p0, q0, hargs, rfl, rfl, h0, r0⟩ := trodAll_cons hA
  obtain ⟨v1, vs1, d1, ds1, p1, q1, rfl, rfl, rfl, h1, r1⟩ := trodAll_cons r0
  obtain ⟨rfl, rfl, rfl⟩ := trodAll_nil r1
  obtain rfl : args = #[v0, v1] := by cases args; simp_all
  have hV0 : DataW.TrodVars enc Tryd.prog W (fun _ => true) ["loop.example/g00466/impl.roundWords"] gs q := hV
  obtain ⟨gv, tv, cv, fv, dv, pv, rfl, _⟩ := trodVars_one hV0
  have k0 := h0
  have lt0 : ∀ x ∈ p0, x.block < W.heap.size := by obtain ⟨m, hm⟩ := k0; exact DataW.trod_lt m _ _ _ hm
  obtain ⟨a0, len0, c0, rfl⟩ := okWide_slice Tryd.underlying24 (hval 0 24 v0 rfl rfl)
  obtain ⟨n0, rfl, w0, rn0, f0⟩ := ints_of h0
  obtain ⟨a1, rfl, rfl, rfl, w1⟩ := open_string Tryd.underlying9 (hval 1 9 v1 rfl rfl) h1
  clear hA0
  refine (walk a0 c0 n0 a1 w0 f0 w1 W rn0 (table hL)).mono fun e W' ⟨he, bel⟩ => ?_
  subst he
  exact ⟨_, rfl, _, _, _, [], _, q, hW', trodAll_mk1 (shut_bool Tryd.underlying4 _), (trodAll_cons_mk (Below.trod laidOut (by kernel_rfl) (of_decide_eq_true (by kernel_rfl)) k0 bel lt0) (trodAll_cons_mk (shut_string Tryd.underlying9 w1) trodAll_mk0)), bel.trodVars laidOut (by kernel_rfl) hV, bel.frame _, fun h => by cases h⟩

def relay (cs : Array Value) : Obj → Obj
  | .cells _ t frozen => .cells cs t frozen
  | o => o
noncomputable def laidWorld (os : Os) : World := { World.holding Tryd.prog os ⟨#[], #[], []⟩ with heap := ((World.holding Tryd.prog os ⟨#[], #[], []⟩).heap.modify 1 (relay #[.int .u32 1116352408, .int .u32 1899447441, .int .u32 3049323471, .int .u32 3921009573, .int .u32 961987163, .int .u32 1508970993, .int .u32 2453635748, .int .u32 2870763221, .int .u32 3624381080, .int .u32 310598401, .int .u32 607225278, .int .u32 1426881987, .int .u32 1925078388, .int .u32 2162078206, .int .u32 2614888103, .int .u32 3248222580, .int .u32 3835390401, .int .u32 4022224774, .int .u32 264347078, .int .u32 604807628, .int .u32 770255983, .int .u32 1249150122, .int .u32 1555081692, .int .u32 1996064986, .int .u32 2554220882, .int .u32 2821834349, .int .u32 2952996808, .int .u32 3210313671, .int .u32 3336571891, .int .u32 3584528711, .int .u32 113926993, .int .u32 338241895, .int .u32 666307205, .int .u32 773529912, .int .u32 1294757372, .int .u32 1396182291, .int .u32 1695183700, .int .u32 1986661051, .int .u32 2177026350, .int .u32 2456956037, .int .u32 2730485921, .int .u32 2820302411, .int .u32 3259730800, .int .u32 3345764771, .int .u32 3516065817, .int .u32 3600352804, .int .u32 4094571909, .int .u32 275423344, .int .u32 430227734, .int .u32 506948616, .int .u32 659060556, .int .u32 883997877, .int .u32 958139571, .int .u32 1322822218, .int .u32 1537002063, .int .u32 1747873779, .int .u32 1955562222, .int .u32 2024104815, .int .u32 2227730452, .int .u32 2361852424, .int .u32 2428436474, .int .u32 2756734187, .int .u32 3204031479, .int .u32 3329325298])) }
theorem laid_met (os : Os) : laidMet Tryd.prog Rows.fnExactShaBlockRow.laid ((laidWorld os).forCall (fun _ _ => 0) ⟨#[], #[Value.slice none 0 0, Value.string ByteArray.empty], []⟩).memory := laidMet_of_run' 8 (by kernel_rfl) (by kernel_rfl)
theorem reads (os : Os) {H : Type} (enc : TypeId × Value → H) : ∃ places, DataW.whole enc Tryd.prog ((laidWorld os).forCall (fun _ _ => 0) ⟨#[], #[Value.slice none 0 0, Value.string ByteArray.empty], []⟩).memory Tryd.f6.params.toList Rows.fnExactShaBlockSpec.vars false #[Value.slice none 0 0, Value.string ByteArray.empty].toList 8 = some ([.nil, .lit (.string [])], [Rows.laid_loop_example_g00466_impl_roundWords], places) := ⟨MemPlace.row ⟨1, 0, none⟩ 64, by kernel_rfl⟩
set_option maxRecDepth 100000 in
theorem lifted (os : Os) (started : os.Started) (H : Type) (enc : TypeId × Value → H) (F : Stop.Interp) :
    ReturnsInHanded {} Tryd.checked os 6 .any ((OpenSpec.ofChange Rows.fnExactShaBlockSpec).preRow enc Tryd.prog Tryd.f6 Rows.fnExactShaBlockRow.domain false Rows.fnExactShaBlockRow.laid) (((OpenSpec.ofChange Rows.fnExactShaBlockSpec).at F).post enc Tryd.prog Tryd.f6 false true false false) := by
  obtain ⟨places, hx⟩ := reads os enc
  refine returnsInHanded_of_row (C := Tryd.checked) (s := OpenSpec.ofChange Rows.fnExactShaBlockSpec) own started (by kernel_rfl) Tryd.func6
    (witness_row_at (enc := enc) (C := Tryd.checked) false (laidWorld os) #[Value.slice none 0 0, Value.string ByteArray.empty] rfl (by kernel_rfl) (by kernel_rfl) (by kernel_rfl)
      (OpenSpec.preRow_of_cond 8 hx (by kernel_rfl) (fun k hk => by cases hk) (by kernel_rfl) (laid_met os))) ?_
  intro W base args ds gs before hval hW _ _ _ hL _ _
  exact contract H enc W base args ds gs before hval hW hL

theorem said : Rows.FnExactShaBlockSaid :=
  OpenClaim.holds_of_cond 6 Tryd.f6 rfl rfl rfl rfl rfl rfl rfl ⟨rfl, rfl, rfl, rfl, rfl⟩ rfl rfl rfl rfl rfl (by kernel_rfl) Tryd.func6 (by kernel_rfl)
    (of_decide_eq_true (by kernel_rfl)) (by unfold Func.isWrapper; first | (rw [if_pos (by decide +kernel)]; kernel_rfl) | (rw [if_neg (by decide +kernel)]; exact ⟨rfl, rfl⟩))
    (fun os started H enc _ F => by rw [OpenClaim.pre_eq_preRow]; exact lifted os started H enc F)
theorem plain (f : FuncId) (fn : Func) (hf : Tryd.pinned.checked.prog.funcNamed "loop.example/g00466/laws.FnExactShaBlock" = some f) (hfn : Tryd.pinned.checked.prog.funcs[f]? = some fn) :
    false = Tryd.pinned.checked.prog.looks [] ∧ ∀ (j : Nat) t, fn.params[j]? = some t → Tryd.pinned.checked.prog.wantsStandIn t = false := by
  obtain rfl : f = 6 := Option.some.inj ((show Tryd.prog.funcNamed "loop.example/g00466/laws.FnExactShaBlock" = some 6 by kernel_rfl).symm.trans hf) |>.symm
  obtain rfl : fn = Tryd.f6 := (Option.some.inj (Tryd.func6.symm.trans hfn)).symm
  refine ⟨by kernel_rfl, fun j t ht => ?_⟩
  rw [Tryd.params6] at ht
  have hm : t = 24 ∨ t = 9 := by simpa using Array.mem_of_getElem? ht
  rcases hm with rfl | rfl
  · exact (show Tryd.prog.wantsStandIn 24 = false by kernel_rfl)
  · exact (show Tryd.prog.wantsStandIn 9 = false by kernel_rfl)
end fnExactShaBlock

theorem fnExactShaBlock_card : Rows.FnExactShaBlockCardSaid :=
  Claim7.holds_tied_plain_at .later [] _ _ _ _ fnExactShaBlock.said (fun _ h => by cases h) (by kernel_rfl) (fun _ h => by cases h) fnExactShaBlock_row_tie rfl ⟨rfl, rfl⟩ (by kernel_rfl) rfl fnExactShaBlock.plain (by kernel_rfl)
#print axioms fnExactShaBlock_card
end Go.Proofs.YtpnklgidbgjmbaaDoor
