/- For every arena and numbers: EpochSecret of the program answers as the specification's EpochSecret does, writes into no argument, keeps nothing of one, owns its answer's memory, behind another call too; and the arguments read as before. No condition. -/
import Derived.Test.YtffnadnndmmliaaRows
import Derived.Test.YtffnadnndmmliaaArgArena
import Derived.Test.YtffnadnndmmliaaLawKeep
import Derived.Test.YtffnadnndmmliaaRegionA
import Derived.Test.YtffnadnndmmliaaSec6
import Derived.Test.YtffnadnndmmliaaImplS6
import Derived.Test.YtffnadnndmmliaaLawClip
import Derived.Test.YtffnadnndmmliaaKeptL
import Derived.WalkKit
import Derived.ProofKit
import Derived.OpenShut
import Derived.ShutString
import Derived.ChangeOld
import Derived.PlainAid
import Derived.Deep.RegionHeld3
namespace Go.Proofs.Ytffnadnndmmliaa
namespace fnExactEpochSecret
open Go.ChangeShapes Go.WideShapes Go.ChangeAt Go.RowKit Go.PlainAid
open Go.ChangeMaps (open_string shut_string)
set_option linter.unusedVariables false

theorem own : ownKnob Try.prog.godebug = none := by kernel_rfl

set_option maxHeartbeats 3200000 in
set_option maxRecDepth 20000 in
theorem walk (a0 : Option Addr) (cp : Nat) (ns : List Nd) (k1 : Int) (k2 : Int) (w0 : ns.length ≤ maxLen) (f0 : ∀ y ∈ ns, y.Fits) (w1 : (Lit.int .i64 k1).wf = true) (w2 : (Lit.int .i64 k2).wf = true) (w : World) (hr : RowN w.heap.size w a0 ns) :
    Calls Try.prog 6 #[.agg #[.slice a0 ns.length cp], .int .i64 k1, .int .i64 k2] w fun e w' => e = .returned (.bool true) ∧ Below w.heap.size w w' := by
  have HR : Hid (RowN w.heap.size w a0 ns) := hr
  have HF : Hid (∀ y ∈ ns, y.Fits) := f0
  clear hr f0
  have B0 : Below w.heap.size w (w.alloc (.cells #[.slice a0 ns.length cp] 24)) := (Below.refl _ _).alloc (Nat.le_refl _) _
  by_cases hl : ns.length ≤ 1048576
  rotate_left
  · have hl' : (1048576 : Int) - (ns.length : Int) < 0 := by omega
    have H : Hid _ := szArena_big a0 ns.length cp (w.alloc (.cells #[.slice a0 ns.length cp] 24)) (by omega) w0
    have HA : Hid _ := B0
    clear w0 B0 HR HF
    go_enter Try.func6, Try.ntmps6
    go_wp2_with fail
    refine Calls.mono H.out ?_
    rintro e w1 ⟨rfl, hb1⟩
    go_wp2
    go_ret
    exact ⟨rfl, HA.out.trans (hb1.mono HA.out.size)⟩
  have hl' : ¬ (1048576 : Int) - (ns.length : Int) < 0 := by omega
  clear w0
  obtain ⟨ms, K0, HS, HI, HL⟩ : ∃ (ms : List Nd) (K0 : Int), Hid (∀ (a : Option Addr) (cap : Nat) (w : World), AddrN a cap → RowN w.heap.size w a ns → Calls Try.prog 40 #[.agg #[.slice a ns.length cap], .int .i64 k1, .int .i64 k2] w fun e w' => ∃ v, e = .returned (.tuple #[.agg #[v], .int .i64 K0]) ∧ OwnN w.heap.size w' v ms ∧ Below w.heap.size w w') ∧ Hid (∀ (a : Option Addr) (cap : Nat) (w : World), AddrN a cap → RowN w.heap.size w a ns → Calls Try.prog 41 #[.agg #[.slice a ns.length cap], .int .i64 k1, .int .i64 k2] w fun e w' => ∃ v, e = .returned (.tuple #[.agg #[v], .int .i64 K0]) ∧ OwnC w.heap.size w' v ms ∧ Below w.heap.size w w') ∧ Hid (ms.length ≤ 1048577) :=
    ⟨keptA ns (epochA ns k1 k2) (epochK ns k1 k2), (epochK ns k1 k2), fun a cap w ha hr => specEpoch_any a cap ns k1 k2 w hl ha hr, fun a cap w ha hr => implEpoch_any a cap ns k1 k2 w hl HF.out w1 w2 ha hr, keptA_len hl (epochA_le hl)⟩
  clear HF
  have A0 : Var w.heap.size (.slice a0 ns.length cp) (w.alloc (.cells #[.slice a0 ns.length cp] 24)) := Var.made
  have I0 : In w.heap.size a0 ns (w.alloc (.cells #[.slice a0 ns.length cp] 24)) := ⟨by simp, HR.out.later B0⟩
  have HB0 : Hid _ := B0
  clear B0 HR
  go_enter Try.func6, Try.ntmps6
  go_wp2_with fail
  generalize w.alloc (.cells #[.slice a0 ns.length cp] 24) = wA at A0 I0 HB0 ⊢
  refine (szArena_any a0 ns.length cp _ hl).mono ?_
  rintro e w1 ⟨rfl, hb⟩
  have A1 := A0.next hb
  have I1 := I0.next hb
  have HB1 : Hid (Below w.heap.size w w1) := HB0.out.trans (hb.mono HB0.out.size)
  clear A0 I0 HB0
  clear hb
  have hw1 := A1.lt
  have c := A1.c
  go_wp2_with fail
  refine (toArena_any a0 cp ns w1 hl I1.all).mono ?_
  rintro e w2 ⟨v2, rfl, ho2, hb⟩
  obtain ⟨a2, cap2, rfl, hA2, hr2⟩ := ho2.row
  have hsV := hb.size
  have A2 := A1.next hb
  have I2 := I1.next hb
  have HB2 : Hid (Below w.heap.size w w2) := HB1.out.trans (hb.mono HB1.out.size)
  clear A1 I1 HB1
  clear ho2 hb c
  go_wp2_with fail
  refine (HS.out a2 cap2 w2 hA2 hr2).mono ?_
  rintro e w3 ⟨v3, rfl, ho3, hb⟩
  obtain ⟨a3, cap3, rfl, hA3, -⟩ := ho3.row
  have hsW := hb.size
  have A3 := A2.next hb
  have I3 := I2.next hb
  have HB3 : Hid (Below w.heap.size w w3) := HB2.out.trans (hb.mono HB2.out.size)
  clear A2 I2 HB2
  clear hb hA2 hr2 HS
  have OW3 := Own.made ho3
  clear ho3
  have hbq : Below w3.heap.size w3 (w3.alloc (.cells #[.slice a3 ms.length cap3] 28)) := (Below.refl _ _).alloc (Nat.le_refl _) _
  have BW4 : Var w3.heap.size (.slice a3 ms.length cap3) (w3.alloc (.cells #[.slice a3 ms.length cap3] 28)) := Var.made
  have hbW : w3.heap.size < (w3.alloc (.cells #[.slice a3 ms.length cap3] 28)).heap.size := by simp
  have A4 := A3.next hbq
  have I4 := I3.next hbq
  have OW4 := OW3.next hbq
  have HB4 : Hid (Below w.heap.size w (w3.alloc (.cells #[.slice a3 ms.length cap3] 28))) := HB3.out.trans (hbq.mono HB3.out.size)
  clear hbq A3 I3 OW3 HB3
  have q0 := A4.c
  go_wp2_with fail
  clear q0
  generalize w3.alloc (.cells #[.slice a3 ms.length cap3] 28) = w4 at BW4 hbW A4 I4 OW4 HB4 ⊢
  refine (toArena_any a0 cp ns w4 hl I4.all).mono ?_
  rintro e w5 ⟨v5, rfl, ho5, hb⟩
  obtain ⟨a5, cap5, rfl, hA5, -⟩ := ho5.row
  have hsX := hb.size
  have A5 := A4.next hb
  have I5 := I4.next hb
  have OW5 := OW4.next hb
  have BW5 := BW4.next hb
  have HB5 : Hid (Below w.heap.size w w5) := HB4.out.trans (hb.mono HB4.out.size)
  clear A4 I4 OW4 BW4 HB4
  clear hb
  have OX5 := Own.made ho5
  clear ho5
  have hbq : Below w5.heap.size w5 (w5.alloc (.cells #[.slice a5 ns.length cap5] 28)) := (Below.refl _ _).alloc (Nat.le_refl _) _
  have BX6 : Var w5.heap.size (.slice a5 ns.length cap5) (w5.alloc (.cells #[.slice a5 ns.length cap5] 28)) := Var.made
  have hbX : w5.heap.size < (w5.alloc (.cells #[.slice a5 ns.length cap5] 28)).heap.size := by simp
  have A6 := A5.next hbq
  have I6 := I5.next hbq
  have OW6 := OW5.next hbq
  have BW6 := BW5.next hbq
  have OX6 := OX5.next hbq
  have HB6 : Hid (Below w.heap.size w (w5.alloc (.cells #[.slice a5 ns.length cap5] 28))) := HB5.out.trans (hbq.mono HB5.out.size)
  clear hbq A5 I5 OW5 BW5 OX5 HB5
  go_wp2_with fail
  generalize w5.alloc (.cells #[.slice a5 ns.length cap5] 28) = w6 at BX6 hbX A6 I6 OW6 BW6 OX6 HB6 ⊢
  refine (HI.out a5 cap5 w6 hA5 OX6.rowAt).mono ?_
  rintro e w7 ⟨v7, rfl, ho7, hb⟩
  obtain ⟨a7, cap7, cp7, rfl, hA7, ho7⟩ := ho7
  have hsG := hb.size
  have A7 := A6.next hb
  have I7 := I6.next hb
  have OW7 := OW6.next hb
  have BW7 := BW6.next hb
  have OX7 := OX6.next hb
  have BX7 := BX6.next hb
  have HB7 : Hid (Below w.heap.size w w7) := HB6.out.trans (hb.mono HB6.out.size)
  clear A6 I6 OW6 BW6 OX6 BX6 HB6
  clear hb
  have OG7 := Own.made ho7
  clear ho7
  have hbq : Below w7.heap.size w7 (w7.alloc (.cells #[.slice a7 ms.length cap7] 28)) := (Below.refl _ _).alloc (Nat.le_refl _) _
  have BG8 : Var w7.heap.size (.slice a7 ms.length cap7) (w7.alloc (.cells #[.slice a7 ms.length cap7] 28)) := Var.made
  have hbG : w7.heap.size < (w7.alloc (.cells #[.slice a7 ms.length cap7] 28)).heap.size := by simp
  have A8 := A7.next hbq
  have I8 := I7.next hbq
  have OW8 := OW7.next hbq
  have BW8 := BW7.next hbq
  have OX8 := OX7.next hbq
  have BX8 := BX7.next hbq
  have OG8 := OG7.next hbq
  have HB8 : Hid (Below w.heap.size w (w7.alloc (.cells #[.slice a7 ms.length cap7] 28))) := HB7.out.trans (hbq.mono HB7.out.size)
  clear hbq A7 I7 OW7 BW7 OX7 BX7 OG7 HB7
  have q0 := BW8.c
  go_wp2_with fail
  clear q0
  generalize w7.alloc (.cells #[.slice a7 ms.length cap7] 28) = w8 at BG8 hbG A8 I8 OW8 BW8 OX8 BX8 OG8 HB8 ⊢
  refine (eqArena_same a7 a3 cap7 cap3 ms w8 (by have := HL.out; omega) OG8.rowAt OW8.rowAt).mono ?_
  rintro e w9 ⟨rfl, hb⟩
  have A9 := A8.next hb
  have I9 := I8.next hb
  have OW9 := OW8.next hb
  have BW9 := BW8.next hb
  have OX9 := OX8.next hb
  have BX9 := BX8.next hb
  have OG9 := OG8.next hb
  have BG9 := BG8.next hb
  have HB9 : Hid (Below w.heap.size w w9) := HB8.out.trans (hb.mono HB8.out.size)
  clear A8 I8 OW8 BW8 OX8 BX8 OG8 BG8 HB8
  clear hb
  have hx5 := BX9.c
  have hc5 := A9.c
  have hs5 : w5.heap.size < w9.drew.heap.size := BX9.lt
  have hsw5 : w.heap.size < w9.drew.heap.size := A9.lt
  have HRA5 : Hid (RowN w9.drew.heap.size w9.drew a0 ns) := I9.all
  have HRX5 : Hid (RowN w9.drew.heap.size w9.drew a5 ns) := OX9.rowAt
  have HK9 : Hid _ := And.intro A9 (And.intro I9 (And.intro OW9 (And.intro BW9 (And.intro OX9 (And.intro BX9 (And.intro OG9 BG9))))))
  clear A9 I9 OW9 BW9 OX9 BX9 OG9 BG9
  go_wp2_with fail
  go_region_held3 (fun w' => w'.cell? ⟨w5.heap.size, 0, none⟩ = some (.slice a5 ns.length cap5) ∧ w'.cell? ⟨w.heap.size, 0, none⟩ = some (.slice a0 ns.length cp)) (first | exact ⟨hx5, hc5⟩ | assumption | exact two_kept (by assumption) hs5 hsw5 hb6 | exact two_kept (by assumption) hs6 hsw6 hb7) (first | (go_at_call 17; refine (toArena_any a0 cp ns _ hl ?_).mono ?_; exact HRA5.out; rintro e wa ⟨v6, rfl, ho6, hb6⟩; obtain ⟨a6, cap6, rfl, hA6, hr6⟩ := ho6.row; have hs6 := Nat.lt_of_lt_of_le hs5 hb6.size; have hsw6 := Nat.lt_of_lt_of_le hsw5 hb6.size) | (go_at_call 19; refine (eqArena_same a5 a6 cap5 cap6 ns _ ?_ ?_ ?_).mono ?_; omega; exact HRX5.out.grown hb6; exact hr6; rintro e w10 ⟨rfl, hb7⟩))
  have hbT : Below w9.heap.size w9 w10 := ((Below.refl _ _).drew).trans (hb6.trans (hb7.mono hb6.size))
  obtain ⟨A9, I9, OW9, BW9, OX9, BX9, OG9, BG9⟩ := HK9.out
  have A10 := A9.next hbT
  have I10 := I9.next hbT
  have OW10 := OW9.next hbT
  have BW10 := BW9.next hbT
  have OX10 := OX9.next hbT
  have BX10 := BX9.next hbT
  have OG10 := OG9.next hbT
  have BG10 := BG9.next hbT
  have HB10 : Hid (Below w.heap.size w w10) := HB9.out.trans (hbT.mono HB9.out.size)
  clear A9 I9 OW9 BW9 OX9 BX9 OG9 BG9 HB9
  clear ho6 hr6 hb6 hA6 hc5 hx5 hb7 hbT HRA5 HRX5 HK9 hs5 hsw5 hs6 hsw6
  have q0 := BX10.c
  go_wp2_with fail
  refine (markArena_any w4.heap.size 1 (.slice a5 ns.length cap5) ns w10 (by omega) (by omega) OX10.own).mono ?_
  rintro e w11 ⟨rfl, hox, hgr⟩
  have hbk := OX10.block
  clear hox q0
  have A11 := A10.mark hgr (fun h => by have := hbk _ h; omega)
  have I11 := I10.mark hgr (fun g hg => by have := hbk g hg; omega)
  have OW11 := OW10.mark hgr (fun g hg => by have := hbk g hg; omega)
  have BW11 := BW10.mark hgr (fun h => by have := hbk _ h; omega)
  have OG11 := OG10.mark hgr (fun g hg => by have := hbk g hg; omega)
  have BG11 := BG10.mark hgr (fun h => by have := hbk _ h; omega)
  have HB11 : Hid (Below w.heap.size w w11) := HB10.out.grown hgr HB10.out.size (fun k hk => by have := hbk k hk; omega)
  clear hgr hbk HB10 A10 I10 OW10 BW10 OX10 BX10 OG10 BG10
  have q0 := BG11.c
  have q1 := BW11.c
  have hk0 : ¬ (1 : Int) + 4 * (ns.length : Int) < 0 := by omega
  go_wp2_with fail
  refine (eqArena_same a7 a3 cap7 cap3 ms w11 (by have := HL.out; omega) OG11.rowAt OW11.rowAt).mono ?_
  rintro e w12 ⟨rfl, hb⟩
  have A12 := A11.next hb
  have I12 := I11.next hb
  have OW12 := OW11.next hb
  have BW12 := BW11.next hb
  have OG12 := OG11.next hb
  have BG12 := BG11.next hb
  have HB12 : Hid (Below w.heap.size w w12) := HB11.out.trans (hb.mono HB11.out.size)
  clear A11 I11 OW11 BW11 OG11 BG11 HB11
  clear hb q0 q1 hk0
  have q0 := BG12.c
  go_wp2_with fail
  refine (markArenaC_any w6.heap.size 1 a7 cap7 cp7 ms w12 (by have := HL.out; omega) (by omega) hA7 OG12.own).mono ?_
  rintro e w13 ⟨rfl, hox, hgr⟩
  have hbk := OG12.block
  have OM13 : Own w6.heap.size w7.heap.size (.slice a7 ms.length cp7) (marksN 1 ms.length) w13 := ⟨hox, Nat.le_trans OG12.le hgr.size, OG12.lt⟩
  clear hox q0
  have A13 := A12.mark hgr (fun h => by have := hbk _ h; omega)
  have I13 := I12.mark hgr (fun g hg => by have := hbk g hg; omega)
  have OW13 := OW12.mark hgr (fun g hg => by have := hbk g hg; omega)
  have BW13 := BW12.mark hgr (fun h => by have := hbk _ h; omega)
  have BG13 := BG12.mark hgr (fun h => by have := hbk _ h; omega)
  have HB13 : Hid (Below w.heap.size w w13) := HB12.out.grown hgr HB12.out.size (fun k hk => by have := hbk k hk; omega)
  clear hgr hbk HB12 A12 I12 OW12 BW12 OG12 BG12
  have q0 := BG13.c
  go_wp2_with fail
  refine (heldArena_any 1 a7 ms.length cap7 w13 (by have := HL.out; omega) (by omega) OM13.rowAt).mono ?_
  rintro e w14 ⟨rfl, hb⟩
  have A14 := A13.next hb
  have I14 := I13.next hb
  have OW14 := OW13.next hb
  have BW14 := BW13.next hb
  have BG14 := BG13.next hb
  have OM14 := OM13.next hb
  have HB14 : Hid (Below w.heap.size w w14) := HB13.out.trans (hb.mono HB13.out.size)
  clear A13 I13 OW13 BW13 BG13 OM13 HB13
  clear hb q0
  have hk0 : ¬ (1 : Int) + 4 * (ms.length : Int) < 0 := by omega
  have c := A14.c
  go_wp2_with fail
  refine (toArena_any a0 cp ns w14 hl I14.all).mono ?_
  rintro e w15 ⟨v15, rfl, ho15, hb⟩
  obtain ⟨a15, cap15, rfl, hA15, hr15⟩ := ho15.row
  have A15 := A14.next hb
  have I15 := I14.next hb
  have OW15 := OW14.next hb
  have BW15 := BW14.next hb
  have BG15 := BG14.next hb
  have OM15 := OM14.next hb
  have HB15 : Hid (Below w.heap.size w w15) := HB14.out.trans (hb.mono HB14.out.size)
  clear A14 I14 OW14 BW14 BG14 OM14 HB14
  clear hb c ho15
  go_wp2_with fail
  refine (HI.out a15 cap15 w15 hA15 hr15).mono ?_
  rintro e w16 ⟨v16, rfl, ho16, hb⟩
  obtain ⟨a16, cap16, cp16, rfl, hA16, ho16⟩ := ho16
  have A16 := A15.next hb
  have I16 := I15.next hb
  have OW16 := OW15.next hb
  have BW16 := BW15.next hb
  have BG16 := BG15.next hb
  have OM16 := OM15.next hb
  have HB16 : Hid (Below w.heap.size w w16) := HB15.out.trans (hb.mono HB15.out.size)
  clear A15 I15 OW15 BW15 BG15 OM15 HB15
  clear hb hA15 hr15 HI
  have OH16 := Own.made ho16
  clear ho16
  have hbq : Below w16.heap.size w16 (w16.alloc (.cells #[.slice a16 ms.length cap16] 28)) := (Below.refl _ _).alloc (Nat.le_refl _) _
  have BH17 : Var w16.heap.size (.slice a16 ms.length cap16) (w16.alloc (.cells #[.slice a16 ms.length cap16] 28)) := Var.made
  have hbH : w16.heap.size < (w16.alloc (.cells #[.slice a16 ms.length cap16] 28)).heap.size := by simp
  have A17 := A16.next hbq
  have I17 := I16.next hbq
  have OW17 := OW16.next hbq
  have BW17 := BW16.next hbq
  have BG17 := BG16.next hbq
  have OM17 := OM16.next hbq
  have OH17 := OH16.next hbq
  have HB17 : Hid (Below w.heap.size w (w16.alloc (.cells #[.slice a16 ms.length cap16] 28))) := HB16.out.trans (hbq.mono HB16.out.size)
  clear hbq A16 I16 OW16 BW16 BG16 OM16 OH16 HB16
  have q0 := BW17.c
  go_wp2_with fail
  clear q0
  generalize w16.alloc (.cells #[.slice a16 ms.length cap16] 28) = w17 at BH17 hbH A17 I17 OW17 BW17 BG17 OM17 OH17 HB17 ⊢
  refine (eqArena_same a16 a3 cap16 cap3 ms w17 (by have := HL.out; omega) OH17.rowAt OW17.rowAt).mono ?_
  rintro e w18 ⟨rfl, hb⟩
  have A18 := A17.next hb
  have I18 := I17.next hb
  have OW18 := OW17.next hb
  have BW18 := BW17.next hb
  have BG18 := BG17.next hb
  have OM18 := OM17.next hb
  have OH18 := OH17.next hb
  have BH18 := BH17.next hb
  have HB18 : Hid (Below w.heap.size w w18) := HB17.out.trans (hb.mono HB17.out.size)
  clear A17 I17 OW17 BW17 BG17 OM17 OH17 BH17 HB17
  clear hb
  have q0 := BG18.c
  go_wp2_with fail
  refine (heldArena_any 1 a7 ms.length cap7 w18 (by have := HL.out; omega) (by omega) OM18.rowAt).mono ?_
  rintro e w19 ⟨rfl, hb⟩
  have HB19 : Hid (Below w.heap.size w w19) := HB18.out.trans (hb.mono HB18.out.size)
  clear hb q0 HB18 A18 I18 OW18 BW18 BG18 OM18 OH18 BH18
  go_wp2
  go_ret
  exact ⟨rfl, HB19.out⟩

theorem laidOut : laidOutB Try.prog = true := by kernel_rfl
set_option maxRecDepth 100000 in
theorem lifted (os : Os) (started : os.Started) (H : Type) (enc : TypeId × Value → H) :
    ReturnsInHanded {} Try.checked os 6 .any (Rows.fnExactEpochSecretSpec.pre6 enc Try.prog Try.f6 Rows.fnExactEpochSecretRow.domain false) (Rows.fnExactEpochSecretSpec.post enc Try.prog Try.f6 false true false false) := by
  refine returnsInHanded_of_change (C := Try.checked) own started (by kernel_rfl) Try.func6
    (ChangeSpec.witness6 (enc := enc) (C := Try.checked) false ⟨#[], #[.agg #[.slice none 0 0], .int .i64 0, .int .i64 0], []⟩ 8 (by kernel_rfl) (by kernel_rfl) (by kernel_rfl) (by kernel_rfl)) ?_
  intro W base args ds gs before hval0 hW hcnd _
  have hval : ∀ (j : Nat) t v, Try.f6.params[j]? = some t → args[j]? = some v → Value.okWide Try.prog W .any base t v := hval0
  have hW' := hW
  obtain ⟨p, q, hA0, hV, rfl, hfz, hnd⟩ := hW
  have hA : DataW.TrodAll enc Try.prog W 0 (fun _ => true) true Try.f6.params.toList args.toList ds p := hA0
  rw [Try.params6] at hA hval
  obtain ⟨v0, vs0, d0, ds0, p0, q0, hargs, rfl, rfl, h0, r0⟩ := trodAll_cons hA
  obtain ⟨v1, vs1, d1, ds1, p1, q1, rfl, rfl, rfl, h1, r1⟩ := trodAll_cons r0
  obtain ⟨v2, vs2, d2, ds2, p2, q2, rfl, rfl, rfl, h2, r2⟩ := trodAll_cons r1
  obtain ⟨rfl, rfl, rfl⟩ := trodAll_nil r2
  obtain rfl : args = #[v0, v1, v2] := by cases args; simp_all
  obtain ⟨rfl, rfl⟩ := trodVars_none hV
  have k0 := h0
  have lt0 : ∀ x ∈ p0, x.block < W.heap.size := by obtain ⟨m, hm⟩ := k0; exact DataW.trod_lt m _ _ _ hm
  obtain ⟨a0, c0, n0, rfl, w0, rn0, f0⟩ := arena_of (hval 0 24 v0 rfl rfl) h0
  obtain ⟨a1, rfl, rfl, rfl, w1⟩ := open_int Try.underlying3 (hval 1 3 v1 rfl rfl) h1
  obtain ⟨a2, rfl, rfl, rfl, w2⟩ := open_int Try.underlying3 (hval 2 3 v2 rfl rfl) h2
  clear hA0 hval0
  refine (walk a0 c0 n0 a1 a2 w0 f0 w1 w2 W rn0).mono fun e W' ⟨he, bel⟩ => ?_
  subst he
  exact ⟨_, rfl, _, _, _, [], _, [], hW', trodAll_mk1 (shut_bool Try.underlying4 _), (trodAll_cons_mk (Below.trod laidOut (by kernel_rfl) (of_decide_eq_true (by kernel_rfl)) k0 bel lt0) (trodAll_cons_mk (shut_int Try.underlying3 w1) (trodAll_cons_mk (shut_int Try.underlying3 w2) trodAll_mk0))), rfl, bel.frame _, fun h => by cases h⟩

theorem over : Rows.fnExactEpochSecretRow.holds Try.pinned (OpenSpec.ofChange Rows.fnExactEpochSecretSpec) :=
  OpenClaim.holds_of_wide 6 Try.f6 rfl rfl rfl rfl rfl rfl rfl ⟨rfl, rfl, rfl, rfl, rfl⟩ rfl rfl rfl rfl rfl (by kernel_rfl) Try.func6 (by kernel_rfl)
    (of_decide_eq_true (by kernel_rfl)) (by unfold Func.isWrapper; first | (rw [if_pos (by decide +kernel)]; kernel_rfl) | (rw [if_neg (by decide +kernel)]; exact ⟨rfl, rfl⟩))
    (fun os started H enc _ => lifted os started H enc)
end fnExactEpochSecret

theorem fnExactEpochSecret_holds : Rows.FnExactEpochSecretSaid := fnExactEpochSecret.over
#print axioms fnExactEpochSecret_holds
end Go.Proofs.Ytffnadnndmmliaa
