/- For every code: what Make, Atom, List, Parts, DhOf and NumOf of the program tell of drawn arenas, right or not, is what the specification's tell. No condition. -/
import Derived.Test.YtodpfdjlhbjlgaaRows
import Derived.Test.YtodpfdjlhbjlgaaDrawLt
import Derived.Test.YtodpfdjlhbjlgaaPutList
import Derived.Test.YtodpfdjlhbjlgaaMakeDhI
import Derived.Test.YtodpfdjlhbjlgaaMakeDhS
import Derived.Test.YtodpfdjlhbjlgaaMakePartsI
import Derived.Test.YtodpfdjlhbjlgaaMakeIs
import Derived.Test.YtodpfdjlhbjlgaaTermAt
import Derived.Test.YtodpfdjlhbjlgaaLawInts
import Derived.Test.YtodpfdjlhbjlgaaLawKeep
import Derived.Test.YtodpfdjlhbjlgaaLawArena2
import Derived.WalkKit
import Derived.ProofKit
import Derived.OpenShut
import Derived.ShutString
import Derived.ChangeOld
import Derived.PlainAid
namespace Go.Proofs.Ytodpfdjlhbjlgaa
namespace fnMakesTold
open Go.ChangeShapes Go.WideShapes Go.ChangeAt Go.RowKit Go.PlainAid
open Go.ChangeMaps (open_string shut_string)
set_option linter.unusedVariables false

theorem own : ownKnob Try.prog.godebug = none := by kernel_rfl

set_option maxHeartbeats 6400000 in
set_option maxRecDepth 20000 in
theorem walk (a0 : Option Addr) (len0 cap0 : Nat) (w : World) (hcode : len0 ≤ 1048576 → CodeIn w.heap.size w a0 len0) :
    Calls Try.prog 8 #[.slice a0 len0 cap0] w fun e w' => e = .returned (.bool true) ∧ Below w.heap.size w w' := by
  by_cases hbig : len0 ≤ 1048576
  · have HC : Hid (CodeIn w.heap.size w a0 len0) := hcode hbig
    have HB : Hid (Below w.heap.size w w) := Below.refl _ _
    have hd : decide ((1048576 : Int) < (len0 : Int)) = false := by simp; omega
    clear hcode hbig
    go_enter Try.func8, Try.ntmps8
    go_wp2_with fail
    refine (big_any _ _ _ _).mono ?_
    rintro e wz ⟨rfl, rfl⟩
    rw [hd]
    clear hd
    go_wp2_with fail
    refine (drawMake_any _ _ _ _ HC.out).mono ?_
    rintro e w1 ⟨v1, ns1, kd, x, y, rfl, hn1, hn2, -, -, -, -, -, -, -, ho, hb⟩
    obtain ⟨a1, c1, rfl, -, -⟩ := ho.row
    have O10 := Own.made ho
    replace HB : Hid (Below w.heap.size w (w1)) := HB.out.trans (hb.mono HB.out.size)
    replace HC : Hid (CodeIn (w1).heap.size (w1) a0 len0) := codeIn_later HC.out hb
    have O1 := O10
    clear ho hb O10
    have hbb : Below w1.heap.size w1 (w1.alloc (.cells #[.slice a1 ns1.length c1] 26)) := (Below.refl _ _).alloc (Nat.le_refl _) _
    replace O1 := O1.next hbb
    replace HB : Hid (Below w.heap.size w (w1.alloc (.cells #[.slice a1 ns1.length c1] 26))) := HB.out.trans (hbb.mono HB.out.size)
    replace HC : Hid (CodeIn (w1.alloc (.cells #[.slice a1 ns1.length c1] 26)).heap.size (w1.alloc (.cells #[.slice a1 ns1.length c1] 26)) a0 len0) := codeIn_later HC.out hbb
    have B1 : Var w1.heap.size (.slice a1 ns1.length c1) (w1.alloc (.cells #[.slice a1 ns1.length c1] 26)) := Var.made
    clear hbb
    obtain ⟨A1, K1, HI1, HS1, hA1⟩ : ∃ (A1 : List Nd) (K1 : Int), Hid (∀ (a : Option Addr) (cap : Nat) (w : World), AddrN a cap → RowN w.heap.size w a ns1 → Calls Try.prog 39 #[.agg #[.slice a ns1.length cap], .int .i64 kd, .int .i64 x, .int .i64 y] w fun e w' => ∃ v, e = .returned (.tuple #[.agg #[v], .int .i64 K1]) ∧ OwnN w.heap.size w' v A1 ∧ Below w.heap.size w w') ∧ Hid (∀ (a : Option Addr) (cap : Nat) (w : World), AddrN a cap → RowN w.heap.size w a ns1 → Calls Try.prog 48 #[.agg #[.slice a ns1.length cap], .int .i64 kd, .int .i64 x, .int .i64 y] w fun e w' => ∃ v, e = .returned (.tuple #[.agg #[v], .int .i64 K1]) ∧ OwnN w.heap.size w' v A1 ∧ Below w.heap.size w w') ∧ A1.length ≤ 1048576 :=
      ⟨makeA ns1 kd x y, makeK ns1 kd x y, fun a cap w ha hr => implMake_any a cap ns1 kd x y w (by omega) ha hr, fun a cap w ha hr => specMake_any a cap ns1 kd x y w (by omega) ha hr, makeA_le (by omega)⟩
    go_wp2_with fail
    generalize w1.alloc (.cells #[.slice a1 ns1.length c1] 26) = w2 at O1 B1 HB HC ⊢
    refine (HI1.out _ _ _ O1.rowIs O1.rowAt).mono ?_
    rintro e w3 ⟨vi1, rfl, ho, hb⟩
    obtain ⟨ai1, ci1, rfl, -, -⟩ := ho.row
    have Oi10 := Own.made ho
    replace O1 := O1.next hb
    replace B1 := B1.next hb
    replace HB : Hid (Below w.heap.size w (w3)) := HB.out.trans (hb.mono HB.out.size)
    replace HC : Hid (CodeIn (w3).heap.size (w3) a0 len0) := codeIn_later HC.out hb
    have Oi1 := Oi10
    clear ho hb Oi10 HI1
    have hbb : Below w3.heap.size w3 (w3.alloc (.cells #[.slice ai1 A1.length ci1] 26)) := (Below.refl _ _).alloc (Nat.le_refl _) _
    replace O1 := O1.next hbb
    replace B1 := B1.next hbb
    replace Oi1 := Oi1.next hbb
    replace HB : Hid (Below w.heap.size w (w3.alloc (.cells #[.slice ai1 A1.length ci1] 26))) := HB.out.trans (hbb.mono HB.out.size)
    replace HC : Hid (CodeIn (w3.alloc (.cells #[.slice ai1 A1.length ci1] 26)).heap.size (w3.alloc (.cells #[.slice ai1 A1.length ci1] 26)) a0 len0) := codeIn_later HC.out hbb
    have Bi1 : Var w3.heap.size (.slice ai1 A1.length ci1) (w3.alloc (.cells #[.slice ai1 A1.length ci1] 26)) := Var.made
    clear hbb
    have q0 := B1.c
    go_wp2_with fail
    clear q0
    generalize w3.alloc (.cells #[.slice ai1 A1.length ci1] 26) = w4 at O1 B1 Oi1 Bi1 HB HC ⊢
    refine (HS1.out _ _ _ O1.rowIs O1.rowAt).mono ?_
    rintro e w5 ⟨vs1, rfl, ho, hb⟩
    obtain ⟨as1, cs1, rfl, -, -⟩ := ho.row
    have Os10 := Own.made ho
    replace O1 := O1.next hb
    replace B1 := B1.next hb
    replace Oi1 := Oi1.next hb
    replace Bi1 := Bi1.next hb
    replace HB : Hid (Below w.heap.size w (w5)) := HB.out.trans (hb.mono HB.out.size)
    replace HC : Hid (CodeIn (w5).heap.size (w5) a0 len0) := codeIn_later HC.out hb
    have Os1 := Os10
    clear ho hb Os10 HS1
    have hbb : Below w5.heap.size w5 (w5.alloc (.cells #[.slice as1 A1.length cs1] 26)) := (Below.refl _ _).alloc (Nat.le_refl _) _
    replace O1 := O1.next hbb
    replace B1 := B1.next hbb
    replace Oi1 := Oi1.next hbb
    replace Bi1 := Bi1.next hbb
    replace Os1 := Os1.next hbb
    replace HB : Hid (Below w.heap.size w (w5.alloc (.cells #[.slice as1 A1.length cs1] 26))) := HB.out.trans (hbb.mono HB.out.size)
    replace HC : Hid (CodeIn (w5.alloc (.cells #[.slice as1 A1.length cs1] 26)).heap.size (w5.alloc (.cells #[.slice as1 A1.length cs1] 26)) a0 len0) := codeIn_later HC.out hbb
    have Bs1 : Var w5.heap.size (.slice as1 A1.length cs1) (w5.alloc (.cells #[.slice as1 A1.length cs1] 26)) := Var.made
    clear hbb
    clear O1 B1
    go_wp2_with fail
    generalize w5.alloc (.cells #[.slice as1 A1.length cs1] 26) = w6 at Oi1 Bi1 Os1 Bs1 HB HC ⊢
    refine (drawAtom_any _ _ _ _ HC.out).mono ?_
    rintro e w7 ⟨v2, ns2, z, rfl, hm1, hm2, -, -, -, ho, hb⟩
    obtain ⟨a2, c2, rfl, -, -⟩ := ho.row
    have O20 := Own.made ho
    replace Oi1 := Oi1.next hb
    replace Bi1 := Bi1.next hb
    replace Os1 := Os1.next hb
    replace Bs1 := Bs1.next hb
    replace HB : Hid (Below w.heap.size w (w7)) := HB.out.trans (hb.mono HB.out.size)
    replace HC : Hid (CodeIn (w7).heap.size (w7) a0 len0) := codeIn_later HC.out hb
    have O2 := O20
    clear ho hb O20
    have hbb : Below w7.heap.size w7 (w7.alloc (.cells #[.slice a2 ns2.length c2] 26)) := (Below.refl _ _).alloc (Nat.le_refl _) _
    replace Oi1 := Oi1.next hbb
    replace Bi1 := Bi1.next hbb
    replace Os1 := Os1.next hbb
    replace Bs1 := Bs1.next hbb
    replace O2 := O2.next hbb
    replace HB : Hid (Below w.heap.size w (w7.alloc (.cells #[.slice a2 ns2.length c2] 26))) := HB.out.trans (hbb.mono HB.out.size)
    replace HC : Hid (CodeIn (w7.alloc (.cells #[.slice a2 ns2.length c2] 26)).heap.size (w7.alloc (.cells #[.slice a2 ns2.length c2] 26)) a0 len0) := codeIn_later HC.out hbb
    have B2 : Var w7.heap.size (.slice a2 ns2.length c2) (w7.alloc (.cells #[.slice a2 ns2.length c2] 26)) := Var.made
    clear hbb
    obtain ⟨A2, K2, HI2, HS2, hA2⟩ : ∃ (A2 : List Nd) (K2 : Int), Hid (∀ (a : Option Addr) (cap : Nat) (w : World), AddrN a cap → RowN w.heap.size w a ns2 → Calls Try.prog 45 #[.agg #[.slice a ns2.length cap], .int .i64 z] w fun e w' => ∃ v, e = .returned (.tuple #[.agg #[v], .int .i64 K2]) ∧ OwnN w.heap.size w' v A2 ∧ Below w.heap.size w w') ∧ Hid (∀ (a : Option Addr) (cap : Nat) (w : World), AddrN a cap → RowN w.heap.size w a ns2 → Calls Try.prog 50 #[.agg #[.slice a ns2.length cap], .int .i64 z] w fun e w' => ∃ v, e = .returned (.tuple #[.agg #[v], .int .i64 K2]) ∧ OwnN w.heap.size w' v A2 ∧ Below w.heap.size w w') ∧ A2.length ≤ 1048576 :=
      ⟨putA ns2 ⟨1, z, 0, 0⟩, putK ns2 ⟨1, z, 0, 0⟩, fun a cap w ha hr => implAtom_any a cap ns2 z w (by omega) ha hr, fun a cap w ha hr => specAtom_any a cap ns2 z w (by omega) ha hr, putA_le2 (by omega)⟩
    go_wp2_with fail
    generalize w7.alloc (.cells #[.slice a2 ns2.length c2] 26) = w8 at Oi1 Bi1 Os1 Bs1 O2 B2 HB HC ⊢
    refine (HI2.out _ _ _ O2.rowIs O2.rowAt).mono ?_
    rintro e w9 ⟨vi2, rfl, ho, hb⟩
    obtain ⟨ai2, ci2, rfl, -, -⟩ := ho.row
    have Oi20 := Own.made ho
    replace Oi1 := Oi1.next hb
    replace Bi1 := Bi1.next hb
    replace Os1 := Os1.next hb
    replace Bs1 := Bs1.next hb
    replace O2 := O2.next hb
    replace B2 := B2.next hb
    replace HB : Hid (Below w.heap.size w (w9)) := HB.out.trans (hb.mono HB.out.size)
    replace HC : Hid (CodeIn (w9).heap.size (w9) a0 len0) := codeIn_later HC.out hb
    have Oi2 := Oi20
    clear ho hb Oi20 HI2
    have hbb : Below w9.heap.size w9 (w9.alloc (.cells #[.slice ai2 A2.length ci2] 26)) := (Below.refl _ _).alloc (Nat.le_refl _) _
    replace Oi1 := Oi1.next hbb
    replace Bi1 := Bi1.next hbb
    replace Os1 := Os1.next hbb
    replace Bs1 := Bs1.next hbb
    replace O2 := O2.next hbb
    replace B2 := B2.next hbb
    replace Oi2 := Oi2.next hbb
    replace HB : Hid (Below w.heap.size w (w9.alloc (.cells #[.slice ai2 A2.length ci2] 26))) := HB.out.trans (hbb.mono HB.out.size)
    replace HC : Hid (CodeIn (w9.alloc (.cells #[.slice ai2 A2.length ci2] 26)).heap.size (w9.alloc (.cells #[.slice ai2 A2.length ci2] 26)) a0 len0) := codeIn_later HC.out hbb
    have Bi2 : Var w9.heap.size (.slice ai2 A2.length ci2) (w9.alloc (.cells #[.slice ai2 A2.length ci2] 26)) := Var.made
    clear hbb
    have q0 := B2.c
    go_wp2_with fail
    clear q0
    generalize w9.alloc (.cells #[.slice ai2 A2.length ci2] 26) = w10 at Oi1 Bi1 Os1 Bs1 O2 B2 Oi2 Bi2 HB HC ⊢
    refine (HS2.out _ _ _ O2.rowIs O2.rowAt).mono ?_
    rintro e w11 ⟨vs2, rfl, ho, hb⟩
    obtain ⟨as2, cs2, rfl, -, -⟩ := ho.row
    have Os20 := Own.made ho
    replace Oi1 := Oi1.next hb
    replace Bi1 := Bi1.next hb
    replace Os1 := Os1.next hb
    replace Bs1 := Bs1.next hb
    replace O2 := O2.next hb
    replace B2 := B2.next hb
    replace Oi2 := Oi2.next hb
    replace Bi2 := Bi2.next hb
    replace HB : Hid (Below w.heap.size w (w11)) := HB.out.trans (hb.mono HB.out.size)
    replace HC : Hid (CodeIn (w11).heap.size (w11) a0 len0) := codeIn_later HC.out hb
    have Os2 := Os20
    clear ho hb Os20 HS2
    have hbb : Below w11.heap.size w11 (w11.alloc (.cells #[.slice as2 A2.length cs2] 26)) := (Below.refl _ _).alloc (Nat.le_refl _) _
    replace Oi1 := Oi1.next hbb
    replace Bi1 := Bi1.next hbb
    replace Os1 := Os1.next hbb
    replace Bs1 := Bs1.next hbb
    replace O2 := O2.next hbb
    replace B2 := B2.next hbb
    replace Oi2 := Oi2.next hbb
    replace Bi2 := Bi2.next hbb
    replace Os2 := Os2.next hbb
    replace HB : Hid (Below w.heap.size w (w11.alloc (.cells #[.slice as2 A2.length cs2] 26))) := HB.out.trans (hbb.mono HB.out.size)
    replace HC : Hid (CodeIn (w11.alloc (.cells #[.slice as2 A2.length cs2] 26)).heap.size (w11.alloc (.cells #[.slice as2 A2.length cs2] 26)) a0 len0) := codeIn_later HC.out hbb
    have Bs2 : Var w11.heap.size (.slice as2 A2.length cs2) (w11.alloc (.cells #[.slice as2 A2.length cs2] 26)) := Var.made
    clear hbb
    clear O2 B2
    go_wp2_with fail
    generalize w11.alloc (.cells #[.slice as2 A2.length cs2] 26) = w12 at Oi1 Bi1 Os1 Bs1 Oi2 Bi2 Os2 Bs2 HB HC ⊢
    refine (drawList_any _ _ _ _ HC.out).mono ?_
    rintro e w13 ⟨v3, ns3, u, xs, rfl, hl1, hl2, hfit, hxl, hxr, ho, hou, hb⟩
    obtain ⟨a3, c3, rfl, -, -⟩ := ho.row
    have O30 := Own.made ho
    obtain ⟨au, cu, rfl, -, -⟩ := hou.row
    have OZ0 := OwnZ.made hou
    clear hou
    replace Oi1 := Oi1.next hb
    replace Bi1 := Bi1.next hb
    replace Os1 := Os1.next hb
    replace Bs1 := Bs1.next hb
    replace Oi2 := Oi2.next hb
    replace Bi2 := Bi2.next hb
    replace Os2 := Os2.next hb
    replace Bs2 := Bs2.next hb
    replace HB : Hid (Below w.heap.size w (w13)) := HB.out.trans (hb.mono HB.out.size)
    replace HC : Hid (CodeIn (w13).heap.size (w13) a0 len0) := codeIn_later HC.out hb
    have OZ := OZ0
    clear OZ0
    have O3 := O30
    clear ho hb O30
    have hbb : Below w13.heap.size w13 (w13.alloc (.cells #[.slice a3 ns3.length c3] 26)) := (Below.refl _ _).alloc (Nat.le_refl _) _
    replace OZ := OZ.next hbb
    replace Oi1 := Oi1.next hbb
    replace Bi1 := Bi1.next hbb
    replace Os1 := Os1.next hbb
    replace Bs1 := Bs1.next hbb
    replace Oi2 := Oi2.next hbb
    replace Bi2 := Bi2.next hbb
    replace Os2 := Os2.next hbb
    replace Bs2 := Bs2.next hbb
    replace O3 := O3.next hbb
    replace HB : Hid (Below w.heap.size w (w13.alloc (.cells #[.slice a3 ns3.length c3] 26))) := HB.out.trans (hbb.mono HB.out.size)
    replace HC : Hid (CodeIn (w13.alloc (.cells #[.slice a3 ns3.length c3] 26)).heap.size (w13.alloc (.cells #[.slice a3 ns3.length c3] 26)) a0 len0) := codeIn_later HC.out hbb
    have B3 : Var w13.heap.size (.slice a3 ns3.length c3) (w13.alloc (.cells #[.slice a3 ns3.length c3] 26)) := Var.made
    clear hbb
    obtain ⟨A3, K3, HI3, HS3, hA3⟩ : ∃ (A3 : List Nd) (K3 : Int), Hid (∀ (a : Option Addr) (cap : Nat) (w : World), AddrN a cap → RowN w.heap.size w a ns3 → RowI w.heap.size w au xs → Calls Try.prog 43 #[.agg #[.slice a ns3.length cap], .slice au xs.length cu] w fun e w' => ∃ v, e = .returned (.tuple #[.agg #[v], .int .i64 K3]) ∧ OwnC w.heap.size w' v A3 ∧ Below w.heap.size w w') ∧ Hid (∀ (a : Option Addr) (cap : Nat) (w : World), AddrN a cap → RowN w.heap.size w a ns3 → RowI w.heap.size w au xs → Calls Try.prog 52 #[.agg #[.slice a ns3.length cap], .slice au xs.length cu] w fun e w' => ∃ v, e = .returned (.tuple #[.agg #[v], .int .i64 K3]) ∧ OwnN w.heap.size w' v A3 ∧ Below w.heap.size w w') ∧ A3.length ≤ 1048576 :=
      ⟨listA ns3 xs, listK ns3 xs, fun a cap w ha hr hx => implList_any a cap ns3 au cu xs w (by omega) hfit (by omega) (fun x hx => by have := hxr x hx; omega) hx ha hr, fun a cap w ha hr hx => specList_any a cap ns3 au cu xs w (by omega) (by omega) hx ha hr, by unfold listA; split; omega; exact listF_le xs (by omega)⟩
    clear hfit hxr
    go_wp2_with fail
    generalize w13.alloc (.cells #[.slice a3 ns3.length c3] 26) = w14 at Oi1 Bi1 Os1 Bs1 Oi2 Bi2 Os2 Bs2 O3 B3 OZ HB HC ⊢
    refine (HI3.out _ _ _ O3.rowIs O3.rowAt OZ.rowAt).mono ?_
    rintro e w15 ⟨vi3, rfl, ho, hb⟩
    obtain ⟨ai3, ci3, pi3, rfl, -, ho⟩ := ho
    have Oi30 := Own.made ho
    replace Oi1 := Oi1.next hb
    replace Bi1 := Bi1.next hb
    replace Os1 := Os1.next hb
    replace Bs1 := Bs1.next hb
    replace Oi2 := Oi2.next hb
    replace Bi2 := Bi2.next hb
    replace Os2 := Os2.next hb
    replace Bs2 := Bs2.next hb
    replace O3 := O3.next hb
    replace B3 := B3.next hb
    replace OZ := OZ.next hb
    replace HB : Hid (Below w.heap.size w (w15)) := HB.out.trans (hb.mono HB.out.size)
    replace HC : Hid (CodeIn (w15).heap.size (w15) a0 len0) := codeIn_later HC.out hb
    have Oi3 := Oi30
    clear ho hb Oi30 HI3
    have hbb : Below w15.heap.size w15 (w15.alloc (.cells #[.slice ai3 A3.length ci3] 26)) := (Below.refl _ _).alloc (Nat.le_refl _) _
    replace Oi1 := Oi1.next hbb
    replace Bi1 := Bi1.next hbb
    replace Os1 := Os1.next hbb
    replace Bs1 := Bs1.next hbb
    replace Oi2 := Oi2.next hbb
    replace Bi2 := Bi2.next hbb
    replace Os2 := Os2.next hbb
    replace Bs2 := Bs2.next hbb
    replace O3 := O3.next hbb
    replace B3 := B3.next hbb
    replace OZ := OZ.next hbb
    replace Oi3 := Oi3.next hbb
    replace HB : Hid (Below w.heap.size w (w15.alloc (.cells #[.slice ai3 A3.length ci3] 26))) := HB.out.trans (hbb.mono HB.out.size)
    replace HC : Hid (CodeIn (w15.alloc (.cells #[.slice ai3 A3.length ci3] 26)).heap.size (w15.alloc (.cells #[.slice ai3 A3.length ci3] 26)) a0 len0) := codeIn_later HC.out hbb
    have Bi3 : Var w15.heap.size (.slice ai3 A3.length ci3) (w15.alloc (.cells #[.slice ai3 A3.length ci3] 26)) := Var.made
    clear hbb
    have q0 := B3.c
    go_wp2_with fail
    clear q0
    generalize w15.alloc (.cells #[.slice ai3 A3.length ci3] 26) = w16 at Oi1 Bi1 Os1 Bs1 Oi2 Bi2 Os2 Bs2 O3 B3 OZ Oi3 Bi3 HB HC ⊢
    refine (HS3.out _ _ _ O3.rowIs O3.rowAt OZ.rowAt).mono ?_
    rintro e w17 ⟨vs3, rfl, ho, hb⟩
    obtain ⟨as3, cs3, rfl, -, -⟩ := ho.row
    have Os30 := Own.made ho
    replace Oi1 := Oi1.next hb
    replace Bi1 := Bi1.next hb
    replace Os1 := Os1.next hb
    replace Bs1 := Bs1.next hb
    replace Oi2 := Oi2.next hb
    replace Bi2 := Bi2.next hb
    replace Os2 := Os2.next hb
    replace Bs2 := Bs2.next hb
    replace O3 := O3.next hb
    replace B3 := B3.next hb
    replace OZ := OZ.next hb
    replace Oi3 := Oi3.next hb
    replace Bi3 := Bi3.next hb
    replace HB : Hid (Below w.heap.size w (w17)) := HB.out.trans (hb.mono HB.out.size)
    replace HC : Hid (CodeIn (w17).heap.size (w17) a0 len0) := codeIn_later HC.out hb
    have Os3 := Os30
    clear ho hb Os30 HS3
    have hbb : Below w17.heap.size w17 (w17.alloc (.cells #[.slice as3 A3.length cs3] 26)) := (Below.refl _ _).alloc (Nat.le_refl _) _
    replace Oi1 := Oi1.next hbb
    replace Bi1 := Bi1.next hbb
    replace Os1 := Os1.next hbb
    replace Bs1 := Bs1.next hbb
    replace Oi2 := Oi2.next hbb
    replace Bi2 := Bi2.next hbb
    replace Os2 := Os2.next hbb
    replace Bs2 := Bs2.next hbb
    replace O3 := O3.next hbb
    replace B3 := B3.next hbb
    replace OZ := OZ.next hbb
    replace Oi3 := Oi3.next hbb
    replace Bi3 := Bi3.next hbb
    replace Os3 := Os3.next hbb
    replace HB : Hid (Below w.heap.size w (w17.alloc (.cells #[.slice as3 A3.length cs3] 26))) := HB.out.trans (hbb.mono HB.out.size)
    replace HC : Hid (CodeIn (w17.alloc (.cells #[.slice as3 A3.length cs3] 26)).heap.size (w17.alloc (.cells #[.slice as3 A3.length cs3] 26)) a0 len0) := codeIn_later HC.out hbb
    have Bs3 : Var w17.heap.size (.slice as3 A3.length cs3) (w17.alloc (.cells #[.slice as3 A3.length cs3] 26)) := Var.made
    clear hbb
    clear O3 B3 OZ
    go_wp2_with fail
    generalize w17.alloc (.cells #[.slice as3 A3.length cs3] 26) = w18 at Oi1 Bi1 Os1 Bs1 Oi2 Bi2 Os2 Bs2 Oi3 Bi3 Os3 Bs3 HB HC ⊢
    refine (drawParts_any _ _ _ _ HC.out).mono ?_
    rintro e w19 ⟨v4, ns4, pk, pn, rfl, hp1, ho, hb⟩
    obtain ⟨a4, c4, rfl, -, -⟩ := ho.row
    have O40 := Own.made ho
    replace Oi1 := Oi1.next hb
    replace Bi1 := Bi1.next hb
    replace Os1 := Os1.next hb
    replace Bs1 := Bs1.next hb
    replace Oi2 := Oi2.next hb
    replace Bi2 := Bi2.next hb
    replace Os2 := Os2.next hb
    replace Bs2 := Bs2.next hb
    replace Oi3 := Oi3.next hb
    replace Bi3 := Bi3.next hb
    replace Os3 := Os3.next hb
    replace Bs3 := Bs3.next hb
    replace HB : Hid (Below w.heap.size w (w19)) := HB.out.trans (hb.mono HB.out.size)
    replace HC : Hid (CodeIn (w19).heap.size (w19) a0 len0) := codeIn_later HC.out hb
    have O4 := O40
    clear ho hb O40
    have hbb : Below w19.heap.size w19 (w19.alloc (.cells #[.slice a4 ns4.length c4] 26)) := (Below.refl _ _).alloc (Nat.le_refl _) _
    replace Oi1 := Oi1.next hbb
    replace Bi1 := Bi1.next hbb
    replace Os1 := Os1.next hbb
    replace Bs1 := Bs1.next hbb
    replace Oi2 := Oi2.next hbb
    replace Bi2 := Bi2.next hbb
    replace Os2 := Os2.next hbb
    replace Bs2 := Bs2.next hbb
    replace Oi3 := Oi3.next hbb
    replace Bi3 := Bi3.next hbb
    replace Os3 := Os3.next hbb
    replace Bs3 := Bs3.next hbb
    replace O4 := O4.next hbb
    replace HB : Hid (Below w.heap.size w (w19.alloc (.cells #[.slice a4 ns4.length c4] 26))) := HB.out.trans (hbb.mono HB.out.size)
    replace HC : Hid (CodeIn (w19.alloc (.cells #[.slice a4 ns4.length c4] 26)).heap.size (w19.alloc (.cells #[.slice a4 ns4.length c4] 26)) a0 len0) := codeIn_later HC.out hbb
    have B4 : Var w19.heap.size (.slice a4 ns4.length c4) (w19.alloc (.cells #[.slice a4 ns4.length c4] 26)) := Var.made
    clear hbb
    obtain ⟨V4, K4, HI4, HS4, hV4⟩ : ∃ (V4 : List Int) (K4 : Bool), Hid (∀ (a : Option Addr) (cap : Nat) (w : World), RowN w.heap.size w a ns4 → Calls Try.prog 44 #[.agg #[.slice a ns4.length cap], .int .i64 pk, .int .i64 pn] w fun e w' => ∃ v, e = .returned (.tuple #[v, .bool K4]) ∧ OwnInt w.heap.size w' v V4 ∧ Below w.heap.size w w') ∧ Hid (∀ (a : Option Addr) (cap : Nat) (w : World), RowN w.heap.size w a ns4 → Calls Try.prog 54 #[.agg #[.slice a ns4.length cap], .int .i64 pk, .int .i64 pn] w fun e w' => ∃ v, e = .returned (.tuple #[v, .bool K4]) ∧ OwnInt w.heap.size w' v V4 ∧ Below w.heap.size w w') ∧ V4.length ≤ 1048576 :=
      ⟨partsV ns4 pk pn, partsB ns4 pk pn, fun a cap w hr => implParts_any a cap ns4 pk pn w (by omega) hr, fun a cap w hr => specParts_any a cap ns4 pk pn w (by omega) hr, by have := partsV_len ns4 pk pn; omega⟩
    go_wp2_with fail
    generalize w19.alloc (.cells #[.slice a4 ns4.length c4] 26) = w20 at Oi1 Bi1 Os1 Bs1 Oi2 Bi2 Os2 Bs2 Oi3 Bi3 Os3 Bs3 O4 B4 HB HC ⊢
    refine (HI4.out _ _ _ O4.rowAt).mono ?_
    rintro e w21 ⟨vi4, rfl, ho, hb⟩
    obtain ⟨ai4, ci4, rfl, -, -⟩ := ho.row
    have Zi40 := OwnZ.made ho
    replace Oi1 := Oi1.next hb
    replace Bi1 := Bi1.next hb
    replace Os1 := Os1.next hb
    replace Bs1 := Bs1.next hb
    replace Oi2 := Oi2.next hb
    replace Bi2 := Bi2.next hb
    replace Os2 := Os2.next hb
    replace Bs2 := Bs2.next hb
    replace Oi3 := Oi3.next hb
    replace Bi3 := Bi3.next hb
    replace Os3 := Os3.next hb
    replace Bs3 := Bs3.next hb
    replace O4 := O4.next hb
    replace B4 := B4.next hb
    replace HB : Hid (Below w.heap.size w (w21)) := HB.out.trans (hb.mono HB.out.size)
    replace HC : Hid (CodeIn (w21).heap.size (w21) a0 len0) := codeIn_later HC.out hb
    have Zi4 := Zi40
    clear ho hb Zi40 HI4
    have q0 := B4.c
    go_wp2_with fail
    clear q0
    refine (HS4.out _ _ _ O4.rowAt).mono ?_
    rintro e w22 ⟨vs4, rfl, ho, hb⟩
    obtain ⟨as4, cs4, rfl, -, -⟩ := ho.row
    have Zs40 := OwnZ.made ho
    replace Oi1 := Oi1.next hb
    replace Bi1 := Bi1.next hb
    replace Os1 := Os1.next hb
    replace Bs1 := Bs1.next hb
    replace Oi2 := Oi2.next hb
    replace Bi2 := Bi2.next hb
    replace Os2 := Os2.next hb
    replace Bs2 := Bs2.next hb
    replace Oi3 := Oi3.next hb
    replace Bi3 := Bi3.next hb
    replace Os3 := Os3.next hb
    replace Bs3 := Bs3.next hb
    replace O4 := O4.next hb
    replace B4 := B4.next hb
    replace Zi4 := Zi4.next hb
    replace HB : Hid (Below w.heap.size w (w22)) := HB.out.trans (hb.mono HB.out.size)
    replace HC : Hid (CodeIn (w22).heap.size (w22) a0 len0) := codeIn_later HC.out hb
    have Zs4 := Zs40
    clear ho hb Zs40 HS4
    clear O4 B4
    go_wp2_with fail
    refine (drawDh_any _ _ _ _ HC.out).mono ?_
    rintro e w23 ⟨v5, ns5, dx, dk, rfl, hd1, ho, hb⟩
    obtain ⟨a5, c5, rfl, -, -⟩ := ho.row
    have O50 := Own.made ho
    replace Oi1 := Oi1.next hb
    replace Bi1 := Bi1.next hb
    replace Os1 := Os1.next hb
    replace Bs1 := Bs1.next hb
    replace Oi2 := Oi2.next hb
    replace Bi2 := Bi2.next hb
    replace Os2 := Os2.next hb
    replace Bs2 := Bs2.next hb
    replace Oi3 := Oi3.next hb
    replace Bi3 := Bi3.next hb
    replace Os3 := Os3.next hb
    replace Bs3 := Bs3.next hb
    replace Zi4 := Zi4.next hb
    replace Zs4 := Zs4.next hb
    replace HB : Hid (Below w.heap.size w (w23)) := HB.out.trans (hb.mono HB.out.size)
    replace HC : Hid (CodeIn (w23).heap.size (w23) a0 len0) := codeIn_later HC.out hb
    have O5 := O50
    clear ho hb O50
    have hbb : Below w23.heap.size w23 (w23.alloc (.cells #[.slice a5 ns5.length c5] 26)) := (Below.refl _ _).alloc (Nat.le_refl _) _
    replace Oi1 := Oi1.next hbb
    replace Bi1 := Bi1.next hbb
    replace Os1 := Os1.next hbb
    replace Bs1 := Bs1.next hbb
    replace Oi2 := Oi2.next hbb
    replace Bi2 := Bi2.next hbb
    replace Os2 := Os2.next hbb
    replace Bs2 := Bs2.next hbb
    replace Oi3 := Oi3.next hbb
    replace Bi3 := Bi3.next hbb
    replace Os3 := Os3.next hbb
    replace Bs3 := Bs3.next hbb
    replace Zi4 := Zi4.next hbb
    replace Zs4 := Zs4.next hbb
    replace O5 := O5.next hbb
    replace HB : Hid (Below w.heap.size w (w23.alloc (.cells #[.slice a5 ns5.length c5] 26))) := HB.out.trans (hbb.mono HB.out.size)
    replace HC : Hid (CodeIn (w23.alloc (.cells #[.slice a5 ns5.length c5] 26)).heap.size (w23.alloc (.cells #[.slice a5 ns5.length c5] 26)) a0 len0) := codeIn_later HC.out hbb
    have B5 : Var w23.heap.size (.slice a5 ns5.length c5) (w23.alloc (.cells #[.slice a5 ns5.length c5] 26)) := Var.made
    clear hbb
    obtain ⟨A5, K5, HI5, HS5, hA5⟩ : ∃ (A5 : List Nd) (K5 : Int), Hid (∀ (a : Option Addr) (cap : Nat) (w : World), AddrN a cap → RowN w.heap.size w a ns5 → Calls Try.prog 42 #[.agg #[.slice a ns5.length cap], .int .i64 dx, .int .i64 dk] w fun e w' => ∃ v, e = .returned (.tuple #[.agg #[v], .int .i64 K5]) ∧ OwnN w.heap.size w' v A5 ∧ Below w.heap.size w w') ∧ Hid (∀ (a : Option Addr) (cap : Nat) (w : World), AddrN a cap → RowN w.heap.size w a ns5 → Calls Try.prog 56 #[.agg #[.slice a ns5.length cap], .int .i64 dx, .int .i64 dk] w fun e w' => ∃ v, e = .returned (.tuple #[.agg #[v], .int .i64 K5]) ∧ OwnN w.heap.size w' v A5 ∧ Below w.heap.size w w') ∧ A5.length ≤ 1048576 :=
      ⟨dhA ns5 dx dk, dhK ns5 dx dk, fun a cap w ha hr => implDh_any a cap ns5 dx dk w (by omega) ha hr, fun a cap w ha hr => specDh_any a cap ns5 dx dk w (by omega) ha hr, by unfold dhA; split; exact putA_le2 (by omega); omega⟩
    go_wp2_with fail
    generalize w23.alloc (.cells #[.slice a5 ns5.length c5] 26) = w24 at Oi1 Bi1 Os1 Bs1 Oi2 Bi2 Os2 Bs2 Oi3 Bi3 Os3 Bs3 Zi4 Zs4 O5 B5 HB HC ⊢
    refine (HI5.out _ _ _ O5.rowIs O5.rowAt).mono ?_
    rintro e w25 ⟨vi5, rfl, ho, hb⟩
    obtain ⟨ai5, ci5, rfl, -, -⟩ := ho.row
    have Oi50 := Own.made ho
    replace Oi1 := Oi1.next hb
    replace Bi1 := Bi1.next hb
    replace Os1 := Os1.next hb
    replace Bs1 := Bs1.next hb
    replace Oi2 := Oi2.next hb
    replace Bi2 := Bi2.next hb
    replace Os2 := Os2.next hb
    replace Bs2 := Bs2.next hb
    replace Oi3 := Oi3.next hb
    replace Bi3 := Bi3.next hb
    replace Os3 := Os3.next hb
    replace Bs3 := Bs3.next hb
    replace Zi4 := Zi4.next hb
    replace Zs4 := Zs4.next hb
    replace O5 := O5.next hb
    replace B5 := B5.next hb
    replace HB : Hid (Below w.heap.size w (w25)) := HB.out.trans (hb.mono HB.out.size)
    replace HC : Hid (CodeIn (w25).heap.size (w25) a0 len0) := codeIn_later HC.out hb
    have Oi5 := Oi50
    clear ho hb Oi50 HI5
    have hbb : Below w25.heap.size w25 (w25.alloc (.cells #[.slice ai5 A5.length ci5] 26)) := (Below.refl _ _).alloc (Nat.le_refl _) _
    replace Oi1 := Oi1.next hbb
    replace Bi1 := Bi1.next hbb
    replace Os1 := Os1.next hbb
    replace Bs1 := Bs1.next hbb
    replace Oi2 := Oi2.next hbb
    replace Bi2 := Bi2.next hbb
    replace Os2 := Os2.next hbb
    replace Bs2 := Bs2.next hbb
    replace Oi3 := Oi3.next hbb
    replace Bi3 := Bi3.next hbb
    replace Os3 := Os3.next hbb
    replace Bs3 := Bs3.next hbb
    replace Zi4 := Zi4.next hbb
    replace Zs4 := Zs4.next hbb
    replace O5 := O5.next hbb
    replace B5 := B5.next hbb
    replace Oi5 := Oi5.next hbb
    replace HB : Hid (Below w.heap.size w (w25.alloc (.cells #[.slice ai5 A5.length ci5] 26))) := HB.out.trans (hbb.mono HB.out.size)
    replace HC : Hid (CodeIn (w25.alloc (.cells #[.slice ai5 A5.length ci5] 26)).heap.size (w25.alloc (.cells #[.slice ai5 A5.length ci5] 26)) a0 len0) := codeIn_later HC.out hbb
    have Bi5 : Var w25.heap.size (.slice ai5 A5.length ci5) (w25.alloc (.cells #[.slice ai5 A5.length ci5] 26)) := Var.made
    clear hbb
    have q0 := B5.c
    go_wp2_with fail
    clear q0
    generalize w25.alloc (.cells #[.slice ai5 A5.length ci5] 26) = w26 at Oi1 Bi1 Os1 Bs1 Oi2 Bi2 Os2 Bs2 Oi3 Bi3 Os3 Bs3 Zi4 Zs4 O5 B5 Oi5 Bi5 HB HC ⊢
    refine (HS5.out _ _ _ O5.rowIs O5.rowAt).mono ?_
    rintro e w27 ⟨vs5, rfl, ho, hb⟩
    obtain ⟨as5, cs5, rfl, -, -⟩ := ho.row
    have Os50 := Own.made ho
    replace Oi1 := Oi1.next hb
    replace Bi1 := Bi1.next hb
    replace Os1 := Os1.next hb
    replace Bs1 := Bs1.next hb
    replace Oi2 := Oi2.next hb
    replace Bi2 := Bi2.next hb
    replace Os2 := Os2.next hb
    replace Bs2 := Bs2.next hb
    replace Oi3 := Oi3.next hb
    replace Bi3 := Bi3.next hb
    replace Os3 := Os3.next hb
    replace Bs3 := Bs3.next hb
    replace Zi4 := Zi4.next hb
    replace Zs4 := Zs4.next hb
    replace O5 := O5.next hb
    replace B5 := B5.next hb
    replace Oi5 := Oi5.next hb
    replace Bi5 := Bi5.next hb
    replace HB : Hid (Below w.heap.size w (w27)) := HB.out.trans (hb.mono HB.out.size)
    replace HC : Hid (CodeIn (w27).heap.size (w27) a0 len0) := codeIn_later HC.out hb
    have Os5 := Os50
    clear ho hb Os50 HS5
    have hbb : Below w27.heap.size w27 (w27.alloc (.cells #[.slice as5 A5.length cs5] 26)) := (Below.refl _ _).alloc (Nat.le_refl _) _
    replace Oi1 := Oi1.next hbb
    replace Bi1 := Bi1.next hbb
    replace Os1 := Os1.next hbb
    replace Bs1 := Bs1.next hbb
    replace Oi2 := Oi2.next hbb
    replace Bi2 := Bi2.next hbb
    replace Os2 := Os2.next hbb
    replace Bs2 := Bs2.next hbb
    replace Oi3 := Oi3.next hbb
    replace Bi3 := Bi3.next hbb
    replace Os3 := Os3.next hbb
    replace Bs3 := Bs3.next hbb
    replace Zi4 := Zi4.next hbb
    replace Zs4 := Zs4.next hbb
    replace O5 := O5.next hbb
    replace B5 := B5.next hbb
    replace Oi5 := Oi5.next hbb
    replace Bi5 := Bi5.next hbb
    replace Os5 := Os5.next hbb
    replace HB : Hid (Below w.heap.size w (w27.alloc (.cells #[.slice as5 A5.length cs5] 26))) := HB.out.trans (hbb.mono HB.out.size)
    replace HC : Hid (CodeIn (w27.alloc (.cells #[.slice as5 A5.length cs5] 26)).heap.size (w27.alloc (.cells #[.slice as5 A5.length cs5] 26)) a0 len0) := codeIn_later HC.out hbb
    have Bs5 : Var w27.heap.size (.slice as5 A5.length cs5) (w27.alloc (.cells #[.slice as5 A5.length cs5] 26)) := Var.made
    clear hbb
    clear O5 B5
    go_wp2_with fail
    generalize w27.alloc (.cells #[.slice as5 A5.length cs5] 26) = w28 at Oi1 Bi1 Os1 Bs1 Oi2 Bi2 Os2 Bs2 Oi3 Bi3 Os3 Bs3 Zi4 Zs4 Oi5 Bi5 Os5 Bs5 HB HC ⊢
    refine (drawNum_any _ _ _ _ HC.out).mono ?_
    rintro e w29 ⟨v6, ns6, nk, rfl, hk1, hk2, -, -, -, ho, hb⟩
    obtain ⟨a6, c6, rfl, -, -⟩ := ho.row
    have O60 := Own.made ho
    replace Oi1 := Oi1.next hb
    replace Bi1 := Bi1.next hb
    replace Os1 := Os1.next hb
    replace Bs1 := Bs1.next hb
    replace Oi2 := Oi2.next hb
    replace Bi2 := Bi2.next hb
    replace Os2 := Os2.next hb
    replace Bs2 := Bs2.next hb
    replace Oi3 := Oi3.next hb
    replace Bi3 := Bi3.next hb
    replace Os3 := Os3.next hb
    replace Bs3 := Bs3.next hb
    replace Zi4 := Zi4.next hb
    replace Zs4 := Zs4.next hb
    replace Oi5 := Oi5.next hb
    replace Bi5 := Bi5.next hb
    replace Os5 := Os5.next hb
    replace Bs5 := Bs5.next hb
    replace HB : Hid (Below w.heap.size w (w29)) := HB.out.trans (hb.mono HB.out.size)
    replace HC : Hid (CodeIn (w29).heap.size (w29) a0 len0) := codeIn_later HC.out hb
    have O6 := O60
    clear ho hb O60
    have hbb : Below w29.heap.size w29 (w29.alloc (.cells #[.slice a6 ns6.length c6] 26)) := (Below.refl _ _).alloc (Nat.le_refl _) _
    replace Oi1 := Oi1.next hbb
    replace Bi1 := Bi1.next hbb
    replace Os1 := Os1.next hbb
    replace Bs1 := Bs1.next hbb
    replace Oi2 := Oi2.next hbb
    replace Bi2 := Bi2.next hbb
    replace Os2 := Os2.next hbb
    replace Bs2 := Bs2.next hbb
    replace Oi3 := Oi3.next hbb
    replace Bi3 := Bi3.next hbb
    replace Os3 := Os3.next hbb
    replace Bs3 := Bs3.next hbb
    replace Zi4 := Zi4.next hbb
    replace Zs4 := Zs4.next hbb
    replace Oi5 := Oi5.next hbb
    replace Bi5 := Bi5.next hbb
    replace Os5 := Os5.next hbb
    replace Bs5 := Bs5.next hbb
    replace O6 := O6.next hbb
    replace HB : Hid (Below w.heap.size w (w29.alloc (.cells #[.slice a6 ns6.length c6] 26))) := HB.out.trans (hbb.mono HB.out.size)
    replace HC : Hid (CodeIn (w29.alloc (.cells #[.slice a6 ns6.length c6] 26)).heap.size (w29.alloc (.cells #[.slice a6 ns6.length c6] 26)) a0 len0) := codeIn_later HC.out hbb
    have B6 : Var w29.heap.size (.slice a6 ns6.length c6) (w29.alloc (.cells #[.slice a6 ns6.length c6] 26)) := Var.made
    clear hbb
    obtain ⟨N6, K6, HI6, HS6⟩ : ∃ (N6 : Int) (K6 : Bool), Hid (∀ (a : Option Addr) (cap : Nat) (w : World), RowN w.heap.size w a ns6 → Calls Try.prog 46 #[.agg #[.slice a ns6.length cap], .int .i64 nk] w fun e w' => e = .returned (.tuple #[.int .i64 N6, .bool K6]) ∧ Below w.heap.size w w') ∧ Hid (∀ (a : Option Addr) (cap : Nat) (w : World), RowN w.heap.size w a ns6 → Calls Try.prog 58 #[.agg #[.slice a ns6.length cap], .int .i64 nk] w fun e w' => e = .returned (.tuple #[.int .i64 N6, .bool K6]) ∧ Below w.heap.size w w') := ⟨numV ns6 nk, isK ns6 nk 1, fun a cap w hr => implNum_any a cap ns6 nk w (by omega) hr, fun a cap w hr => specNum_any a cap ns6 nk w (by omega) hr⟩
    go_wp2_with fail
    generalize w29.alloc (.cells #[.slice a6 ns6.length c6] 26) = w30 at Oi1 Bi1 Os1 Bs1 Oi2 Bi2 Os2 Bs2 Oi3 Bi3 Os3 Bs3 Zi4 Zs4 Oi5 Bi5 Os5 Bs5 O6 B6 HB HC ⊢
    refine (HI6.out _ _ _ O6.rowAt).mono ?_
    rintro e w31 ⟨rfl, hb⟩
    replace Oi1 := Oi1.next hb
    replace Bi1 := Bi1.next hb
    replace Os1 := Os1.next hb
    replace Bs1 := Bs1.next hb
    replace Oi2 := Oi2.next hb
    replace Bi2 := Bi2.next hb
    replace Os2 := Os2.next hb
    replace Bs2 := Bs2.next hb
    replace Oi3 := Oi3.next hb
    replace Bi3 := Bi3.next hb
    replace Os3 := Os3.next hb
    replace Bs3 := Bs3.next hb
    replace Zi4 := Zi4.next hb
    replace Zs4 := Zs4.next hb
    replace Oi5 := Oi5.next hb
    replace Bi5 := Bi5.next hb
    replace Os5 := Os5.next hb
    replace Bs5 := Bs5.next hb
    replace O6 := O6.next hb
    replace B6 := B6.next hb
    replace HB : Hid (Below w.heap.size w (w31)) := HB.out.trans (hb.mono HB.out.size)
    replace HC : Hid (CodeIn (w31).heap.size (w31) a0 len0) := codeIn_later HC.out hb
    clear hb HI6
    have q0 := B6.c
    go_wp2_with fail
    clear q0
    refine (HS6.out _ _ _ O6.rowAt).mono ?_
    rintro e w32 ⟨rfl, hb⟩
    replace Oi1 := Oi1.next hb
    replace Bi1 := Bi1.next hb
    replace Os1 := Os1.next hb
    replace Bs1 := Bs1.next hb
    replace Oi2 := Oi2.next hb
    replace Bi2 := Bi2.next hb
    replace Os2 := Os2.next hb
    replace Bs2 := Bs2.next hb
    replace Oi3 := Oi3.next hb
    replace Bi3 := Bi3.next hb
    replace Os3 := Os3.next hb
    replace Bs3 := Bs3.next hb
    replace Zi4 := Zi4.next hb
    replace Zs4 := Zs4.next hb
    replace Oi5 := Oi5.next hb
    replace Bi5 := Bi5.next hb
    replace Os5 := Os5.next hb
    replace Bs5 := Bs5.next hb
    replace O6 := O6.next hb
    replace B6 := B6.next hb
    replace HB : Hid (Below w.heap.size w (w32)) := HB.out.trans (hb.mono HB.out.size)
    replace HC : Hid (CodeIn (w32).heap.size (w32) a0 len0) := codeIn_later HC.out hb
    clear hb HS6
    clear O6 B6
    clear HC
    have q0 := Bi1.c
    have q1 := Bs1.c
    go_wp2_with fail
    clear q0 q1
    refine (sameA_same ai1 as1 ci1 cs1 A1 _ (by omega) Oi1.rowAt Os1.rowAt).mono ?_
    rintro e w33 ⟨rfl, hb⟩
    clear Oi1 Os1 Bi1 Bs1
    replace Oi2 := Oi2.next hb
    replace Bi2 := Bi2.next hb
    replace Os2 := Os2.next hb
    replace Bs2 := Bs2.next hb
    replace Oi3 := Oi3.next hb
    replace Bi3 := Bi3.next hb
    replace Os3 := Os3.next hb
    replace Bs3 := Bs3.next hb
    replace Zi4 := Zi4.next hb
    replace Zs4 := Zs4.next hb
    replace Oi5 := Oi5.next hb
    replace Bi5 := Bi5.next hb
    replace Os5 := Os5.next hb
    replace Bs5 := Bs5.next hb
    replace HB : Hid (Below w.heap.size w w33) := HB.out.trans (hb.mono HB.out.size)
    clear hb
    have q0 := Bi2.c
    have q1 := Bs2.c
    go_wp2_with fail
    clear q0 q1
    refine (sameA_same ai2 as2 ci2 cs2 A2 _ (by omega) Oi2.rowAt Os2.rowAt).mono ?_
    rintro e w34 ⟨rfl, hb⟩
    clear Oi2 Os2 Bi2 Bs2
    replace Oi3 := Oi3.next hb
    replace Bi3 := Bi3.next hb
    replace Os3 := Os3.next hb
    replace Bs3 := Bs3.next hb
    replace Zi4 := Zi4.next hb
    replace Zs4 := Zs4.next hb
    replace Oi5 := Oi5.next hb
    replace Bi5 := Bi5.next hb
    replace Os5 := Os5.next hb
    replace Bs5 := Bs5.next hb
    replace HB : Hid (Below w.heap.size w w34) := HB.out.trans (hb.mono HB.out.size)
    clear hb
    have q0 := Bi3.c
    have q1 := Bs3.c
    go_wp2_with fail
    clear q0 q1
    refine (sameA_same ai3 as3 ci3 cs3 A3 _ (by omega) Oi3.rowAt Os3.rowAt).mono ?_
    rintro e w35 ⟨rfl, hb⟩
    clear Oi3 Os3 Bi3 Bs3
    replace Zi4 := Zi4.next hb
    replace Zs4 := Zs4.next hb
    replace Oi5 := Oi5.next hb
    replace Bi5 := Bi5.next hb
    replace Os5 := Os5.next hb
    replace Bs5 := Bs5.next hb
    replace HB : Hid (Below w.heap.size w w35) := HB.out.trans (hb.mono HB.out.size)
    clear hb
    go_wp2_with fail
    refine (sameI_same ai4 as4 ci4 cs4 V4 _ (by omega) Zi4.rowAt Zs4.rowAt).mono ?_
    rintro e w36 ⟨rfl, hb⟩
    clear Zi4 Zs4
    replace Oi5 := Oi5.next hb
    replace Bi5 := Bi5.next hb
    replace Os5 := Os5.next hb
    replace Bs5 := Bs5.next hb
    replace HB : Hid (Below w.heap.size w w36) := HB.out.trans (hb.mono HB.out.size)
    clear hb
    have q0 := Bi5.c
    have q1 := Bs5.c
    go_wp2_with fail
    clear q0 q1
    refine (sameA_same ai5 as5 ci5 cs5 A5 _ (by omega) Oi5.rowAt Os5.rowAt).mono ?_
    rintro e w37 ⟨rfl, hb⟩
    clear Oi5 Os5 Bi5 Bs5
    replace HB : Hid (Below w.heap.size w w37) := HB.out.trans (hb.mono HB.out.size)
    clear hb
    go_wp2
    go_ret
    exact ⟨rfl, HB.out⟩
  · have hd : decide ((1048576 : Int) < (len0 : Int)) = true := by simp; omega
    clear hcode
    go_enter Try.func8, Try.ntmps8
    go_wp2_with fail
    refine (big_any _ _ _ _).mono ?_
    rintro e w1 ⟨rfl, rfl⟩
    rw [hd]
    go_wp2
    go_ret
    exact ⟨rfl, Below.refl _ _⟩

theorem laidOut : laidOutB Try.prog = true := by kernel_rfl
set_option maxRecDepth 100000 in
theorem lifted (os : Os) (started : os.Started) (H : Type) (enc : TypeId × Value → H) :
    ReturnsInHanded {} Try.checked os 8 .any (Rows.fnMakesToldSpec.pre6 enc Try.prog Try.f8 Rows.fnMakesToldRow.domain false) (Rows.fnMakesToldSpec.post enc Try.prog Try.f8 false true false false) := by
  refine returnsInHanded_of_change (C := Try.checked) own started (by kernel_rfl) Try.func8
    (ChangeSpec.witness6 (enc := enc) (C := Try.checked) false ⟨#[], #[.slice none 0 0], []⟩ 8 (by kernel_rfl) (by kernel_rfl) (by kernel_rfl) (by kernel_rfl)) ?_
  intro W base args ds gs before hval0 hW hcnd _
  have hval : ∀ (j : Nat) t v, Try.f8.params[j]? = some t → args[j]? = some v → Value.okWide Try.prog W .any base t v := hval0
  have hW' := hW
  obtain ⟨p, q, hA0, hV, rfl, hfz, hnd⟩ := hW
  have hA : DataW.TrodAll enc Try.prog W 0 (fun _ => true) true Try.f8.params.toList args.toList ds p := hA0
  rw [Try.params8] at hA hval
  obtain ⟨v0, vs0, d0, ds0, p0, q0, hargs, rfl, rfl, h0, r0⟩ := trodAll_cons hA
  obtain ⟨rfl, rfl, rfl⟩ := trodAll_nil r0
  obtain rfl : args = #[v0] := by cases args; simp_all
  obtain ⟨rfl, rfl⟩ := trodVars_none hV
  obtain ⟨a0, len0, cap0, rfl⟩ := okWide_slice Try.underlying22 (hval 0 22 v0 rfl rfl)
  have k0 := h0
  have lt0 : ∀ x ∈ p0, x.block < W.heap.size := by obtain ⟨m, hm⟩ := k0; exact DataW.trod_lt m _ _ _ hm
  clear hA0 hval0
  refine (walk a0 len0 cap0  W (code_of h0)).mono fun e W' ⟨he, bel⟩ => ?_
  subst he
  exact ⟨_, rfl, _, _, _, [], _, [], hW', trodAll_mk1 (shut_bool Try.underlying4 _), (trodAll_cons_mk (Below.trod laidOut (by kernel_rfl) (of_decide_eq_true (by kernel_rfl)) k0 bel lt0) trodAll_mk0), rfl, bel.frame _, fun h => by cases h⟩

theorem over : Rows.fnMakesToldRow.holds Try.pinned (OpenSpec.ofChange Rows.fnMakesToldSpec) :=
  OpenClaim.holds_of_wide 8 Try.f8 rfl rfl rfl rfl rfl rfl rfl ⟨rfl, rfl, rfl, rfl, rfl⟩ rfl rfl rfl rfl rfl (by kernel_rfl) Try.func8 (by kernel_rfl)
    (of_decide_eq_true (by kernel_rfl)) (by unfold Func.isWrapper; first | (rw [if_pos (by decide +kernel)]; kernel_rfl) | (rw [if_neg (by decide +kernel)]; exact ⟨rfl, rfl⟩))
    (fun os started H enc _ => lifted os started H enc)
end fnMakesTold

theorem fnMakesTold_holds : Rows.FnMakesToldSaid := fnMakesTold.over
#print axioms fnMakesTold_holds
end Go.Proofs.Ytodpfdjlhbjlgaa
