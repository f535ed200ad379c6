/- For every code: what is made of drawn terms opens, is signed, meets and parts as it was made, and the arena stays right. No condition. -/
import Derived.Test.YtodpfdjlhbjlgaaRows
import Derived.Test.YtodpfdjlhbjlgaaDrawRT
import Derived.Test.YtodpfdjlhbjlgaaPlainFM
import Derived.Test.YtodpfdjlhbjlgaaPutList
import Derived.Test.YtodpfdjlhbjlgaaMakeDhI
import Derived.Test.YtodpfdjlhbjlgaaMakePartsI
import Derived.Test.YtodpfdjlhbjlgaaMakeSign
import Derived.Test.YtodpfdjlhbjlgaaLawInts
import Derived.Test.YtodpfdjlhbjlgaaLawArena2
import Derived.Test.YtodpfdjlhbjlgaaLawKeep
import Derived.Test.YtodpfdjlhbjlgaaHeldQ
import Derived.WalkKit
import Derived.ProofKit
import Derived.OpenShut
import Derived.ShutString
import Derived.ChangeOld
import Derived.PlainAid
import Derived.Deep.RegionHeld3
namespace Go.Proofs.Ytodpfdjlhbjlgaa
namespace fnMakes
open Go.ChangeShapes Go.WideShapes Go.ChangeAt Go.RowKit Go.PlainAid
open Go.ChangeMaps (open_string shut_string)
set_option linter.unusedVariables false

theorem own : ownKnob Try.prog.godebug = none := by kernel_rfl

set_option maxHeartbeats 6400000 in
set_option maxRecDepth 20000 in
theorem walk (a0 : Option Addr) (len0 cap0 : Nat) (w : World) (hcode : len0 ≤ 1048576 → CodeIn w.heap.size w a0 len0) :
    Calls Try.prog 7 #[.slice a0 len0 cap0] w fun e w' => e = .returned (.bool true) ∧ Below w.heap.size w w' := by
  by_cases hbig : len0 ≤ 1048576
  · have HC : Hid (CodeIn w.heap.size w a0 len0) := hcode hbig
    have HB : Hid (Below w.heap.size w w) := Below.refl _ _
    have hd : decide ((1048576 : Int) < (len0 : Int)) = false := by simp; omega
    clear hcode hbig
    go_enter Try.func7, Try.ntmps7
    go_wp2_with fail
    refine (big_any _ _ _ _).mono ?_
    rintro e wz ⟨rfl, rfl⟩
    rw [hd]
    clear hd
    go_wp2_with fail
    refine (drawArena_any _ _ _ _ HC.out).mono ?_
    rintro e w1 ⟨v1, ns, rfl, hn1, hn2, hall, ho1, hb1⟩
    have HALL : Hid (allFrom ns ns 0 = true) := hall
    clear hall
    obtain ⟨a1, c1, rfl, -, -⟩ := ho1.row
    have OA := Own.made ho1
    replace HB : Hid (Below w.heap.size w w1) := HB.out.trans (hb1.mono HB.out.size)
    replace HC : Hid (CodeIn w1.heap.size w1 a0 len0) := codeIn_later HC.out hb1
    have hgA : w.heap.size ≤ w1.heap.size := HB.out.size
    clear ho1 hb1
    have hbb : Below w1.heap.size w1 (w1.alloc (.cells #[.slice a1 ns.length c1] 26)) := (Below.refl _ _).alloc (Nat.le_refl _) _
    have BA : Box w1.heap.size (.slice a1 ns.length c1) (w1.alloc (.cells #[.slice a1 ns.length c1] 26)) := Box.made
    replace OA := OA.next hbb
    replace HB : Hid (Below w.heap.size w (w1.alloc (.cells #[.slice a1 ns.length c1] 26))) := HB.out.trans (hbb.mono HB.out.size)
    replace HC : Hid (CodeIn (w1.alloc (.cells #[.slice a1 ns.length c1] 26)).heap.size (w1.alloc (.cells #[.slice a1 ns.length c1] 26)) a0 len0) := codeIn_later HC.out hbb
    clear hbb
    go_wp2_with fail
    generalize w1.alloc (.cells #[.slice a1 ns.length c1] 26) = w2 at BA OA HB HC ⊢
    refine (places_any a0 len0 cap0 w2 HC.out).mono ?_
    rintro e w3 ⟨gp, cp, xs, rfl, hxl, hxb, hg1, hg2, hcl, hb⟩
    have PL : Pl gp (xs.getD 0 0) (xs.getD 1 0) (xs.getD 2 0) w3 := ⟨hg2, hcl 0 (by omega), hcl 1 (by omega), hcl 2 (by omega)⟩
    have hgne : gp ≠ w1.heap.size := by have := BA.lt; omega
    replace BA := BA.next hb
    replace OA := OA.next hb
    replace HB : Hid (Below w.heap.size w w3) := HB.out.trans (hb.mono HB.out.size)
    clear hb hcl hg1 hg2 hxb hxl HC
    generalize xs.getD 0 0 = p0 at PL
    generalize xs.getD 1 0 = p1 at PL
    generalize xs.getD 2 0 = p2 at PL
    clear xs
    have hnz : ¬ (ns.length : Int) = 0 := by omega
    obtain ⟨x, hx0, hx1⟩ : ∃ x : Nat, Int.tmod (p0 : Int) (ns.length : Int) = (x : Int) ∧ x < ns.length := ⟨p0 % ns.length, by rw [Int.tmod_eq_emod_of_nonneg (by omega)]; simp, Nat.mod_lt _ (by omega)⟩
    obtain ⟨y, hy0, hy1⟩ : ∃ y : Nat, Int.tmod (p1 : Int) (ns.length : Int) = (y : Int) ∧ y < ns.length := ⟨p1 % ns.length, by rw [Int.tmod_eq_emod_of_nonneg (by omega)]; simp, Nat.mod_lt _ (by omega)⟩
    obtain ⟨t, ht0, ht1⟩ : ∃ t : Nat, Int.tmod (p2 : Int) 1000 = (t : Int) ∧ t < 1000 := ⟨p2 % 1000, by rw [Int.tmod_eq_emod_of_nonneg (by omega)]; simp, Nat.mod_lt _ (by omega)⟩
    have ALLns := HALL.out
    obtain ⟨b1, s, HMs, HQs⟩ : ∃ (b1 : List Nd) (s : Int), Hid (∀ (a : Option Addr) (cap : Nat) (w : World), AddrN a cap → RowN w.heap.size w a ns → Calls Try.prog 39 #[.agg #[.slice a ns.length cap], .int .i64 5, .int .i64 (x : Int), .int .i64 (y : Int)] w fun e w' => ∃ v, e = .returned (.tuple #[.agg #[v], .int .i64 s]) ∧ OwnN w.heap.size w' v b1 ∧ Below w.heap.size w w') ∧ Hid (Put1 ns b1 s ⟨5, 0, (x : Int), (y : Int)⟩) :=
      ⟨makeA ns 5 (x : Int) (y : Int), makeK ns 5 (x : Int) (y : Int), fun a cap w ha hr => implMake_any a cap ns 5 (x : Int) (y : Int) w (by omega) ha hr, by
        show Put1 _ _ _ _
        rw [(mk_two (by decide) (by decide) (by decide)).1, (mk_two (by decide) (by decide) (by decide)).2]
        exact put1 ALLns (two_ok (by decide) (by decide) (by omega) (by omega)) (by omega)⟩
    have ALLb1 := HQs.out.all
    have k0s := HQs.out.k0
    have k1s := HQs.out.k1
    have lb1 := HQs.out.len
    have ib1 := HQs.out.pre.length_le
    have hop := fm_open ALLb1 k0s k1s HQs.out.nd
    have HO1 : Hid (∀ (a : Option Addr) (cap : Nat) (w : World), RowN w.heap.size w a b1 → Calls Try.prog 40 #[.agg #[.slice a b1.length cap], .int .i64 (x : Int), .int .i64 s] w fun e w' => e = .returned (.tuple #[.int .i64 (y : Int), .bool true]) ∧ Below w.heap.size w w') := fun a cap w hr => by have := implOpen_any a cap b1 (x : Int) s w (by omega) hr; rw [hop.1, hop.2.1] at this; exact this
    obtain ⟨o2, HO2⟩ : ∃ o2 : Int, Hid (∀ (a : Option Addr) (cap : Nat) (w : World), RowN w.heap.size w a b1 → Calls Try.prog 40 #[.agg #[.slice a b1.length cap], .int .i64 ((x : Int) + 1), .int .i64 s] w fun e w' => e = .returned (.tuple #[.int .i64 o2, .bool false]) ∧ Below w.heap.size w w') := ⟨openV b1 ((x : Int) + 1) s, fun a cap w hr => by have := implOpen_any a cap b1 ((x : Int) + 1) s w (by omega) hr; rw [hop.2.2] at this; exact this⟩
    clear hop
    obtain ⟨b2, g, HMg, HQg⟩ : ∃ (b2 : List Nd) (g : Int), Hid (∀ (a : Option Addr) (cap : Nat) (w : World), AddrN a cap → RowN w.heap.size w a b1 → Calls Try.prog 39 #[.agg #[.slice a b1.length cap], .int .i64 8, .int .i64 (x : Int), .int .i64 (y : Int)] w fun e w' => ∃ v, e = .returned (.tuple #[.agg #[v], .int .i64 g]) ∧ OwnN w.heap.size w' v b2 ∧ Below w.heap.size w w') ∧ Hid (Put1 b1 b2 g ⟨8, 0, (x : Int), (y : Int)⟩) :=
      ⟨makeA b1 8 (x : Int) (y : Int), makeK b1 8 (x : Int) (y : Int), fun a cap w ha hr => implMake_any a cap b1 8 (x : Int) (y : Int) w (by omega) ha hr, by
        show Put1 _ _ _ _
        rw [(mk_two (by decide) (by decide) (by decide)).1, (mk_two (by decide) (by decide) (by decide)).2]
        exact put1 ALLb1 (two_ok (by decide) (by decide) (by omega) (by omega)) (by omega)⟩
    have ALLb2 := HQg.out.all
    have k0g := HQg.out.k0
    have k1g := HQg.out.k1
    have lb2 := HQg.out.len
    have ib2 := HQg.out.pre.length_le
    obtain ⟨b3, u, HMu, HQu⟩ : ∃ (b3 : List Nd) (u : Int), Hid (∀ (a : Option Addr) (cap : Nat) (w : World), AddrN a cap → RowN w.heap.size w a b2 → Calls Try.prog 39 #[.agg #[.slice a b2.length cap], .int .i64 6, .int .i64 (x : Int), .int .i64 0] w fun e w' => ∃ v, e = .returned (.tuple #[.agg #[v], .int .i64 u]) ∧ OwnN w.heap.size w' v b3 ∧ Below w.heap.size w w') ∧ Hid (Put1 b2 b3 u ⟨6, 0, (x : Int), 0⟩) :=
      ⟨makeA b2 6 (x : Int) 0, makeK b2 6 (x : Int) 0, fun a cap w ha hr => implMake_any a cap b2 6 (x : Int) 0 w (by omega) ha hr, by
        show Put1 _ _ _ _
        rw [(mk_one (by decide) (by decide) (by decide)).1, (mk_one (by decide) (by decide) (by decide)).2]
        exact put1 ALLb2 (one_ok (by decide) (by decide) (by omega)) (by omega)⟩
    have ALLb3 := HQu.out.all
    have k0u := HQu.out.k0
    have k1u := HQu.out.k1
    have lb3 := HQu.out.len
    have ib3 := HQu.out.pre.length_le
    obtain ⟨b4, j, HMj, HQj⟩ : ∃ (b4 : List Nd) (j : Int), Hid (∀ (a : Option Addr) (cap : Nat) (w : World), AddrN a cap → RowN w.heap.size w a b3 → Calls Try.prog 39 #[.agg #[.slice a b3.length cap], .int .i64 6, .int .i64 (y : Int), .int .i64 0] w fun e w' => ∃ v, e = .returned (.tuple #[.agg #[v], .int .i64 j]) ∧ OwnN w.heap.size w' v b4 ∧ Below w.heap.size w w') ∧ Hid (Put1 b3 b4 j ⟨6, 0, (y : Int), 0⟩) :=
      ⟨makeA b3 6 (y : Int) 0, makeK b3 6 (y : Int) 0, fun a cap w ha hr => implMake_any a cap b3 6 (y : Int) 0 w (by omega) ha hr, by
        show Put1 _ _ _ _
        rw [(mk_one (by decide) (by decide) (by decide)).1, (mk_one (by decide) (by decide) (by decide)).2]
        exact put1 ALLb3 (one_ok (by decide) (by decide) (by omega)) (by omega)⟩
    have ALLb4 := HQj.out.all
    have k0j := HQj.out.k0
    have k1j := HQj.out.k1
    have lb4 := HQj.out.len
    have ib4 := HQj.out.pre.length_le
    have nu : ndAt b4 u = ⟨6, 0, (x : Int), 0⟩ := (ndAt_pre HQj.out.pre k0u k1u).trans HQu.out.nd
    have ng : ndAt b4 g = ⟨8, 0, (x : Int), (y : Int)⟩ := (ndAt_pre (HQu.out.pre.trans HQj.out.pre) k0g k1g).trans HQg.out.nd
    have hsg := fm_sign ALLb4 k0u (by omega) k0j k1j k0g (by omega) nu HQj.out.nd ng
    have HS1 : Hid (∀ (a : Option Addr) (cap : Nat) (w : World), RowN w.heap.size w a b4 → Calls Try.prog 41 #[.agg #[.slice a b4.length cap], .int .i64 u, .int .i64 g] w fun e w' => e = .returned (.tuple #[.int .i64 (y : Int), .bool true]) ∧ Below w.heap.size w w') := fun a cap w hr => by have := implSigned_any a cap b4 u g w (by omega) hr; rw [hsg.1, hsg.2.1] at this; exact this
    obtain ⟨o3, bad, HS2, HBAD⟩ : ∃ (o3 : Int) (bad : Bool), Hid (∀ (a : Option Addr) (cap : Nat) (w : World), RowN w.heap.size w a b4 → Calls Try.prog 41 #[.agg #[.slice a b4.length cap], .int .i64 j, .int .i64 g] w fun e w' => e = .returned (.tuple #[.int .i64 o3, .bool bad]) ∧ Below w.heap.size w w') ∧ Hid (bad = true → (x : Int) = (y : Int)) := ⟨signV b4 j g, signB b4 j g, fun a cap w hr => implSigned_any a cap b4 j g w (by omega) hr, hsg.2.2⟩
    obtain ⟨N, q1, q2, q3⟩ := fm_dh ALLb4 (by omega) k0u (by omega) k0j k1j (x := (x : Int)) (y := (y : Int)) (by omega) (by omega) (by omega) (by omega) nu HQj.out.nd
    obtain ⟨b5, d, HD1, HD2, HQd⟩ : ∃ (b5 : List Nd) (d : Int), Hid (∀ (a : Option Addr) (cap : Nat) (w : World), AddrN a cap → RowN w.heap.size w a b4 → Calls Try.prog 42 #[.agg #[.slice a b4.length cap], .int .i64 (x : Int), .int .i64 j] w fun e w' => ∃ v, e = .returned (.tuple #[.agg #[v], .int .i64 d]) ∧ OwnN w.heap.size w' v b5 ∧ Below w.heap.size w w') ∧ Hid (∀ (a : Option Addr) (cap : Nat) (w : World), AddrN a cap → RowN w.heap.size w a b5 → Calls Try.prog 42 #[.agg #[.slice a b5.length cap], .int .i64 (y : Int), .int .i64 u] w fun e w' => ∃ v, e = .returned (.tuple #[.agg #[v], .int .i64 d]) ∧ OwnN w.heap.size w' v b5 ∧ Below w.heap.size w w') ∧ Hid (Put1 b4 b5 d N) :=
      ⟨dhA b4 (x : Int) j, dhK b4 (x : Int) j, fun a cap w ha hr => implDh_any a cap b4 (x : Int) j w (by omega) ha hr, fun a cap w ha hr => by have := implDh_any a cap (dhA b4 (x : Int) j) (y : Int) u w (by have := q1.len; omega) ha hr; rw [q2, q3] at this; exact this, q1⟩
    have ALLb5 := HQd.out.all
    have k0d := HQd.out.k0
    have l5 := HQd.out.len
    have i5 := HQd.out.pre.length_le
    clear q1 q2 q3 nu ng hsg
    obtain ⟨z1, z2, z3, z4⟩ := fm_list ALLb5 (x := (x : Int)) (y := (y : Int)) (s := s) (by omega) (by omega) (by omega) (by omega) (by omega) (by omega) (by omega)
    obtain ⟨b7, l, HL, HP1, HP2, HQ7⟩ : ∃ (b7 : List Nd) (l : Int), Hid (∀ (a : Option Addr) (cap : Nat) (la : Option Addr) (w : World), AddrN a cap → RowN w.heap.size w a b5 → RowI w.heap.size w la [(x : Int), (y : Int), s] → Calls Try.prog 43 #[.agg #[.slice a b5.length cap], .slice la 3 3] w fun e w' => ∃ v, e = .returned (.tuple #[.agg #[v], .int .i64 l]) ∧ OwnC w.heap.size w' v b7 ∧ Below w.heap.size w w') ∧
        Hid (∀ (a : Option Addr) (cap : Nat) (w : World), RowN w.heap.size w a b7 → Calls Try.prog 44 #[.agg #[.slice a b7.length cap], .int .i64 l, .int .i64 3] w fun e w' => ∃ v, e = .returned (.tuple #[v, .bool true]) ∧ OwnInt w.heap.size w' v [(x : Int), (y : Int), s] ∧ Below w.heap.size w w') ∧
        Hid (∀ (a : Option Addr) (cap : Nat) (w : World), RowN w.heap.size w a b7 → Calls Try.prog 44 #[.agg #[.slice a b7.length cap], .int .i64 l, .int .i64 2] w fun e w' => ∃ v, e = .returned (.tuple #[v, .bool false]) ∧ OwnInt w.heap.size w' v [] ∧ Below w.heap.size w w') ∧ Hid (allFrom b7 b7 0 = true ∧ b7.length ≤ b5.length + 4) :=
      ⟨listA b5 [(x : Int), (y : Int), s], listK b5 [(x : Int), (y : Int), s], fun a cap la w ha hr hx => implList_any a cap b5 la 3 [(x : Int), (y : Int), s] w (by omega) (all_fits ALLb5 (by omega)) (by simp) (by intro z hz; simp at hz; omega) hx ha hr,
        fun a cap w hr => by have := implParts_any a cap _ (listK b5 [(x : Int), (y : Int), s]) 3 w (by omega) hr; rw [(parts_some z3).1, (parts_some z3).2] at this; exact this,
        fun a cap w hr => by have := implParts_any a cap _ (listK b5 [(x : Int), (y : Int), s]) 2 w (by omega) hr; rw [(parts_none z4).1, (parts_none z4).2] at this; exact this, ⟨z1, z2⟩⟩
    clear z1 z2 z3 z4
    have l7 := HQ7.out.2
    obtain ⟨z1, z2, z3⟩ := fm_num (t := (t : Int)) HQ7.out.1 (by omega) (by omega)
    obtain ⟨b8, c, HA8, HN8, HK8, HL8⟩ : ∃ (b8 : List Nd) (c : Int), Hid (∀ (a : Option Addr) (cap : Nat) (w : World), AddrN a cap → RowN w.heap.size w a b7 → Calls Try.prog 45 #[.agg #[.slice a b7.length cap], .int .i64 (t : Int)] w fun e w' => ∃ v, e = .returned (.tuple #[.agg #[v], .int .i64 c]) ∧ OwnN w.heap.size w' v b8 ∧ Below w.heap.size w w') ∧ Hid (∀ (a : Option Addr) (cap : Nat) (w : World), RowN w.heap.size w a b8 → Calls Try.prog 46 #[.agg #[.slice a b8.length cap], .int .i64 c] w fun e w' => e = .returned (.tuple #[.int .i64 (t : Int), .bool true]) ∧ Below w.heap.size w w') ∧ Hid (∀ (a : Option Addr) (cap : Nat) (w : World), RowN w.heap.size w a b8 → Calls Try.prog 32 #[.agg #[.slice a b8.length cap]] w fun e w' => e = .returned (.bool true) ∧ Below w.heap.size w w') ∧ Hid (b8.length ≤ 3000) :=
      ⟨putA b7 ⟨1, (t : Int), 0, 0⟩, putK b7 ⟨1, (t : Int), 0, 0⟩, fun a cap w ha hr => implAtom_any a cap b7 (t : Int) w (by omega) ha hr, fun a cap w hr => by have := implNum_any a cap _ (putK b7 ⟨1, (t : Int), 0, 0⟩) w (putA_le2 (by omega)) hr; rw [z1, z2] at this; exact this, fun a cap w hr => by have := specArena_any a cap _ w (putA_le2 (by omega)) hr; rw [z3] at this; exact this, by have := (put_len (ns := b7) (x := ⟨1, (t : Int), 0, 0⟩)).1; show _ ≤ _; omega⟩
    clear z1 z2 z3 l7 HQ7 HQs HQg HQu HQj HQd HALL ALLns ALLb1 ALLb2 ALLb3 ALLb4 ALLb5
    have hx2 : (x : Int) < (ns.length : Int) := by omega
    have hxs : (x : Int) + 1 ≤ 1000 := by omega
    have q0 := PL.c0
    have q1 := PL.c1
    have q2 := BA.c
    go_wp2_with fail
    clear q0 q1 q2 hx0 hy0
    refine (HMs.out _ _ _ OA.rowIs OA.rowAt).mono ?_
    rintro e w4 ⟨vw4, rfl, ho, hb⟩
    have hlo := Nat.lt_of_lt_of_le BA.lt (Nat.le_refl _)
    obtain ⟨aw4, cw4, rfl, -, -⟩ := ho.row
    clear OA
    have OA0 := Own.made ho
    clear ho
    replace BA := BA.next hb
    replace PL := PL.next hb
    replace HB : Hid (Below w.heap.size w w4) := HB.out.trans (hb.mono HB.out.size)
    clear hb
    have OA := OA0
    clear OA0 HMs
    have q0 := BA.c
    have q1 := BA.fr
    replace BA := BA.set (.slice aw4 b1.length cw4)
    replace PL : Pl gp p0 p1 p2 (w4.setCell ⟨w1.heap.size, 0, none⟩ (.slice aw4 b1.length cw4)) := PL.set hgne
    replace OA : Own _ _ _ _ (w4.setCell ⟨w1.heap.size, 0, none⟩ (.slice aw4 b1.length cw4)) := OA.set hlo
    replace HB : Hid (Below w.heap.size w (w4.setCell ⟨w1.heap.size, 0, none⟩ (.slice aw4 b1.length cw4))) := HB.out.setCell hgA _
    have q2 := BA.c
    go_wp2_with fail
    clear q0 q1 q2 hlo
    generalize w4.setCell ⟨w1.heap.size, 0, none⟩ (.slice aw4 b1.length cw4) = w5 at BA OA PL HB ⊢
    refine (HO1.out _ _ _ OA.rowAt).mono ?_
    rintro e w6 ⟨rfl, hb⟩
    replace BA := BA.next hb
    replace OA := OA.next hb
    replace PL := PL.next hb
    replace HB : Hid (Below w.heap.size w w6) := HB.out.trans (hb.mono HB.out.size)
    clear hb
    clear HO1
    have q2 := BA.c
    go_wp2_with fail
    clear q2
    refine (HO2.out _ _ _ OA.rowAt).mono ?_
    rintro e w7 ⟨rfl, hb⟩
    replace BA := BA.next hb
    replace OA := OA.next hb
    replace PL := PL.next hb
    replace HB : Hid (Below w.heap.size w w7) := HB.out.trans (hb.mono HB.out.size)
    clear hb
    clear HO2
    have q2 := BA.c
    go_wp2_with fail
    clear q2
    refine (HMg.out _ _ _ OA.rowIs OA.rowAt).mono ?_
    rintro e w8 ⟨vw8, rfl, ho, hb⟩
    have hlo := Nat.lt_of_lt_of_le BA.lt (Nat.le_refl _)
    obtain ⟨aw8, cw8, rfl, -, -⟩ := ho.row
    clear OA
    have OA0 := Own.made ho
    clear ho
    replace BA := BA.next hb
    replace PL := PL.next hb
    replace HB : Hid (Below w.heap.size w w8) := HB.out.trans (hb.mono HB.out.size)
    clear hb
    have OA := OA0
    clear OA0 HMg
    have q0 := BA.c
    have q1 := BA.fr
    replace BA := BA.set (.slice aw8 b2.length cw8)
    replace PL : Pl gp p0 p1 p2 (w8.setCell ⟨w1.heap.size, 0, none⟩ (.slice aw8 b2.length cw8)) := PL.set hgne
    replace OA : Own _ _ _ _ (w8.setCell ⟨w1.heap.size, 0, none⟩ (.slice aw8 b2.length cw8)) := OA.set hlo
    replace HB : Hid (Below w.heap.size w (w8.setCell ⟨w1.heap.size, 0, none⟩ (.slice aw8 b2.length cw8))) := HB.out.setCell hgA _
    have q2 := BA.c
    go_wp2_with fail
    clear q0 q1 q2 hlo
    generalize w8.setCell ⟨w1.heap.size, 0, none⟩ (.slice aw8 b2.length cw8) = w9 at BA OA PL HB ⊢
    refine (HMu.out _ _ _ OA.rowIs OA.rowAt).mono ?_
    rintro e w10 ⟨vw10, rfl, ho, hb⟩
    have hlo := Nat.lt_of_lt_of_le BA.lt (Nat.le_refl _)
    obtain ⟨aw10, cw10, rfl, -, -⟩ := ho.row
    clear OA
    have OA0 := Own.made ho
    clear ho
    replace BA := BA.next hb
    replace PL := PL.next hb
    replace HB : Hid (Below w.heap.size w w10) := HB.out.trans (hb.mono HB.out.size)
    clear hb
    have OA := OA0
    clear OA0 HMu
    have q0 := BA.c
    have q1 := BA.fr
    replace BA := BA.set (.slice aw10 b3.length cw10)
    replace PL : Pl gp p0 p1 p2 (w10.setCell ⟨w1.heap.size, 0, none⟩ (.slice aw10 b3.length cw10)) := PL.set hgne
    replace OA : Own _ _ _ _ (w10.setCell ⟨w1.heap.size, 0, none⟩ (.slice aw10 b3.length cw10)) := OA.set hlo
    replace HB : Hid (Below w.heap.size w (w10.setCell ⟨w1.heap.size, 0, none⟩ (.slice aw10 b3.length cw10))) := HB.out.setCell hgA _
    have q2 := BA.c
    go_wp2_with fail
    clear q0 q1 q2 hlo
    generalize w10.setCell ⟨w1.heap.size, 0, none⟩ (.slice aw10 b3.length cw10) = w11 at BA OA PL HB ⊢
    refine (HMj.out _ _ _ OA.rowIs OA.rowAt).mono ?_
    rintro e w12 ⟨vw12, rfl, ho, hb⟩
    have hlo := Nat.lt_of_lt_of_le BA.lt (Nat.le_refl _)
    obtain ⟨aw12, cw12, rfl, -, -⟩ := ho.row
    clear OA
    have OA0 := Own.made ho
    clear ho
    replace BA := BA.next hb
    replace PL := PL.next hb
    replace HB : Hid (Below w.heap.size w w12) := HB.out.trans (hb.mono HB.out.size)
    clear hb
    have OA := OA0
    clear OA0 HMj
    have q0 := BA.c
    have q1 := BA.fr
    replace BA := BA.set (.slice aw12 b4.length cw12)
    replace PL : Pl gp p0 p1 p2 (w12.setCell ⟨w1.heap.size, 0, none⟩ (.slice aw12 b4.length cw12)) := PL.set hgne
    replace OA : Own _ _ _ _ (w12.setCell ⟨w1.heap.size, 0, none⟩ (.slice aw12 b4.length cw12)) := OA.set hlo
    replace HB : Hid (Below w.heap.size w (w12.setCell ⟨w1.heap.size, 0, none⟩ (.slice aw12 b4.length cw12))) := HB.out.setCell hgA _
    have q2 := BA.c
    go_wp2_with fail
    clear q0 q1 q2 hlo
    generalize w12.setCell ⟨w1.heap.size, 0, none⟩ (.slice aw12 b4.length cw12) = w13 at BA OA PL HB ⊢
    refine (HS1.out _ _ _ OA.rowAt).mono ?_
    rintro e w14 ⟨rfl, hb⟩
    replace BA := BA.next hb
    replace OA := OA.next hb
    replace PL := PL.next hb
    replace HB : Hid (Below w.heap.size w w14) := HB.out.trans (hb.mono HB.out.size)
    clear hb
    clear HS1
    have q2 := BA.c
    go_wp2_with fail
    clear q2
    refine (HS2.out _ _ _ OA.rowAt).mono ?_
    rintro e w15 ⟨rfl, hb⟩
    replace BA := BA.next hb
    replace OA := OA.next hb
    replace PL := PL.next hb
    replace HB : Hid (Below w.heap.size w w15) := HB.out.trans (hb.mono HB.out.size)
    clear hb
    clear HS2
    have q2 := BA.c
    go_wp2_with fail
    clear q2
    refine (HD1.out _ _ _ OA.rowIs OA.rowAt).mono ?_
    rintro e w16 ⟨vw16, rfl, ho, hb⟩
    have hlo := Nat.lt_of_lt_of_le BA.lt (Nat.le_refl _)
    obtain ⟨aw16, cw16, rfl, -, -⟩ := ho.row
    clear OA
    have OA0 := Own.made ho
    clear ho
    replace BA := BA.next hb
    replace PL := PL.next hb
    replace HB : Hid (Below w.heap.size w w16) := HB.out.trans (hb.mono HB.out.size)
    clear hb
    have OA := OA0
    clear OA0 HD1
    have q0 := BA.c
    have q1 := BA.fr
    replace BA := BA.set (.slice aw16 b5.length cw16)
    replace PL : Pl gp p0 p1 p2 (w16.setCell ⟨w1.heap.size, 0, none⟩ (.slice aw16 b5.length cw16)) := PL.set hgne
    replace OA : Own _ _ _ _ (w16.setCell ⟨w1.heap.size, 0, none⟩ (.slice aw16 b5.length cw16)) := OA.set hlo
    replace HB : Hid (Below w.heap.size w (w16.setCell ⟨w1.heap.size, 0, none⟩ (.slice aw16 b5.length cw16))) := HB.out.setCell hgA _
    have q2 := BA.c
    go_wp2_with fail
    clear q0 q1 q2 hlo
    generalize w16.setCell ⟨w1.heap.size, 0, none⟩ (.slice aw16 b5.length cw16) = w17 at BA OA PL HB ⊢
    refine (HD2.out _ _ _ OA.rowIs OA.rowAt).mono ?_
    rintro e w18 ⟨vw18, rfl, ho, hb⟩
    have hlo := Nat.lt_of_lt_of_le BA.lt (Nat.le_refl _)
    obtain ⟨aw18, cw18, rfl, -, -⟩ := ho.row
    clear OA
    have OA0 := Own.made ho
    clear ho
    replace BA := BA.next hb
    replace PL := PL.next hb
    replace HB : Hid (Below w.heap.size w w18) := HB.out.trans (hb.mono HB.out.size)
    clear hb
    have OA := OA0
    clear OA0 HD2
    have q0 := BA.c
    have q1 := BA.fr
    replace BA := BA.set (.slice aw18 b5.length cw18)
    replace PL : Pl gp p0 p1 p2 (w18.setCell ⟨w1.heap.size, 0, none⟩ (.slice aw18 b5.length cw18)) := PL.set hgne
    replace OA : Own _ _ _ _ (w18.setCell ⟨w1.heap.size, 0, none⟩ (.slice aw18 b5.length cw18)) := OA.set hlo
    replace HB : Hid (Below w.heap.size w (w18.setCell ⟨w1.heap.size, 0, none⟩ (.slice aw18 b5.length cw18))) := HB.out.setCell hgA _
    have hsz : (w18.setCell ⟨w1.heap.size, 0, none⟩ (.slice aw18 b5.length cw18)).heap.size = w18.heap.size := by simp
    have q2 := BA.c
    go_wp2_with fail
    clear q0 q1 q2 hlo
    generalize w18.setCell ⟨w1.heap.size, 0, none⟩ (.slice aw18 b5.length cw18) = w19 at BA OA PL hsz HB ⊢
    have hb : Below w19.heap.size w19 (w19.alloc (.cells #[.int .i64 (x : Int), .int .i64 (y : Int), .int .i64 s] 3)) := (Below.refl _ _).alloc (Nat.le_refl _) _
    have RI : RowI (w19.alloc (.cells #[.int .i64 (x : Int), .int .i64 (y : Int), .int .i64 s] 3)).heap.size (w19.alloc (.cells #[.int .i64 (x : Int), .int .i64 (y : Int), .int .i64 s] 3)) (some ⟨w18.heap.size, 0, none⟩) [(x : Int), (y : Int), s] := by
      have hr := heap_alloc_new w19 (.cells #[.int .i64 (x : Int), .int .i64 (y : Int), .int .i64 s] 3)
      rw [hsz] at hr
      refine .inr ⟨_, 0, rfl, by simp [hsz], fun j hj => ?_⟩
      have hj3 : j < 3 := hj
      rcases (show j = 0 ∨ j = 1 ∨ j = 2 by omega) with rfl | rfl | rfl
      · exact (cell_of_row _ _ 0 _ _ _ hr).trans rfl
      · exact (cell_of_row _ _ 1 _ _ _ hr).trans rfl
      · exact (cell_of_row _ _ 2 _ _ _ hr).trans rfl
    replace BA := BA.next hb
    replace OA := OA.next hb
    replace PL := PL.next hb
    replace HB : Hid (Below w.heap.size w (w19.alloc (.cells #[.int .i64 (x : Int), .int .i64 (y : Int), .int .i64 s] 3))) := HB.out.trans (hb.mono HB.out.size)
    clear hb
    generalize w19.alloc (.cells #[.int .i64 (x : Int), .int .i64 (y : Int), .int .i64 s] 3) = w20 at BA OA PL RI HB ⊢
    refine (HL.out _ _ _ _ OA.rowIs OA.rowAt RI).mono ?_
    rintro e w21 ⟨vw21, rfl, ho, hb⟩
    have hlo := Nat.lt_of_lt_of_le BA.lt (Nat.le_refl _)
    obtain ⟨aw21, cw21, pw21, rfl, hAw21, ho⟩ := ho
    clear OA
    have OA0 := Own.made ho
    clear ho
    replace BA := BA.next hb
    replace PL := PL.next hb
    replace HB : Hid (Below w.heap.size w w21) := HB.out.trans (hb.mono HB.out.size)
    clear hb
    have OA := OA0
    clear OA0 HL
    have q0 := BA.c
    have q1 := BA.fr
    replace BA := BA.set (.slice aw21 b7.length cw21)
    replace PL : Pl gp p0 p1 p2 (w21.setCell ⟨w1.heap.size, 0, none⟩ (.slice aw21 b7.length cw21)) := PL.set hgne
    replace OA : Own _ _ _ _ (w21.setCell ⟨w1.heap.size, 0, none⟩ (.slice aw21 b7.length cw21)) := OA.set hlo
    replace HB : Hid (Below w.heap.size w (w21.setCell ⟨w1.heap.size, 0, none⟩ (.slice aw21 b7.length cw21))) := HB.out.setCell hgA _
    have q2 := BA.c
    go_wp2_with fail
    clear q0 q1 q2 hlo
    generalize w21.setCell ⟨w1.heap.size, 0, none⟩ (.slice aw21 b7.length cw21) = w22 at BA OA PL HB ⊢
    clear RI hsz
    refine (HP1.out _ _ _ OA.rowAt).mono ?_
    rintro e w23 ⟨vq, rfl, hoq, hb⟩
    have hlq := BA.lt
    obtain ⟨aq, cq, rfl, -, hrq⟩ := hoq.row
    obtain ⟨bq, oq, rfl⟩ := hrq.addr (i := 0) (by simp)
    clear hrq
    have OQ0 := OwnZ.made hoq
    replace BA := BA.next hb
    replace OA := OA.next hb
    replace PL := PL.next hb
    replace HB : Hid (Below w.heap.size w w23) := HB.out.trans (hb.mono HB.out.size)
    clear hb
    have OQ := OQ0
    clear OQ0 hoq HP1
    have q2 := BA.c
    go_wp2_with fail
    clear q2
    refine (HP2.out _ _ _ OA.rowAt).mono ?_
    rintro e w24 ⟨vr, rfl, hoq, hb⟩
    obtain ⟨ar, cr, rfl, -, -⟩ := hoq.row
    clear hoq
    replace BA := BA.next hb
    replace OA := OA.next hb
    replace PL := PL.next hb
    replace OQ := OQ.next hb
    replace HB : Hid (Below w.heap.size w w24) := HB.out.trans (hb.mono HB.out.size)
    clear hb
    clear HP2
    have q0 : w24.drew.cell? ⟨w1.heap.size, 0, none⟩ = some (.slice aw21 b7.length cw21) := BA.c
    have q2 : w24.drew.cell? ⟨gp, 2, none⟩ = some (.int .i64 (p2 : Int)) := PL.c2
    have HRO : Hid (RowN w24.drew.heap.size w24.drew aw21 b7) := OA.rowAt
    have HBX : Hid (∀ wz, Below w24.drew.heap.size w24.drew wz → Box w1.heap.size (.slice aw21 b7.length cw21) wz) := fun wz hz => BA.next (((Below.refl _ _).drew).trans hz)
    go_wp2_with fail
    go_region_with (go_at_call 45; refine (HA8.out _ _ _ ?_ ?_).mono ?_; exact hAw21; exact HRO.out; rintro e w25 ⟨vw25, rfl, ho, hb⟩; obtain ⟨aw25, cw25, rfl, hA8, -⟩ := ho.row; have f0 := (HBX.out w25 hb).c; have f1 := (HBX.out w25 hb).fr)
    all_goals
      have hlo : w1.heap.size < w24.heap.size := BA.lt
      replace hb : Below w24.heap.size w24 w25 := ((Below.refl _ _).drew).trans hb
      have OA0 : Own w24.heap.size w25.heap.size (.slice aw25 b8.length cw25) b8 w25 := Own.made ho
      clear OA ho HRO HBX q0 q2 f0 f1
      replace BA := BA.next hb
      replace PL := PL.next hb
      replace OQ := OQ.next hb
      replace HB : Hid (Below w.heap.size w w25) := HB.out.trans (hb.mono HB.out.size)
      clear hb
      have OA := OA0
      clear OA0 HA8
      have q0 := BA.c
      have q1 := BA.fr
      replace BA := BA.set (.slice aw25 b8.length cw25)
      replace PL : Pl gp p0 p1 p2 (w25.setCell ⟨w1.heap.size, 0, none⟩ (.slice aw25 b8.length cw25)) := PL.set hgne
      replace OA : Own _ _ _ _ (w25.setCell ⟨w1.heap.size, 0, none⟩ (.slice aw25 b8.length cw25)) := OA.set hlo
      replace HB : Hid (Below w.heap.size w (w25.setCell ⟨w1.heap.size, 0, none⟩ (.slice aw25 b8.length cw25))) := HB.out.setCell hgA _
      replace OQ : OwnZ _ _ _ _ (w25.setCell ⟨w1.heap.size, 0, none⟩ (.slice aw25 b8.length cw25)) := OQ.set hlq
      have q2 := BA.c
      go_wp2_with fail
      clear q0 q1 q2 hlo
      generalize w25.setCell ⟨w1.heap.size, 0, none⟩ (.slice aw25 b8.length cw25) = w26 at BA OA PL OQ HB ⊢
      refine (HN8.out _ _ _ OA.rowAt).mono ?_
      rintro e w27 ⟨rfl, hb⟩
      replace BA := BA.next hb
      replace OA := OA.next hb
      replace PL := PL.next hb
      replace OQ := OQ.next hb
      replace HB : Hid (Below w.heap.size w w27) := HB.out.trans (hb.mono HB.out.size)
      clear hb
      clear HN8
      have q0 := BA.c
      have q1 := PL.c2
      have q2 : w27.cell? ⟨bq, oq, none⟩ = some (.int .i64 (x : Int)) := by have := (OQ.rowAt.at (Below.refl _ _) (i := 0) (by simp)).2; simpa using this
      have q3 : w27.cell? ⟨bq, oq + 2, none⟩ = some (.int .i64 s) := by have := (OQ.rowAt.at (Below.refl _ _) (i := 2) (by simp)).2; simpa using this
      have HRO : Hid (RowN w27.heap.size w27 aw25 b8) := OA.rowAt
      clear BA OA PL OQ
      have fin : ∀ we, Below w27.heap.size w27 we → Below w.heap.size w we := fun we hz => HB.out.trans (hz.mono HB.out.size)
      have HFIN : Hid _ := fin
      clear fin HB
      cases bad with
      | false =>
        clear HBAD
        go_wp2_with fail
        refine (HK8.out _ _ _ HRO.out).mono ?_
        rintro e w28 ⟨rfl, hb⟩
        have hBB := HFIN.out _ hb
        clear hb q0 q1 q2 q3 HRO HFIN
        go_wp2
        go_ret
        exact ⟨rfl, hBB⟩
      | true =>
        have hxy := HBAD.out rfl
        clear HBAD
        go_wp2_with fail
        refine (HK8.out _ _ _ HRO.out).mono ?_
        rintro e w28 ⟨rfl, hb⟩
        have hBB := HFIN.out _ hb
        clear hb q0 q1 q2 q3 HRO HFIN
        go_wp2
        go_ret
        exact ⟨rfl, hBB⟩
  · have hd : decide ((1048576 : Int) < (len0 : Int)) = true := by simp; omega
    clear hcode
    go_enter Try.func7, Try.ntmps7
    go_wp2_with fail
    refine (big_any _ _ _ _).mono ?_
    rintro e w1 ⟨rfl, rfl⟩
    rw [hd]
    go_wp2
    go_ret
    exact ⟨rfl, Below.refl _ _⟩

theorem laidOut : laidOutB Try.prog = true := by kernel_rfl
set_option maxRecDepth 100000 in
theorem lifted (os : Os) (started : os.Started) (H : Type) (enc : TypeId × Value → H) :
    ReturnsInHanded {} Try.checked os 7 .any (Rows.fnMakesSpec.pre6 enc Try.prog Try.f7 Rows.fnMakesRow.domain false) (Rows.fnMakesSpec.post enc Try.prog Try.f7 false true false false) := by
  refine returnsInHanded_of_change (C := Try.checked) own started (by kernel_rfl) Try.func7
    (ChangeSpec.witness6 (enc := enc) (C := Try.checked) false ⟨#[], #[.slice none 0 0], []⟩ 8 (by kernel_rfl) (by kernel_rfl) (by kernel_rfl) (by kernel_rfl)) ?_
  intro W base args ds gs before hval0 hW hcnd _
  have hval : ∀ (j : Nat) t v, Try.f7.params[j]? = some t → args[j]? = some v → Value.okWide Try.prog W .any base t v := hval0
  have hW' := hW
  obtain ⟨p, q, hA0, hV, rfl, hfz, hnd⟩ := hW
  have hA : DataW.TrodAll enc Try.prog W 0 (fun _ => true) true Try.f7.params.toList args.toList ds p := hA0
  rw [Try.params7] at hA hval
  obtain ⟨v0, vs0, d0, ds0, p0, q0, hargs, rfl, rfl, h0, r0⟩ := trodAll_cons hA
  obtain ⟨rfl, rfl, rfl⟩ := trodAll_nil r0
  obtain rfl : args = #[v0] := by cases args; simp_all
  obtain ⟨rfl, rfl⟩ := trodVars_none hV
  obtain ⟨a0, len0, cap0, rfl⟩ := okWide_slice Try.underlying22 (hval 0 22 v0 rfl rfl)
  have k0 := h0
  have lt0 : ∀ x ∈ p0, x.block < W.heap.size := by obtain ⟨m, hm⟩ := k0; exact DataW.trod_lt m _ _ _ hm
  clear hA0 hval0
  refine (walk a0 len0 cap0  W (code_of h0)).mono fun e W' ⟨he, bel⟩ => ?_
  subst he
  exact ⟨_, rfl, _, _, _, [], _, [], hW', trodAll_mk1 (shut_bool Try.underlying4 _), (trodAll_cons_mk (Below.trod laidOut (by kernel_rfl) (of_decide_eq_true (by kernel_rfl)) k0 bel lt0) trodAll_mk0), rfl, bel.frame _, fun h => by cases h⟩

theorem over : Rows.fnMakesRow.holds Try.pinned (OpenSpec.ofChange Rows.fnMakesSpec) :=
  OpenClaim.holds_of_wide 7 Try.f7 rfl rfl rfl rfl rfl rfl rfl ⟨rfl, rfl, rfl, rfl, rfl⟩ rfl rfl rfl rfl rfl (by kernel_rfl) Try.func7 (by kernel_rfl)
    (of_decide_eq_true (by kernel_rfl)) (by unfold Func.isWrapper; first | (rw [if_pos (by decide +kernel)]; kernel_rfl) | (rw [if_neg (by decide +kernel)]; exact ⟨rfl, rfl⟩))
    (fun os started H enc _ => lifted os started H enc)
end fnMakes

theorem fnMakes_holds : Rows.FnMakesSaid := fnMakes.over
#print axioms fnMakes_holds
end Go.Proofs.Ytodpfdjlhbjlgaa
