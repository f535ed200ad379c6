/- For every code: a part of the program is right for its own side, name and words, and for no other; an ack tells its lease; and what is read and made of drawn terms, right or not, is what the specification reads and makes. No condition. -/
import Derived.Test.YtaanophnnkmkbaaGreatRows
import Derived.Test.YtaanophnnkmkbaaGreatCert10
import Derived.Test.YtaanophnnkmkbaaGreatDraw12
import Derived.Test.YtaanophnnkmkbaaGreatPartP12
import Derived.Test.YtaanophnnkmkbaaGreatLookPart12
import Derived.Test.YtaanophnnkmkbaaGreatHand12
import Derived.Test.YtaanophnnkmkbaaGreatImplPt12
import Derived.Test.YtaanophnnkmkbaaGreatImplAk12
import Derived.Test.YtaanophnnkmkbaaGreatImplHd12
import Derived.Test.YtaanophnnkmkbaaGreatSoftP12
import Derived.Test.YtaanophnnkmkbaaGreatKeptS
import Derived.Test.YtaanophnnkmkbaaGreatPlainTerm
import Derived.Test.YtaanophnnkmkbaaGreatLawKeep
import Derived.Test.YtaanophnnkmkbaaGreatPlainRT2
import Derived.Test.YtaanophnnkmkbaaGreatTermPut2
import Derived.Test.YtaanophnnkmkbaaGreatImplText2
import Derived.WalkKit
import Derived.ProofKit
import Derived.OpenShut
import Derived.ShutString
import Derived.ChangeOld
import Derived.PlainAid
namespace Go.Proofs.YtaanophnnkmkbaaGreat
namespace fnParts
open Go.ChangeShapes Go.WideShapes Go.ChangeAt Go.RowKit Go.PlainAid
open Go.ChangeMaps (open_string shut_string)
set_option linter.unusedVariables false

theorem own : ownKnob Tryz.prog.godebug = none := by kernel_rfl

theorem modN (p n : Nat) (h : 0 < n) : ∃ x : Nat, Int.tmod (p : Int) (n : Int) = (x : Int) ∧ x < n := ⟨p % n, by rw [Int.tmod_eq_emod_of_nonneg (by omega)]; omega, Nat.mod_lt _ h⟩
theorem mod2 (p : Nat) : ∃ x : Nat, Int.tmod (p : Int) 2 = (x : Int) ∧ x < 2 := modN p 2 (by omega)
theorem mod9 (p : Nat) : ∃ x : Nat, Int.tmod (p : Int) 9 = (x : Int) ∧ x < 9 := modN p 9 (by omega)
theorem modS (p n : Nat) (h : p < n) : ∃ x : Nat, Int.tmod ((p : Int) + 1) (n : Int) = (x : Int) ∧ x < n ∧ (x = p → n = 1) := by
  refine ⟨(p + 1) % n, by rw [Int.tmod_eq_emod_of_nonneg (by omega)]; first | rfl | (push_cast; rfl), Nat.mod_lt _ (by omega), fun e => ?_⟩
  rcases Nat.lt_or_ge (p + 1) n with h1 | h1
  · rw [Nat.mod_eq_of_lt h1] at e; omega
  · have : p + 1 = n := by omega
    rw [this, Nat.mod_self] at e
    omega
theorem wf_of {x : Int} (h : -2000000 ≤ x ∧ x ≤ 2000000) : (Lit.int .i64 x).wf = true := by
  have h1 : IntKind.i64.min = -9223372036854775808 := rfl
  have h2 : IntKind.i64.max = 9223372036854775807 := rfl
  simp [Lit.wf, h1, h2]; omega
/-- The first five places that were drawn. -/
structure Pl5 (g : Nat) (p0 p1 p2 p3 p4 : Nat) (w : World) : Prop where
  lt : g < w.heap.size
  c0 : w.cell? ⟨g, 0, none⟩ = some (.int .i64 (p0 : Int))
  c1 : w.cell? ⟨g, 1, none⟩ = some (.int .i64 (p1 : Int))
  c2 : w.cell? ⟨g, 2, none⟩ = some (.int .i64 (p2 : Int))
  c3 : w.cell? ⟨g, 3, none⟩ = some (.int .i64 (p3 : Int))
  c4 : w.cell? ⟨g, 4, none⟩ = some (.int .i64 (p4 : Int))
/-- A row of nodes that is read alone. -/
structure Rd (a : Option Addr) (ms : List Nd) (w : World) : Prop where
  row : RowN w.heap.size w a ms
theorem Rd.next {a : Option Addr} {ms : List Nd} {w w' : World} (h : Rd a ms w) (hb : Below w.heap.size w w') : Rd a ms w' := ⟨h.row.grown hb⟩
theorem var_heldP {S : World → Prop} {b : Nat} {v : Value} {w : World} (h : Var b v w) (hk : ∀ (p : Addr) (v : Value), p.block < w.heap.size → w.cell? p = some v → ∀ s : Hw S, s.w.cell? p = some v) : ∀ s : Hw S, s.w.cell? ⟨b, 0, none⟩ = some v := hk ⟨b, 0, none⟩ v h.lt h.c
theorem held_sameP {S : World → Prop} {s : Hw S} {A : List Nd} {a b : Option Addr} {c d : Nat} (hA : A.length ≤ 1048576) (H1 : Hid (∀ s : Hw S, RowN s.w.heap.size s.w a A)) (H2 : Hid (∀ s : Hw S, RowN s.w.heap.size s.w b A)) (hk : ∀ (s : Hw S) w', Below s.w.heap.size s.w w' → S w') :
    Calls Tryz.prog 18 #[.agg #[.slice a A.length c], .agg #[.slice b A.length d]] s.w fun e w'' => e = .returned (.bool true) ∧ ∃ s' : Hw S, w'' = s'.w :=
  Calls.held (sameA_same a b c d A _ hA (H1.out _) (H2.out _)) (hk _)
set_option maxHeartbeats 12800000 in
set_option maxRecDepth 20000 in
theorem walk (a0 : Option Addr) (len0 cap0 : Nat) (w : World) (hcode : len0 ≤ 1048576 → CodeIn w.heap.size w a0 len0) :
    Calls Tryz.prog 3 #[.slice a0 len0 cap0] w fun e w' => e = .returned (.bool true) ∧ Below w.heap.size w w' := by
  by_cases hbig : len0 ≤ 1048576
  · have HC : Hid (CodeIn w.heap.size w a0 len0) := hcode hbig
    have HC0 : Hid (CodeIn w.heap.size w a0 len0) := hcode hbig
    have HB : Hid (Below w.heap.size w w) := Below.refl _ _
    have hd : decide ((1048576 : Int) < (len0 : Int)) = false := by simp; omega
    clear hcode hbig
    go_enter Tryz.func3, Tryz.ntmps3
    go_wp2_with fail
    refine (big_any _ _ _ _).mono ?_
    rintro e wz ⟨rfl, rfl⟩
    rw [hd]
    clear hd
    go_wp2_with fail
    refine (drawArena_any _ _ _ _ HC.out).mono ?_
    rintro e w1 ⟨v1, ns, rfl, hn1, hn2, hall, ho1, hb1⟩
    have HALL : Hid (allFrom ns ns 0 = true) := hall
    clear hall
    obtain ⟨a1, c1, rfl, -, -⟩ := ho1.row
    have OA := Own.made ho1
    replace HB : Hid (Below w.heap.size w w1) := HB.out.trans (hb1.mono HB.out.size)
    replace HC : Hid (CodeIn w1.heap.size w1 a0 len0) := codeIn_later HC.out hb1
    have hgA : w.heap.size ≤ w1.heap.size := HB.out.size
    clear ho1 hb1
    have hbb : Below w1.heap.size w1 (w1.alloc (.cells #[.slice a1 ns.length c1] 26)) := (Below.refl _ _).alloc (Nat.le_refl _) _
    have BA : Box w1.heap.size (.slice a1 ns.length c1) (w1.alloc (.cells #[.slice a1 ns.length c1] 26)) := Box.made
    replace OA := OA.next hbb
    replace HB : Hid (Below w.heap.size w (w1.alloc (.cells #[.slice a1 ns.length c1] 26))) := HB.out.trans (hbb.mono HB.out.size)
    replace HC : Hid (CodeIn (w1.alloc (.cells #[.slice a1 ns.length c1] 26)).heap.size (w1.alloc (.cells #[.slice a1 ns.length c1] 26)) a0 len0) := codeIn_later HC.out hbb
    clear hbb
    go_wp2_with fail
    generalize w1.alloc (.cells #[.slice a1 ns.length c1] 26) = w2 at BA OA HB HC ⊢
    refine (places_any a0 len0 cap0 w2 HC.out).mono ?_
    rintro e w3 ⟨gp, cp, xs, rfl, hxl, hxb, hg1, hg2, hcl, hb⟩
    have PL : Pl5 gp (xs.getD 0 0) (xs.getD 1 0) (xs.getD 2 0) (xs.getD 3 0) (xs.getD 4 0) w3 := ⟨hg2, hcl 0 (by omega), hcl 1 (by omega), hcl 2 (by omega), hcl 3 (by omega), hcl 4 (by omega)⟩
    replace BA := BA.next hb
    replace OA := OA.next hb
    replace HC : Hid (CodeIn w3.heap.size w3 a0 len0) := codeIn_later HC.out hb
    replace HB : Hid (Below w.heap.size w w3) := HB.out.trans (hb.mono HB.out.size)
    clear hb hcl hg1 hg2 hxb hxl
    generalize xs.getD 0 0 = p0 at PL
    generalize xs.getD 1 0 = p1 at PL
    generalize xs.getD 2 0 = p2 at PL
    generalize xs.getD 3 0 = p3 at PL
    generalize xs.getD 4 0 = p4 at PL
    clear xs
    obtain ⟨x0, hx0, hy0⟩ := mod2 p0
    obtain ⟨x1, hx1, hy1⟩ := mod2 p1
    obtain ⟨x2, hx2, hy2⟩ := mod9 p2
    obtain ⟨x3, hx3, hy3⟩ := modN p3 ns.length (by omega)
    obtain ⟨x4, hx4, hy4⟩ := modN p4 ns.length (by omega)
    obtain ⟨x5, hx5, hy5, hy6⟩ := modS x4 ns.length hy4
    obtain ⟨gA, HGA⟩ : ∃ g, Hid (w1.heap.size = g) := ⟨_, rfl⟩
    have hgw : w.heap.size ≤ gA := by rw [← HGA.out]; exact hgA
    rw [HGA.out] at BA ⊢
    clear hgA
    have hnz : ¬ (ns.length : Int) = 0 := by omega
    have hnl : ns.length ≤ 900 := by omega
    obtain ⟨M1, M2, k, t, W1, W2, e1, o1, o2, o3, o4, o5, o6, e2, o7, hk, ht, f1, f2⟩ := parts_all HALL.out (by omega) hy0 hy1 hy2 hy3 hy4 hy5 hy6
    have HI1 : Hid (∀ (a : Option Addr) (cap : Nat) (w : World), AddrN a cap → RowN w.heap.size w a ns → Calls Tryz.prog 7 #[.agg #[.slice a ns.length cap], .int .i64 (1 + (x1 : Int)), .int .i64 (x3 : Int), .int .i64 (1 + (x0 : Int)), .int .i64 (x2 : Int), .int .i64 (x4 : Int)] w fun e w' => ∃ v, e = .returned (.tuple #[.agg #[v], .int .i64 k]) ∧ OwnC w.heap.size w' v M1 ∧ Below w.heap.size w w') := fun a cap w ha hr => by
      have h := implPart_any a cap ns (1 + (x1 : Int)) (x3 : Int) (1 + (x0 : Int)) (x2 : Int) (x4 : Int) w (by omega) (all_fits HALL.out (by omega)) (wf_of (by omega)) (wf_of (by omega)) (wf_of (by omega)) (wf_of (by omega)) (wf_of (by omega)) ha hr
      rw [e1.1, e1.2] at h
      exact h
    have HP1 : Hid (∀ (a : Option Addr) (cap : Nat) (w : World), AddrN a cap → RowN w.heap.size w a M1 → Calls Tryz.prog 8 #[.agg #[.slice a M1.length cap], .int .i64 (1 + (x1 : Int)), .int .i64 (x3 : Int), .int .i64 (1 + (x0 : Int)), .int .i64 (x2 : Int), .int .i64 (x4 : Int), .int .i64 k] w fun e w' => e = .returned (.bool true) ∧ Below w.heap.size w w') := fun a cap w ha hr => by
      have h := implPartOk_any a cap M1 (1 + (x1 : Int)) (x3 : Int) (1 + (x0 : Int)) (x2 : Int) (x4 : Int) k w (by omega) (all_fits f1.1 (by omega)) (.inl (all_tame f1.1)) (wf_of (by omega)) (wf_of (by omega)) (wf_of (by omega)) ha hr
      rw [o1] at h
      exact h
    have HP2 : Hid (∀ (a : Option Addr) (cap : Nat) (w : World), AddrN a cap → RowN w.heap.size w a M1 → Calls Tryz.prog 8 #[.agg #[.slice a M1.length cap], .int .i64 (3 - (1 + (x1 : Int))), .int .i64 (x3 : Int), .int .i64 (1 + (x0 : Int)), .int .i64 (x2 : Int), .int .i64 (x4 : Int), .int .i64 k] w fun e w' => e = .returned (.bool false) ∧ Below w.heap.size w w') := fun a cap w ha hr => by
      have h := implPartOk_any a cap M1 (3 - (1 + (x1 : Int))) (x3 : Int) (1 + (x0 : Int)) (x2 : Int) (x4 : Int) k w (by omega) (all_fits f1.1 (by omega)) (.inl (all_tame f1.1)) (wf_of (by omega)) (wf_of (by omega)) (wf_of (by omega)) ha hr
      rw [o2] at h
      exact h
    have HP3 : Hid (∀ (a : Option Addr) (cap : Nat) (w : World), AddrN a cap → RowN w.heap.size w a M1 → Calls Tryz.prog 8 #[.agg #[.slice a M1.length cap], .int .i64 (1 + (x1 : Int)), .int .i64 (x3 : Int), .int .i64 (1 + (x0 : Int)), .int .i64 ((x2 : Int) + 1), .int .i64 (x4 : Int), .int .i64 k] w fun e w' => e = .returned (.bool W1) ∧ Below w.heap.size w w') := fun a cap w ha hr => by
      have h := implPartOk_any a cap M1 (1 + (x1 : Int)) (x3 : Int) (1 + (x0 : Int)) ((x2 : Int) + 1) (x4 : Int) k w (by omega) (all_fits f1.1 (by omega)) (.inl (all_tame f1.1)) (wf_of (by omega)) (wf_of (by omega)) (wf_of (by omega)) ha hr
      rw [o3] at h
      exact h
    have HP4 : Hid (∀ (a : Option Addr) (cap : Nat) (w : World), AddrN a cap → RowN w.heap.size w a M1 → Calls Tryz.prog 8 #[.agg #[.slice a M1.length cap], .int .i64 (1 + (x1 : Int)), .int .i64 (x3 : Int), .int .i64 (1 + (x0 : Int)), .int .i64 (x2 : Int), .int .i64 (x5 : Int), .int .i64 k] w fun e w' => e = .returned (.bool W2) ∧ Below w.heap.size w w') := fun a cap w ha hr => by
      have h := implPartOk_any a cap M1 (1 + (x1 : Int)) (x3 : Int) (1 + (x0 : Int)) (x2 : Int) (x5 : Int) k w (by omega) (all_fits f1.1 (by omega)) (.inl (all_tame f1.1)) (wf_of (by omega)) (wf_of (by omega)) (wf_of (by omega)) ha hr
      rw [o4] at h
      exact h
    have HI5 : Hid (∀ (a : Option Addr) (cap : Nat) (w : World), AddrN a cap → RowN w.heap.size w a M1 → Calls Tryz.prog 9 #[.agg #[.slice a M1.length cap], .int .i64 (x3 : Int), .int .i64 11, .int .i64 (x4 : Int)] w fun e w' => ∃ v, e = .returned (.tuple #[.agg #[v], .int .i64 t]) ∧ OwnC w.heap.size w' v M2 ∧ Below w.heap.size w w') := fun a cap w ha hr => by
      have h := implAck_any a cap M1 (x3 : Int) 11 (x4 : Int) w (by omega) (all_fits f1.1 (by omega)) (wf_of (by omega)) (wf_of (by omega)) (wf_of (by omega)) ha hr
      rw [e2.1, e2.2] at h
      exact h
    have HA1 : Hid (∀ (a : Option Addr) (cap : Nat) (w : World), AddrN a cap → RowN w.heap.size w a M2 → Calls Tryz.prog 10 #[.agg #[.slice a M2.length cap], .int .i64 (x3 : Int), .int .i64 (x4 : Int), .int .i64 t] w fun e w' => e = .returned (.tuple #[.int .i64 11, .bool true]) ∧ Below w.heap.size w w') := fun a cap w ha hr => by
      have h := implAckIn_any a cap M2 (x3 : Int) (x4 : Int) t w (by omega) (all_fits f2.1 (by omega)) (.inl (all_tame f2.1)) (wf_of (by omega)) (wf_of (by omega)) ha hr
      rw [o7.1, o7.2] at h
      exact h
    have HO5 : Hid (W1 = false ∨ x0 = 1) := o5
    have HO6 : Hid (W2 = false ∨ ns.length = 1) := o6
    clear e1 e2 o1 o2 o3 o4 o5 o6 o7 hk ht f1 f2 HALL hn1 hn2 hy6
    have hAd := OA.rowIs
    have q0 := BA.c
    have q1 := PL.c0
    have q2 := PL.c1
    have q3 := PL.c2
    have q4 := PL.c3
    have q5 := PL.c4
    go_wp2_with fail
    clear q0 q1 q2 q3 q4 q5
    clear PL hx0 hx1 hx2 hx3 hx4
    refine (HI1.out _ _ _ hAd OA.rowAt).mono ?_
    rintro e wq1 ⟨v, rfl, ho, hb⟩
    obtain ⟨aq1, cq1, paq1, rfl, hA2, ho⟩ := ho
    have hlo := BA.lt
    clear OA hAd
    have OA0 := Own.made ho
    replace BA := BA.next hb
    replace HB : Hid (Below w.heap.size w wq1) := HB.out.trans (hb.mono HB.out.size)
    clear ho hb HI1
    have q0 := BA.c
    have q1 := BA.fr
    replace BA := BA.set (.slice aq1 M1.length cq1)
    have OA : Own _ _ _ _ (wq1.setCell ⟨gA, 0, none⟩ (.slice aq1 M1.length cq1)) := OA0.set hlo
    replace HC : Hid (CodeIn (wq1.setCell ⟨gA, 0, none⟩ (.slice aq1 M1.length cq1)).heap.size (wq1.setCell ⟨gA, 0, none⟩ (.slice aq1 M1.length cq1)) a0 len0) := codeIn_later HC0.out (HB.out.setCell hgw _)
    replace HB : Hid (Below w.heap.size w (wq1.setCell ⟨gA, 0, none⟩ (.slice aq1 M1.length cq1))) := HB.out.setCell hgw _
    have hAd := hA2
    clear OA0 hA2 hlo
    have q2 := BA.c
    go_wp2_with fail
    clear q0 q1 q2
    generalize wq1.setCell ⟨gA, 0, none⟩ (.slice aq1 M1.length cq1) = wr1 at BA OA HB HC ⊢
    refine (HP1.out _ _ _ hAd OA.rowAt).mono ?_
    rintro e wp1 ⟨rfl, hb⟩
    replace BA := BA.next hb
    replace OA := OA.next hb
    replace HB : Hid (Below w.heap.size w wp1) := HB.out.trans (hb.mono HB.out.size)
    replace HC : Hid (CodeIn wp1.heap.size wp1 a0 len0) := codeIn_later HC.out hb
    clear hb HP1
    have q0 := BA.c
    go_wp2_with fail
    clear q0
    refine (HP2.out _ _ _ hAd OA.rowAt).mono ?_
    rintro e wp2 ⟨rfl, hb⟩
    replace BA := BA.next hb
    replace OA := OA.next hb
    replace HB : Hid (Below w.heap.size w wp2) := HB.out.trans (hb.mono HB.out.size)
    replace HC : Hid (CodeIn wp2.heap.size wp2 a0 len0) := codeIn_later HC.out hb
    clear hb HP2
    have q0 := BA.c
    go_wp2_with fail
    clear q0
    refine (HP3.out _ _ _ hAd OA.rowAt).mono ?_
    rintro e wp3 ⟨rfl, hb⟩
    replace BA := BA.next hb
    replace OA := OA.next hb
    replace HB : Hid (Below w.heap.size w wp3) := HB.out.trans (hb.mono HB.out.size)
    replace HC : Hid (CodeIn wp3.heap.size wp3 a0 len0) := codeIn_later HC.out hb
    clear hb HP3
    have q0 := BA.c
    go_upto_region 15 with fail
    clear q0
    obtain ⟨S, hS0, hNE, HK⟩ := read_class wp3
    have k0 := HK.out.1 ⟨gA, 0, none⟩ _ BA.lt BA.c
    have HRS : Hid (∀ s : Hw S, RowN s.w.heap.size s.w _ M1) := fun s => OA.rowAt.grown (HK.out.2.2.2 s)
    have hkk : ∀ (s : Hw S) w', Below s.w.heap.size s.w w' → S w' := HK.out.2.1
    refine wp_region_held (S := S) (by kernel_rfl) (by kernel_rfl) hS0 ?_
    try simp only [List.append_eq, List.cons_append, List.nil_append]
    repeat (go_big_quiet_step (first | (go_at_call 8; exact Calls.held (HP4.out _ _ _ hAd (HRS.out _)) (hkk _))))
    refine wpQuiet_nil ?_
    rintro _ ⟨sw, rfl⟩
    have hb := HK.out.2.2.2 sw
    obtain ⟨wp4, hwp⟩ : ∃ wz, sw.w = wz := ⟨_, rfl⟩
    rw [hwp] at hb ⊢
    clear hwp hkk HRS k0 HK hS0 hNE HP4 hx5
    clear sw
    clear S
    replace BA := BA.next hb
    replace OA := OA.next hb
    replace HB : Hid (Below w.heap.size w wp4) := HB.out.trans (hb.mono HB.out.size)
    replace HC : Hid (CodeIn wp4.heap.size wp4 a0 len0) := codeIn_later HC.out hb
    clear hb
    have q0 := BA.c
    go_wp2_with fail
    clear q0
    refine (HI5.out _ _ _ hAd OA.rowAt).mono ?_
    rintro e wq5 ⟨v, rfl, ho, hb⟩
    obtain ⟨aq5, cq5, paq5, rfl, hA2, ho⟩ := ho
    have hlo := BA.lt
    clear OA hAd
    have OA0 := Own.made ho
    replace BA := BA.next hb
    replace HB : Hid (Below w.heap.size w wq5) := HB.out.trans (hb.mono HB.out.size)
    clear ho hb HI5
    have q0 := BA.c
    have q1 := BA.fr
    replace BA := BA.set (.slice aq5 M2.length cq5)
    have OA : Own _ _ _ _ (wq5.setCell ⟨gA, 0, none⟩ (.slice aq5 M2.length cq5)) := OA0.set hlo
    replace HC : Hid (CodeIn (wq5.setCell ⟨gA, 0, none⟩ (.slice aq5 M2.length cq5)).heap.size (wq5.setCell ⟨gA, 0, none⟩ (.slice aq5 M2.length cq5)) a0 len0) := codeIn_later HC0.out (HB.out.setCell hgw _)
    replace HB : Hid (Below w.heap.size w (wq5.setCell ⟨gA, 0, none⟩ (.slice aq5 M2.length cq5))) := HB.out.setCell hgw _
    have hAd := hA2
    clear OA0 hA2 hlo
    have q2 := BA.c
    go_wp2_with fail
    clear q0 q1 q2
    generalize wq5.setCell ⟨gA, 0, none⟩ (.slice aq5 M2.length cq5) = wr5 at BA OA HB HC ⊢
    refine (HA1.out _ _ _ hAd OA.rowAt).mono ?_
    rintro e wp5 ⟨rfl, hb⟩
    clear OA BA hAd
    replace HB : Hid (Below w.heap.size w wp5) := HB.out.trans (hb.mono HB.out.size)
    replace HC : Hid (CodeIn wp5.heap.size wp5 a0 len0) := codeIn_later HC.out hb
    clear hb HA1
    go_wp2_with fail
    refine (drawPartOk_any _ _ _ _ HC.out).mono ?_
    rintro e w21 ⟨vb, msb, qs, qh, qm, qn, qa, qk, rfl, hlb, hfb, htb, z0, z1, z2, z3, z4, z5, z6, z7, z8, z9, z10, z11, ho, hb⟩
    obtain ⟨ab, cb, rfl, hab, hrb⟩ := ho.row
    have RB0 : Rd ab msb w21 := ⟨hrb⟩
    replace HB : Hid (Below w.heap.size w (w21)) := HB.out.trans (hb.mono HB.out.size)
    replace HC : Hid (CodeIn (w21).heap.size (w21) a0 len0) := codeIn_later HC.out hb
    obtain ⟨P, HPI, HPS⟩ : ∃ P : Bool, Hid (∀ (w : World), RowN w.heap.size w ab msb → Calls Tryz.prog 8 #[.agg #[.slice ab msb.length cb], .int .i64 qs, .int .i64 qh, .int .i64 qm, .int .i64 qn, .int .i64 qa, .int .i64 qk] w fun e w' => e = .returned (.bool P) ∧ Below w.heap.size w w') ∧ Hid (∀ (w : World), RowN w.heap.size w ab msb → Calls Tryz.prog 17 #[.agg #[.slice ab msb.length cb], .int .i64 qs, .int .i64 qh, .int .i64 qm, .int .i64 qn, .int .i64 qa, .int .i64 qk] w fun e w' => e = .returned (.bool P) ∧ Below w.heap.size w w') :=
      ⟨_, fun w hr => implPartOk_any ab cb msb qs qh qm qn qa qk w hlb hfb htb (wf_of (by omega)) (wf_of (by omega)) (wf_of (by omega)) hab hr, fun w hr => specPartOk_any ab cb msb qs qh qm qn qa qk w hlb hab hr⟩
    have RB := RB0
    clear hb RB0 hrb hfb htb ho hab hlb z0 z1 z2 z3 z4 z5 z6 z7 z8 z9 z10 z11
    have hbb : Below w21.heap.size w21 (w21.alloc (.cells #[.slice ab msb.length cb] 26)) := (Below.refl _ _).alloc (Nat.le_refl _) _
    replace RB := RB.next hbb
    replace HB : Hid (Below w.heap.size w (w21.alloc (.cells #[.slice ab msb.length cb] 26))) := HB.out.trans (hbb.mono HB.out.size)
    replace HC : Hid (CodeIn (w21.alloc (.cells #[.slice ab msb.length cb] 26)).heap.size (w21.alloc (.cells #[.slice ab msb.length cb] 26)) a0 len0) := codeIn_later HC.out hbb
    have BB : Var w21.heap.size (.slice ab msb.length cb) (w21.alloc (.cells #[.slice ab msb.length cb] 26)) := Var.made
    clear hbb
    go_wp2_with fail
    generalize w21.alloc (.cells #[.slice ab msb.length cb] 26) = w22 at RB BB HB HC ⊢
    refine (drawAckIn_any _ _ _ _ HC.out).mono ?_
    rintro e w23 ⟨vc, msc, ch, ca, ck, rfl, hlc, hfc, htc, z0, z1, z2, z3, z4, z5, ho, hb⟩
    obtain ⟨ac, cc, rfl, hac, hrc⟩ := ho.row
    have RC0 : Rd ac msc w23 := ⟨hrc⟩
    replace RB := RB.next hb
    replace BB := BB.next hb
    replace HB : Hid (Below w.heap.size w (w23)) := HB.out.trans (hb.mono HB.out.size)
    replace HC : Hid (CodeIn (w23).heap.size (w23) a0 len0) := codeIn_later HC.out hb
    obtain ⟨V, Q, HQI, HQS⟩ : ∃ (V : Int) (Q : Bool), Hid (∀ (w : World), RowN w.heap.size w ac msc → Calls Tryz.prog 10 #[.agg #[.slice ac msc.length cc], .int .i64 ch, .int .i64 ca, .int .i64 ck] w fun e w' => e = .returned (.tuple #[.int .i64 V, .bool Q]) ∧ Below w.heap.size w w') ∧ Hid (∀ (w : World), RowN w.heap.size w ac msc → Calls Tryz.prog 13 #[.agg #[.slice ac msc.length cc], .int .i64 ch, .int .i64 ca, .int .i64 ck] w fun e w' => e = .returned (.tuple #[.int .i64 V, .bool Q]) ∧ Below w.heap.size w w') :=
      ⟨_, _, fun w hr => implAckIn_any ac cc msc ch ca ck w hlc hfc htc (wf_of (by omega)) (wf_of (by omega)) hac hr, fun w hr => specAckIn_any ac cc msc ch ca ck w hlc hac hr⟩
    have RC := RC0
    clear hb RC0 hrc hfc htc ho hac hlc z0 z1 z2 z3 z4 z5
    have hbb : Below w23.heap.size w23 (w23.alloc (.cells #[.slice ac msc.length cc] 26)) := (Below.refl _ _).alloc (Nat.le_refl _) _
    replace RB := RB.next hbb
    replace BB := BB.next hbb
    replace RC := RC.next hbb
    replace HB : Hid (Below w.heap.size w (w23.alloc (.cells #[.slice ac msc.length cc] 26))) := HB.out.trans (hbb.mono HB.out.size)
    replace HC : Hid (CodeIn (w23.alloc (.cells #[.slice ac msc.length cc] 26)).heap.size (w23.alloc (.cells #[.slice ac msc.length cc] 26)) a0 len0) := codeIn_later HC.out hbb
    have BC : Var w23.heap.size (.slice ac msc.length cc) (w23.alloc (.cells #[.slice ac msc.length cc] 26)) := Var.made
    clear hbb
    have q0 := BC.c
    go_wp2_with fail
    clear q0
    generalize w23.alloc (.cells #[.slice ac msc.length cc] 26) = w24 at RB BB RC BC HB HC ⊢
    refine (HQI.out _ RC.row).mono ?_
    rintro e w25 ⟨rfl, hb⟩
    replace RB := RB.next hb
    replace BB := BB.next hb
    replace RC := RC.next hb
    replace BC := BC.next hb
    replace HB : Hid (Below w.heap.size w (w25)) := HB.out.trans (hb.mono HB.out.size)
    replace HC : Hid (CodeIn (w25).heap.size (w25) a0 len0) := codeIn_later HC.out hb
    clear hb HQI
    have q0 := BC.c
    go_wp2_with fail
    clear q0
    refine (HQS.out _ RC.row).mono ?_
    rintro e w26 ⟨rfl, hb⟩
    replace RB := RB.next hb
    replace BB := BB.next hb
    replace RC := RC.next hb
    replace BC := BC.next hb
    replace HB : Hid (Below w.heap.size w (w26)) := HB.out.trans (hb.mono HB.out.size)
    replace HC : Hid (CodeIn (w26).heap.size (w26) a0 len0) := codeIn_later HC.out hb
    clear hb HQS
    clear RC BC
    go_wp2_with fail
    refine (drawHand_any _ _ _ _ HC.out).mono ?_
    rintro e w27 ⟨v3, ns3, sc, pu, hm, hx, hy, hbo, rfl, hm2, hfit, z0, z1, z2, z3, z4, z5, z6, z7, z8, z9, z10, z11, ho, hb⟩
    obtain ⟨a3, c3, rfl, -, -⟩ := ho.row
    have O30 := Own.made ho
    replace RB := RB.next hb
    replace BB := BB.next hb
    replace HB : Hid (Below w.heap.size w (w27)) := HB.out.trans (hb.mono HB.out.size)
    replace HC : Hid (CodeIn (w27).heap.size (w27) a0 len0) := codeIn_later HC.out hb
    have O3 := O30
    clear ho hb O30
    have hbb : Below w27.heap.size w27 (w27.alloc (.cells #[.slice a3 ns3.length c3] 26)) := (Below.refl _ _).alloc (Nat.le_refl _) _
    replace RB := RB.next hbb
    replace BB := BB.next hbb
    replace O3 := O3.next hbb
    replace HB : Hid (Below w.heap.size w (w27.alloc (.cells #[.slice a3 ns3.length c3] 26))) := HB.out.trans (hbb.mono HB.out.size)
    replace HC : Hid (CodeIn (w27.alloc (.cells #[.slice a3 ns3.length c3] 26)).heap.size (w27.alloc (.cells #[.slice a3 ns3.length c3] 26)) a0 len0) := codeIn_later HC.out hbb
    have B3 : Var w27.heap.size (.slice a3 ns3.length c3) (w27.alloc (.cells #[.slice a3 ns3.length c3] 26)) := Var.made
    clear hbb
    obtain ⟨Ah, Kh, HIh, HSh, hAh⟩ : ∃ (Ah : List Nd) (Kh : Int), Hid (∀ (a : Option Addr) (cap : Nat) (w : World), AddrN a cap → RowN w.heap.size w a ns3 → Calls Tryz.prog 15 #[.agg #[.slice a ns3.length cap], .int .i64 sc, .int .i64 pu, .int .i64 hm, .int .i64 hx, .int .i64 hy, .int .i64 hbo] w fun e w' => ∃ v, e = .returned (.tuple #[.agg #[v], .int .i64 Kh]) ∧ OwnC w.heap.size w' v Ah ∧ Below w.heap.size w w') ∧ Hid (∀ (a : Option Addr) (cap : Nat) (w : World), AddrN a cap → RowN w.heap.size w a ns3 → Calls Tryz.prog 16 #[.agg #[.slice a ns3.length cap], .int .i64 sc, .int .i64 pu, .int .i64 hm, .int .i64 hx, .int .i64 hy, .int .i64 hbo] w fun e w' => ∃ v, e = .returned (.tuple #[.agg #[v], .int .i64 Kh]) ∧ OwnN w.heap.size w' v Ah ∧ Below w.heap.size w w') ∧ Ah.length ≤ 1048576 :=
      ⟨keptA ns3 (hnA ns3 sc pu hm hx hy hbo) (hnK ns3 sc pu hm hx hy hbo), hnK ns3 sc pu hm hx hy hbo, fun a cap w ha hr => implHnd_any a cap ns3 sc pu hm hx hy hbo w (by omega) hfit (wf_of (by omega)) (wf_of (by omega)) (wf_of (by omega)) (wf_of (by omega)) (wf_of (by omega)) (wf_of (by omega)) ha hr, fun a cap w ha hr => specHnd_any a cap ns3 sc pu hm hx hy hbo w (by omega) ha hr, keptA_le (by omega) (hnA_le (by omega))⟩
    go_wp2_with fail
    generalize w27.alloc (.cells #[.slice a3 ns3.length c3] 26) = w28 at RB BB O3 B3 HB HC ⊢
    refine (HIh.out _ _ _ O3.rowIs O3.rowAt).mono ?_
    rintro e w29 ⟨vih, rfl, ho, hb⟩
    obtain ⟨aih, cih, pih, rfl, -, ho⟩ := ho
    have Oih0 := Own.made ho
    replace RB := RB.next hb
    replace BB := BB.next hb
    replace O3 := O3.next hb
    replace B3 := B3.next hb
    replace HB : Hid (Below w.heap.size w (w29)) := HB.out.trans (hb.mono HB.out.size)
    replace HC : Hid (CodeIn (w29).heap.size (w29) a0 len0) := codeIn_later HC.out hb
    have Oih := Oih0
    clear ho hb Oih0 HIh
    have hbb : Below w29.heap.size w29 (w29.alloc (.cells #[.slice aih Ah.length cih] 26)) := (Below.refl _ _).alloc (Nat.le_refl _) _
    replace RB := RB.next hbb
    replace BB := BB.next hbb
    replace O3 := O3.next hbb
    replace B3 := B3.next hbb
    replace Oih := Oih.next hbb
    replace HB : Hid (Below w.heap.size w (w29.alloc (.cells #[.slice aih Ah.length cih] 26))) := HB.out.trans (hbb.mono HB.out.size)
    replace HC : Hid (CodeIn (w29.alloc (.cells #[.slice aih Ah.length cih] 26)).heap.size (w29.alloc (.cells #[.slice aih Ah.length cih] 26)) a0 len0) := codeIn_later HC.out hbb
    have Bih : Var w29.heap.size (.slice aih Ah.length cih) (w29.alloc (.cells #[.slice aih Ah.length cih] 26)) := Var.made
    clear hbb
    have q0 := B3.c
    go_wp2_with fail
    clear q0
    generalize w29.alloc (.cells #[.slice aih Ah.length cih] 26) = w30 at RB BB O3 B3 Oih Bih HB HC ⊢
    refine (HSh.out _ _ _ O3.rowIs O3.rowAt).mono ?_
    rintro e w31 ⟨vsh, rfl, ho, hb⟩
    obtain ⟨ash, csh, rfl, -, -⟩ := ho.row
    have Osh0 := Own.made ho
    replace RB := RB.next hb
    replace BB := BB.next hb
    replace O3 := O3.next hb
    replace B3 := B3.next hb
    replace Oih := Oih.next hb
    replace Bih := Bih.next hb
    replace HB : Hid (Below w.heap.size w (w31)) := HB.out.trans (hb.mono HB.out.size)
    replace HC : Hid (CodeIn (w31).heap.size (w31) a0 len0) := codeIn_later HC.out hb
    have Osh := Osh0
    clear ho hb Osh0 HSh
    have hbb : Below w31.heap.size w31 (w31.alloc (.cells #[.slice ash Ah.length csh] 26)) := (Below.refl _ _).alloc (Nat.le_refl _) _
    replace RB := RB.next hbb
    replace BB := BB.next hbb
    replace O3 := O3.next hbb
    replace B3 := B3.next hbb
    replace Oih := Oih.next hbb
    replace Bih := Bih.next hbb
    replace Osh := Osh.next hbb
    replace HB : Hid (Below w.heap.size w (w31.alloc (.cells #[.slice ash Ah.length csh] 26))) := HB.out.trans (hbb.mono HB.out.size)
    replace HC : Hid (CodeIn (w31.alloc (.cells #[.slice ash Ah.length csh] 26)).heap.size (w31.alloc (.cells #[.slice ash Ah.length csh] 26)) a0 len0) := codeIn_later HC.out hbb
    have Bsh : Var w31.heap.size (.slice ash Ah.length csh) (w31.alloc (.cells #[.slice ash Ah.length csh] 26)) := Var.made
    clear hbb
    clear O3 B3
    clear hfit hm2 z0 z1 z2 z3 z4 z5 z6 z7 z8 z9 z10 z11 HC HC0
    go_upto_region 25 with fail
    generalize w31.alloc (.cells #[.slice ash Ah.length csh] 26) = w32 at RB BB Oih Bih Osh Bsh HB ⊢
    obtain ⟨S, hS0, hNE, HK⟩ := read_class w32
    have k0 := var_heldP BB HK.out.1
    have k1 := var_heldP Bih HK.out.1
    have k2 := var_heldP Bsh HK.out.1
    have HRB : Hid (∀ s : Hw S, RowN s.w.heap.size s.w ab msb) := fun s => RB.row.grown (HK.out.2.2.2 s)
    have HRI : Hid (∀ s : Hw S, RowN s.w.heap.size s.w aih Ah) := fun s => Oih.rowAt.grown (HK.out.2.2.2 s)
    have HRS : Hid (∀ s : Hw S, RowN s.w.heap.size s.w ash Ah) := fun s => Osh.rowAt.grown (HK.out.2.2.2 s)
    have hkk : ∀ (s : Hw S) w', Below s.w.heap.size s.w w' → S w' := HK.out.2.1
    clear RB BB Oih Bih Osh Bsh
    have hPP : (P == P) = true := by simp
    have hQQ : (Q == Q) = true := by simp
    rcases HO5.out with h5 | h5 <;> rcases HO6.out with h6 | h6 <;> clear HO5 HO6
    · subst h5
      subst h6
      refine wp_region_held (S := S) (by kernel_rfl) (by kernel_rfl) hS0 ?_
      simp only [List.append_eq, List.cons_append, List.nil_append]
      repeat (go_big_quiet_step (first | (with_reducible exact held_sameP hAh HRI HRS hkk) | (go_at_call 8; exact Calls.held (HPI.out _ (HRB.out _)) (hkk _)) | (go_at_call 17; exact Calls.held (HPS.out _ (HRB.out _)) (hkk _))))
      refine wpQuiet_nil ?_
      rintro _ ⟨sw, rfl⟩
      have hb := HK.out.2.2.2 sw
      have HE : Hid (Below w.heap.size w sw.w) := HB.out.trans (hb.mono HB.out.size)
      clear hb
      go_wp2
      go_ret
      exact ⟨rfl, HE.out⟩
    · subst h5
      have hn1 : ((ns.length : Int) == 1) = true := by rw [h6]; rfl
      clear h6
      cases W2 with
      | false =>
        refine wp_region_held (S := S) (by kernel_rfl) (by kernel_rfl) hS0 ?_
        simp only [List.append_eq, List.cons_append, List.nil_append]
        repeat (go_big_quiet_step (first | (with_reducible exact held_sameP hAh HRI HRS hkk) | (go_at_call 8; exact Calls.held (HPI.out _ (HRB.out _)) (hkk _)) | (go_at_call 17; exact Calls.held (HPS.out _ (HRB.out _)) (hkk _))))
        refine wpQuiet_nil ?_
        rintro _ ⟨sw, rfl⟩
        have hb := HK.out.2.2.2 sw
        have HE : Hid (Below w.heap.size w sw.w) := HB.out.trans (hb.mono HB.out.size)
        clear hb
        go_wp2
        go_ret
        exact ⟨rfl, HE.out⟩
      | true =>
        refine wp_region_held (S := S) (by kernel_rfl) (by kernel_rfl) hS0 ?_
        simp only [List.append_eq, List.cons_append, List.nil_append]
        repeat (go_big_quiet_step (first | (with_reducible exact held_sameP hAh HRI HRS hkk) | (go_at_call 8; exact Calls.held (HPI.out _ (HRB.out _)) (hkk _)) | (go_at_call 17; exact Calls.held (HPS.out _ (HRB.out _)) (hkk _))))
        refine wpQuiet_nil ?_
        rintro _ ⟨sw, rfl⟩
        have hb := HK.out.2.2.2 sw
        have HE : Hid (Below w.heap.size w sw.w) := HB.out.trans (hb.mono HB.out.size)
        clear hb
        go_wp2
        go_ret
        exact ⟨rfl, HE.out⟩
    · subst h5
      have hm2 : ((1 + ((1 : Nat) : Int)) == 2) = true := by decide
      subst h6
      cases W1 with
      | false =>
        refine wp_region_held (S := S) (by kernel_rfl) (by kernel_rfl) hS0 ?_
        simp only [List.append_eq, List.cons_append, List.nil_append]
        repeat (go_big_quiet_step (first | (with_reducible exact held_sameP hAh HRI HRS hkk) | (go_at_call 8; exact Calls.held (HPI.out _ (HRB.out _)) (hkk _)) | (go_at_call 17; exact Calls.held (HPS.out _ (HRB.out _)) (hkk _))))
        refine wpQuiet_nil ?_
        rintro _ ⟨sw, rfl⟩
        have hb := HK.out.2.2.2 sw
        have HE : Hid (Below w.heap.size w sw.w) := HB.out.trans (hb.mono HB.out.size)
        clear hb
        go_wp2
        go_ret
        exact ⟨rfl, HE.out⟩
      | true =>
        refine wp_region_held (S := S) (by kernel_rfl) (by kernel_rfl) hS0 ?_
        simp only [List.append_eq, List.cons_append, List.nil_append]
        repeat (go_big_quiet_step (first | (with_reducible exact held_sameP hAh HRI HRS hkk) | (go_at_call 8; exact Calls.held (HPI.out _ (HRB.out _)) (hkk _)) | (go_at_call 17; exact Calls.held (HPS.out _ (HRB.out _)) (hkk _))))
        refine wpQuiet_nil ?_
        rintro _ ⟨sw, rfl⟩
        have hb := HK.out.2.2.2 sw
        have HE : Hid (Below w.heap.size w sw.w) := HB.out.trans (hb.mono HB.out.size)
        clear hb
        go_wp2
        go_ret
        exact ⟨rfl, HE.out⟩
    · subst h5
      have hm2 : ((1 + ((1 : Nat) : Int)) == 2) = true := by decide
      have hn1 : ((ns.length : Int) == 1) = true := by rw [h6]; rfl
      clear h6
      cases W1 with
      | false =>
        cases W2 with
        | false =>
          refine wp_region_held (S := S) (by kernel_rfl) (by kernel_rfl) hS0 ?_
          simp only [List.append_eq, List.cons_append, List.nil_append]
          repeat (go_big_quiet_step (first | (with_reducible exact held_sameP hAh HRI HRS hkk) | (go_at_call 8; exact Calls.held (HPI.out _ (HRB.out _)) (hkk _)) | (go_at_call 17; exact Calls.held (HPS.out _ (HRB.out _)) (hkk _))))
          refine wpQuiet_nil ?_
          rintro _ ⟨sw, rfl⟩
          have hb := HK.out.2.2.2 sw
          have HE : Hid (Below w.heap.size w sw.w) := HB.out.trans (hb.mono HB.out.size)
          clear hb
          go_wp2
          go_ret
          exact ⟨rfl, HE.out⟩
        | true =>
          refine wp_region_held (S := S) (by kernel_rfl) (by kernel_rfl) hS0 ?_
          simp only [List.append_eq, List.cons_append, List.nil_append]
          repeat (go_big_quiet_step (first | (with_reducible exact held_sameP hAh HRI HRS hkk) | (go_at_call 8; exact Calls.held (HPI.out _ (HRB.out _)) (hkk _)) | (go_at_call 17; exact Calls.held (HPS.out _ (HRB.out _)) (hkk _))))
          refine wpQuiet_nil ?_
          rintro _ ⟨sw, rfl⟩
          have hb := HK.out.2.2.2 sw
          have HE : Hid (Below w.heap.size w sw.w) := HB.out.trans (hb.mono HB.out.size)
          clear hb
          go_wp2
          go_ret
          exact ⟨rfl, HE.out⟩
      | true =>
        cases W2 with
        | false =>
          refine wp_region_held (S := S) (by kernel_rfl) (by kernel_rfl) hS0 ?_
          simp only [List.append_eq, List.cons_append, List.nil_append]
          repeat (go_big_quiet_step (first | (with_reducible exact held_sameP hAh HRI HRS hkk) | (go_at_call 8; exact Calls.held (HPI.out _ (HRB.out _)) (hkk _)) | (go_at_call 17; exact Calls.held (HPS.out _ (HRB.out _)) (hkk _))))
          refine wpQuiet_nil ?_
          rintro _ ⟨sw, rfl⟩
          have hb := HK.out.2.2.2 sw
          have HE : Hid (Below w.heap.size w sw.w) := HB.out.trans (hb.mono HB.out.size)
          clear hb
          go_wp2
          go_ret
          exact ⟨rfl, HE.out⟩
        | true =>
          refine wp_region_held (S := S) (by kernel_rfl) (by kernel_rfl) hS0 ?_
          simp only [List.append_eq, List.cons_append, List.nil_append]
          repeat (go_big_quiet_step (first | (with_reducible exact held_sameP hAh HRI HRS hkk) | (go_at_call 8; exact Calls.held (HPI.out _ (HRB.out _)) (hkk _)) | (go_at_call 17; exact Calls.held (HPS.out _ (HRB.out _)) (hkk _))))
          refine wpQuiet_nil ?_
          rintro _ ⟨sw, rfl⟩
          have hb := HK.out.2.2.2 sw
          have HE : Hid (Below w.heap.size w sw.w) := HB.out.trans (hb.mono HB.out.size)
          clear hb
          go_wp2
          go_ret
          exact ⟨rfl, HE.out⟩
  · have hd : decide ((1048576 : Int) < (len0 : Int)) = true := by simp; omega
    clear hcode
    go_enter Tryz.func3, Tryz.ntmps3
    go_wp2_with fail
    refine (big_any _ _ _ _).mono ?_
    rintro e wz ⟨rfl, rfl⟩
    rw [hd]
    go_wp2
    go_ret
    exact ⟨rfl, Below.refl _ _⟩

theorem laidOut : laidOutB Tryz.prog = true := by kernel_rfl
set_option maxRecDepth 100000 in
theorem lifted (os : Os) (started : os.Started) (H : Type) (enc : TypeId × Value → H) :
    ReturnsInHanded {} Tryz.checked os 3 .any (Rows.fnPartsSpec.pre6 enc Tryz.prog Tryz.f3 Rows.fnPartsRow.domain false) (Rows.fnPartsSpec.post enc Tryz.prog Tryz.f3 false true false false) := by
  refine returnsInHanded_of_change (C := Tryz.checked) own started (by kernel_rfl) Tryz.func3
    (ChangeSpec.witness6 (enc := enc) (C := Tryz.checked) false ⟨#[], #[.slice none 0 0], []⟩ 8 (by kernel_rfl) (by kernel_rfl) (by kernel_rfl) (by kernel_rfl)) ?_
  intro W base args ds gs before hval0 hW hcnd _
  have hval : ∀ (j : Nat) t v, Tryz.f3.params[j]? = some t → args[j]? = some v → Value.okWide Tryz.prog W .any base t v := hval0
  have hW' := hW
  obtain ⟨p, q, hA0, hV, rfl, hfz, hnd⟩ := hW
  have hA : DataW.TrodAll enc Tryz.prog W 0 (fun _ => true) true Tryz.f3.params.toList args.toList ds p := hA0
  rw [Tryz.params3] at hA hval
  obtain ⟨v0, vs0, d0, ds0, p0, q0, hargs, rfl, rfl, h0, r0⟩ := trodAll_cons hA
  obtain ⟨rfl, rfl, rfl⟩ := trodAll_nil r0
  obtain rfl : args = #[v0] := by cases args; simp_all
  obtain ⟨rfl, rfl⟩ := trodVars_none hV
  obtain ⟨a0, len0, cap0, rfl⟩ := okWide_slice Tryz.underlying22 (hval 0 22 v0 rfl rfl)
  have k0 := h0
  have lt0 : ∀ x ∈ p0, x.block < W.heap.size := by obtain ⟨m, hm⟩ := k0; exact DataW.trod_lt m _ _ _ hm
  clear hA0 hval0
  refine (walk a0 len0 cap0  W (code_of h0)).mono fun e W' ⟨he, bel⟩ => ?_
  subst he
  exact ⟨_, rfl, _, _, _, [], _, [], hW', trodAll_mk1 (shut_bool Tryz.underlying4 _), (trodAll_cons_mk (Below.trod laidOut (by kernel_rfl) (of_decide_eq_true (by kernel_rfl)) k0 bel lt0) trodAll_mk0), rfl, bel.frame _, fun h => by cases h⟩

theorem over : Rows.fnPartsRow.holds Tryz.pinned (OpenSpec.ofChange Rows.fnPartsSpec) :=
  OpenClaim.holds_of_wide 3 Tryz.f3 rfl rfl rfl rfl rfl rfl rfl ⟨rfl, rfl, rfl, rfl, rfl⟩ rfl rfl rfl rfl rfl (by kernel_rfl) Tryz.func3 (by kernel_rfl)
    (of_decide_eq_true (by kernel_rfl)) (by unfold Func.isWrapper; first | (rw [if_pos (by decide +kernel)]; kernel_rfl) | (rw [if_neg (by decide +kernel)]; exact ⟨rfl, rfl⟩))
    (fun os started H enc _ => lifted os started H enc)
end fnParts

theorem fnParts_holds : Rows.FnPartsSaid := fnParts.over
#print axioms fnParts_holds
end Go.Proofs.YtaanophnnkmkbaaGreat
