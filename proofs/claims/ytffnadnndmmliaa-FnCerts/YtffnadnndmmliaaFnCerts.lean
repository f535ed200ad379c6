/- For every code: a certificate of the program tells its name and the key of it; nobody makes one who does not have the secret of who signs; the secret of two names is the same both ways; and what is made and read of drawn terms, right or not, is what the specification makes and reads. No condition. -/
import Derived.Test.YtffnadnndmmliaaRows
import Derived.Test.YtffnadnndmmliaaLawClip
import Derived.Test.YtffnadnndmmliaaRegionH
import Derived.Test.YtffnadnndmmliaaDraw10
import Derived.Test.YtffnadnndmmliaaCin10
import Derived.Test.YtffnadnndmmliaaImplT10
import Derived.Test.YtffnadnndmmliaaImplCI10
import Derived.Test.YtffnadnndmmliaaListP
import Derived.Test.YtffnadnndmmliaaKeptS
import Derived.Test.YtffnadnndmmliaaPlainTerm
import Derived.Test.YtffnadnndmmliaaTermPut2
import Derived.Test.YtffnadnndmmliaaLawArena2
import Derived.Test.YtffnadnndmmliaaCodeW
import Derived.Test.YtffnadnndmmliaaDrawRT
import Derived.WalkKit
import Derived.ProofKit
import Derived.OpenShut
import Derived.ShutString
import Derived.ChangeOld
import Derived.Deep.RegionWith
import Derived.PlainAid
namespace Go.Proofs.Ytffnadnndmmliaa
namespace fnCerts
open Go.ChangeShapes Go.WideShapes Go.ChangeAt Go.RowKit Go.PlainAid
open Go.ChangeMaps (open_string shut_string)
set_option linter.unusedVariables false

theorem own : ownKnob Try.prog.godebug = none := by kernel_rfl

theorem mod10 (p : Nat) : ∃ x : Nat, Int.tmod (p : Int) 10 = (x : Int) ∧ x < 10 := ⟨p % 10, by rw [Int.tmod_eq_emod_of_nonneg (by omega)]; omega, Nat.mod_lt _ (by omega)⟩
theorem wf_of {x : Int} (h : -2000000 ≤ x ∧ x ≤ 2000000) : (Lit.int .i64 x).wf = true := by
  have h1 : IntKind.i64.min = -9223372036854775808 := rfl
  have h2 : IntKind.i64.max = 9223372036854775807 := rfl
  simp [Lit.wf, h1, h2]; omega
/-- The two that are known. -/
structure Kn2 (b : Nat) (s x : Int) (w : World) : Prop where
  lt : b < w.heap.size
  c0 : w.cell? ⟨b, 0, none⟩ = some (.int .i64 s)
  c1 : w.cell? ⟨b, 1, none⟩ = some (.int .i64 x)
theorem Kn2.next {b : Nat} {s x : Int} {w w' : World} (h : Kn2 b s x w) (hb : Below w.heap.size w w') : Kn2 b s x w' := ⟨Nat.lt_of_lt_of_le h.lt hb.size, (hb.cell (p := ⟨b, 0, none⟩) h.lt).trans h.c0, (hb.cell (p := ⟨b, 1, none⟩) h.lt).trans h.c1⟩
theorem Kn2.made {w : World} {s x : Int} : Kn2 w.heap.size s x (w.alloc (.cells #[.int .i64 s, .int .i64 x] 3)) := ⟨by simp, (cell_of_row _ _ 0 _ _ _ (heap_alloc_new w _)).trans rfl, (cell_of_row _ _ 1 _ _ _ (heap_alloc_new w _)).trans rfl⟩
theorem Kn2.row {b : Nat} {s x : Int} {w : World} (h : Kn2 b s x w) : RowI w.heap.size w (some ⟨b, 0, none⟩) [s, x] := by
  refine .inr ⟨b, 0, rfl, h.lt, fun j hj => ?_⟩
  have hj2 : j < 2 := hj
  rcases (show j = 0 ∨ j = 1 by omega) with rfl | rfl
  · exact h.c0
  · exact h.c1
/-- A row of nodes that is read alone. -/
structure Rd (a : Option Addr) (ms : List Nd) (w : World) : Prop where
  row : RowN w.heap.size w a ms
theorem Rd.next {a : Option Addr} {ms : List Nd} {w w' : World} (h : Rd a ms w) (hb : Below w.heap.size w w') : Rd a ms w' := ⟨h.row.grown hb⟩
set_option maxHeartbeats 12800000 in
set_option maxRecDepth 20000 in
theorem walk (a0 : Option Addr) (len0 cap0 : Nat) (w : World) (hcode : len0 ≤ 1048576 → CodeIn w.heap.size w a0 len0) :
    Calls Try.prog 13 #[.slice a0 len0 cap0] w fun e w' => e = .returned (.bool true) ∧ Below w.heap.size w w' := by
  by_cases hbig : len0 ≤ 1048576
  · have HC : Hid (CodeIn w.heap.size w a0 len0) := hcode hbig
    have HC0 : Hid (CodeIn w.heap.size w a0 len0) := hcode hbig
    have HB : Hid (Below w.heap.size w w) := Below.refl _ _
    have hd : decide ((1048576 : Int) < (len0 : Int)) = false := by simp; omega
    clear hcode hbig
    go_enter Try.func13, Try.ntmps13
    go_wp2_with fail
    refine (big_any _ _ _ _).mono ?_
    rintro e wz ⟨rfl, rfl⟩
    rw [hd]
    clear hd
    go_wp2_with fail
    refine (drawArena_any _ _ _ _ HC.out).mono ?_
    rintro e w1 ⟨v1, ns, rfl, hn1, hn2, hall, ho1, hb1⟩
    have HALL : Hid (allFrom ns ns 0 = true) := hall
    clear hall
    obtain ⟨a1, c1, rfl, -, -⟩ := ho1.row
    have OA := Own.made ho1
    replace HB : Hid (Below w.heap.size w w1) := HB.out.trans (hb1.mono HB.out.size)
    replace HC : Hid (CodeIn w1.heap.size w1 a0 len0) := codeIn_later HC.out hb1
    have hgA : w.heap.size ≤ w1.heap.size := HB.out.size
    clear ho1 hb1
    have hbb : Below w1.heap.size w1 (w1.alloc (.cells #[.slice a1 ns.length c1] 28)) := (Below.refl _ _).alloc (Nat.le_refl _) _
    have BA : Box w1.heap.size (.slice a1 ns.length c1) (w1.alloc (.cells #[.slice a1 ns.length c1] 28)) := Box.made
    replace OA := OA.next hbb
    replace HB : Hid (Below w.heap.size w (w1.alloc (.cells #[.slice a1 ns.length c1] 28))) := HB.out.trans (hbb.mono HB.out.size)
    replace HC : Hid (CodeIn (w1.alloc (.cells #[.slice a1 ns.length c1] 28)).heap.size (w1.alloc (.cells #[.slice a1 ns.length c1] 28)) a0 len0) := codeIn_later HC.out hbb
    clear hbb
    go_wp2_with fail
    generalize w1.alloc (.cells #[.slice a1 ns.length c1] 28) = w2 at BA OA HB HC ⊢
    refine (places_any a0 len0 cap0 w2 HC.out).mono ?_
    rintro e w3 ⟨gp, cp, xs, rfl, hxl, hxb, hg1, hg2, hcl, hb⟩
    have PL : Pl4 gp (xs.getD 0 0) (xs.getD 1 0) (xs.getD 2 0) (xs.getD 3 0) w3 := ⟨hg2, hcl 0 (by omega), hcl 1 (by omega), hcl 2 (by omega), hcl 3 (by omega)⟩
    have hgne : gp ≠ w1.heap.size := by have := BA.lt; omega
    replace BA := BA.next hb
    replace OA := OA.next hb
    replace HC : Hid (CodeIn w3.heap.size w3 a0 len0) := codeIn_later HC.out hb
    replace HB : Hid (Below w.heap.size w w3) := HB.out.trans (hb.mono HB.out.size)
    clear hb hcl hg1 hg2 hxb hxl
    generalize xs.getD 0 0 = p0 at PL
    generalize xs.getD 1 0 = p1 at PL
    generalize xs.getD 2 0 = p2 at PL
    generalize xs.getD 3 0 = p3 at PL
    clear xs
    obtain ⟨x, hx0, hx1⟩ := mod10 p0
    obtain ⟨y, hy0, hy1⟩ := mod10 p1
    obtain ⟨gA, HGA⟩ : ∃ g, Hid (w1.heap.size = g) := ⟨_, rfl⟩
    have hgw : w.heap.size ≤ gA := by rw [← HGA.out]; exact hgA
    rw [HGA.out] at BA hgne ⊢
    clear hgA
    obtain ⟨M1, M2, M3, M4, M5, k, s, u, z, e1, ek, e2, es, e3, eu, e4, ez, e5, ez2, hk, hs, hu, hz, f1, f2, f3, f4, f5, ht, hder⟩ := certs_are (n := (x : Int)) (m := (y : Int)) HALL.out (by omega) (by omega) (by omega)
    have HI1 : Hid (∀ (a : Option Addr) (cap : Nat) (w : World), AddrN a cap → RowN w.heap.size w a ns → Calls Try.prog 63 #[.agg #[.slice a ns.length cap], .int .i64 (x : Int)] w fun e w' => ∃ v, e = .returned (.tuple #[.agg #[v], .int .i64 k]) ∧ OwnC w.heap.size w' v M1 ∧ Below w.heap.size w w') := fun a cap w ha hr => by
      have h := implCert_any a cap ns x w (by omega) (all_fits HALL.out (by omega)) (wf_of (by omega)) ha hr
      rw [keptA_pos (by rw [ek]; omega), e1, ek] at h
      exact h
    have HI2 : Hid (∀ (a : Option Addr) (cap : Nat) (w : World), RowN w.heap.size w a M1 → Calls Try.prog 64 #[.agg #[.slice a M1.length cap], .int .i64 k] w fun e w' => e = .returned (.tuple #[.int .i64 (x : Int), .int .i64 u, .bool true]) ∧ Below w.heap.size w w') := fun a cap w hr => by
      have h := implCertIn_any a cap M1 k w (by omega) (all_fits f1.1 (by omega)) hr
      rw [ht.1, ht.2.1, ht.2.2] at h
      exact h
    have HI3 : Hid (∀ (a : Option Addr) (cap : Nat) (w : World), AddrN a cap → RowN w.heap.size w a M1 → Calls Try.prog 65 #[.agg #[.slice a M1.length cap], .int .i64 (x : Int)] w fun e w' => ∃ v, e = .returned (.tuple #[.agg #[v], .int .i64 s]) ∧ OwnC w.heap.size w' v M2 ∧ Below w.heap.size w w') := fun a cap w ha hr => by
      have h := implLong_any a cap M1 x w (by omega) (all_fits f1.1 (by omega)) (wf_of (by omega)) ha hr
      rw [keptA_pos (by rw [es]; omega), e2, es] at h
      exact h
    have HI4 : Hid (∀ (a : Option Addr) (cap : Nat) (w : World), AddrN a cap → RowN w.heap.size w a M2 → Calls Try.prog 66 #[.agg #[.slice a M2.length cap], .int .i64 6, .int .i64 s, .int .i64 0] w fun e w' => ∃ v, e = .returned (.tuple #[.agg #[v], .int .i64 u]) ∧ OwnN w.heap.size w' v M3 ∧ Below w.heap.size w w') := fun a cap w ha hr => by
      have h := specMake_any a cap M2 6 s 0 w (by omega) ha hr
      rw [e3, eu] at h
      exact h
    have HI5 : Hid (∀ (a : Option Addr) (cap : Nat) (w : World), AddrN a cap → RowN w.heap.size w a M3 → Calls Try.prog 67 #[.agg #[.slice a M3.length cap], .int .i64 (x : Int), .int .i64 (y : Int)] w fun e w' => ∃ v, e = .returned (.tuple #[.agg #[v], .int .i64 z]) ∧ OwnC w.heap.size w' v M4 ∧ Below w.heap.size w w') := fun a cap w ha hr => by
      have h := implPsk_any a cap M3 x y w (by omega) (all_fits f3.1 (by omega)) (wf_of (by omega)) (wf_of (by omega)) ha hr
      rw [keptA_pos (by rw [ez]; omega), e4, ez] at h
      exact h
    have HI6 : Hid (∀ (a : Option Addr) (cap : Nat) (w : World), AddrN a cap → RowN w.heap.size w a M4 → Calls Try.prog 67 #[.agg #[.slice a M4.length cap], .int .i64 (y : Int), .int .i64 (x : Int)] w fun e w' => ∃ v, e = .returned (.tuple #[.agg #[v], .int .i64 z]) ∧ OwnC w.heap.size w' v M5 ∧ Below w.heap.size w w') := fun a cap w ha hr => by
      have h := implPsk_any a cap M4 y x w (by omega) (all_fits f4.1 (by omega)) (wf_of (by omega)) (wf_of (by omega)) ha hr
      rw [keptA_pos (by rw [ez2]; omega), e5, ez2] at h
      exact h
    have HDE : Hid (∀ (a : Option Addr) (cap : Nat) (kb : Option Addr) (ck : Nat) (w : World), RowN w.heap.size w a M5 → RowI w.heap.size w kb [s, z] → Calls Try.prog 47 #[.agg #[.slice a M5.length cap], .slice kb 2 ck, .int .i64 k] w fun e w' => e = .returned (.bool false) ∧ Below w.heap.size w w') := fun a cap kb ck w hr hk => by
      refine (specDerives_any cap ck a kb M5 [s, z] k w (by omega) (by simp) hr hk).mono ?_
      rintro e w' ⟨bs, hbs, rfl, hb⟩
      exact ⟨by rw [hder bs hbs], hb⟩
    clear e1 ek e2 es e3 eu e4 ez e5 ez2 hk hs hu hz f1 f2 f3 f4 f5 ht hder HALL hn1 hn2
    have hAd := OA.rowIs
    have q0 := BA.c
    have q1 := PL.c0
    go_wp2_with fail
    clear q0 q1
    refine (HI1.out _ _ _ hAd OA.rowAt).mono ?_
    rintro e wq1 ⟨v, rfl, ho, hb⟩
    obtain ⟨aq1, cq1, paq1, rfl, hA2, ho⟩ := ho
    have hlo := BA.lt
    clear OA hAd
    have OA0 := Own.made ho
    replace BA := BA.next hb
    replace PL := PL.next hb
    replace HB : Hid (Below w.heap.size w wq1) := HB.out.trans (hb.mono HB.out.size)
    clear ho hb HI1
    have q0 := BA.c
    have q1 := BA.fr
    replace BA := BA.set (.slice aq1 M1.length cq1)
    have OA : Own _ _ _ _ (wq1.setCell ⟨gA, 0, none⟩ (.slice aq1 M1.length cq1)) := OA0.set hlo
    replace PL : Pl4 gp p0 p1 p2 p3 (wq1.setCell ⟨gA, 0, none⟩ (.slice aq1 M1.length cq1)) := PL.set hgne
    replace HC : Hid (CodeIn (wq1.setCell ⟨gA, 0, none⟩ (.slice aq1 M1.length cq1)).heap.size (wq1.setCell ⟨gA, 0, none⟩ (.slice aq1 M1.length cq1)) a0 len0) := codeIn_later HC0.out (HB.out.setCell hgw _)
    replace HB : Hid (Below w.heap.size w (wq1.setCell ⟨gA, 0, none⟩ (.slice aq1 M1.length cq1))) := HB.out.setCell hgw _
    have hAd := hA2
    clear OA0 hA2 hlo
    have q2 := BA.c
    have q3 := PL.c1
    go_wp2_with fail
    clear q0 q1 q2 q3
    generalize wq1.setCell ⟨gA, 0, none⟩ (.slice aq1 M1.length cq1) = wr1 at BA OA PL HB HC ⊢
    refine (HI2.out _ _ _ OA.rowAt).mono ?_
    rintro e wt ⟨rfl, hb⟩
    replace BA := BA.next hb
    replace OA := OA.next hb
    replace PL := PL.next hb
    replace HB : Hid (Below w.heap.size w wt) := HB.out.trans (hb.mono HB.out.size)
    replace HC : Hid (CodeIn wt.heap.size wt a0 len0) := codeIn_later HC.out hb
    clear hb HI2
    have q0 := BA.c
    go_wp2_with fail
    clear q0
    refine (HI3.out _ _ _ hAd OA.rowAt).mono ?_
    rintro e wq3 ⟨v, rfl, ho, hb⟩
    obtain ⟨aq3, cq3, paq3, rfl, hA2, ho⟩ := ho
    have hlo := BA.lt
    clear OA hAd
    have OA0 := Own.made ho
    replace BA := BA.next hb
    replace PL := PL.next hb
    replace HB : Hid (Below w.heap.size w wq3) := HB.out.trans (hb.mono HB.out.size)
    clear ho hb HI3
    have q0 := BA.c
    have q1 := BA.fr
    replace BA := BA.set (.slice aq3 M2.length cq3)
    have OA : Own _ _ _ _ (wq3.setCell ⟨gA, 0, none⟩ (.slice aq3 M2.length cq3)) := OA0.set hlo
    replace PL : Pl4 gp p0 p1 p2 p3 (wq3.setCell ⟨gA, 0, none⟩ (.slice aq3 M2.length cq3)) := PL.set hgne
    replace HC : Hid (CodeIn (wq3.setCell ⟨gA, 0, none⟩ (.slice aq3 M2.length cq3)).heap.size (wq3.setCell ⟨gA, 0, none⟩ (.slice aq3 M2.length cq3)) a0 len0) := codeIn_later HC0.out (HB.out.setCell hgw _)
    replace HB : Hid (Below w.heap.size w (wq3.setCell ⟨gA, 0, none⟩ (.slice aq3 M2.length cq3))) := HB.out.setCell hgw _
    have hAd := hA2
    clear OA0 hA2 hlo
    have q2 := BA.c
    have q3 := PL.c1
    go_wp2_with fail
    clear q0 q1 q2 q3
    generalize wq3.setCell ⟨gA, 0, none⟩ (.slice aq3 M2.length cq3) = wr3 at BA OA PL HB HC ⊢
    refine (HI4.out _ _ _ hAd OA.rowAt).mono ?_
    rintro e wq4 ⟨v, rfl, ho, hb⟩
    obtain ⟨aq4, cq4, rfl, hA2, -⟩ := ho.row
    have hlo := BA.lt
    clear OA hAd
    have OA0 := Own.made ho
    replace BA := BA.next hb
    replace PL := PL.next hb
    replace HB : Hid (Below w.heap.size w wq4) := HB.out.trans (hb.mono HB.out.size)
    clear ho hb HI4
    have q0 := BA.c
    have q1 := BA.fr
    replace BA := BA.set (.slice aq4 M3.length cq4)
    have OA : Own _ _ _ _ (wq4.setCell ⟨gA, 0, none⟩ (.slice aq4 M3.length cq4)) := OA0.set hlo
    replace PL : Pl4 gp p0 p1 p2 p3 (wq4.setCell ⟨gA, 0, none⟩ (.slice aq4 M3.length cq4)) := PL.set hgne
    replace HC : Hid (CodeIn (wq4.setCell ⟨gA, 0, none⟩ (.slice aq4 M3.length cq4)).heap.size (wq4.setCell ⟨gA, 0, none⟩ (.slice aq4 M3.length cq4)) a0 len0) := codeIn_later HC0.out (HB.out.setCell hgw _)
    replace HB : Hid (Below w.heap.size w (wq4.setCell ⟨gA, 0, none⟩ (.slice aq4 M3.length cq4))) := HB.out.setCell hgw _
    have hAd := hA2
    clear OA0 hA2 hlo
    have q2 := BA.c
    have q3 := PL.c1
    go_wp2_with fail
    clear q0 q1 q2 q3
    generalize wq4.setCell ⟨gA, 0, none⟩ (.slice aq4 M3.length cq4) = wr4 at BA OA PL HB HC ⊢
    have q0 : wr4.drew.cell? ⟨gA, 0, none⟩ = some (.slice aq4 M3.length cq4) := BA.c
    have q1 : wr4.drew.cell? ⟨gp, 1, none⟩ = some (.int .i64 (p1 : Int)) := PL.c1
    have HRO : Hid (RowN wr4.drew.heap.size wr4.drew aq4 M3) := OA.rowAt
    have HBX : Hid (∀ wz, Below wr4.drew.heap.size wr4.drew wz → Box gA (.slice aq4 M3.length cq4) wz) := fun wz hz => BA.next (((Below.refl _ _).drew).trans hz)
    go_wp2_with fail
    refine wp_region_head 6 208 (by kernel_rfl) rfl (by kernel_rfl) ?_
    simp only [List.take_succ_cons, List.take_zero]
    repeat still_step
    refine wpStill_nil ?_
    show wpAny _ _ _ _ 6 _ _ _
    refine wpAny_ready (rs := [6]) (by kernel_rfl) (by simp) ?_
    refine AllReady.cons rfl (fun Kt hKt => ?_) AllReady.nil
    go_simp
    go_wp2_with (go_at_call 67; refine (HI5.out _ _ _ ?_ ?_).mono ?_; exact hAd; exact HRO.out; rintro e wq5 ⟨v4, rfl, ho, hb⟩; obtain ⟨aq5, cq5, paq5, rfl, hA2, ho⟩ := ho; have f0 := (HBX.out wq5 hb).c; have f1 := (HBX.out wq5 hb).fr)
    refine wpAny_take (i := 7) (v := ?_) rfl (by kernel_rfl) (by kernel_rfl) (by kernel_rfl) (fun _ _ _ h => h) (Or.inl ⟨by rfl, ?_⟩) ?_
    rotate_left
    · intro w; go_simp; try with_reducible rfl
    refine wpAny_take (i := 8) (v := ?_) rfl (by kernel_rfl) (by kernel_rfl) (by kernel_rfl) (fun _ _ _ h => h) (Or.inl ⟨by rfl, ?_⟩) ?_
    rotate_left
    · intro w; go_simp; try with_reducible rfl
    refine wpAny_take (i := 9) (v := ?_) rfl (by kernel_rfl) (by kernel_rfl) (by kernel_rfl) (fun _ _ _ h => h) (Or.inl ⟨by rfl, ?_⟩) ?_
    rotate_left
    · intro w; go_simp; try with_reducible rfl
    refine wpAny_ready (rs := [10]) (by kernel_rfl) (by simp) ?_
    refine AllReady.cons rfl (fun Kt hKt => ?_) AllReady.nil
    go_simp
    refine hKt _ _ ?_
    clear hKt Kt
    refine wpAny_take (i := 11) (v := ?_) rfl (by kernel_rfl) (by kernel_rfl) (by kernel_rfl) (fun _ _ _ h => h) (Or.inl ⟨by rfl, ?_⟩) ?_
    rotate_left
    · intro w; go_simp; try with_reducible rfl
    refine wpAny_done (by kernel_rfl) ?_ _
    go_simp
    have hlo : gA < wr4.heap.size := BA.lt
    replace hb : Below wr4.heap.size wr4 wq5 := ((Below.refl _ _).drew).trans hb
    have OA0 : Own wr4.heap.size wq5.heap.size (.slice aq5 M4.length paq5) M4 wq5 := Own.made ho
    clear OA ho HRO HBX q0 q1 f0 f1 hAd HI5
    replace BA := BA.next hb
    replace PL := PL.next hb
    replace HB : Hid (Below w.heap.size w wq5) := HB.out.trans (hb.mono HB.out.size)
    clear hb
    have OA := OA0
    clear OA0
    replace BA := BA.set (.slice aq5 M4.length cq5)
    replace PL : Pl4 gp p0 p1 p2 p3 (wq5.setCell ⟨gA, 0, none⟩ (.slice aq5 M4.length cq5)) := PL.set hgne
    replace OA : Own _ _ _ _ (wq5.setCell ⟨gA, 0, none⟩ (.slice aq5 M4.length cq5)) := OA.set hlo
    replace HC : Hid (CodeIn (wq5.setCell ⟨gA, 0, none⟩ (.slice aq5 M4.length cq5)).heap.size (wq5.setCell ⟨gA, 0, none⟩ (.slice aq5 M4.length cq5)) a0 len0) := codeIn_later HC0.out (HB.out.setCell hgw _)
    replace HB : Hid (Below w.heap.size w (wq5.setCell ⟨gA, 0, none⟩ (.slice aq5 M4.length cq5))) := HB.out.setCell hgw _
    have hAd := hA2
    clear hlo hA2
    generalize wq5.setCell ⟨gA, 0, none⟩ (.slice aq5 M4.length cq5) = wr5 at BA OA PL HB HC ⊢
    have q0 : wr5.drew.cell? ⟨gA, 0, none⟩ = some (.slice aq5 M4.length cq5) := BA.c
    have q1 : wr5.drew.cell? ⟨gp, 1, none⟩ = some (.int .i64 (p1 : Int)) := PL.c1
    have HRO : Hid (RowN wr5.drew.heap.size wr5.drew aq5 M4) := OA.rowAt
    have HBX : Hid (∀ wz, Below wr5.drew.heap.size wr5.drew wz → Box gA (.slice aq5 M4.length cq5) wz) := fun wz hz => BA.next (((Below.refl _ _).drew).trans hz)
    go_wp2_with fail
    refine wp_region_head 6 208 (by kernel_rfl) rfl (by kernel_rfl) ?_
    simp only [List.take_succ_cons, List.take_zero]
    repeat still_step
    refine wpStill_nil ?_
    show wpAny _ _ _ _ 6 _ _ _
    refine wpAny_ready (rs := [6]) (by kernel_rfl) (by simp) ?_
    refine AllReady.cons rfl (fun Kt hKt => ?_) AllReady.nil
    go_simp
    go_wp2_with (go_at_call 67; refine (HI6.out _ _ _ ?_ ?_).mono ?_; exact hAd; exact HRO.out; rintro e wq6 ⟨v4, rfl, ho, hb⟩; obtain ⟨aq6, cq6, paq6, rfl, hA2, ho⟩ := ho; have f0 := (HBX.out wq6 hb).c; have f1 := (HBX.out wq6 hb).fr)
    refine wpAny_take (i := 7) (v := ?_) rfl (by kernel_rfl) (by kernel_rfl) (by kernel_rfl) (fun _ _ _ h => h) (Or.inl ⟨by rfl, ?_⟩) ?_
    rotate_left
    · intro w; go_simp; try with_reducible rfl
    refine wpAny_take (i := 8) (v := ?_) rfl (by kernel_rfl) (by kernel_rfl) (by kernel_rfl) (fun _ _ _ h => h) (Or.inl ⟨by rfl, ?_⟩) ?_
    rotate_left
    · intro w; go_simp; try with_reducible rfl
    refine wpAny_take (i := 9) (v := ?_) rfl (by kernel_rfl) (by kernel_rfl) (by kernel_rfl) (fun _ _ _ h => h) (Or.inl ⟨by rfl, ?_⟩) ?_
    rotate_left
    · intro w; go_simp; try with_reducible rfl
    refine wpAny_ready (rs := [10]) (by kernel_rfl) (by simp) ?_
    refine AllReady.cons rfl (fun Kt hKt => ?_) AllReady.nil
    go_simp
    refine hKt _ _ ?_
    clear hKt Kt
    refine wpAny_take (i := 11) (v := ?_) rfl (by kernel_rfl) (by kernel_rfl) (by kernel_rfl) (fun _ _ _ h => h) (Or.inl ⟨by rfl, ?_⟩) ?_
    rotate_left
    · intro w; go_simp; try with_reducible rfl
    refine wpAny_done (by kernel_rfl) ?_ _
    have hlo : gA < wr5.heap.size := BA.lt
    replace hb : Below wr5.heap.size wr5 wq6 := ((Below.refl _ _).drew).trans hb
    have OA0 : Own wr5.heap.size wq6.heap.size (.slice aq6 M5.length paq6) M5 wq6 := Own.made ho
    clear OA ho HRO HBX q0 q1 f0 f1 hAd HI6
    replace BA := BA.next hb
    replace PL := PL.next hb
    replace HB : Hid (Below w.heap.size w wq6) := HB.out.trans (hb.mono HB.out.size)
    clear hb
    have OA := OA0
    clear OA0
    replace BA := BA.set (.slice aq6 M5.length cq6)
    replace PL : Pl4 gp p0 p1 p2 p3 (wq6.setCell ⟨gA, 0, none⟩ (.slice aq6 M5.length cq6)) := PL.set hgne
    replace OA : Own _ _ _ _ (wq6.setCell ⟨gA, 0, none⟩ (.slice aq6 M5.length cq6)) := OA.set hlo
    replace HC : Hid (CodeIn (wq6.setCell ⟨gA, 0, none⟩ (.slice aq6 M5.length cq6)).heap.size (wq6.setCell ⟨gA, 0, none⟩ (.slice aq6 M5.length cq6)) a0 len0) := codeIn_later HC0.out (HB.out.setCell hgw _)
    replace HB : Hid (Below w.heap.size w (wq6.setCell ⟨gA, 0, none⟩ (.slice aq6 M5.length cq6))) := HB.out.setCell hgw _
    have hAd := hA2
    clear hlo hA2
    go_wp2_with fail
    have hsz : (wq6.setCell ⟨gA, 0, none⟩ (.slice aq6 M5.length cq6)).heap.size = wq6.heap.size := by simp [World.setCell]
    generalize wq6.setCell ⟨gA, 0, none⟩ (.slice aq6 M5.length cq6) = wr6 at BA OA PL HB HC hsz ⊢
    have hbb : Below wr6.heap.size wr6 (wr6.alloc (.cells #[.int .i64 s, .int .i64 z] 3)) := (Below.refl _ _).alloc (Nat.le_refl _) _
    have KN : Kn2 wr6.heap.size s z (wr6.alloc (.cells #[.int .i64 s, .int .i64 z] 3)) := Kn2.made
    replace BA := BA.next hbb
    replace OA := OA.next hbb
    replace HB : Hid (Below w.heap.size w (wr6.alloc (.cells #[.int .i64 s, .int .i64 z] 3))) := HB.out.trans (hbb.mono HB.out.size)
    replace HC : Hid (CodeIn (wr6.alloc (.cells #[.int .i64 s, .int .i64 z] 3)).heap.size (wr6.alloc (.cells #[.int .i64 s, .int .i64 z] 3)) a0 len0) := codeIn_later HC.out hbb
    clear hbb PL hgne
    rw [hsz] at KN
    obtain ⟨gk, HGK⟩ : ∃ g, Hid (wq6.heap.size = g) := ⟨_, rfl⟩
    rw [HGK.out] at KN ⊢
    clear hsz
    generalize wr6.alloc (.cells #[.int .i64 s, .int .i64 z] 3) = w20 at BA OA HB HC KN ⊢
    refine (drawCertIn_any _ _ _ _ HC.out).mono ?_
    rintro e w21 ⟨ab, cb, msb, kb, rfl, hlb, hfb, hb0, hb1, hab, hrb, hb⟩
    have RB0 : Rd ab msb w21 := ⟨hrb⟩
    replace BA := BA.next hb
    replace OA := OA.next hb
    replace KN := KN.next hb
    replace HB : Hid (Below w.heap.size w (w21)) := HB.out.trans (hb.mono HB.out.size)
    replace HC : Hid (CodeIn (w21).heap.size (w21) a0 len0) := codeIn_later HC.out hb
    have RB := RB0
    have HFB : Hid (∀ y ∈ msb, y.Fits) := hfb
    clear hb RB0 hrb hfb
    have hbb : Below w21.heap.size w21 (w21.alloc (.cells #[.slice ab msb.length cb] 28)) := (Below.refl _ _).alloc (Nat.le_refl _) _
    replace BA := BA.next hbb
    replace OA := OA.next hbb
    replace KN := KN.next hbb
    replace RB := RB.next hbb
    replace HB : Hid (Below w.heap.size w (w21.alloc (.cells #[.slice ab msb.length cb] 28))) := HB.out.trans (hbb.mono HB.out.size)
    replace HC : Hid (CodeIn (w21.alloc (.cells #[.slice ab msb.length cb] 28)).heap.size (w21.alloc (.cells #[.slice ab msb.length cb] 28)) a0 len0) := codeIn_later HC.out hbb
    have BB : Var w21.heap.size (.slice ab msb.length cb) (w21.alloc (.cells #[.slice ab msb.length cb] 28)) := Var.made
    clear hbb
    go_wp2_with fail
    generalize w21.alloc (.cells #[.slice ab msb.length cb] 28) = w22 at BA OA KN RB BB HB HC ⊢
    refine (implCertIn_any ab cb msb kb _ hlb HFB.out RB.row).mono ?_
    rintro e w23 ⟨rfl, hb⟩
    replace BA := BA.next hb
    replace OA := OA.next hb
    replace KN := KN.next hb
    replace RB := RB.next hb
    replace BB := BB.next hb
    replace HB : Hid (Below w.heap.size w (w23)) := HB.out.trans (hb.mono HB.out.size)
    replace HC : Hid (CodeIn (w23).heap.size (w23) a0 len0) := codeIn_later HC.out hb
    clear hb
    have q0 := BB.c
    go_wp2_with fail
    clear q0
    refine (specCertIn_any ab cb msb kb _ hlb RB.row).mono ?_
    rintro e w24 ⟨rfl, hb⟩
    replace BA := BA.next hb
    replace OA := OA.next hb
    replace KN := KN.next hb
    replace RB := RB.next hb
    replace BB := BB.next hb
    replace HB : Hid (Below w.heap.size w (w24)) := HB.out.trans (hb.mono HB.out.size)
    replace HC : Hid (CodeIn (w24).heap.size (w24) a0 len0) := codeIn_later HC.out hb
    clear hb
    generalize crtN msb kb = cN
    generalize crtP msb kb = cP
    generalize crtB msb kb = cB
    clear RB BB
    clear hlb hab HFB
    go_wp2_with fail
    refine (drawCertOf_any _ _ _ _ HC.out).mono ?_
    rintro e w25 ⟨v1, ns1, nm1, rfl, hm1, hm2, hfit, hk0, hk1, ho, hb⟩
    obtain ⟨a1, c1, rfl, -, -⟩ := ho.row
    have O10 := Own.made ho
    replace BA := BA.next hb
    replace OA := OA.next hb
    replace KN := KN.next hb
    replace HB : Hid (Below w.heap.size w (w25)) := HB.out.trans (hb.mono HB.out.size)
    replace HC : Hid (CodeIn (w25).heap.size (w25) a0 len0) := codeIn_later HC.out hb
    have O1 := O10
    clear ho hb O10
    have hbb : Below w25.heap.size w25 (w25.alloc (.cells #[.slice a1 ns1.length c1] 28)) := (Below.refl _ _).alloc (Nat.le_refl _) _
    replace BA := BA.next hbb
    replace OA := OA.next hbb
    replace KN := KN.next hbb
    replace O1 := O1.next hbb
    replace HB : Hid (Below w.heap.size w (w25.alloc (.cells #[.slice a1 ns1.length c1] 28))) := HB.out.trans (hbb.mono HB.out.size)
    replace HC : Hid (CodeIn (w25.alloc (.cells #[.slice a1 ns1.length c1] 28)).heap.size (w25.alloc (.cells #[.slice a1 ns1.length c1] 28)) a0 len0) := codeIn_later HC.out hbb
    have B1 : Var w25.heap.size (.slice a1 ns1.length c1) (w25.alloc (.cells #[.slice a1 ns1.length c1] 28)) := Var.made
    clear hbb
    obtain ⟨Ac, Kc, HIc, HSc, hAc⟩ : ∃ (Ac : List Nd) (Kc : Int), Hid (∀ (a : Option Addr) (cap : Nat) (w : World), AddrN a cap → RowN w.heap.size w a ns1 → Calls Try.prog 63 #[.agg #[.slice a ns1.length cap], .int .i64 nm1] w fun e w' => ∃ v, e = .returned (.tuple #[.agg #[v], .int .i64 Kc]) ∧ OwnC w.heap.size w' v Ac ∧ Below w.heap.size w w') ∧ Hid (∀ (a : Option Addr) (cap : Nat) (w : World), AddrN a cap → RowN w.heap.size w a ns1 → Calls Try.prog 62 #[.agg #[.slice a ns1.length cap], .int .i64 nm1] w fun e w' => ∃ v, e = .returned (.tuple #[.agg #[v], .int .i64 Kc]) ∧ OwnN w.heap.size w' v Ac ∧ Below w.heap.size w w') ∧ Ac.length ≤ 1048576 :=
      ⟨keptA ns1 (crA ns1 nm1) (crK ns1 nm1), crK ns1 nm1, fun a cap w ha hr => implCert_any a cap ns1 nm1 w (by omega) hfit (wf_of (by omega)) ha hr, fun a cap w ha hr => specCert_any a cap ns1 nm1 w (by omega) ha hr, keptA_le (by omega) (crA_le (by omega))⟩
    go_wp2_with fail
    generalize w25.alloc (.cells #[.slice a1 ns1.length c1] 28) = w26 at BA OA KN O1 B1 HB HC ⊢
    refine (HIc.out _ _ _ O1.rowIs O1.rowAt).mono ?_
    rintro e w27 ⟨vic, rfl, ho, hb⟩
    obtain ⟨aic, cic, pic, rfl, -, ho⟩ := ho
    have Oic0 := Own.made ho
    replace BA := BA.next hb
    replace OA := OA.next hb
    replace KN := KN.next hb
    replace O1 := O1.next hb
    replace B1 := B1.next hb
    replace HB : Hid (Below w.heap.size w (w27)) := HB.out.trans (hb.mono HB.out.size)
    replace HC : Hid (CodeIn (w27).heap.size (w27) a0 len0) := codeIn_later HC.out hb
    have Oic := Oic0
    clear ho hb Oic0 HIc
    have hbb : Below w27.heap.size w27 (w27.alloc (.cells #[.slice aic Ac.length cic] 28)) := (Below.refl _ _).alloc (Nat.le_refl _) _
    replace BA := BA.next hbb
    replace OA := OA.next hbb
    replace KN := KN.next hbb
    replace O1 := O1.next hbb
    replace B1 := B1.next hbb
    replace Oic := Oic.next hbb
    replace HB : Hid (Below w.heap.size w (w27.alloc (.cells #[.slice aic Ac.length cic] 28))) := HB.out.trans (hbb.mono HB.out.size)
    replace HC : Hid (CodeIn (w27.alloc (.cells #[.slice aic Ac.length cic] 28)).heap.size (w27.alloc (.cells #[.slice aic Ac.length cic] 28)) a0 len0) := codeIn_later HC.out hbb
    have Bic : Var w27.heap.size (.slice aic Ac.length cic) (w27.alloc (.cells #[.slice aic Ac.length cic] 28)) := Var.made
    clear hbb
    have q0 := B1.c
    go_wp2_with fail
    clear q0
    generalize w27.alloc (.cells #[.slice aic Ac.length cic] 28) = w28 at BA OA KN O1 B1 Oic Bic HB HC ⊢
    refine (HSc.out _ _ _ O1.rowIs O1.rowAt).mono ?_
    rintro e w29 ⟨vsc, rfl, ho, hb⟩
    obtain ⟨asc, csc, rfl, -, -⟩ := ho.row
    have Osc0 := Own.made ho
    replace BA := BA.next hb
    replace OA := OA.next hb
    replace KN := KN.next hb
    replace O1 := O1.next hb
    replace B1 := B1.next hb
    replace Oic := Oic.next hb
    replace Bic := Bic.next hb
    replace HB : Hid (Below w.heap.size w (w29)) := HB.out.trans (hb.mono HB.out.size)
    replace HC : Hid (CodeIn (w29).heap.size (w29) a0 len0) := codeIn_later HC.out hb
    have Osc := Osc0
    clear ho hb Osc0 HSc
    have hbb : Below w29.heap.size w29 (w29.alloc (.cells #[.slice asc Ac.length csc] 28)) := (Below.refl _ _).alloc (Nat.le_refl _) _
    replace BA := BA.next hbb
    replace OA := OA.next hbb
    replace KN := KN.next hbb
    replace O1 := O1.next hbb
    replace B1 := B1.next hbb
    replace Oic := Oic.next hbb
    replace Bic := Bic.next hbb
    replace Osc := Osc.next hbb
    replace HB : Hid (Below w.heap.size w (w29.alloc (.cells #[.slice asc Ac.length csc] 28))) := HB.out.trans (hbb.mono HB.out.size)
    replace HC : Hid (CodeIn (w29.alloc (.cells #[.slice asc Ac.length csc] 28)).heap.size (w29.alloc (.cells #[.slice asc Ac.length csc] 28)) a0 len0) := codeIn_later HC.out hbb
    have Bsc : Var w29.heap.size (.slice asc Ac.length csc) (w29.alloc (.cells #[.slice asc Ac.length csc] 28)) := Var.made
    clear hbb
    clear O1 B1
    clear hfit hk0 hk1 hm1 hm2
    go_wp2_with fail
    generalize w29.alloc (.cells #[.slice asc Ac.length csc] 28) = w30 at BA OA KN Oic Bic Osc Bsc HB HC ⊢
    refine (drawPsk_any _ _ _ _ HC.out).mono ?_
    rintro e w31 ⟨v2, ns2, px, py, rfl, hm1, hm2, hfit, hk0, hk1, hk2, hk3, ho, hb⟩
    obtain ⟨a2, c2, rfl, -, -⟩ := ho.row
    have O20 := Own.made ho
    replace BA := BA.next hb
    replace OA := OA.next hb
    replace KN := KN.next hb
    replace Oic := Oic.next hb
    replace Bic := Bic.next hb
    replace Osc := Osc.next hb
    replace Bsc := Bsc.next hb
    replace HB : Hid (Below w.heap.size w (w31)) := HB.out.trans (hb.mono HB.out.size)
    replace HC : Hid (CodeIn (w31).heap.size (w31) a0 len0) := codeIn_later HC.out hb
    have O2 := O20
    clear ho hb O20
    have hbb : Below w31.heap.size w31 (w31.alloc (.cells #[.slice a2 ns2.length c2] 28)) := (Below.refl _ _).alloc (Nat.le_refl _) _
    replace BA := BA.next hbb
    replace OA := OA.next hbb
    replace KN := KN.next hbb
    replace Oic := Oic.next hbb
    replace Bic := Bic.next hbb
    replace Osc := Osc.next hbb
    replace Bsc := Bsc.next hbb
    replace O2 := O2.next hbb
    replace HB : Hid (Below w.heap.size w (w31.alloc (.cells #[.slice a2 ns2.length c2] 28))) := HB.out.trans (hbb.mono HB.out.size)
    replace HC : Hid (CodeIn (w31.alloc (.cells #[.slice a2 ns2.length c2] 28)).heap.size (w31.alloc (.cells #[.slice a2 ns2.length c2] 28)) a0 len0) := codeIn_later HC.out hbb
    have B2 : Var w31.heap.size (.slice a2 ns2.length c2) (w31.alloc (.cells #[.slice a2 ns2.length c2] 28)) := Var.made
    clear hbb
    obtain ⟨Ap, Kp, HIp, HSp, hAp⟩ : ∃ (Ap : List Nd) (Kp : Int), Hid (∀ (a : Option Addr) (cap : Nat) (w : World), AddrN a cap → RowN w.heap.size w a ns2 → Calls Try.prog 67 #[.agg #[.slice a ns2.length cap], .int .i64 px, .int .i64 py] w fun e w' => ∃ v, e = .returned (.tuple #[.agg #[v], .int .i64 Kp]) ∧ OwnC w.heap.size w' v Ap ∧ Below w.heap.size w w') ∧ Hid (∀ (a : Option Addr) (cap : Nat) (w : World), AddrN a cap → RowN w.heap.size w a ns2 → Calls Try.prog 72 #[.agg #[.slice a ns2.length cap], .int .i64 px, .int .i64 py] w fun e w' => ∃ v, e = .returned (.tuple #[.agg #[v], .int .i64 Kp]) ∧ OwnN w.heap.size w' v Ap ∧ Below w.heap.size w w') ∧ Ap.length ≤ 1048576 :=
      ⟨keptA ns2 (pkA ns2 px py) (pkK ns2 px py), pkK ns2 px py, fun a cap w ha hr => implPsk_any a cap ns2 px py w (by omega) hfit (wf_of (by omega)) (wf_of (by omega)) ha hr, fun a cap w ha hr => specPsk_any a cap ns2 px py w (by omega) ha hr, keptA_le (by omega) (pkA_le (by omega))⟩
    go_wp2_with fail
    generalize w31.alloc (.cells #[.slice a2 ns2.length c2] 28) = w32 at BA OA KN Oic Bic Osc Bsc O2 B2 HB HC ⊢
    refine (HIp.out _ _ _ O2.rowIs O2.rowAt).mono ?_
    rintro e w33 ⟨vip, rfl, ho, hb⟩
    obtain ⟨aip, cip, pip, rfl, -, ho⟩ := ho
    have Oip0 := Own.made ho
    replace BA := BA.next hb
    replace OA := OA.next hb
    replace KN := KN.next hb
    replace Oic := Oic.next hb
    replace Bic := Bic.next hb
    replace Osc := Osc.next hb
    replace Bsc := Bsc.next hb
    replace O2 := O2.next hb
    replace B2 := B2.next hb
    replace HB : Hid (Below w.heap.size w (w33)) := HB.out.trans (hb.mono HB.out.size)
    replace HC : Hid (CodeIn (w33).heap.size (w33) a0 len0) := codeIn_later HC.out hb
    have Oip := Oip0
    clear ho hb Oip0 HIp
    have hbb : Below w33.heap.size w33 (w33.alloc (.cells #[.slice aip Ap.length cip] 28)) := (Below.refl _ _).alloc (Nat.le_refl _) _
    replace BA := BA.next hbb
    replace OA := OA.next hbb
    replace KN := KN.next hbb
    replace Oic := Oic.next hbb
    replace Bic := Bic.next hbb
    replace Osc := Osc.next hbb
    replace Bsc := Bsc.next hbb
    replace O2 := O2.next hbb
    replace B2 := B2.next hbb
    replace Oip := Oip.next hbb
    replace HB : Hid (Below w.heap.size w (w33.alloc (.cells #[.slice aip Ap.length cip] 28))) := HB.out.trans (hbb.mono HB.out.size)
    replace HC : Hid (CodeIn (w33.alloc (.cells #[.slice aip Ap.length cip] 28)).heap.size (w33.alloc (.cells #[.slice aip Ap.length cip] 28)) a0 len0) := codeIn_later HC.out hbb
    have Bip : Var w33.heap.size (.slice aip Ap.length cip) (w33.alloc (.cells #[.slice aip Ap.length cip] 28)) := Var.made
    clear hbb
    have q0 := B2.c
    go_wp2_with fail
    clear q0
    generalize w33.alloc (.cells #[.slice aip Ap.length cip] 28) = w34 at BA OA KN Oic Bic Osc Bsc O2 B2 Oip Bip HB HC ⊢
    refine (HSp.out _ _ _ O2.rowIs O2.rowAt).mono ?_
    rintro e w35 ⟨vsp, rfl, ho, hb⟩
    obtain ⟨asp, csp, rfl, -, -⟩ := ho.row
    have Osp0 := Own.made ho
    replace BA := BA.next hb
    replace OA := OA.next hb
    replace KN := KN.next hb
    replace Oic := Oic.next hb
    replace Bic := Bic.next hb
    replace Osc := Osc.next hb
    replace Bsc := Bsc.next hb
    replace O2 := O2.next hb
    replace B2 := B2.next hb
    replace Oip := Oip.next hb
    replace Bip := Bip.next hb
    replace HB : Hid (Below w.heap.size w (w35)) := HB.out.trans (hb.mono HB.out.size)
    replace HC : Hid (CodeIn (w35).heap.size (w35) a0 len0) := codeIn_later HC.out hb
    have Osp := Osp0
    clear ho hb Osp0 HSp
    have hbb : Below w35.heap.size w35 (w35.alloc (.cells #[.slice asp Ap.length csp] 28)) := (Below.refl _ _).alloc (Nat.le_refl _) _
    replace BA := BA.next hbb
    replace OA := OA.next hbb
    replace KN := KN.next hbb
    replace Oic := Oic.next hbb
    replace Bic := Bic.next hbb
    replace Osc := Osc.next hbb
    replace Bsc := Bsc.next hbb
    replace O2 := O2.next hbb
    replace B2 := B2.next hbb
    replace Oip := Oip.next hbb
    replace Bip := Bip.next hbb
    replace Osp := Osp.next hbb
    replace HB : Hid (Below w.heap.size w (w35.alloc (.cells #[.slice asp Ap.length csp] 28))) := HB.out.trans (hbb.mono HB.out.size)
    replace HC : Hid (CodeIn (w35.alloc (.cells #[.slice asp Ap.length csp] 28)).heap.size (w35.alloc (.cells #[.slice asp Ap.length csp] 28)) a0 len0) := codeIn_later HC.out hbb
    have Bsp : Var w35.heap.size (.slice asp Ap.length csp) (w35.alloc (.cells #[.slice asp Ap.length csp] 28)) := Var.made
    clear hbb
    clear O2 B2
    clear hfit hk0 hk1 hk2 hk3 hm1 hm2
    generalize hWE : w35.alloc (.cells #[.slice asp Ap.length csp] 28) = w36 at BA OA KN Oic Bic Osc Bsc Oip Bip Osp Bsp HB HC
    clear HC HC0
    cases cB with
    | false =>
      have q0 := BA.c
      go_wp2_with fail
      clear q0
      refine (HDE.out _ _ _ _ _ OA.rowAt KN.row).mono ?_
      rintro e w37 ⟨rfl, hb⟩
      replace BA := BA.next hb
      replace OA := OA.next hb
      replace KN := KN.next hb
      replace Oic := Oic.next hb
      replace Bic := Bic.next hb
      replace Osc := Osc.next hb
      replace Bsc := Bsc.next hb
      replace Oip := Oip.next hb
      replace Bip := Bip.next hb
      replace Osp := Osp.next hb
      replace Bsp := Bsp.next hb
      replace HB : Hid (Below w.heap.size w (w37)) := HB.out.trans (hb.mono HB.out.size)
      clear hb HDE
      clear BA OA KN
      have q0 := Bic.c
      have q1 := Bsc.c
      go_wp2_with fail
      clear q0 q1
      refine (sameA_same aic asc cic csc Ac _ (by omega) Oic.rowAt Osc.rowAt).mono ?_
      rintro e w38 ⟨rfl, hb⟩
      clear Oic Osc Bic Bsc
      replace Oip := Oip.next hb
      replace Bip := Bip.next hb
      replace Osp := Osp.next hb
      replace Bsp := Bsp.next hb
      replace HB : Hid (Below w.heap.size w (w38)) := HB.out.trans (hb.mono HB.out.size)
      clear hb
      have q0 := Bip.c
      have q1 := Bsp.c
      go_wp2_with fail
      clear q0 q1
      refine (sameA_same aip asp cip csp Ap _ (by omega) Oip.rowAt Osp.rowAt).mono ?_
      rintro e w39 ⟨rfl, hb⟩
      clear Oip Osp Bip Bsp
      replace HB : Hid (Below w.heap.size w (w39)) := HB.out.trans (hb.mono HB.out.size)
      clear hb
      go_wp2
      go_ret
      exact ⟨rfl, HB.out⟩
    | true =>
      have q0 := BA.c
      go_wp2_with fail
      clear q0
      refine (HDE.out _ _ _ _ _ OA.rowAt KN.row).mono ?_
      rintro e w37 ⟨rfl, hb⟩
      replace BA := BA.next hb
      replace OA := OA.next hb
      replace KN := KN.next hb
      replace Oic := Oic.next hb
      replace Bic := Bic.next hb
      replace Osc := Osc.next hb
      replace Bsc := Bsc.next hb
      replace Oip := Oip.next hb
      replace Bip := Bip.next hb
      replace Osp := Osp.next hb
      replace Bsp := Bsp.next hb
      replace HB : Hid (Below w.heap.size w (w37)) := HB.out.trans (hb.mono HB.out.size)
      clear hb HDE
      clear BA OA KN
      have q0 := Bic.c
      have q1 := Bsc.c
      go_wp2_with fail
      clear q0 q1
      refine (sameA_same aic asc cic csc Ac _ (by omega) Oic.rowAt Osc.rowAt).mono ?_
      rintro e w38 ⟨rfl, hb⟩
      clear Oic Osc Bic Bsc
      replace Oip := Oip.next hb
      replace Bip := Bip.next hb
      replace Osp := Osp.next hb
      replace Bsp := Bsp.next hb
      replace HB : Hid (Below w.heap.size w (w38)) := HB.out.trans (hb.mono HB.out.size)
      clear hb
      have q0 := Bip.c
      have q1 := Bsp.c
      go_wp2_with fail
      clear q0 q1
      refine (sameA_same aip asp cip csp Ap _ (by omega) Oip.rowAt Osp.rowAt).mono ?_
      rintro e w39 ⟨rfl, hb⟩
      clear Oip Osp Bip Bsp
      replace HB : Hid (Below w.heap.size w (w39)) := HB.out.trans (hb.mono HB.out.size)
      clear hb
      go_wp2
      go_ret
      exact ⟨rfl, HB.out⟩
  · have hd : decide ((1048576 : Int) < (len0 : Int)) = true := by simp; omega
    clear hcode
    go_enter Try.func13, Try.ntmps13
    go_wp2_with fail
    refine (big_any _ _ _ _).mono ?_
    rintro e wz ⟨rfl, rfl⟩
    rw [hd]
    go_wp2
    go_ret
    exact ⟨rfl, Below.refl _ _⟩

theorem laidOut : laidOutB Try.prog = true := by kernel_rfl
set_option maxRecDepth 100000 in
theorem lifted (os : Os) (started : os.Started) (H : Type) (enc : TypeId × Value → H) :
    ReturnsInHanded {} Try.checked os 13 .any (Rows.fnCertsSpec.pre6 enc Try.prog Try.f13 Rows.fnCertsRow.domain false) (Rows.fnCertsSpec.post enc Try.prog Try.f13 false true false false) := by
  refine returnsInHanded_of_change (C := Try.checked) own started (by kernel_rfl) Try.func13
    (ChangeSpec.witness6 (enc := enc) (C := Try.checked) false ⟨#[], #[.slice none 0 0], []⟩ 8 (by kernel_rfl) (by kernel_rfl) (by kernel_rfl) (by kernel_rfl)) ?_
  intro W base args ds gs before hval0 hW hcnd _
  have hval : ∀ (j : Nat) t v, Try.f13.params[j]? = some t → args[j]? = some v → Value.okWide Try.prog W .any base t v := hval0
  have hW' := hW
  obtain ⟨p, q, hA0, hV, rfl, hfz, hnd⟩ := hW
  have hA : DataW.TrodAll enc Try.prog W 0 (fun _ => true) true Try.f13.params.toList args.toList ds p := hA0
  rw [Try.params13] at hA hval
  obtain ⟨v0, vs0, d0, ds0, p0, q0, hargs, rfl, rfl, h0, r0⟩ := trodAll_cons hA
  obtain ⟨rfl, rfl, rfl⟩ := trodAll_nil r0
  obtain rfl : args = #[v0] := by cases args; simp_all
  obtain ⟨rfl, rfl⟩ := trodVars_none hV
  obtain ⟨a0, len0, cap0, rfl⟩ := okWide_slice Try.underlying35 (hval 0 35 v0 rfl rfl)
  have k0 := h0
  have lt0 : ∀ x ∈ p0, x.block < W.heap.size := by obtain ⟨m, hm⟩ := k0; exact DataW.trod_lt m _ _ _ hm
  clear hA0 hval0
  refine (walk a0 len0 cap0  W (code_of h0)).mono fun e W' ⟨he, bel⟩ => ?_
  subst he
  exact ⟨_, rfl, _, _, _, [], _, [], hW', trodAll_mk1 (shut_bool Try.underlying4 _), (trodAll_cons_mk (Below.trod laidOut (by kernel_rfl) (of_decide_eq_true (by kernel_rfl)) k0 bel lt0) trodAll_mk0), rfl, bel.frame _, fun h => by cases h⟩

theorem over : Rows.fnCertsRow.holds Try.pinned (OpenSpec.ofChange Rows.fnCertsSpec) :=
  OpenClaim.holds_of_wide 13 Try.f13 rfl rfl rfl rfl rfl rfl rfl ⟨rfl, rfl, rfl, rfl, rfl⟩ rfl rfl rfl rfl rfl (by kernel_rfl) Try.func13 (by kernel_rfl)
    (of_decide_eq_true (by kernel_rfl)) (by unfold Func.isWrapper; first | (rw [if_pos (by decide +kernel)]; kernel_rfl) | (rw [if_neg (by decide +kernel)]; exact ⟨rfl, rfl⟩))
    (fun os started H enc _ => lifted os started H enc)
end fnCerts

theorem fnCerts_holds : Rows.FnCertsSaid := fnCerts.over
#print axioms fnCerts_holds
end Go.Proofs.Ytffnadnndmmliaa
