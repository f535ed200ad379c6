/- For every code: a cookie of the program is right at its own address, for its own hello and with its own secret, and nowhere else; and what it makes and reads of drawn terms, right or not, is what the specification makes and reads. No condition. -/
import Derived.Test.YtffnadnndmmliaaRows
import Derived.Test.YtffnadnndmmliaaLawClip
import Derived.Test.YtffnadnndmmliaaRegionH
import Derived.Test.YtffnadnndmmliaaDraw9
import Derived.Test.YtffnadnndmmliaaListP
import Derived.Test.YtffnadnndmmliaaImplC9
import Derived.Test.YtffnadnndmmliaaImplCA9
import Derived.Test.YtffnadnndmmliaaCookQ9
import Derived.Test.YtffnadnndmmliaaKeptS
import Derived.Test.YtffnadnndmmliaaPlainTerm
import Derived.Test.YtffnadnndmmliaaLawKeep
import Derived.Test.YtffnadnndmmliaaLawArena2
import Derived.Test.YtffnadnndmmliaaCodeW
import Derived.Test.YtffnadnndmmliaaDrawRT
import Derived.WalkKit
import Derived.ProofKit
import Derived.OpenShut
import Derived.ShutString
import Derived.ChangeOld
import Derived.Deep.RegionWith
import Derived.PlainAid
namespace Go.Proofs.Ytffnadnndmmliaa
namespace fnCookies
open Go.ChangeShapes Go.WideShapes Go.ChangeAt Go.RowKit Go.PlainAid
open Go.ChangeMaps (open_string shut_string)
set_option linter.unusedVariables false

theorem own : ownKnob Try.prog.godebug = none := by kernel_rfl

theorem mod_ex (p n : Nat) (h : 0 < n) : ∃ x : Nat, Int.tmod (p : Int) (n : Int) = (x : Int) ∧ x < n ∧ Hid (x = p % n) := ⟨p % n, by rw [Int.tmod_eq_emod_of_nonneg (by omega)]; simp, Nat.mod_lt _ h, rfl⟩
theorem wf_of {x : Int} (h : -2000000 ≤ x ∧ x ≤ 2000000) : (Lit.int .i64 x).wf = true := by
  have h1 : IntKind.i64.min = -9223372036854775808 := rfl
  have h2 : IntKind.i64.max = 9223372036854775807 := rfl
  simp [Lit.wf, h1, h2]; omega
theorem var_held {S : World → Prop} {b : Nat} {v : Value} {w : World} (h : Var b v w) (hk : ∀ (p : Addr) (v : Value), p.block < w.heap.size → w.cell? p = some v → ∀ s : Hw S, s.w.cell? p = some v) : ∀ s : Hw S, s.w.cell? ⟨b, 0, none⟩ = some v := hk ⟨b, 0, none⟩ v h.lt h.c
/-- A contract of CookieOk at a class of worlds. -/
theorem held_ok {S : World → Prop} {s : Hw S} {M : List Nd} {K s' d' h' : Int} {a4 : Option Addr} {c4 : Nat} {b : Bool} (HAD : Hid (AddrN a4 c4)) (HRA : Hid (∀ s : Hw S, RowN s.w.heap.size s.w a4 M)) (hk : ∀ (s : Hw S) w', Below s.w.heap.size s.w w' → S w')
    (H1 : Hid (∀ (a : Option Addr) (cap : Nat) (w : World), AddrN a cap → RowN w.heap.size w a M → Calls Try.prog 60 #[.agg #[.slice a M.length cap], .int .i64 s', .int .i64 d', .int .i64 h', .int .i64 K] w fun e w' => e = .returned (.bool b) ∧ Below w.heap.size w w')) :
    Calls Try.prog 60 #[.agg #[.slice a4 M.length c4], .int .i64 s', .int .i64 d', .int .i64 h', .int .i64 K] s.w fun e w'' => e = .returned (.bool b) ∧ ∃ s' : Hw S, w'' = s'.w :=
  Calls.held (H1.out _ _ _ HAD.out (HRA.out _)) (hk _)
theorem held_sp {S : World → Prop} {s : Hw S} {M : List Nd} {K s' d' h' : Int} {a4 : Option Addr} {c4 : Nat} {b : Bool} (HAD : Hid (AddrN a4 c4)) (HRA : Hid (∀ s : Hw S, RowN s.w.heap.size s.w a4 M)) (hk : ∀ (s : Hw S) w', Below s.w.heap.size s.w w' → S w')
    (H1 : Hid (∀ (a : Option Addr) (cap : Nat) (w : World), AddrN a cap → RowN w.heap.size w a M → Calls Try.prog 61 #[.agg #[.slice a M.length cap], .int .i64 s', .int .i64 d', .int .i64 h', .int .i64 K] w fun e w' => e = .returned (.bool b) ∧ Below w.heap.size w w')) :
    Calls Try.prog 61 #[.agg #[.slice a4 M.length c4], .int .i64 s', .int .i64 d', .int .i64 h', .int .i64 K] s.w fun e w'' => e = .returned (.bool b) ∧ ∃ s' : Hw S, w'' = s'.w :=
  Calls.held (H1.out _ _ _ HAD.out (HRA.out _)) (hk _)
theorem held_same {S : World → Prop} {s : Hw S} {A : List Nd} {a b : Option Addr} {c d : Nat} (hA : A.length ≤ 1048576) (H1 : Hid (∀ s : Hw S, RowN s.w.heap.size s.w a A)) (H2 : Hid (∀ s : Hw S, RowN s.w.heap.size s.w b A)) (hk : ∀ (s : Hw S) w', Below s.w.heap.size s.w w' → S w') :
    Calls Try.prog 29 #[.agg #[.slice a A.length c], .agg #[.slice b A.length d]] s.w fun e w'' => e = .returned (.bool true) ∧ ∃ s' : Hw S, w'' = s'.w :=
  Calls.held (sameA_same a b c d A _ hA (H1.out _) (H2.out _)) (hk _)
set_option maxHeartbeats 6400000 in
set_option maxRecDepth 20000 in
theorem walk (a0 : Option Addr) (len0 cap0 : Nat) (w : World) (hcode : len0 ≤ 1048576 → CodeIn w.heap.size w a0 len0) :
    Calls Try.prog 11 #[.slice a0 len0 cap0] w fun e w' => e = .returned (.bool true) ∧ Below w.heap.size w w' := by
  by_cases hbig : len0 ≤ 1048576
  · have HC : Hid (CodeIn w.heap.size w a0 len0) := hcode hbig
    have HC0 : Hid (CodeIn w.heap.size w a0 len0) := hcode hbig
    have HLEN : Hid (len0 ≤ 1048576) := hbig
    have HB : Hid (Below w.heap.size w w) := Below.refl _ _
    have hd : decide ((1048576 : Int) < (len0 : Int)) = false := by simp; omega
    clear hcode hbig
    go_enter Try.func11, Try.ntmps11
    go_wp2_with fail
    refine (big_any _ _ _ _).mono ?_
    rintro e wz ⟨rfl, rfl⟩
    rw [hd]
    clear hd
    go_wp2_with fail
    refine (drawArena_any _ _ _ _ HC.out).mono ?_
    rintro e w1 ⟨v1, ns, rfl, hn1, hn2, hall, ho1, hb1⟩
    have HALL : Hid (allFrom ns ns 0 = true) := hall
    clear hall
    obtain ⟨a1, c1, rfl, -, -⟩ := ho1.row
    have OA := Own.made ho1
    replace HB : Hid (Below w.heap.size w w1) := HB.out.trans (hb1.mono HB.out.size)
    replace HC : Hid (CodeIn w1.heap.size w1 a0 len0) := codeIn_later HC.out hb1
    have hgA : w.heap.size ≤ w1.heap.size := HB.out.size
    clear ho1 hb1
    have hbb : Below w1.heap.size w1 (w1.alloc (.cells #[.slice a1 ns.length c1] 28)) := (Below.refl _ _).alloc (Nat.le_refl _) _
    have BA : Box w1.heap.size (.slice a1 ns.length c1) (w1.alloc (.cells #[.slice a1 ns.length c1] 28)) := Box.made
    replace OA := OA.next hbb
    replace HB : Hid (Below w.heap.size w (w1.alloc (.cells #[.slice a1 ns.length c1] 28))) := HB.out.trans (hbb.mono HB.out.size)
    replace HC : Hid (CodeIn (w1.alloc (.cells #[.slice a1 ns.length c1] 28)).heap.size (w1.alloc (.cells #[.slice a1 ns.length c1] 28)) a0 len0) := codeIn_later HC.out hbb
    clear hbb
    go_wp2_with fail
    generalize w1.alloc (.cells #[.slice a1 ns.length c1] 28) = w2 at BA OA HB HC ⊢
    refine (places_any a0 len0 cap0 w2 HC.out).mono ?_
    rintro e w3 ⟨gp, cp, xs, rfl, hxl, hxb, hg1, hg2, hcl, hb⟩
    have PL : Pl4 gp (xs.getD 0 0) (xs.getD 1 0) (xs.getD 2 0) (xs.getD 3 0) w3 := ⟨hg2, hcl 0 (by omega), hcl 1 (by omega), hcl 2 (by omega), hcl 3 (by omega)⟩
    have hgne : gp ≠ w1.heap.size := by have := BA.lt; omega
    have hp1b : xs.getD 1 0 < 10000 := hxb _ (by rw [List.getD_eq_getElem?_getD, List.getElem?_eq_getElem (by omega)]; exact List.getElem_mem _)
    replace BA := BA.next hb
    replace OA := OA.next hb
    replace HC : Hid (CodeIn w3.heap.size w3 a0 len0) := codeIn_later HC.out hb
    replace HB : Hid (Below w.heap.size w w3) := HB.out.trans (hb.mono HB.out.size)
    clear hb hcl hg1 hg2 hxb hxl
    generalize xs.getD 0 0 = p0 at PL
    generalize xs.getD 1 0 = p1 at PL hp1b
    generalize xs.getD 2 0 = p2 at PL
    generalize xs.getD 3 0 = p3 at PL
    clear xs
    have hnz : ¬ (ns.length : Int) = 0 := by omega
    have hnz2 : ¬ ns = [] := by intro h; subst h; simp at hn1
    have hnz3 : ((ns.length : Int) == 0) = false := by simpa using hnz2
    obtain ⟨x, hx0, hx1⟩ : ∃ x : Nat, Int.tmod (p0 : Int) 90 = (x : Int) ∧ x < 90 := by obtain ⟨x, h1, h2, -⟩ := mod_ex p0 90 (by omega); exact ⟨x, h1, h2⟩
    obtain ⟨y, hy0, hy1, HY⟩ := mod_ex p1 ns.length (by omega)
    obtain ⟨z, hz0, hz1, HZ⟩ : ∃ x : Nat, Int.tmod ((p1 : Int) + 1) (ns.length : Int) = (x : Int) ∧ x < ns.length ∧ Hid (x = (p1 + 1) % ns.length) := by obtain ⟨x, h1, h2, h3⟩ := mod_ex (p1 + 1) ns.length (by omega); exact ⟨x, by rw [← h1]; simp, h2, h3⟩
    have hw0 : wrap64 ((p1 : Int) + 1) = (p1 : Int) + 1 := by unfold wrap64; omega
    have hbk := ck_back (s := 9000) (d := (x : Int)) (h := (y : Int)) HALL.out (by omega) (by omega) (by omega) (by omega)
    obtain ⟨M, K, hK0, HI, H1, H2, H3, nb, hnb, H4⟩ : ∃ (M : List Nd) (K : Int), 0 ≤ K ∧ Hid (∀ (a : Option Addr) (cap : Nat) (w : World), AddrN a cap → RowN w.heap.size w a ns → Calls Try.prog 57 #[.agg #[.slice a ns.length cap], .int .i64 9000, .int .i64 (x : Int), .int .i64 (y : Int)] w fun e w' => ∃ v, e = .returned (.tuple #[.agg #[v], .int .i64 K]) ∧ OwnC w.heap.size w' v M ∧ Below w.heap.size w w')
        ∧ Hid (∀ (a : Option Addr) (cap : Nat) (w : World), AddrN a cap → RowN w.heap.size w a M → Calls Try.prog 60 #[.agg #[.slice a M.length cap], .int .i64 9000, .int .i64 (x : Int), .int .i64 (y : Int), .int .i64 K] w fun e w' => e = .returned (.bool true) ∧ Below w.heap.size w w')
        ∧ Hid (∀ (a : Option Addr) (cap : Nat) (w : World), AddrN a cap → RowN w.heap.size w a M → Calls Try.prog 60 #[.agg #[.slice a M.length cap], .int .i64 9000, .int .i64 ((x : Int) + 1), .int .i64 (y : Int), .int .i64 K] w fun e w' => e = .returned (.bool false) ∧ Below w.heap.size w w')
        ∧ Hid (∀ (a : Option Addr) (cap : Nat) (w : World), AddrN a cap → RowN w.heap.size w a M → Calls Try.prog 60 #[.agg #[.slice a M.length cap], .int .i64 9001, .int .i64 (x : Int), .int .i64 (y : Int), .int .i64 K] w fun e w' => e = .returned (.bool false) ∧ Below w.heap.size w w')
        ∧ ∃ nb : Bool, (nb = false ∨ ns.length = 1) ∧ Hid (∀ (a : Option Addr) (cap : Nat) (w : World), AddrN a cap → RowN w.heap.size w a M → Calls Try.prog 60 #[.agg #[.slice a M.length cap], .int .i64 9000, .int .i64 (x : Int), .int .i64 (z : Int), .int .i64 K] w fun e w' => e = .returned (.bool nb) ∧ Below w.heap.size w w') := by
      obtain ⟨q1, q2, q3, q4⟩ := hbk
      have hk : keptA ns (ckA ns 9000 (x : Int) (y : Int)) (ckK ns 9000 (x : Int) (y : Int)) = ckA ns 9000 (x : Int) (y : Int) := keptA_pos (by omega)
      have hkr := ckK_range (s := 9000) (d := (x : Int)) (h := (y : Int)) (ns := ns) (by omega)
      have ok : ∀ (s' d' h' : Int) (a : Option Addr) (cap : Nat) (w : World), (0 ≤ s' ∧ s' ≤ 9001) → (0 ≤ d' ∧ d' ≤ 100) → (0 ≤ h' ∧ h' < (ns.length : Int)) → AddrN a cap → RowN w.heap.size w a (ckA ns 9000 (x : Int) (y : Int)) → Calls Try.prog 60 #[.agg #[.slice a (ckA ns 9000 (x : Int) (y : Int)).length cap], .int .i64 s', .int .i64 d', .int .i64 h', .int .i64 (ckK ns 9000 (x : Int) (y : Int))] w fun e w' => e = .returned (.bool (decide (s' = 9000 ∧ d' = (x : Int) ∧ h' = (y : Int)))) ∧ Below w.heap.size w w' := fun s' d' h' a cap w hs hd hh ha hr => by
        have := implCookOk_any a cap _ s' d' h' (ckK ns 9000 (x : Int) (y : Int)) w (by omega) hr
        rw [ckF_back q1] at this
        exact this
      refine ⟨ckA ns 9000 (x : Int) (y : Int), ckK ns 9000 (x : Int) (y : Int), q1, fun a cap w ha hr => ?_, fun a cap w ha hr => ?_, fun a cap w ha hr => ?_, fun a cap w ha hr => ?_, decide ((z : Int) = (y : Int)), ?_, fun a cap w ha hr => ?_⟩
      · have := implCookie_any a cap ns 9000 (x : Int) (y : Int) w (by omega) (all_fits HALL.out (by omega)) (wf_of (by omega)) (wf_of (by omega)) (wf_of (by omega)) ha hr
        rw [hk] at this
        exact this
      · have := ok 9000 x y a cap w (by omega) (by omega) (by omega) ha hr
        rw [decide_eq_true ⟨rfl, rfl, rfl⟩] at this
        exact this
      · have := ok 9000 ((x : Int) + 1) y a cap w (by omega) (by omega) (by omega) ha hr
        rw [decide_eq_false (by omega)] at this
        exact this
      · have := ok 9001 x y a cap w (by omega) (by omega) (by omega) ha hr
        rw [decide_eq_false (by omega)] at this
        exact this
      · by_cases h1 : ns.length = 1
        · exact .inr h1
        · refine .inl (decide_eq_false (fun hh => ?_))
          have e1 := HY.out
          have e2 := HZ.out
          have e3 : (p1 + 1) % ns.length = p1 % ns.length := by omega
          have e4 := Nat.mod_lt p1 (show 0 < ns.length by omega)
          rw [Nat.add_mod, Nat.mod_eq_of_lt (show 1 < ns.length by omega)] at e3
          by_cases e5 : p1 % ns.length + 1 < ns.length
          · rw [Nat.mod_eq_of_lt e5] at e3; omega
          · rw [show p1 % ns.length + 1 = ns.length by omega, Nat.mod_self] at e3; omega
      · have := ok 9000 x z a cap w (by omega) (by omega) (by omega) ha hr
        simpa using this
    clear hbk HY HZ hp1b
    have hA1 := OA.rowIs
    have q0 : w3.drew.cell? ⟨w1.heap.size, 0, none⟩ = some (.slice a1 ns.length c1) := BA.c
    have q1 : w3.drew.cell? ⟨gp, 0, none⟩ = some (.int .i64 (p0 : Int)) := PL.c0
    have q2 : w3.drew.cell? ⟨gp, 1, none⟩ = some (.int .i64 (p1 : Int)) := PL.c1
    have HRO : Hid (RowN w3.drew.heap.size w3.drew a1 ns) := OA.rowAt
    have HBX : Hid (∀ wz, Below w3.drew.heap.size w3.drew wz → Box w1.heap.size (.slice a1 ns.length c1) wz) := fun wz hz => BA.next (((Below.refl _ _).drew).trans hz)
    have q5 := BA.c
    go_wp2_with fail
    clear q5
    refine wp_region_head 10 168 (by kernel_rfl) rfl (by kernel_rfl) ?_
    simp only [List.take_succ_cons, List.take_zero]
    repeat still_step
    refine wpStill_nil ?_
    show wpAny _ _ _ _ 6 _ _ _
    refine wpAny_ready (rs := [10]) (by kernel_rfl) (by simp) ?_
    refine AllReady.cons rfl (fun Kt hKt => ?_) AllReady.nil
    go_simp
    go_wp2_with (go_at_call 57; refine (HI.out _ _ _ ?_ ?_).mono ?_; exact hA1; exact HRO.out; rintro e w4 ⟨v4, rfl, ho, hb⟩; obtain ⟨a4, c4, pc4, rfl, hAD, ho⟩ := ho; have f0 := (HBX.out w4 hb).c; have f1 := (HBX.out w4 hb).fr)
    refine wpAny_take (i := 11) (v := ?_) rfl (by kernel_rfl) (by kernel_rfl) (by kernel_rfl) (fun _ _ _ h => h) (Or.inl ⟨by rfl, ?_⟩) ?_
    rotate_left
    · intro w; go_simp; try with_reducible rfl
    refine wpAny_take (i := 12) (v := ?_) rfl (by kernel_rfl) (by kernel_rfl) (by kernel_rfl) (fun _ _ _ h => h) (Or.inl ⟨by rfl, ?_⟩) ?_
    rotate_left
    · intro w; go_simp; try with_reducible rfl
    refine wpAny_take (i := 13) (v := ?_) rfl (by kernel_rfl) (by kernel_rfl) (by kernel_rfl) (fun _ _ _ h => h) (Or.inl ⟨by rfl, ?_⟩) ?_
    rotate_left
    · intro w; go_simp; try with_reducible rfl
    refine wpAny_ready (rs := [14]) (by kernel_rfl) (by simp) ?_
    refine AllReady.cons rfl (fun Kt hKt => ?_) AllReady.nil
    go_simp
    refine hKt _ _ ?_
    clear hKt Kt
    refine wpAny_take (i := 15) (v := ?_) rfl (by kernel_rfl) (by kernel_rfl) (by kernel_rfl) (fun _ _ _ h => h) (Or.inl ⟨by rfl, ?_⟩) ?_
    rotate_left
    · intro w; go_simp; try with_reducible rfl
    refine wpAny_done (by kernel_rfl) ?_ _
    have hlo : w1.heap.size < w3.heap.size := BA.lt
    replace hb : Below w3.heap.size w3 w4 := ((Below.refl _ _).drew).trans hb
    have OA0 : Own w3.heap.size w4.heap.size (.slice a4 M.length pc4) M w4 := Own.made ho
    have HAD : Hid (AddrN a4 c4) := hAD
    clear OA ho HRO HBX q0 q1 q2 f0 f1 hAD hA1 HI
    replace BA := BA.next hb
    replace PL := PL.next hb
    replace HB : Hid (Below w.heap.size w (w4)) := HB.out.trans (hb.mono HB.out.size)
    replace HC : Hid (CodeIn (w4).heap.size (w4) a0 len0) := codeIn_later HC.out hb
    clear hb
    have OA := OA0
    clear OA0
    replace BA := BA.set (.slice a4 M.length c4)
    replace PL : Pl4 gp p0 p1 p2 p3 (w4.setCell ⟨w1.heap.size, 0, none⟩ (.slice a4 M.length c4)) := PL.set hgne
    replace OA : Own _ _ _ _ (w4.setCell ⟨w1.heap.size, 0, none⟩ (.slice a4 M.length c4)) := OA.set hlo
    replace HC : Hid (CodeIn (w4.setCell ⟨w1.heap.size, 0, none⟩ (.slice a4 M.length c4)).heap.size (w4.setCell ⟨w1.heap.size, 0, none⟩ (.slice a4 M.length c4)) a0 len0) := codeIn_later HC0.out (HB.out.setCell hgA _)
    replace HB : Hid (Below w.heap.size w (w4.setCell ⟨w1.heap.size, 0, none⟩ (.slice a4 M.length c4))) := HB.out.setCell hgA _
    clear hlo
    have q0 := PL.c1
    go_wp2_with fail
    clear q0
    generalize w4.setCell ⟨w1.heap.size, 0, none⟩ (.slice a4 M.length c4) = w5 at BA OA PL HB HC ⊢
    refine (drawCook_any _ _ _ _ HC.out).mono ?_
    rintro e w11 ⟨v1, ns1, se, ad, he, rfl, hm1, hm2, hfit, hk0, hk1, he0, he1, hq0, hq1, h7, ho, hb⟩
    obtain ⟨a6, c6, rfl, -, -⟩ := ho.row
    have O10 := Own.made ho
    replace BA := BA.next hb
    replace OA := OA.next hb
    replace PL := PL.next hb
    replace HB : Hid (Below w.heap.size w (w11)) := HB.out.trans (hb.mono HB.out.size)
    replace HC : Hid (CodeIn (w11).heap.size (w11) a0 len0) := codeIn_later HC.out hb
    have O1 := O10
    clear ho hb O10
    have hbb : Below w11.heap.size w11 (w11.alloc (.cells #[.slice a6 ns1.length c6] 28)) := (Below.refl _ _).alloc (Nat.le_refl _) _
    replace BA := BA.next hbb
    replace OA := OA.next hbb
    replace PL := PL.next hbb
    replace O1 := O1.next hbb
    replace HB : Hid (Below w.heap.size w (w11.alloc (.cells #[.slice a6 ns1.length c6] 28))) := HB.out.trans (hbb.mono HB.out.size)
    replace HC : Hid (CodeIn (w11.alloc (.cells #[.slice a6 ns1.length c6] 28)).heap.size (w11.alloc (.cells #[.slice a6 ns1.length c6] 28)) a0 len0) := codeIn_later HC.out hbb
    have B1 : Var w11.heap.size (.slice a6 ns1.length c6) (w11.alloc (.cells #[.slice a6 ns1.length c6] 28)) := Var.made
    clear hbb
    obtain ⟨Ar, Kr, HIr, HSr, hAr⟩ : ∃ (Ar : List Nd) (Kr : Int), Hid (∀ (a : Option Addr) (cap : Nat) (w : World), AddrN a cap → RowN w.heap.size w a ns1 → Calls Try.prog 57 #[.agg #[.slice a ns1.length cap], .int .i64 se, .int .i64 ad, .int .i64 he] w fun e w' => ∃ v, e = .returned (.tuple #[.agg #[v], .int .i64 Kr]) ∧ OwnC w.heap.size w' v Ar ∧ Below w.heap.size w w') ∧ Hid (∀ (a : Option Addr) (cap : Nat) (w : World), AddrN a cap → RowN w.heap.size w a ns1 → Calls Try.prog 56 #[.agg #[.slice a ns1.length cap], .int .i64 se, .int .i64 ad, .int .i64 he] w fun e w' => ∃ v, e = .returned (.tuple #[.agg #[v], .int .i64 Kr]) ∧ OwnN w.heap.size w' v Ar ∧ Below w.heap.size w w') ∧ Ar.length ≤ 1048576 :=
      ⟨keptA ns1 (ckA ns1 se ad he) (ckK ns1 se ad he), ckK ns1 se ad he, fun a cap w ha hr => implCookie_any a cap ns1 se ad he w (by omega) hfit (wf_of (by omega)) (wf_of (by omega)) (wf_of (by omega)) ha hr, fun a cap w ha hr => specCookie_any a cap ns1 se ad he w (by omega) ha hr, keptA_le (by omega) (ckA_le (by omega))⟩
    go_wp2_with fail
    generalize w11.alloc (.cells #[.slice a6 ns1.length c6] 28) = w12 at BA OA PL O1 B1 HB HC ⊢
    refine (HIr.out _ _ _ O1.rowIs O1.rowAt).mono ?_
    rintro e w13 ⟨vir, rfl, ho, hb⟩
    obtain ⟨air, cir, pir, rfl, -, ho⟩ := ho
    have Oir0 := Own.made ho
    replace BA := BA.next hb
    replace OA := OA.next hb
    replace PL := PL.next hb
    replace O1 := O1.next hb
    replace B1 := B1.next hb
    replace HB : Hid (Below w.heap.size w (w13)) := HB.out.trans (hb.mono HB.out.size)
    replace HC : Hid (CodeIn (w13).heap.size (w13) a0 len0) := codeIn_later HC.out hb
    have Oir := Oir0
    clear ho hb Oir0 HIr
    have hbb : Below w13.heap.size w13 (w13.alloc (.cells #[.slice air Ar.length cir] 28)) := (Below.refl _ _).alloc (Nat.le_refl _) _
    replace BA := BA.next hbb
    replace OA := OA.next hbb
    replace PL := PL.next hbb
    replace O1 := O1.next hbb
    replace B1 := B1.next hbb
    replace Oir := Oir.next hbb
    replace HB : Hid (Below w.heap.size w (w13.alloc (.cells #[.slice air Ar.length cir] 28))) := HB.out.trans (hbb.mono HB.out.size)
    replace HC : Hid (CodeIn (w13.alloc (.cells #[.slice air Ar.length cir] 28)).heap.size (w13.alloc (.cells #[.slice air Ar.length cir] 28)) a0 len0) := codeIn_later HC.out hbb
    have Bir : Var w13.heap.size (.slice air Ar.length cir) (w13.alloc (.cells #[.slice air Ar.length cir] 28)) := Var.made
    clear hbb
    have q0 := B1.c
    go_wp2_with fail
    clear q0
    generalize w13.alloc (.cells #[.slice air Ar.length cir] 28) = w14 at BA OA PL O1 B1 Oir Bir HB HC ⊢
    refine (HSr.out _ _ _ O1.rowIs O1.rowAt).mono ?_
    rintro e w15 ⟨vsr, rfl, ho, hb⟩
    obtain ⟨asr, csr, rfl, -, -⟩ := ho.row
    have Osr0 := Own.made ho
    replace BA := BA.next hb
    replace OA := OA.next hb
    replace PL := PL.next hb
    replace O1 := O1.next hb
    replace B1 := B1.next hb
    replace Oir := Oir.next hb
    replace Bir := Bir.next hb
    replace HB : Hid (Below w.heap.size w (w15)) := HB.out.trans (hb.mono HB.out.size)
    replace HC : Hid (CodeIn (w15).heap.size (w15) a0 len0) := codeIn_later HC.out hb
    have Osr := Osr0
    clear ho hb Osr0 HSr
    have hbb : Below w15.heap.size w15 (w15.alloc (.cells #[.slice asr Ar.length csr] 28)) := (Below.refl _ _).alloc (Nat.le_refl _) _
    replace BA := BA.next hbb
    replace OA := OA.next hbb
    replace PL := PL.next hbb
    replace O1 := O1.next hbb
    replace B1 := B1.next hbb
    replace Oir := Oir.next hbb
    replace Bir := Bir.next hbb
    replace Osr := Osr.next hbb
    replace HB : Hid (Below w.heap.size w (w15.alloc (.cells #[.slice asr Ar.length csr] 28))) := HB.out.trans (hbb.mono HB.out.size)
    replace HC : Hid (CodeIn (w15.alloc (.cells #[.slice asr Ar.length csr] 28)).heap.size (w15.alloc (.cells #[.slice asr Ar.length csr] 28)) a0 len0) := codeIn_later HC.out hbb
    have Bsr : Var w15.heap.size (.slice asr Ar.length csr) (w15.alloc (.cells #[.slice asr Ar.length csr] 28)) := Var.made
    clear hbb
    clear O1 B1
    clear hfit
    go_wp2_with fail
    generalize w15.alloc (.cells #[.slice asr Ar.length csr] 28) = w16 at BA OA PL Oir Bir Osr Bsr HB HC ⊢
    refine (drawCookOk_any _ _ _ _ HLEN.out HC.out).mono ?_
    rintro e w17 ⟨v2, ns2, s2, d2, h2, kc2, rfl, hr1, hfit2, t0, t1, t2, t3, t4, t5, t6, t7, hrel, ho, hb⟩
    obtain ⟨a7, c7, rfl, -, -⟩ := ho.row
    have O20 := Own.made ho
    replace BA := BA.next hb
    replace OA := OA.next hb
    replace PL := PL.next hb
    replace Oir := Oir.next hb
    replace Bir := Bir.next hb
    replace Osr := Osr.next hb
    replace Bsr := Bsr.next hb
    replace HB : Hid (Below w.heap.size w (w17)) := HB.out.trans (hb.mono HB.out.size)
    replace HC : Hid (CodeIn (w17).heap.size (w17) a0 len0) := codeIn_later HC.out hb
    have O2 := O20
    clear ho hb O20
    have hbb : Below w17.heap.size w17 (w17.alloc (.cells #[.slice a7 ns2.length c7] 28)) := (Below.refl _ _).alloc (Nat.le_refl _) _
    replace BA := BA.next hbb
    replace OA := OA.next hbb
    replace PL := PL.next hbb
    replace Oir := Oir.next hbb
    replace Bir := Bir.next hbb
    replace Osr := Osr.next hbb
    replace Bsr := Bsr.next hbb
    replace O2 := O2.next hbb
    replace HB : Hid (Below w.heap.size w (w17.alloc (.cells #[.slice a7 ns2.length c7] 28))) := HB.out.trans (hbb.mono HB.out.size)
    replace HC : Hid (CodeIn (w17.alloc (.cells #[.slice a7 ns2.length c7] 28)).heap.size (w17.alloc (.cells #[.slice a7 ns2.length c7] 28)) a0 len0) := codeIn_later HC.out hbb
    have B2 : Var w17.heap.size (.slice a7 ns2.length c7) (w17.alloc (.cells #[.slice a7 ns2.length c7] 28)) := Var.made
    clear hbb
    have hEQ : ckF ns2 s2 d2 h2 kc2 = ckOk ns2 s2 d2 h2 kc2 := by
      obtain ⟨ns0, ad0, g1, -, g2, g3, g4⟩ := hrel
      rw [g2]
      exact ckF_drawn g3 g4 (ckK_range (by omega)).1
    clear hrel
    obtain ⟨ob, HIo, HSo⟩ : ∃ ob : Bool, Hid (∀ (a : Option Addr) (cap : Nat) (w : World), AddrN a cap → RowN w.heap.size w a ns2 → Calls Try.prog 60 #[.agg #[.slice a ns2.length cap], .int .i64 s2, .int .i64 d2, .int .i64 h2, .int .i64 kc2] w fun e w' => e = .returned (.bool ob) ∧ Below w.heap.size w w') ∧ Hid (∀ (a : Option Addr) (cap : Nat) (w : World), AddrN a cap → RowN w.heap.size w a ns2 → Calls Try.prog 61 #[.agg #[.slice a ns2.length cap], .int .i64 s2, .int .i64 d2, .int .i64 h2, .int .i64 kc2] w fun e w' => e = .returned (.bool ob) ∧ Below w.heap.size w w') := ⟨ckOk ns2 s2 d2 h2 kc2, fun a cap w ha hr => (by have := implCookOk_any a cap ns2 s2 d2 h2 kc2 w hr1 hr; rw [hEQ] at this; exact this), fun a cap w ha hr => specCookOk_any a cap ns2 s2 d2 h2 kc2 w hr1 ha hr⟩
    clear hfit2 HLEN HALL hEQ
    generalize hWE : w17.alloc (.cells #[.slice a7 ns2.length c7] 28) = w18 at BA OA PL Oir Bir Osr Bsr O2 B2 HB HC
    clear HC HC0
    obtain ⟨S, hS0, hNE, HK⟩ := read_class w18
    have k0 := HK.out.1 _ _ (show (⟨w1.heap.size, 0, none⟩ : Addr).block < _ from BA.lt) BA.c
    have k1 := HK.out.1 _ _ (show (⟨gp, 0, none⟩ : Addr).block < _ from PL.lt) PL.c0
    have k2 := HK.out.1 _ _ (show (⟨gp, 1, none⟩ : Addr).block < _ from PL.lt) PL.c1
    have k3 := var_held Bir HK.out.1
    have k4 := var_held Bsr HK.out.1
    have k5 := var_held B2 HK.out.1
    have HRA : Hid (∀ s : Hw S, RowN s.w.heap.size s.w a4 M) := fun s => OA.rowAt.grown (HK.out.2.2.2 s)
    have HRI : Hid (∀ s : Hw S, RowN s.w.heap.size s.w air Ar) := fun s => Oir.rowAt.grown (HK.out.2.2.2 s)
    have HRS : Hid (∀ s : Hw S, RowN s.w.heap.size s.w asr Ar) := fun s => Osr.rowAt.grown (HK.out.2.2.2 s)
    have HR2 : Hid (∀ s : Hw S, RowN s.w.heap.size s.w a7 ns2) := fun s => O2.rowAt.grown (HK.out.2.2.2 s)
    have HA2 : Hid (AddrN a7 c7) := O2.rowIs
    have hkk : ∀ (s : Hw S) w', Below s.w.heap.size s.w w' → S w' := HK.out.2.1
    by_cases hn : ns.length = 1
    · have hne : ((ns.length : Int) == 1) = true := by rw [hn]; rfl
      clear hn hnb H4
      go_wp2_with fail
      refine wp_region_held (S := S) (by kernel_rfl) (by kernel_rfl) hS0 ?_
      simp only [List.append_eq, List.cons_append, List.nil_append]
      repeat (go_big_quiet_step (first | (with_reducible exact held_ok HAD HRA hkk H1) | (with_reducible exact held_ok HAD HRA hkk H2) | (with_reducible exact held_ok HAD HRA hkk H3) | (with_reducible exact held_ok HAD HRA hkk H4) | (with_reducible exact held_ok HA2 HR2 hkk HIo) | (with_reducible exact held_sp HA2 HR2 hkk HSo) | (with_reducible exact held_same hAr HRI HRS hkk)))
      refine wpQuiet_nil ?_
      rintro _ ⟨sw, rfl⟩
      have hb := HK.out.2.2.2 sw
      have HE : Hid (Below w.heap.size w sw.w) := HB.out.trans (hb.mono HB.out.size)
      clear hb
      go_wp2
      go_ret
      exact ⟨rfl, HE.out⟩
    · have hne : ((ns.length : Int) == 1) = false := by simp; omega
      obtain rfl : nb = false := by rcases hnb with h | h; exact h; exact absurd h hn
      clear hn hnb
      go_wp2_with fail
      refine wp_region_held (S := S) (by kernel_rfl) (by kernel_rfl) hS0 ?_
      simp only [List.append_eq, List.cons_append, List.nil_append]
      repeat (go_big_quiet_step (first | (with_reducible exact held_ok HAD HRA hkk H1) | (with_reducible exact held_ok HAD HRA hkk H2) | (with_reducible exact held_ok HAD HRA hkk H3) | (with_reducible exact held_ok HAD HRA hkk H4) | (with_reducible exact held_ok HA2 HR2 hkk HIo) | (with_reducible exact held_sp HA2 HR2 hkk HSo) | (with_reducible exact held_same hAr HRI HRS hkk)))
      refine wpQuiet_nil ?_
      rintro _ ⟨sw, rfl⟩
      have hb := HK.out.2.2.2 sw
      have HE : Hid (Below w.heap.size w sw.w) := HB.out.trans (hb.mono HB.out.size)
      clear hb
      go_wp2
      go_ret
      exact ⟨rfl, HE.out⟩
  · have hd : decide ((1048576 : Int) < (len0 : Int)) = true := by simp; omega
    clear hcode
    go_enter Try.func11, Try.ntmps11
    go_wp2_with fail
    refine (big_any _ _ _ _).mono ?_
    rintro e wz ⟨rfl, rfl⟩
    rw [hd]
    go_wp2
    go_ret
    exact ⟨rfl, Below.refl _ _⟩

theorem laidOut : laidOutB Try.prog = true := by kernel_rfl
set_option maxRecDepth 100000 in
theorem lifted (os : Os) (started : os.Started) (H : Type) (enc : TypeId × Value → H) :
    ReturnsInHanded {} Try.checked os 11 .any (Rows.fnCookiesSpec.pre6 enc Try.prog Try.f11 Rows.fnCookiesRow.domain false) (Rows.fnCookiesSpec.post enc Try.prog Try.f11 false true false false) := by
  refine returnsInHanded_of_change (C := Try.checked) own started (by kernel_rfl) Try.func11
    (ChangeSpec.witness6 (enc := enc) (C := Try.checked) false ⟨#[], #[.slice none 0 0], []⟩ 8 (by kernel_rfl) (by kernel_rfl) (by kernel_rfl) (by kernel_rfl)) ?_
  intro W base args ds gs before hval0 hW hcnd _
  have hval : ∀ (j : Nat) t v, Try.f11.params[j]? = some t → args[j]? = some v → Value.okWide Try.prog W .any base t v := hval0
  have hW' := hW
  obtain ⟨p, q, hA0, hV, rfl, hfz, hnd⟩ := hW
  have hA : DataW.TrodAll enc Try.prog W 0 (fun _ => true) true Try.f11.params.toList args.toList ds p := hA0
  rw [Try.params11] at hA hval
  obtain ⟨v0, vs0, d0, ds0, p0, q0, hargs, rfl, rfl, h0, r0⟩ := trodAll_cons hA
  obtain ⟨rfl, rfl, rfl⟩ := trodAll_nil r0
  obtain rfl : args = #[v0] := by cases args; simp_all
  obtain ⟨rfl, rfl⟩ := trodVars_none hV
  obtain ⟨a0, len0, cap0, rfl⟩ := okWide_slice Try.underlying35 (hval 0 35 v0 rfl rfl)
  have k0 := h0
  have lt0 : ∀ x ∈ p0, x.block < W.heap.size := by obtain ⟨m, hm⟩ := k0; exact DataW.trod_lt m _ _ _ hm
  clear hA0 hval0
  refine (walk a0 len0 cap0  W (code_of h0)).mono fun e W' ⟨he, bel⟩ => ?_
  subst he
  exact ⟨_, rfl, _, _, _, [], _, [], hW', trodAll_mk1 (shut_bool Try.underlying4 _), (trodAll_cons_mk (Below.trod laidOut (by kernel_rfl) (of_decide_eq_true (by kernel_rfl)) k0 bel lt0) trodAll_mk0), rfl, bel.frame _, fun h => by cases h⟩

theorem over : Rows.fnCookiesRow.holds Try.pinned (OpenSpec.ofChange Rows.fnCookiesSpec) :=
  OpenClaim.holds_of_wide 11 Try.f11 rfl rfl rfl rfl rfl rfl rfl ⟨rfl, rfl, rfl, rfl, rfl⟩ rfl rfl rfl rfl rfl (by kernel_rfl) Try.func11 (by kernel_rfl)
    (of_decide_eq_true (by kernel_rfl)) (by unfold Func.isWrapper; first | (rw [if_pos (by decide +kernel)]; kernel_rfl) | (rw [if_neg (by decide +kernel)]; exact ⟨rfl, rfl⟩))
    (fun os started H enc _ => lifted os started H enc)
end fnCookies

theorem fnCookies_holds : Rows.FnCookiesSaid := fnCookies.over
#print axioms fnCookies_holds
end Go.Proofs.Ytffnadnndmmliaa
