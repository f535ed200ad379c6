/- For every code: places are unlike, who has one keeps it, what is given back is given to another one; and what the program says of drawn lists, right or not, is what the specification says. No condition. -/
import Derived.Test.YtclnhjkmhemebaaRows
import Derived.Test.YtclnhjkmhemebaaDraw15
import Derived.Test.YtclnhjkmhemebaaImpl15
import Derived.Test.YtclnhjkmhemebaaSameLs
import Derived.Test.YtclnhjkmhemebaaCodeW
import Derived.WalkKit
import Derived.ProofKit
import Derived.OpenShut
import Derived.ShutString
import Derived.ChangeOld
import Derived.PlainAid
namespace Go.Proofs.Ytclnhjkmhemebaa
namespace fnPools
open Go.ChangeShapes Go.WideShapes Go.ChangeAt Go.RowKit Go.PlainAid
open Go.ChangeMaps (open_string shut_string)
set_option linter.unusedVariables false

theorem own : ownKnob Try.prog.godebug = none := by kernel_rfl

/-- A row that is read alone. -/
structure RdL (a : Option Addr) (ls : List Ls) (w : World) : Prop where
  row : RowLs w.heap.size w a ls
theorem RdL.next {a : Option Addr} {ls : List Ls} {w w' : World} (h : RdL a ls w) (hb : Below w.heap.size w w') : RdL a ls w' := ⟨h.row.grown hb⟩
theorem rdC {B : Nat} {w : World} {v : Value} {ls : List Ls} (h : OwnLsC B w v ls) : ∃ a cap, v = .slice a ls.length cap ∧ RdL a ls w := by
  obtain ⟨a, cap, cp, rfl, _, ho⟩ := h
  obtain ⟨_, _, e, _, hr⟩ := ho.row
  cases e
  exact ⟨a, cap, rfl, ⟨hr⟩⟩
theorem rdO {B : Nat} {w : World} {v : Value} {ls : List Ls} (h : OwnLs B w v ls) : ∃ a cap, v = .slice a ls.length cap ∧ RdL a ls w := rdC h.clip
theorem mod9L (p : Nat) : ∃ x : Nat, Int.tmod (p : Int) 9 = (x : Int) ∧ x < 9 := ⟨p % 9, by rw [Int.tmod_eq_emod_of_nonneg (by omega)]; omega, Nat.mod_lt _ (by omega)⟩
set_option maxHeartbeats 6400000 in
set_option maxRecDepth 20000 in
theorem walk (a0 : Option Addr) (len0 cap0 : Nat) (w : World) (hcode : len0 ≤ 1048576 → CodeIn w.heap.size w a0 len0) :
    Calls Try.prog 3 #[.slice a0 len0 cap0] w fun e w' => e = .returned (.bool true) ∧ Below w.heap.size w w' := by
  by_cases hbig : len0 ≤ 1048576
  · have HC : Hid (CodeIn w.heap.size w a0 len0) := hcode hbig
    have HB : Hid (Below w.heap.size w w) := Below.refl _ _
    have hd : decide ((1048576 : Int) < (len0 : Int)) = false := by simp; omega
    clear hcode hbig
    go_enter Try.func3, Try.ntmps3
    go_wp2_with fail
    refine (big_any _ _ _ _).mono ?_
    rintro e wz ⟨rfl, rfl⟩
    rw [hd]
    clear hd
    go_wp2_with fail
    refine (drawPool_any _ _ _ _ HC.out).mono ?_
    rintro e w1 ⟨v1, ls, rfl, ⟨g1, c1, rfl⟩, hok, hfit, ho, hb⟩
    replace HB : Hid (Below w.heap.size w w1) := HB.out.trans (hb.mono HB.out.size)
    replace HC : Hid (CodeIn w1.heap.size w1 a0 len0) := codeIn_later HC.out hb
    obtain ⟨_, _, e1, R1⟩ := rdO ho
    cases e1
    clear ho hb
    go_wp2_with fail
    refine (places_any a0 len0 cap0 w1 HC.out).mono ?_
    rintro e w2 ⟨gp, cp, xs, rfl, hxl, hxb, hg1, hg2, hcl, hb⟩
    have q0 := hcl 0 (by omega)
    replace R1 := R1.next hb
    replace HB : Hid (Below w.heap.size w w2) := HB.out.trans (hb.mono HB.out.size)
    replace HC : Hid (CodeIn w2.heap.size w2 a0 len0) := codeIn_later HC.out hb
    generalize xs.getD 0 0 = p0 at q0
    clear hb hcl hg1 hg2 hxb hxl xs
    obtain ⟨x, hx, hx9⟩ := mod9L p0
    have Q := pq_of (pf_of hok) (x : Int)
    have hw9 : -9223372036854775808 ≤ (x : Int) ∧ (x : Int) ≤ 9223372036854775807 := by omega
    have hl3 := Q.len
    have hA9 : (leaseL ls x).length ≤ 2097152 := leaseL_le (by omega)
    have hA8 : (leaseL ls x).length ≤ 3 := pool_len Q.lease
    have hfA := lease_fits (c := (x : Int)) hfit hw9
    obtain ⟨A, HA⟩ : ∃ A, Hid (leaseL ls x = A) := ⟨_, rfl⟩
    obtain ⟨P, HP⟩ : ∃ P, Hid (leaseP ls x = P) := ⟨_, rfl⟩
    obtain ⟨K, hK⟩ : ∃ K, leaseB ls x = K := ⟨_, rfl⟩
    rw [HA.out] at hA8 hA9 hfA
    have H1 : Hid (∀ (a : Option Addr) (cap : Nat) (w : World), RowLs w.heap.size w a ls → Calls Try.prog 19 #[.slice a ls.length cap, .int .i64 (x : Int)] w fun e w' => ∃ v, e = .returned (.tuple #[v, .int .i64 P, .bool K]) ∧ OwnLsC w.heap.size w' v A ∧ Below w.heap.size w w') := fun a cap w hr => by
      have h := implLeased_any a cap ls x w (by omega) hfit hr
      rw [HA.out, HP.out, hK] at h
      exact h
    have H2 : Hid (∀ (a : Option Addr) (cap : Nat) (w : World), RowLs w.heap.size w a A → Calls Try.prog 19 #[.slice a A.length cap, .int .i64 (x : Int)] w fun e w' => ∃ v, e = .returned (.tuple #[v, .int .i64 (leaseP A x), .bool (leaseB A x)]) ∧ OwnLsC w.heap.size w' v (leaseL A x) ∧ Below w.heap.size w w') := fun a cap w hr => by
      exact implLeased_any a cap A x w (by omega) hfA hr
    have H3 : Hid (∀ (a : Option Addr) (cap : Nat) (w : World), RowLs w.heap.size w a A → Calls Try.prog 20 #[.slice a A.length cap, .int .i64 (x : Int)] w fun e w' => ∃ v, e = .returned v ∧ OwnLsC w.heap.size w' v (givenL A x) ∧ Below w.heap.size w w') := fun a cap w hr => by
      exact implGiven_any a cap A x w (by omega) hfA hr
    have QN : Hid (K = false → ls.length = 3 ∧ placeL ls x = 0 ∧ leaseL ls x = ls) := fun e => Q.no (hK.trans e)
    have QY : Hid (K = true → poolB A = true ∧ placeL A x = P ∧ cidL A P = x ∧ leaseB A x = true ∧ leaseP A x = P ∧ leaseL A x = A ∧ placeL (givenL A x) x = 0 ∧ poolB (givenL A x) = true ∧ 10 ≤ P) := fun e => by
      have e' := hK.trans e
      have q1 := Q.lease; have q2 := Q.place e'; have q3 := Q.cid e'; have q4 := Q.twice e'; have q5 := Q.again e'; have q6 := Q.same e'; have q7 := Q.gone e'; have q8 := Q.left e'; have q9 := Q.first e'
      rw [HA.out] at q1 q2 q3 q4 q5 q6 q7 q8
      rw [HP.out] at q2 q3 q5 q9
      exact ⟨q1, q2, q3, q4, q5, q6, q7, q8, q9⟩
    have HFA : Hid (∀ y ∈ A, y.Fits) := hfA
    have HFL : Hid (∀ y ∈ ls, y.Fits) := hfit
    clear hK Q hok HP
    go_wp2_with fail
    refine (H1.out _ _ _ R1.row).mono ?_
    rintro e w3 ⟨v, rfl, ho, hb⟩
    replace R1 := R1.next hb
    replace HB : Hid (Below w.heap.size w w3) := HB.out.trans (hb.mono HB.out.size)
    replace HC : Hid (CodeIn w3.heap.size w3 a0 len0) := codeIn_later HC.out hb
    obtain ⟨aR2, cR2, rfl, R2⟩ := rdC ho
    clear ho hb H1
    clear q0
    go_wp2_with fail
    refine (H2.out _ _ _ R2.row).mono ?_
    rintro e w4 ⟨v, rfl, ho, hb⟩
    replace R1 := R1.next hb
    replace R2 := R2.next hb
    replace HB : Hid (Below w.heap.size w w4) := HB.out.trans (hb.mono HB.out.size)
    replace HC : Hid (CodeIn w4.heap.size w4 a0 len0) := codeIn_later HC.out hb
    obtain ⟨aR3, cR3, rfl, R3⟩ := rdC ho
    clear ho hb H2
    go_wp2_with fail
    refine (H3.out _ _ _ R2.row).mono ?_
    rintro e w5 ⟨v, rfl, ho, hb⟩
    replace R1 := R1.next hb
    replace R2 := R2.next hb
    replace R3 := R3.next hb
    replace HB : Hid (Below w.heap.size w w5) := HB.out.trans (hb.mono HB.out.size)
    replace HC : Hid (CodeIn w5.heap.size w5 a0 len0) := codeIn_later HC.out hb
    obtain ⟨aR4, cR4, rfl, R4⟩ := rdC ho
    clear ho hb H3
    go_wp2_with fail
    refine (drawLeased_any _ _ _ _ HC.out).mono ?_
    rintro e w6 ⟨v6, X, n, rfl, hn, ⟨g6, c6, rfl⟩, hX, hXf, ho, hb⟩
    replace R1 := R1.next hb
    replace R2 := R2.next hb
    replace R3 := R3.next hb
    replace R4 := R4.next hb
    replace HB : Hid (Below w.heap.size w w6) := HB.out.trans (hb.mono HB.out.size)
    replace HC : Hid (CodeIn w6.heap.size w6 a0 len0) := codeIn_later HC.out hb
    obtain ⟨_, _, e1, R6⟩ := rdO ho
    cases e1
    clear ho hb
    have hXl : (leaseL X (n : Int)).length ≤ 2097152 := leaseL_le (by omega)
    have hXg : (givenL X (n : Int)).length ≤ 2097152 := Nat.le_trans (given_le X n) (by omega)
    have H4 : Hid (∀ (a : Option Addr) (cap : Nat) (w : World), RowLs w.heap.size w a X → Calls Try.prog 19 #[.slice a X.length cap, .int .i64 (n : Int)] w fun e w' => ∃ v, e = .returned (.tuple #[v, .int .i64 (leaseP X n), .bool (leaseB X n)]) ∧ OwnLsC w.heap.size w' v (leaseL X n) ∧ Below w.heap.size w w') := fun a cap w hr => by
      exact implLeased_any a cap X n w (by omega) hXf hr
    have H5 : Hid (∀ (w : World), RowLs w.heap.size w (some ⟨g6, 0, none⟩) X → Calls Try.prog 22 #[.slice (some ⟨g6, 0, none⟩) X.length c6, .int .i64 (n : Int)] w fun e w' => ∃ v, e = .returned (.tuple #[v, .int .i64 (leaseP X n), .bool (leaseB X n)]) ∧ OwnLs w.heap.size w' v (leaseL X n) ∧ Below w.heap.size w w') := fun w hr => specLeasedS_any g6 0 c6 X n w (by omega) hr
    have H6 : Hid (∀ (a : Option Addr) (cap : Nat) (w : World), RowLs w.heap.size w a X → Calls Try.prog 25 #[.slice a X.length cap, .int .i64 (n : Int)] w fun e w' => e = .returned (.int .i64 (placeL X n)) ∧ Below w.heap.size w w') := fun a cap w hr => by
      exact implPlace_any a cap X n w (by omega) hXf hr
    have H7 : Hid (∀ (a : Option Addr) (cap : Nat) (w : World), RowLs w.heap.size w a X → Calls Try.prog 26 #[.slice a X.length cap, .int .i64 (n : Int)] w fun e w' => e = .returned (.int .i64 (placeL X n)) ∧ Below w.heap.size w w') := fun a cap w hr => by
      exact (specPlace_any a cap X n w (by omega) hr).mono fun _ _ h => ⟨h.1, h.2 ▸ Below.refl _ _⟩
    have H8 : Hid (∀ (a : Option Addr) (cap : Nat) (w : World), RowLs w.heap.size w a X → Calls Try.prog 20 #[.slice a X.length cap, .int .i64 (n : Int)] w fun e w' => ∃ v, e = .returned v ∧ OwnLsC w.heap.size w' v (givenL X n) ∧ Below w.heap.size w w') := fun a cap w hr => by
      exact implGiven_any a cap X n w (by omega) hXf hr
    have H9 : Hid (∀ (a : Option Addr) (cap : Nat) (w : World), RowLs w.heap.size w a X → Calls Try.prog 29 #[.slice a X.length cap, .int .i64 (n : Int)] w fun e w' => ∃ v, e = .returned v ∧ OwnLs w.heap.size w' v (givenL X n) ∧ Below w.heap.size w w') := fun a cap w hr => by
      exact specGiven_any a cap X n w (by omega) hr
    have H10 : Hid (∀ (a : Option Addr) (cap : Nat) (w : World), RowLs w.heap.size w a X → Calls Try.prog 30 #[.slice a X.length cap] w fun e w' => e = .returned (.bool (poolB X)) ∧ Below w.heap.size w w') := fun a cap w hr => by
      exact implPool_any a cap X w (by omega) hXf hr
    have H11 : Hid (∀ (a : Option Addr) (cap : Nat) (w : World), RowLs w.heap.size w a X → Calls Try.prog 31 #[.slice a X.length cap] w fun e w' => e = .returned (.bool (poolB X)) ∧ Below w.heap.size w w') := fun a cap w hr => by
      exact specPool_any a cap X w (by omega) hr
    generalize leaseL X (n : Int) = XL at H4 H5 hXl
    generalize leaseP X (n : Int) = XP at H4 H5
    generalize leaseB X (n : Int) = XB at H4 H5
    generalize givenL X (n : Int) = XG at H8 H9 hXg
    generalize placeL X (n : Int) = Xp at H6 H7
    generalize poolB X = Xo at H10 H11
    go_wp2_with fail
    refine (H4.out _ _ _ R6.row).mono ?_
    rintro e w7 ⟨v, rfl, ho, hb⟩
    replace R1 := R1.next hb
    replace R2 := R2.next hb
    replace R3 := R3.next hb
    replace R4 := R4.next hb
    replace R6 := R6.next hb
    replace HB : Hid (Below w.heap.size w w7) := HB.out.trans (hb.mono HB.out.size)
    replace HC : Hid (CodeIn w7.heap.size w7 a0 len0) := codeIn_later HC.out hb
    obtain ⟨aR7, cR7, rfl, R7⟩ := rdC ho
    clear ho hb H4
    go_wp2_with fail
    refine (H5.out _ R6.row).mono ?_
    rintro e w8 ⟨v, rfl, ho, hb⟩
    replace R1 := R1.next hb
    replace R2 := R2.next hb
    replace R3 := R3.next hb
    replace R4 := R4.next hb
    replace R6 := R6.next hb
    replace R7 := R7.next hb
    replace HB : Hid (Below w.heap.size w w8) := HB.out.trans (hb.mono HB.out.size)
    replace HC : Hid (CodeIn w8.heap.size w8 a0 len0) := codeIn_later HC.out hb
    obtain ⟨aR8, cR8, rfl, R8⟩ := rdO ho
    clear ho hb H5
    go_wp2_with fail
    refine (drawCidOf_any _ _ _ _ HC.out).mono ?_
    rintro e w9 ⟨v9, Y, m, rfl, hm, ⟨g9, c9, rfl⟩, hY, hYf, ho, hb⟩
    replace R1 := R1.next hb
    replace R2 := R2.next hb
    replace R3 := R3.next hb
    replace R4 := R4.next hb
    replace R6 := R6.next hb
    replace R7 := R7.next hb
    replace R8 := R8.next hb
    replace HB : Hid (Below w.heap.size w w9) := HB.out.trans (hb.mono HB.out.size)
    replace HC : Hid (CodeIn w9.heap.size w9 a0 len0) := codeIn_later HC.out hb
    obtain ⟨_, _, e1, R9⟩ := rdO ho
    cases e1
    clear ho hb
    have H12 : Hid (∀ (a : Option Addr) (cap : Nat) (w : World), RowLs w.heap.size w a Y → Calls Try.prog 27 #[.slice a Y.length cap, .int .i64 (8 + (m : Int))] w fun e w' => e = .returned (.int .i64 (cidL Y (8 + (m : Int)))) ∧ Below w.heap.size w w') := fun a cap w hr => by
      exact implCid_any a cap Y (8 + (m : Int)) w (by omega) hYf hr
    have H13 : Hid (∀ (a : Option Addr) (cap : Nat) (w : World), RowLs w.heap.size w a Y → Calls Try.prog 28 #[.slice a Y.length cap, .int .i64 (8 + (m : Int))] w fun e w' => e = .returned (.int .i64 (cidL Y (8 + (m : Int)))) ∧ Below w.heap.size w w') := fun a cap w hr => by
      exact (specCid_any a cap Y (8 + (m : Int)) w (by omega) hr).mono fun _ _ h => ⟨h.1, h.2 ▸ Below.refl _ _⟩
    generalize cidL Y (8 + (m : Int)) = Yc at H12 H13
    have hXB : (XB != XB) = false := by simp
    have hXo : (Xo != Xo) = false := by simp
    clear hXf hYf hfit hfA
    go_wp2_with fail
    refine (sameLs_same _ _ _ _ _ _ hXl R7.row R8.row).mono ?_
    rintro e w10 ⟨rfl, hb⟩
    replace R1 := R1.next hb
    replace R2 := R2.next hb
    replace R3 := R3.next hb
    replace R4 := R4.next hb
    replace R6 := R6.next hb
    replace R7 := R7.next hb
    replace R8 := R8.next hb
    replace R9 := R9.next hb
    replace HB : Hid (Below w.heap.size w w10) := HB.out.trans (hb.mono HB.out.size)
    replace HC : Hid (CodeIn w10.heap.size w10 a0 len0) := codeIn_later HC.out hb
    clear hb
    go_wp2_with fail
    refine (H6.out _ _ _ R6.row).mono ?_
    rintro e w11 ⟨rfl, hb⟩
    replace R1 := R1.next hb
    replace R2 := R2.next hb
    replace R3 := R3.next hb
    replace R4 := R4.next hb
    replace R6 := R6.next hb
    replace R7 := R7.next hb
    replace R8 := R8.next hb
    replace R9 := R9.next hb
    replace HB : Hid (Below w.heap.size w w11) := HB.out.trans (hb.mono HB.out.size)
    replace HC : Hid (CodeIn w11.heap.size w11 a0 len0) := codeIn_later HC.out hb
    clear hb H6
    go_wp2_with fail
    refine (H7.out _ _ _ R6.row).mono ?_
    rintro e w12 ⟨rfl, hb⟩
    replace R1 := R1.next hb
    replace R2 := R2.next hb
    replace R3 := R3.next hb
    replace R4 := R4.next hb
    replace R6 := R6.next hb
    replace R7 := R7.next hb
    replace R8 := R8.next hb
    replace R9 := R9.next hb
    replace HB : Hid (Below w.heap.size w w12) := HB.out.trans (hb.mono HB.out.size)
    replace HC : Hid (CodeIn w12.heap.size w12 a0 len0) := codeIn_later HC.out hb
    clear hb H7
    go_wp2_with fail
    refine (H12.out _ _ _ R9.row).mono ?_
    rintro e w13 ⟨rfl, hb⟩
    replace R1 := R1.next hb
    replace R2 := R2.next hb
    replace R3 := R3.next hb
    replace R4 := R4.next hb
    replace R6 := R6.next hb
    replace R7 := R7.next hb
    replace R8 := R8.next hb
    replace R9 := R9.next hb
    replace HB : Hid (Below w.heap.size w w13) := HB.out.trans (hb.mono HB.out.size)
    replace HC : Hid (CodeIn w13.heap.size w13 a0 len0) := codeIn_later HC.out hb
    clear hb H12
    go_wp2_with fail
    refine (H13.out _ _ _ R9.row).mono ?_
    rintro e w14 ⟨rfl, hb⟩
    replace R1 := R1.next hb
    replace R2 := R2.next hb
    replace R3 := R3.next hb
    replace R4 := R4.next hb
    replace R6 := R6.next hb
    replace R7 := R7.next hb
    replace R8 := R8.next hb
    replace R9 := R9.next hb
    replace HB : Hid (Below w.heap.size w w14) := HB.out.trans (hb.mono HB.out.size)
    replace HC : Hid (CodeIn w14.heap.size w14 a0 len0) := codeIn_later HC.out hb
    clear hb H13
    go_wp2_with fail
    refine (H8.out _ _ _ R6.row).mono ?_
    rintro e w15 ⟨v, rfl, ho, hb⟩
    replace R1 := R1.next hb
    replace R2 := R2.next hb
    replace R3 := R3.next hb
    replace R4 := R4.next hb
    replace R6 := R6.next hb
    replace R7 := R7.next hb
    replace R8 := R8.next hb
    replace R9 := R9.next hb
    replace HB : Hid (Below w.heap.size w w15) := HB.out.trans (hb.mono HB.out.size)
    replace HC : Hid (CodeIn w15.heap.size w15 a0 len0) := codeIn_later HC.out hb
    obtain ⟨aR10, cR10, rfl, R10⟩ := rdC ho
    clear ho hb H8
    go_wp2_with fail
    refine (H9.out _ _ _ R6.row).mono ?_
    rintro e w16 ⟨v, rfl, ho, hb⟩
    replace R1 := R1.next hb
    replace R2 := R2.next hb
    replace R3 := R3.next hb
    replace R4 := R4.next hb
    replace R6 := R6.next hb
    replace R7 := R7.next hb
    replace R8 := R8.next hb
    replace R9 := R9.next hb
    replace R10 := R10.next hb
    replace HB : Hid (Below w.heap.size w w16) := HB.out.trans (hb.mono HB.out.size)
    replace HC : Hid (CodeIn w16.heap.size w16 a0 len0) := codeIn_later HC.out hb
    obtain ⟨aR11, cR11, rfl, R11⟩ := rdO ho
    clear ho hb H9
    go_wp2_with fail
    refine (sameLs_same _ _ _ _ _ _ hXg R10.row R11.row).mono ?_
    rintro e w17 ⟨rfl, hb⟩
    replace R1 := R1.next hb
    replace R2 := R2.next hb
    replace R3 := R3.next hb
    replace R4 := R4.next hb
    replace R6 := R6.next hb
    replace R7 := R7.next hb
    replace R8 := R8.next hb
    replace R9 := R9.next hb
    replace R10 := R10.next hb
    replace R11 := R11.next hb
    replace HB : Hid (Below w.heap.size w w17) := HB.out.trans (hb.mono HB.out.size)
    replace HC : Hid (CodeIn w17.heap.size w17 a0 len0) := codeIn_later HC.out hb
    clear hb
    go_wp2_with fail
    refine (H10.out _ _ _ R6.row).mono ?_
    rintro e w18 ⟨rfl, hb⟩
    replace R1 := R1.next hb
    replace R2 := R2.next hb
    replace R3 := R3.next hb
    replace R4 := R4.next hb
    replace R6 := R6.next hb
    replace R7 := R7.next hb
    replace R8 := R8.next hb
    replace R9 := R9.next hb
    replace R10 := R10.next hb
    replace R11 := R11.next hb
    replace HB : Hid (Below w.heap.size w w18) := HB.out.trans (hb.mono HB.out.size)
    replace HC : Hid (CodeIn w18.heap.size w18 a0 len0) := codeIn_later HC.out hb
    clear hb H10
    go_wp2_with fail
    refine (H11.out _ _ _ R6.row).mono ?_
    rintro e w19 ⟨rfl, hb⟩
    replace R1 := R1.next hb
    replace R2 := R2.next hb
    replace R3 := R3.next hb
    replace R4 := R4.next hb
    replace R6 := R6.next hb
    replace R7 := R7.next hb
    replace R8 := R8.next hb
    replace R9 := R9.next hb
    replace R10 := R10.next hb
    replace R11 := R11.next hb
    replace HB : Hid (Below w.heap.size w w19) := HB.out.trans (hb.mono HB.out.size)
    replace HC : Hid (CodeIn w19.heap.size w19 a0 len0) := codeIn_later HC.out hb
    clear hb H11
    cases K with
    | false =>
      obtain ⟨h1, h2, h3⟩ := QN.out rfl
      have hln : ((ls.length : Int) == 3) = true := by rw [h1]; rfl
      have H14 : Hid (∀ (a : Option Addr) (cap : Nat) (w : World), RowLs w.heap.size w a ls → Calls Try.prog 25 #[.slice a ls.length cap, .int .i64 (x : Int)] w fun e w' => e = .returned (.int .i64 0) ∧ Below w.heap.size w w') := fun a cap w hr => by
        have h := implPlace_any a cap ls x w (by omega) HFL.out hr
        rw [h2] at h
        exact h
      rw [HA.out] at h3
      subst h3
      clear h1 h2 QN QY
      go_wp2_with fail
      refine (H14.out _ _ _ R1.row).mono ?_
      rintro e w20 ⟨rfl, hb⟩
      replace R1 := R1.next hb
      replace R2 := R2.next hb
      replace HB : Hid (Below w.heap.size w w20) := HB.out.trans (hb.mono HB.out.size)
      replace HC : Hid (CodeIn w20.heap.size w20 a0 len0) := codeIn_later HC.out hb
      clear hb H14
      go_wp2_with fail
      refine (sameLs_same _ _ _ _ _ _ (by omega) R2.row R1.row).mono ?_
      rintro e w21 ⟨rfl, hb⟩
      have HE : Hid (Below w.heap.size w w21) := HB.out.trans (hb.mono HB.out.size)
      clear hb
      go_wp2
      go_ret
      exact ⟨rfl, HE.out⟩
    | true =>
      obtain ⟨h1, h2, h3, h4, h5, h6, h7, h8, h9⟩ := QY.out rfl
      have h10 : decide ((10 : Int) ≤ P) = true := decide_eq_true h9
      have G1 : Hid (∀ (a : Option Addr) (cap : Nat) (w : World), RowLs w.heap.size w a A → Calls Try.prog 30 #[.slice a A.length cap] w fun e w' => e = .returned (.bool true) ∧ Below w.heap.size w w') := fun a cap w hr => by
        have h := implPool_any a cap A w (by omega) HFA.out hr
        rw [h1] at h
        exact h
      have G2 : Hid (∀ (a : Option Addr) (cap : Nat) (w : World), RowLs w.heap.size w a A → Calls Try.prog 25 #[.slice a A.length cap, .int .i64 (x : Int)] w fun e w' => e = .returned (.int .i64 P) ∧ Below w.heap.size w w') := fun a cap w hr => by
        have h := implPlace_any a cap A x w (by omega) HFA.out hr
        rw [h2] at h
        exact h
      have G3 : Hid (∀ (a : Option Addr) (cap : Nat) (w : World), RowLs w.heap.size w a A → Calls Try.prog 27 #[.slice a A.length cap, .int .i64 P] w fun e w' => e = .returned (.int .i64 (x : Int)) ∧ Below w.heap.size w w') := fun a cap w hr => by
        have h := implCid_any a cap A P w (by omega) HFA.out hr
        rw [h3] at h
        exact h
      have G4 : Hid (∀ (a : Option Addr) (cap : Nat) (w : World), RowLs w.heap.size w a (givenL A x) → Calls Try.prog 25 #[.slice a (givenL A x).length cap, .int .i64 (x : Int)] w fun e w' => e = .returned (.int .i64 0) ∧ Below w.heap.size w w') := fun a cap w hr => by
        have h := implPlace_any a cap (givenL A x) x w (by have := given_le A x; omega) (given_fits HFA.out) hr
        rw [h7] at h
        exact h
      have G5 : Hid (∀ (a : Option Addr) (cap : Nat) (w : World), RowLs w.heap.size w a (givenL A x) → Calls Try.prog 30 #[.slice a (givenL A x).length cap] w fun e w' => e = .returned (.bool true) ∧ Below w.heap.size w w') := fun a cap w hr => by
        have h := implPool_any a cap (givenL A x) w (by have := given_le A x; omega) (given_fits HFA.out) hr
        rw [h8] at h
        exact h
      have HR3 : Hid (RdL aR3 A w19) := by show RdL _ _ _; rw [← h6]; exact R3
      have hlen : (leaseL A (x : Int)).length = A.length := by rw [h6]
      rw [h4, h5, hlen]
      clear R3
      have R3 := HR3.out
      clear HR3 h1 h2 h3 h4 h5 h6 h7 h8 hlen QN QY
      go_wp2_with fail
      refine (G1.out _ _ _ R2.row).mono ?_
      rintro e w20 ⟨rfl, hb⟩
      replace R2 := R2.next hb
      replace R3 := R3.next hb
      replace R4 := R4.next hb
      replace HB : Hid (Below w.heap.size w w20) := HB.out.trans (hb.mono HB.out.size)
      replace HC : Hid (CodeIn w20.heap.size w20 a0 len0) := codeIn_later HC.out hb
      clear hb G1
      go_wp2_with fail
      refine (G2.out _ _ _ R2.row).mono ?_
      rintro e w21 ⟨rfl, hb⟩
      replace R2 := R2.next hb
      replace R3 := R3.next hb
      replace R4 := R4.next hb
      replace HB : Hid (Below w.heap.size w w21) := HB.out.trans (hb.mono HB.out.size)
      replace HC : Hid (CodeIn w21.heap.size w21 a0 len0) := codeIn_later HC.out hb
      clear hb G2
      go_wp2_with fail
      refine (G3.out _ _ _ R2.row).mono ?_
      rintro e w22 ⟨rfl, hb⟩
      replace R2 := R2.next hb
      replace R3 := R3.next hb
      replace R4 := R4.next hb
      replace HB : Hid (Below w.heap.size w w22) := HB.out.trans (hb.mono HB.out.size)
      replace HC : Hid (CodeIn w22.heap.size w22 a0 len0) := codeIn_later HC.out hb
      clear hb G3
      go_wp2_with fail
      refine (sameLs_same _ _ _ _ _ _ (by omega) R2.row R3.row).mono ?_
      rintro e w23 ⟨rfl, hb⟩
      replace R2 := R2.next hb
      replace R3 := R3.next hb
      replace R4 := R4.next hb
      replace HB : Hid (Below w.heap.size w w23) := HB.out.trans (hb.mono HB.out.size)
      replace HC : Hid (CodeIn w23.heap.size w23 a0 len0) := codeIn_later HC.out hb
      clear hb
      go_wp2_with fail
      refine (G4.out _ _ _ R4.row).mono ?_
      rintro e w24 ⟨rfl, hb⟩
      replace R2 := R2.next hb
      replace R3 := R3.next hb
      replace R4 := R4.next hb
      replace HB : Hid (Below w.heap.size w w24) := HB.out.trans (hb.mono HB.out.size)
      replace HC : Hid (CodeIn w24.heap.size w24 a0 len0) := codeIn_later HC.out hb
      clear hb G4
      go_wp2_with fail
      refine (G5.out _ _ _ R4.row).mono ?_
      rintro e w25 ⟨rfl, hb⟩
      have HE : Hid (Below w.heap.size w w25) := HB.out.trans (hb.mono HB.out.size)
      clear hb
      go_wp2
      go_ret
      exact ⟨rfl, HE.out⟩
  · have hd : decide ((1048576 : Int) < (len0 : Int)) = true := by simp; omega
    clear hcode
    go_enter Try.func3, Try.ntmps3
    go_wp2_with fail
    refine (big_any _ _ _ _).mono ?_
    rintro e wz ⟨rfl, rfl⟩
    rw [hd]
    go_wp2
    go_ret
    exact ⟨rfl, Below.refl _ _⟩

theorem laidOut : laidOutB Try.prog = true := by kernel_rfl
set_option maxRecDepth 100000 in
theorem lifted (os : Os) (started : os.Started) (H : Type) (enc : TypeId × Value → H) :
    ReturnsInHanded {} Try.checked os 3 .any (Rows.fnPoolsSpec.pre6 enc Try.prog Try.f3 Rows.fnPoolsRow.domain false) (Rows.fnPoolsSpec.post enc Try.prog Try.f3 false true false false) := by
  refine returnsInHanded_of_change (C := Try.checked) own started (by kernel_rfl) Try.func3
    (ChangeSpec.witness6 (enc := enc) (C := Try.checked) false ⟨#[], #[.slice none 0 0], []⟩ 8 (by kernel_rfl) (by kernel_rfl) (by kernel_rfl) (by kernel_rfl)) ?_
  intro W base args ds gs before hval0 hW hcnd _
  have hval : ∀ (j : Nat) t v, Try.f3.params[j]? = some t → args[j]? = some v → Value.okWide Try.prog W .any base t v := hval0
  have hW' := hW
  obtain ⟨p, q, hA0, hV, rfl, hfz, hnd⟩ := hW
  have hA : DataW.TrodAll enc Try.prog W 0 (fun _ => true) true Try.f3.params.toList args.toList ds p := hA0
  rw [Try.params3] at hA hval
  obtain ⟨v0, vs0, d0, ds0, p0, q0, hargs, rfl, rfl, h0, r0⟩ := trodAll_cons hA
  obtain ⟨rfl, rfl, rfl⟩ := trodAll_nil r0
  obtain rfl : args = #[v0] := by cases args; simp_all
  obtain ⟨rfl, rfl⟩ := trodVars_none hV
  obtain ⟨a0, len0, cap0, rfl⟩ := okWide_slice Try.underlying22 (hval 0 22 v0 rfl rfl)
  have k0 := h0
  have lt0 : ∀ x ∈ p0, x.block < W.heap.size := by obtain ⟨m, hm⟩ := k0; exact DataW.trod_lt m _ _ _ hm
  clear hA0 hval0
  refine (walk a0 len0 cap0  W (code_of h0)).mono fun e W' ⟨he, bel⟩ => ?_
  subst he
  exact ⟨_, rfl, _, _, _, [], _, [], hW', trodAll_mk1 (shut_bool Try.underlying4 _), (trodAll_cons_mk (Below.trod laidOut (by kernel_rfl) (of_decide_eq_true (by kernel_rfl)) k0 bel lt0) trodAll_mk0), rfl, bel.frame _, fun h => by cases h⟩

theorem over : Rows.fnPoolsRow.holds Try.pinned (OpenSpec.ofChange Rows.fnPoolsSpec) :=
  OpenClaim.holds_of_wide 3 Try.f3 rfl rfl rfl rfl rfl rfl rfl ⟨rfl, rfl, rfl, rfl, rfl⟩ rfl rfl rfl rfl rfl (by kernel_rfl) Try.func3 (by kernel_rfl)
    (of_decide_eq_true (by kernel_rfl)) (by unfold Func.isWrapper; first | (rw [if_pos (by decide +kernel)]; kernel_rfl) | (rw [if_neg (by decide +kernel)]; exact ⟨rfl, rfl⟩))
    (fun os started H enc _ => lifted os started H enc)
end fnPools

theorem fnPools_holds : Rows.FnPoolsSaid := fnPools.over
#print axioms fnPools_holds
end Go.Proofs.Ytclnhjkmhemebaa
