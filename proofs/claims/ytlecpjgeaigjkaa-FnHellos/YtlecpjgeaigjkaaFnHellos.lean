/- For every code: first words of the program come back, letters tell their kind and their parts, and what is made and read of drawn terms, right or not, is what the specification makes and reads. No condition. -/
import Derived.Test.YtlecpjgeaigjkaaRows
import Derived.Test.YtlecpjgeaigjkaaDraw11b
import Derived.Test.YtlecpjgeaigjkaaDrawTold
import Derived.Test.YtlecpjgeaigjkaaDraw11d
import Derived.Test.YtlecpjgeaigjkaaCookQ9
import Derived.Test.YtlecpjgeaigjkaaImplHT11
import Derived.Test.YtlecpjgeaigjkaaImplHL11
import Derived.Test.YtlecpjgeaigjkaaWrd11d
import Derived.Test.YtlecpjgeaigjkaaLinL11
import Derived.Test.YtlecpjgeaigjkaaArgArena
import Derived.Test.YtlecpjgeaigjkaaKeptS
import Derived.Test.YtlecpjgeaigjkaaTermAt
import Derived.Test.YtlecpjgeaigjkaaLawInts
import Derived.Test.YtlecpjgeaigjkaaLawArena3
import Derived.Test.YtlecpjgeaigjkaaCodeW
import Derived.Test.YtlecpjgeaigjkaaLawArena2
import Derived.Deep.DeepCutAuto
import Derived.WalkKit
import Derived.ProofKit
import Derived.OpenShut
import Derived.ShutString
import Derived.ChangeOld
import Derived.PlainAid
namespace Go.Proofs.Ytlecpjgeaigjkaa
namespace fnHellos
open Go.ChangeShapes Go.WideShapes Go.ChangeAt Go.RowKit Go.PlainAid
open Go.ChangeMaps (open_string shut_string)
set_option linter.unusedVariables false

theorem own : ownKnob Try.prog.godebug = none := by kernel_rfl

theorem wf_ofH {x : Int} (h : -2000000 ≤ x ∧ x ≤ 2000000) : (Lit.int .i64 x).wf = true := by
  have h1 : IntKind.i64.min = -9223372036854775808 := rfl
  have h2 : IntKind.i64.max = 9223372036854775807 := rfl
  simp [Lit.wf, h1, h2]; omega
theorem helFields : Try.prog.underlying 34 = some (.struct (Try.prog.fieldsOf 34)) := by kernel_rfl
theorem helHeld : Try.prog.stoodInHeld 34 = false := by kernel_rfl
theorem helGuard : Try.prog.eqGuardType Try.prog.depth 34 = false := by kernel_rfl
/-- A hello held against itself. -/
theorem hel_eql (a b c d : Int) (w : World) : (Op.equalIn 10000 34 (.agg #[.int .i64 a, .int .i64 b, .int .i64 c, .int .i64 d]) (.agg #[.int .i64 a, .int .i64 b, .int .i64 c, .int .i64 d])).run Try.prog w = .ok true w := by
  rw [show (10000 : Nat) = 9999 + 1 from rfl, run_equalIn_agg _ _ _ _ _ helFields helHeld]
  simp only [Program.fieldsOf, Try.underlying34]
  go_simp
theorem var_heldH {S : World → Prop} {b : Nat} {v : Value} {w : World} (h : Var b v w) (hk : ∀ (p : Addr) (v : Value), p.block < w.heap.size → w.cell? p = some v → ∀ s : Hw S, s.w.cell? p = some v) : ∀ s : Hw S, s.w.cell? ⟨b, 0, none⟩ = some v := hk ⟨b, 0, none⟩ v h.lt h.c
theorem held_sameA {S : World → Prop} {s : Hw S} {A : List Nd} {a b : Option Addr} {c d : Nat} (hA : A.length ≤ 1048576) (H1 : Hid (∀ s : Hw S, RowN s.w.heap.size s.w a A)) (H2 : Hid (∀ s : Hw S, RowN s.w.heap.size s.w b A)) (hk : ∀ (s : Hw S) w', Below s.w.heap.size s.w w' → S w') :
    Calls Try.prog 34 #[.agg #[.slice a A.length c], .agg #[.slice b A.length d]] s.w fun e w'' => e = .returned (.bool true) ∧ ∃ s' : Hw S, w'' = s'.w :=
  Calls.held (sameA_same a b c d A _ hA (H1.out _) (H2.out _)) (hk _)
theorem held_sameI {S : World → Prop} {s : Hw S} {V : List Int} {a b : Option Addr} {c d : Nat} (hA : V.length ≤ 2097152) (H1 : Hid (∀ s : Hw S, RowI s.w.heap.size s.w a V)) (H2 : Hid (∀ s : Hw S, RowI s.w.heap.size s.w b V)) (hk : ∀ (s : Hw S) w', Below s.w.heap.size s.w w' → S w') :
    Calls Try.prog 35 #[.slice a V.length c, .slice b V.length d] s.w fun e w'' => e = .returned (.bool true) ∧ ∃ s' : Hw S, w'' = s'.w :=
  Calls.held (sameI_same a b c d V _ hA (H1.out _) (H2.out _)) (hk _)
set_option maxHeartbeats 6400000 in
set_option maxRecDepth 20000 in
theorem walk (a0 : Option Addr) (len0 cap0 : Nat) (w : World) (hcode : len0 ≤ 1048576 → CodeIn w.heap.size w a0 len0) :
    Calls Try.prog 6 #[.slice a0 len0 cap0] w fun e w' => e = .returned (.bool true) ∧ Below w.heap.size w w' := by
  by_cases hbig : len0 ≤ 1048576
  · have HC : Hid (CodeIn w.heap.size w a0 len0) := hcode hbig
    have HLEN : Hid (len0 ≤ 1048576) := hbig
    have HB : Hid (Below w.heap.size w w) := Below.refl _ _
    have hd : decide ((1048576 : Int) < (len0 : Int)) = false := by simp; omega
    clear hcode hbig
    go_enter Try.func6, Try.ntmps6
    go_wp2_with fail
    refine (big_any _ _ _ _).mono ?_
    rintro e wz ⟨rfl, rfl⟩
    rw [hd]
    clear hd
    go_wp2_with fail
    refine (drawHel_any _ _ _ _ HC.out).mono ?_
    rintro e w1 ⟨v1, ns1, mo, na, no, pu, rfl, hn1, hf1, m0, m1, m2, m3, m4, m5, m6, m7, ho, hb⟩
    obtain ⟨a1, c1, rfl, -, -⟩ := ho.row
    have O10 := Own.made ho
    replace HB : Hid (Below w.heap.size w (w1)) := HB.out.trans (hb.mono HB.out.size)
    replace HC : Hid (CodeIn (w1).heap.size (w1) a0 len0) := codeIn_later HC.out hb
    have O1 := O10
    clear ho hb O10
    have hbb : Below w1.heap.size w1 (w1.alloc (.cells #[.slice a1 ns1.length c1] 30)) := (Below.refl _ _).alloc (Nat.le_refl _) _
    replace O1 := O1.next hbb
    replace HB : Hid (Below w.heap.size w (w1.alloc (.cells #[.slice a1 ns1.length c1] 30))) := HB.out.trans (hbb.mono HB.out.size)
    replace HC : Hid (CodeIn (w1.alloc (.cells #[.slice a1 ns1.length c1] 30)).heap.size (w1.alloc (.cells #[.slice a1 ns1.length c1] 30)) a0 len0) := codeIn_later HC.out hbb
    have B1 : Var w1.heap.size (.slice a1 ns1.length c1) (w1.alloc (.cells #[.slice a1 ns1.length c1] 30)) := Var.made
    clear hbb
    have hbb : Below (w1.alloc (.cells #[.slice a1 ns1.length c1] 30)).heap.size (w1.alloc (.cells #[.slice a1 ns1.length c1] 30)) ((w1.alloc (.cells #[.slice a1 ns1.length c1] 30)).alloc (.cells #[.int .i64 mo, .int .i64 na, .int .i64 no, .int .i64 pu] 34)) := (Below.refl _ _).alloc (Nat.le_refl _) _
    replace O1 := O1.next hbb
    replace B1 := B1.next hbb
    replace HB : Hid (Below w.heap.size w ((w1.alloc (.cells #[.slice a1 ns1.length c1] 30)).alloc (.cells #[.int .i64 mo, .int .i64 na, .int .i64 no, .int .i64 pu] 34))) := HB.out.trans (hbb.mono HB.out.size)
    replace HC : Hid (CodeIn ((w1.alloc (.cells #[.slice a1 ns1.length c1] 30)).alloc (.cells #[.int .i64 mo, .int .i64 na, .int .i64 no, .int .i64 pu] 34)).heap.size ((w1.alloc (.cells #[.slice a1 ns1.length c1] 30)).alloc (.cells #[.int .i64 mo, .int .i64 na, .int .i64 no, .int .i64 pu] 34)) a0 len0) := codeIn_later HC.out hbb
    have H1 : NodeIn (w1.heap.size + 1) (⟨mo, na, no, pu⟩ : Nd) ((w1.alloc (.cells #[.slice a1 ns1.length c1] 30)).alloc (.cells #[.int .i64 mo, .int .i64 na, .int .i64 no, .int .i64 pu] 34)) := by
      have h : NodeIn (w1.alloc (.cells #[.slice a1 ns1.length c1] 30)).heap.size (⟨mo, na, no, pu⟩ : Nd) ((w1.alloc (.cells #[.slice a1 ns1.length c1] 30)).alloc (.cells #[.int .i64 mo, .int .i64 na, .int .i64 no, .int .i64 pu] 34)) := NodeIn.made
      have e : (w1.alloc (.cells #[.slice a1 ns1.length c1] 30)).heap.size = w1.heap.size + 1 := by simp
      rw [e] at h
      exact h
    clear hbb
    obtain ⟨Ar, Kr, xm, xn, xo, xp, xb, HIr, HSr, HXI, HXS, hAr, HXB⟩ : ∃ (Ar : List Nd) (Kr xm xn xo xp : Int) (xb : Bool), Hid (∀ (a : Option Addr) (cap : Nat) (w : World), AddrN a cap → RowN w.heap.size w a ns1 → Calls Try.prog 13 #[.agg #[.slice a ns1.length cap], .agg #[.int .i64 mo, .int .i64 na, .int .i64 no, .int .i64 pu]] w fun e w' => ∃ v, e = .returned (.tuple #[.agg #[v], .int .i64 Kr]) ∧ OwnC w.heap.size w' v Ar ∧ Below w.heap.size w w') ∧ Hid (∀ (a : Option Addr) (cap : Nat) (w : World), AddrN a cap → RowN w.heap.size w a ns1 → Calls Try.prog 10 #[.agg #[.slice a ns1.length cap], .agg #[.int .i64 mo, .int .i64 na, .int .i64 no, .int .i64 pu]] w fun e w' => ∃ v, e = .returned (.tuple #[.agg #[v], .int .i64 Kr]) ∧ OwnN w.heap.size w' v Ar ∧ Below w.heap.size w w') ∧ Hid (∀ (a : Option Addr) (cap : Nat) (w : World), RowN w.heap.size w a Ar → Calls Try.prog 26 #[.agg #[.slice a Ar.length cap], .int .i64 Kr] w fun e w' => e = .returned (.tuple #[.agg #[.int .i64 xm, .int .i64 xn, .int .i64 xo, .int .i64 xp], .bool xb]) ∧ Below w.heap.size w w') ∧ Hid (∀ (a : Option Addr) (cap : Nat) (w : World), RowN w.heap.size w a Ar → Calls Try.prog 27 #[.agg #[.slice a Ar.length cap], .int .i64 Kr] w fun e w' => e = .returned (.tuple #[.agg #[.int .i64 xm, .int .i64 xn, .int .i64 xo, .int .i64 xp], .bool xb]) ∧ Below w.heap.size w w') ∧ Ar.length ≤ 1048576 ∧ Hid (xb = true → xm = mo ∧ xn = na ∧ xo = no ∧ xp = pu) :=
      ⟨keptA ns1 (hlA ns1 mo na no pu) (hlK ns1 mo na no pu), hlK ns1 mo na no pu, helM (keptA ns1 (hlA ns1 mo na no pu) (hlK ns1 mo na no pu)) (hlK ns1 mo na no pu), helN (keptA ns1 (hlA ns1 mo na no pu) (hlK ns1 mo na no pu)) (hlK ns1 mo na no pu), helO (keptA ns1 (hlA ns1 mo na no pu) (hlK ns1 mo na no pu)) (hlK ns1 mo na no pu), helP (keptA ns1 (hlA ns1 mo na no pu) (hlK ns1 mo na no pu)) (hlK ns1 mo na no pu), helB (keptA ns1 (hlA ns1 mo na no pu) (hlK ns1 mo na no pu)) (hlK ns1 mo na no pu), fun a cap w ha hr => implHello_any a cap ns1 mo na no pu w (by omega) hf1 (wf_ofH (by omega)) (wf_ofH (by omega)) (wf_ofH (by omega)) (wf_ofH (by omega)) ha hr, fun a cap w ha hr => specHello_any a cap ns1 mo na no pu w (by omega) ha hr,
        fun a cap w hr => implHelloIn_any a cap _ _ w (keptA_le (by omega) (hlA_le (by omega))) (keptA_fits11 hf1 (hlA_fits hf1 (by omega))) hr, fun a cap w hr => specHelloIn_any a cap _ _ w (keptA_le (by omega) (hlA_le (by omega))) hr, keptA_le (by omega) (hlA_le (by omega)), hel_back⟩
    clear hf1
    have q0 := B1.c
    have q1 : ((w1.alloc (.cells #[.slice a1 ns1.length c1] 30)).alloc (.cells #[.int .i64 mo, .int .i64 na, .int .i64 no, .int .i64 pu] 34)).cell? ⟨w1.heap.size + 1, 0, none⟩ = some (.int .i64 mo) := H1.c0
    have q2 : ((w1.alloc (.cells #[.slice a1 ns1.length c1] 30)).alloc (.cells #[.int .i64 mo, .int .i64 na, .int .i64 no, .int .i64 pu] 34)).cell? ⟨w1.heap.size + 1, 1, none⟩ = some (.int .i64 na) := H1.c1
    have q3 : ((w1.alloc (.cells #[.slice a1 ns1.length c1] 30)).alloc (.cells #[.int .i64 mo, .int .i64 na, .int .i64 no, .int .i64 pu] 34)).cell? ⟨w1.heap.size + 1, 2, none⟩ = some (.int .i64 no) := H1.c2
    have q4 : ((w1.alloc (.cells #[.slice a1 ns1.length c1] 30)).alloc (.cells #[.int .i64 mo, .int .i64 na, .int .i64 no, .int .i64 pu] 34)).cell? ⟨w1.heap.size + 1, 3, none⟩ = some (.int .i64 pu) := H1.c3
    go_wp2_with fail
    clear q0 q1 q2 q3 q4
    generalize (w1.alloc (.cells #[.slice a1 ns1.length c1] 30)).alloc (.cells #[.int .i64 mo, .int .i64 na, .int .i64 no, .int .i64 pu] 34) = w3 at O1 B1 H1 HB HC ⊢
    refine (HIr.out _ _ _ O1.rowIs O1.rowAt).mono ?_
    rintro e w4 ⟨vir, rfl, ho, hb⟩
    obtain ⟨air, cir, pir, rfl, -, ho⟩ := ho
    have Oir0 := Own.made ho
    replace O1 := O1.next hb
    replace B1 := B1.next hb
    replace H1 := H1.next hb
    replace HB : Hid (Below w.heap.size w (w4)) := HB.out.trans (hb.mono HB.out.size)
    replace HC : Hid (CodeIn (w4).heap.size (w4) a0 len0) := codeIn_later HC.out hb
    have Oir := Oir0
    clear ho hb Oir0 HIr
    have hbb : Below w4.heap.size w4 (w4.alloc (.cells #[.slice air Ar.length cir] 30)) := (Below.refl _ _).alloc (Nat.le_refl _) _
    replace O1 := O1.next hbb
    replace B1 := B1.next hbb
    replace H1 := H1.next hbb
    replace Oir := Oir.next hbb
    replace HB : Hid (Below w.heap.size w (w4.alloc (.cells #[.slice air Ar.length cir] 30))) := HB.out.trans (hbb.mono HB.out.size)
    replace HC : Hid (CodeIn (w4.alloc (.cells #[.slice air Ar.length cir] 30)).heap.size (w4.alloc (.cells #[.slice air Ar.length cir] 30)) a0 len0) := codeIn_later HC.out hbb
    have Bir : Var w4.heap.size (.slice air Ar.length cir) (w4.alloc (.cells #[.slice air Ar.length cir] 30)) := Var.made
    clear hbb
    have q0 := B1.c
    have q1 : (w4.alloc (.cells #[.slice air Ar.length cir] 30)).cell? ⟨w1.heap.size + 1, 0, none⟩ = some (.int .i64 mo) := H1.c0
    have q2 : (w4.alloc (.cells #[.slice air Ar.length cir] 30)).cell? ⟨w1.heap.size + 1, 1, none⟩ = some (.int .i64 na) := H1.c1
    have q3 : (w4.alloc (.cells #[.slice air Ar.length cir] 30)).cell? ⟨w1.heap.size + 1, 2, none⟩ = some (.int .i64 no) := H1.c2
    have q4 : (w4.alloc (.cells #[.slice air Ar.length cir] 30)).cell? ⟨w1.heap.size + 1, 3, none⟩ = some (.int .i64 pu) := H1.c3
    go_wp2_with fail
    clear q0 q1 q2 q3 q4
    generalize w4.alloc (.cells #[.slice air Ar.length cir] 30) = w5 at O1 B1 H1 Oir Bir HB HC ⊢
    refine (HSr.out _ _ _ O1.rowIs O1.rowAt).mono ?_
    rintro e w6 ⟨vsr, rfl, ho, hb⟩
    obtain ⟨asr, csr, rfl, -, -⟩ := ho.row
    have Osr0 := Own.made ho
    replace O1 := O1.next hb
    replace B1 := B1.next hb
    replace H1 := H1.next hb
    replace Oir := Oir.next hb
    replace Bir := Bir.next hb
    replace HB : Hid (Below w.heap.size w (w6)) := HB.out.trans (hb.mono HB.out.size)
    replace HC : Hid (CodeIn (w6).heap.size (w6) a0 len0) := codeIn_later HC.out hb
    have Osr := Osr0
    clear ho hb Osr0 HSr
    have hbb : Below w6.heap.size w6 (w6.alloc (.cells #[.slice asr Ar.length csr] 30)) := (Below.refl _ _).alloc (Nat.le_refl _) _
    replace O1 := O1.next hbb
    replace B1 := B1.next hbb
    replace H1 := H1.next hbb
    replace Oir := Oir.next hbb
    replace Bir := Bir.next hbb
    replace Osr := Osr.next hbb
    replace HB : Hid (Below w.heap.size w (w6.alloc (.cells #[.slice asr Ar.length csr] 30))) := HB.out.trans (hbb.mono HB.out.size)
    replace HC : Hid (CodeIn (w6.alloc (.cells #[.slice asr Ar.length csr] 30)).heap.size (w6.alloc (.cells #[.slice asr Ar.length csr] 30)) a0 len0) := codeIn_later HC.out hbb
    have Bsr : Var w6.heap.size (.slice asr Ar.length csr) (w6.alloc (.cells #[.slice asr Ar.length csr] 30)) := Var.made
    clear hbb
    clear O1 B1
    have q0 := Bir.c
    go_wp2_with fail
    clear q0
    generalize w6.alloc (.cells #[.slice asr Ar.length csr] 30) = w7 at H1 Oir Bir Osr Bsr HB HC ⊢
    refine (HXI.out _ _ _ Oir.rowAt).mono ?_
    rintro e w8 ⟨rfl, hb⟩
    replace H1 := H1.next hb
    replace Oir := Oir.next hb
    replace Bir := Bir.next hb
    replace Osr := Osr.next hb
    replace Bsr := Bsr.next hb
    replace HB : Hid (Below w.heap.size w (w8)) := HB.out.trans (hb.mono HB.out.size)
    replace HC : Hid (CodeIn (w8).heap.size (w8) a0 len0) := codeIn_later HC.out hb
    clear hb HXI
    have hbb : Below w8.heap.size w8 (w8.alloc (.cells #[.int .i64 xm, .int .i64 xn, .int .i64 xo, .int .i64 xp] 34)) := (Below.refl _ _).alloc (Nat.le_refl _) _
    replace H1 := H1.next hbb
    replace Oir := Oir.next hbb
    replace Bir := Bir.next hbb
    replace Osr := Osr.next hbb
    replace Bsr := Bsr.next hbb
    replace HB : Hid (Below w.heap.size w (w8.alloc (.cells #[.int .i64 xm, .int .i64 xn, .int .i64 xo, .int .i64 xp] 34))) := HB.out.trans (hbb.mono HB.out.size)
    replace HC : Hid (CodeIn (w8.alloc (.cells #[.int .i64 xm, .int .i64 xn, .int .i64 xo, .int .i64 xp] 34)).heap.size (w8.alloc (.cells #[.int .i64 xm, .int .i64 xn, .int .i64 xo, .int .i64 xp] 34)) a0 len0) := codeIn_later HC.out hbb
    have HXa : NodeIn w8.heap.size (⟨xm, xn, xo, xp⟩ : Nd) (w8.alloc (.cells #[.int .i64 xm, .int .i64 xn, .int .i64 xo, .int .i64 xp] 34)) := NodeIn.made
    clear hbb
    have q0 := Bir.c
    go_wp2_with fail
    clear q0
    generalize w8.alloc (.cells #[.int .i64 xm, .int .i64 xn, .int .i64 xo, .int .i64 xp] 34) = w9 at H1 Oir Bir Osr Bsr HXa HB HC ⊢
    refine (HXS.out _ _ _ Oir.rowAt).mono ?_
    rintro e w10 ⟨rfl, hb⟩
    replace H1 := H1.next hb
    replace Oir := Oir.next hb
    replace Bir := Bir.next hb
    replace Osr := Osr.next hb
    replace Bsr := Bsr.next hb
    replace HXa := HXa.next hb
    replace HB : Hid (Below w.heap.size w (w10)) := HB.out.trans (hb.mono HB.out.size)
    replace HC : Hid (CodeIn (w10).heap.size (w10) a0 len0) := codeIn_later HC.out hb
    clear hb HXS
    have hbb : Below w10.heap.size w10 (w10.alloc (.cells #[.int .i64 xm, .int .i64 xn, .int .i64 xo, .int .i64 xp] 34)) := (Below.refl _ _).alloc (Nat.le_refl _) _
    replace H1 := H1.next hbb
    replace Oir := Oir.next hbb
    replace Bir := Bir.next hbb
    replace Osr := Osr.next hbb
    replace Bsr := Bsr.next hbb
    replace HXa := HXa.next hbb
    replace HB : Hid (Below w.heap.size w (w10.alloc (.cells #[.int .i64 xm, .int .i64 xn, .int .i64 xo, .int .i64 xp] 34))) := HB.out.trans (hbb.mono HB.out.size)
    replace HC : Hid (CodeIn (w10.alloc (.cells #[.int .i64 xm, .int .i64 xn, .int .i64 xo, .int .i64 xp] 34)).heap.size (w10.alloc (.cells #[.int .i64 xm, .int .i64 xn, .int .i64 xo, .int .i64 xp] 34)) a0 len0) := codeIn_later HC.out hbb
    have HXc : NodeIn w10.heap.size (⟨xm, xn, xo, xp⟩ : Nd) (w10.alloc (.cells #[.int .i64 xm, .int .i64 xn, .int .i64 xo, .int .i64 xp] 34)) := NodeIn.made
    clear hbb
    go_wp2_with fail
    generalize w10.alloc (.cells #[.int .i64 xm, .int .i64 xn, .int .i64 xo, .int .i64 xp] 34) = w11 at H1 Oir Bir Osr Bsr HXa HXc HB HC ⊢
    refine (drawSrv_any _ _ _ _ HC.out).mono ?_
    rintro e w12 ⟨v2, ns2, no2, pu2, rfl, hn2, hf2, k0, k1, k2, k3, ho, hb⟩
    obtain ⟨a2, c2, rfl, -, -⟩ := ho.row
    have O20 := Own.made ho
    replace H1 := H1.next hb
    replace Oir := Oir.next hb
    replace Bir := Bir.next hb
    replace Osr := Osr.next hb
    replace Bsr := Bsr.next hb
    replace HXa := HXa.next hb
    replace HXc := HXc.next hb
    replace HB : Hid (Below w.heap.size w (w12)) := HB.out.trans (hb.mono HB.out.size)
    replace HC : Hid (CodeIn (w12).heap.size (w12) a0 len0) := codeIn_later HC.out hb
    have O2 := O20
    clear ho hb O20
    have hbb : Below w12.heap.size w12 (w12.alloc (.cells #[.slice a2 ns2.length c2] 30)) := (Below.refl _ _).alloc (Nat.le_refl _) _
    replace H1 := H1.next hbb
    replace Oir := Oir.next hbb
    replace Bir := Bir.next hbb
    replace Osr := Osr.next hbb
    replace Bsr := Bsr.next hbb
    replace HXa := HXa.next hbb
    replace HXc := HXc.next hbb
    replace O2 := O2.next hbb
    replace HB : Hid (Below w.heap.size w (w12.alloc (.cells #[.slice a2 ns2.length c2] 30))) := HB.out.trans (hbb.mono HB.out.size)
    replace HC : Hid (CodeIn (w12.alloc (.cells #[.slice a2 ns2.length c2] 30)).heap.size (w12.alloc (.cells #[.slice a2 ns2.length c2] 30)) a0 len0) := codeIn_later HC.out hbb
    have B2 : Var w12.heap.size (.slice a2 ns2.length c2) (w12.alloc (.cells #[.slice a2 ns2.length c2] 30)) := Var.made
    clear hbb
    obtain ⟨Av, Kv, sq, sr, sb, HIv, HVI, HVB⟩ : ∃ (Av : List Nd) (Kv sq sr : Int) (sb : Bool), Hid (∀ (a : Option Addr) (cap : Nat) (w : World), AddrN a cap → RowN w.heap.size w a ns2 → Calls Try.prog 18 #[.agg #[.slice a ns2.length cap], .int .i64 no2, .int .i64 pu2] w fun e w' => ∃ v, e = .returned (.tuple #[.agg #[v], .int .i64 Kv]) ∧ OwnC w.heap.size w' v Av ∧ Below w.heap.size w w') ∧ Hid (∀ (a : Option Addr) (cap : Nat) (w : World), RowN w.heap.size w a Av → Calls Try.prog 29 #[.agg #[.slice a Av.length cap], .int .i64 Kv] w fun e w' => e = .returned (.tuple #[.int .i64 sq, .int .i64 sr, .bool sb]) ∧ Below w.heap.size w w') ∧ Hid (sb = true → sq = no2 ∧ sr = pu2) :=
      ⟨keptA ns2 (svA ns2 no2 pu2) (svK ns2 no2 pu2), svK ns2 no2 pu2, srvN (keptA ns2 (svA ns2 no2 pu2) (svK ns2 no2 pu2)) (svK ns2 no2 pu2), srvP (keptA ns2 (svA ns2 no2 pu2) (svK ns2 no2 pu2)) (svK ns2 no2 pu2), srvB (keptA ns2 (svA ns2 no2 pu2) (svK ns2 no2 pu2)) (svK ns2 no2 pu2), fun a cap w ha hr => implServer_any a cap ns2 no2 pu2 w (by omega) hf2 (wf_ofH (by omega)) (wf_ofH (by omega)) ha hr, fun a cap w hr => implServerIn_any a cap _ _ w (keptA_le (by omega) (svA_le (by omega))) hr, srv_back⟩
    clear hf2
    have q0 := B2.c
    go_wp2_with fail
    clear q0
    generalize w12.alloc (.cells #[.slice a2 ns2.length c2] 30) = w13 at H1 Oir Bir Osr Bsr HXa HXc O2 B2 HB HC ⊢
    refine (HIv.out _ _ _ O2.rowIs O2.rowAt).mono ?_
    rintro e w14 ⟨viv, rfl, ho, hb⟩
    obtain ⟨aiv, civ, piv, rfl, -, ho⟩ := ho
    have Oiv0 := Own.made ho
    replace H1 := H1.next hb
    replace Oir := Oir.next hb
    replace Bir := Bir.next hb
    replace Osr := Osr.next hb
    replace Bsr := Bsr.next hb
    replace HXa := HXa.next hb
    replace HXc := HXc.next hb
    replace O2 := O2.next hb
    replace B2 := B2.next hb
    replace HB : Hid (Below w.heap.size w (w14)) := HB.out.trans (hb.mono HB.out.size)
    replace HC : Hid (CodeIn (w14).heap.size (w14) a0 len0) := codeIn_later HC.out hb
    have Oiv := Oiv0
    clear ho hb Oiv0 HIv
    have hbb : Below w14.heap.size w14 (w14.alloc (.cells #[.slice aiv Av.length civ] 30)) := (Below.refl _ _).alloc (Nat.le_refl _) _
    replace H1 := H1.next hbb
    replace Oir := Oir.next hbb
    replace Bir := Bir.next hbb
    replace Osr := Osr.next hbb
    replace Bsr := Bsr.next hbb
    replace HXa := HXa.next hbb
    replace HXc := HXc.next hbb
    replace O2 := O2.next hbb
    replace B2 := B2.next hbb
    replace Oiv := Oiv.next hbb
    replace HB : Hid (Below w.heap.size w (w14.alloc (.cells #[.slice aiv Av.length civ] 30))) := HB.out.trans (hbb.mono HB.out.size)
    replace HC : Hid (CodeIn (w14.alloc (.cells #[.slice aiv Av.length civ] 30)).heap.size (w14.alloc (.cells #[.slice aiv Av.length civ] 30)) a0 len0) := codeIn_later HC.out hbb
    have Biv : Var w14.heap.size (.slice aiv Av.length civ) (w14.alloc (.cells #[.slice aiv Av.length civ] 30)) := Var.made
    clear hbb
    clear O2 B2
    have q0 := Biv.c
    go_wp2_with fail
    clear q0
    generalize w14.alloc (.cells #[.slice aiv Av.length civ] 30) = w15 at H1 Oir Bir Osr Bsr HXa HXc Oiv Biv HB HC ⊢
    refine (HVI.out _ _ _ Oiv.rowAt).mono ?_
    rintro e w16 ⟨rfl, hb⟩
    clear Oiv Biv
    replace H1 := H1.next hb
    replace Oir := Oir.next hb
    replace Bir := Bir.next hb
    replace Osr := Osr.next hb
    replace Bsr := Bsr.next hb
    replace HXa := HXa.next hb
    replace HXc := HXc.next hb
    replace HB : Hid (Below w.heap.size w (w16)) := HB.out.trans (hb.mono HB.out.size)
    replace HC : Hid (CodeIn (w16).heap.size (w16) a0 len0) := codeIn_later HC.out hb
    clear hb HVI
    go_wp2_with fail
    refine (drawLet_any _ _ _ _ HC.out).mono ?_
    rintro e w17 ⟨v3, ns3, kd, u3, xs3, rfl, hn3, hn3', hf3, d0, d1, hx0, hxb, ho, hou, hb⟩
    obtain ⟨a3, c3, rfl, -, -⟩ := ho.row
    have O30 := Own.made ho
    obtain ⟨au, cu, rfl, -, -⟩ := hou.row
    have OU0 := OwnZ.made hou
    replace H1 := H1.next hb
    replace Oir := Oir.next hb
    replace Bir := Bir.next hb
    replace Osr := Osr.next hb
    replace Bsr := Bsr.next hb
    replace HXa := HXa.next hb
    replace HXc := HXc.next hb
    replace HB : Hid (Below w.heap.size w (w17)) := HB.out.trans (hb.mono HB.out.size)
    replace HC : Hid (CodeIn (w17).heap.size (w17) a0 len0) := codeIn_later HC.out hb
    have O3 := O30
    have OU := OU0
    clear ho hou hb O30 OU0
    have hbb : Below w17.heap.size w17 (w17.alloc (.cells #[.slice a3 ns3.length c3] 30)) := (Below.refl _ _).alloc (Nat.le_refl _) _
    replace H1 := H1.next hbb
    replace Oir := Oir.next hbb
    replace Bir := Bir.next hbb
    replace Osr := Osr.next hbb
    replace Bsr := Bsr.next hbb
    replace HXa := HXa.next hbb
    replace HXc := HXc.next hbb
    replace O3 := O3.next hbb
    replace OU := OU.next hbb
    replace HB : Hid (Below w.heap.size w (w17.alloc (.cells #[.slice a3 ns3.length c3] 30))) := HB.out.trans (hbb.mono HB.out.size)
    replace HC : Hid (CodeIn (w17.alloc (.cells #[.slice a3 ns3.length c3] 30)).heap.size (w17.alloc (.cells #[.slice a3 ns3.length c3] 30)) a0 len0) := codeIn_later HC.out hbb
    have B3 : Var w17.heap.size (.slice a3 ns3.length c3) (w17.alloc (.cells #[.slice a3 ns3.length c3] 30)) := Var.made
    clear hbb
    obtain ⟨Al, Kl, UK, V, HIl, HUI, HUS, hV, HUB⟩ : ∃ (Al : List Nd) (Kl UK : Int) (V : List Int), Hid (∀ (a : Option Addr) (cap : Nat) (w : World) (la : Option Addr) (lc : Nat), AddrN a cap → RowN w.heap.size w a ns3 → RowI w.heap.size w la xs3 → Calls Try.prog 21 #[.agg #[.slice a ns3.length cap], .int .i64 kd, .slice la xs3.length lc] w fun e w' => ∃ v, e = .returned (.tuple #[.agg #[v], .int .i64 Kl]) ∧ OwnC w.heap.size w' v Al ∧ Below w.heap.size w w') ∧ Hid (∀ (a : Option Addr) (cap : Nat) (w : World), RowN w.heap.size w a Al → Calls Try.prog 31 #[.agg #[.slice a Al.length cap], .int .i64 Kl] w fun e w' => ∃ v, e = .returned (.tuple #[.int .i64 UK, v]) ∧ OwnInt w.heap.size w' v V ∧ Below w.heap.size w w') ∧ Hid (∀ (a : Option Addr) (cap : Nat) (w : World), RowN w.heap.size w a Al → Calls Try.prog 32 #[.agg #[.slice a Al.length cap], .int .i64 Kl] w fun e w' => ∃ la lc, e = .returned (.tuple #[.int .i64 UK, .slice la V.length lc]) ∧ RowI w'.heap.size w' la V ∧ Below w.heap.size w w') ∧ V.length ≤ 1048576 ∧ Hid (UK = 0 ∨ (UK = kd ∧ V = xs3)) :=
      ⟨keptA ns3 (ltA ns3 kd xs3) (ltK ns3 kd xs3), ltK ns3 kd xs3, linK (keptA ns3 (ltA ns3 kd xs3) (ltK ns3 kd xs3)) (ltK ns3 kd xs3), linV (keptA ns3 (ltA ns3 kd xs3) (ltK ns3 kd xs3)) (ltK ns3 kd xs3), fun a cap w la lc ha hr hx => implLetter_any a cap ns3 kd xs3 la lc w (by omega) hf3 (by omega) (fun x hx => by have := hxb x hx; omega) (wf_ofH (by omega)) ha hr hx, fun a cap w hr => implLetterIn_any a cap _ _ w (keptA_le (by omega) (ltA_le (by omega))) hr, fun a cap w hr => specLetterIn_any a cap _ _ w (keptA_le (by omega) (ltA_le (by omega))) hr,
        Nat.le_trans (linV_le _ _) (keptA_le (by omega) (ltA_le (by omega))), (by
          cases hq : linB (keptA ns3 (ltA ns3 kd xs3) (ltK ns3 kd xs3)) (ltK ns3 kd xs3) with
          | true => exact .inr (let_back hq)
          | false => exact .inl (by unfold linK; rw [hq]; rfl))⟩
    clear hf3 hxb
    have q0 := B3.c
    go_wp2_with fail
    clear q0
    generalize w17.alloc (.cells #[.slice a3 ns3.length c3] 30) = w18 at H1 Oir Bir Osr Bsr HXa HXc O3 OU B3 HB HC ⊢
    refine (HIl.out _ _ _ _ _ O3.rowIs O3.rowAt OU.rowAt).mono ?_
    rintro e w19 ⟨vil, rfl, ho, hb⟩
    obtain ⟨ail, cil, pil, rfl, -, ho⟩ := ho
    have Oil0 := Own.made ho
    replace H1 := H1.next hb
    replace Oir := Oir.next hb
    replace Bir := Bir.next hb
    replace Osr := Osr.next hb
    replace Bsr := Bsr.next hb
    replace HXa := HXa.next hb
    replace HXc := HXc.next hb
    replace O3 := O3.next hb
    replace OU := OU.next hb
    replace B3 := B3.next hb
    replace HB : Hid (Below w.heap.size w (w19)) := HB.out.trans (hb.mono HB.out.size)
    replace HC : Hid (CodeIn (w19).heap.size (w19) a0 len0) := codeIn_later HC.out hb
    have Oil := Oil0
    clear ho hb Oil0 HIl
    have hbb : Below w19.heap.size w19 (w19.alloc (.cells #[.slice ail Al.length cil] 30)) := (Below.refl _ _).alloc (Nat.le_refl _) _
    replace H1 := H1.next hbb
    replace Oir := Oir.next hbb
    replace Bir := Bir.next hbb
    replace Osr := Osr.next hbb
    replace Bsr := Bsr.next hbb
    replace HXa := HXa.next hbb
    replace HXc := HXc.next hbb
    replace O3 := O3.next hbb
    replace OU := OU.next hbb
    replace B3 := B3.next hbb
    replace Oil := Oil.next hbb
    replace HB : Hid (Below w.heap.size w (w19.alloc (.cells #[.slice ail Al.length cil] 30))) := HB.out.trans (hbb.mono HB.out.size)
    replace HC : Hid (CodeIn (w19.alloc (.cells #[.slice ail Al.length cil] 30)).heap.size (w19.alloc (.cells #[.slice ail Al.length cil] 30)) a0 len0) := codeIn_later HC.out hbb
    have Bil : Var w19.heap.size (.slice ail Al.length cil) (w19.alloc (.cells #[.slice ail Al.length cil] 30)) := Var.made
    clear hbb
    clear O3 B3
    have q0 := Bil.c
    go_wp2_with fail
    clear q0
    generalize w19.alloc (.cells #[.slice ail Al.length cil] 30) = w20 at H1 Oir Bir Osr Bsr HXa HXc OU Oil Bil HB HC ⊢
    refine (HUI.out _ _ _ Oil.rowAt).mono ?_
    rintro e w21 ⟨vv, rfl, ho, hb⟩
    obtain ⟨av, cv, rfl, -, -⟩ := ho.row
    have OV0 := OwnZ.made ho
    replace H1 := H1.next hb
    replace Oir := Oir.next hb
    replace Bir := Bir.next hb
    replace Osr := Osr.next hb
    replace Bsr := Bsr.next hb
    replace HXa := HXa.next hb
    replace HXc := HXc.next hb
    replace OU := OU.next hb
    replace Oil := Oil.next hb
    replace Bil := Bil.next hb
    replace HB : Hid (Below w.heap.size w (w21)) := HB.out.trans (hb.mono HB.out.size)
    replace HC : Hid (CodeIn (w21).heap.size (w21) a0 len0) := codeIn_later HC.out hb
    have OV := OV0
    clear ho hb OV0 HUI
    have q0 := Bil.c
    go_wp2_with fail
    clear q0
    refine (HUS.out _ _ _ Oil.rowAt).mono ?_
    rintro e w22 ⟨az, cz, rfl, hrz, hb⟩
    replace H1 := H1.next hb
    replace Oir := Oir.next hb
    replace Bir := Bir.next hb
    replace Osr := Osr.next hb
    replace Bsr := Bsr.next hb
    replace HXa := HXa.next hb
    replace HXc := HXc.next hb
    replace OU := OU.next hb
    replace Oil := Oil.next hb
    replace Bil := Bil.next hb
    replace OV := OV.next hb
    replace HB : Hid (Below w.heap.size w (w22)) := HB.out.trans (hb.mono HB.out.size)
    replace HC : Hid (CodeIn (w22).heap.size (w22) a0 len0) := codeIn_later HC.out hb
    have OZ : InI w22.heap.size az V w22 := ⟨Nat.le_refl _, hrz⟩
    clear hrz hb HUS
    clear Oil Bil
    go_wp2_with fail
    refine (drawHelIn_any _ _ _ _ HLEN.out HC.out).mono ?_
    rintro e w23 ⟨v4, ns4, k4, rfl, hn4, hf4, e0, e1, ho, hb⟩
    obtain ⟨a4, c4, rfl, -, -⟩ := ho.row
    have O40 := Own.made ho
    replace H1 := H1.next hb
    replace Oir := Oir.next hb
    replace Bir := Bir.next hb
    replace Osr := Osr.next hb
    replace Bsr := Bsr.next hb
    replace HXa := HXa.next hb
    replace HXc := HXc.next hb
    replace OU := OU.next hb
    replace OV := OV.next hb
    replace OZ := OZ.next hb
    replace HB : Hid (Below w.heap.size w (w23)) := HB.out.trans (hb.mono HB.out.size)
    replace HC : Hid (CodeIn (w23).heap.size (w23) a0 len0) := codeIn_later HC.out hb
    have O4 := O40
    have HF4 : Hid (∀ y ∈ ns4, y.Fits) := hf4
    clear ho hb O40 hf4
    have hbb : Below w23.heap.size w23 (w23.alloc (.cells #[.slice a4 ns4.length c4] 30)) := (Below.refl _ _).alloc (Nat.le_refl _) _
    replace H1 := H1.next hbb
    replace Oir := Oir.next hbb
    replace Bir := Bir.next hbb
    replace Osr := Osr.next hbb
    replace Bsr := Bsr.next hbb
    replace HXa := HXa.next hbb
    replace HXc := HXc.next hbb
    replace OU := OU.next hbb
    replace OV := OV.next hbb
    replace OZ := OZ.next hbb
    replace O4 := O4.next hbb
    replace HB : Hid (Below w.heap.size w (w23.alloc (.cells #[.slice a4 ns4.length c4] 30))) := HB.out.trans (hbb.mono HB.out.size)
    replace HC : Hid (CodeIn (w23.alloc (.cells #[.slice a4 ns4.length c4] 30)).heap.size (w23.alloc (.cells #[.slice a4 ns4.length c4] 30)) a0 len0) := codeIn_later HC.out hbb
    have B4 : Var w23.heap.size (.slice a4 ns4.length c4) (w23.alloc (.cells #[.slice a4 ns4.length c4] 30)) := Var.made
    clear hbb
    obtain ⟨ym, yn, yo, yp, yb, HYI, HYS⟩ : ∃ (ym yn yo yp : Int) (yb : Bool), Hid (∀ (a : Option Addr) (cap : Nat) (w : World), RowN w.heap.size w a ns4 → Calls Try.prog 26 #[.agg #[.slice a ns4.length cap], .int .i64 k4] w fun e w' => e = .returned (.tuple #[.agg #[.int .i64 ym, .int .i64 yn, .int .i64 yo, .int .i64 yp], .bool yb]) ∧ Below w.heap.size w w') ∧ Hid (∀ (a : Option Addr) (cap : Nat) (w : World), RowN w.heap.size w a ns4 → Calls Try.prog 27 #[.agg #[.slice a ns4.length cap], .int .i64 k4] w fun e w' => e = .returned (.tuple #[.agg #[.int .i64 ym, .int .i64 yn, .int .i64 yo, .int .i64 yp], .bool yb]) ∧ Below w.heap.size w w') :=
      ⟨helM ns4 k4, helN ns4 k4, helO ns4 k4, helP ns4 k4, helB ns4 k4, fun a cap w hr => implHelloIn_any a cap _ _ w hn4 HF4.out hr, fun a cap w hr => specHelloIn_any a cap _ _ w hn4 hr⟩
    have q0 := B4.c
    go_wp2_with fail
    clear q0
    generalize w23.alloc (.cells #[.slice a4 ns4.length c4] 30) = w24 at H1 Oir Bir Osr Bsr HXa HXc OU OV OZ O4 B4 HB HC ⊢
    refine (HYI.out _ _ _ O4.rowAt).mono ?_
    rintro e w25 ⟨rfl, hb⟩
    replace H1 := H1.next hb
    replace Oir := Oir.next hb
    replace Bir := Bir.next hb
    replace Osr := Osr.next hb
    replace Bsr := Bsr.next hb
    replace HXa := HXa.next hb
    replace HXc := HXc.next hb
    replace OU := OU.next hb
    replace OV := OV.next hb
    replace OZ := OZ.next hb
    replace O4 := O4.next hb
    replace B4 := B4.next hb
    replace HB : Hid (Below w.heap.size w (w25)) := HB.out.trans (hb.mono HB.out.size)
    replace HC : Hid (CodeIn (w25).heap.size (w25) a0 len0) := codeIn_later HC.out hb
    clear hb HYI
    have hbb : Below w25.heap.size w25 (w25.alloc (.cells #[.int .i64 ym, .int .i64 yn, .int .i64 yo, .int .i64 yp] 34)) := (Below.refl _ _).alloc (Nat.le_refl _) _
    replace H1 := H1.next hbb
    replace Oir := Oir.next hbb
    replace Bir := Bir.next hbb
    replace Osr := Osr.next hbb
    replace Bsr := Bsr.next hbb
    replace HXa := HXa.next hbb
    replace HXc := HXc.next hbb
    replace OU := OU.next hbb
    replace OV := OV.next hbb
    replace OZ := OZ.next hbb
    replace O4 := O4.next hbb
    replace B4 := B4.next hbb
    replace HB : Hid (Below w.heap.size w (w25.alloc (.cells #[.int .i64 ym, .int .i64 yn, .int .i64 yo, .int .i64 yp] 34))) := HB.out.trans (hbb.mono HB.out.size)
    replace HC : Hid (CodeIn (w25.alloc (.cells #[.int .i64 ym, .int .i64 yn, .int .i64 yo, .int .i64 yp] 34)).heap.size (w25.alloc (.cells #[.int .i64 ym, .int .i64 yn, .int .i64 yo, .int .i64 yp] 34)) a0 len0) := codeIn_later HC.out hbb
    have HYa : NodeIn w25.heap.size (⟨ym, yn, yo, yp⟩ : Nd) (w25.alloc (.cells #[.int .i64 ym, .int .i64 yn, .int .i64 yo, .int .i64 yp] 34)) := NodeIn.made
    clear hbb
    have q0 := B4.c
    go_wp2_with fail
    clear q0
    generalize w25.alloc (.cells #[.int .i64 ym, .int .i64 yn, .int .i64 yo, .int .i64 yp] 34) = w26 at H1 Oir Bir Osr Bsr HXa HXc OU OV OZ O4 B4 HYa HB HC ⊢
    refine (HYS.out _ _ _ O4.rowAt).mono ?_
    rintro e w27 ⟨rfl, hb⟩
    replace H1 := H1.next hb
    replace Oir := Oir.next hb
    replace Bir := Bir.next hb
    replace Osr := Osr.next hb
    replace Bsr := Bsr.next hb
    replace HXa := HXa.next hb
    replace HXc := HXc.next hb
    replace OU := OU.next hb
    replace OV := OV.next hb
    replace OZ := OZ.next hb
    replace O4 := O4.next hb
    replace B4 := B4.next hb
    replace HYa := HYa.next hb
    replace HB : Hid (Below w.heap.size w (w27)) := HB.out.trans (hb.mono HB.out.size)
    replace HC : Hid (CodeIn (w27).heap.size (w27) a0 len0) := codeIn_later HC.out hb
    clear hb HYS
    have hbb : Below w27.heap.size w27 (w27.alloc (.cells #[.int .i64 ym, .int .i64 yn, .int .i64 yo, .int .i64 yp] 34)) := (Below.refl _ _).alloc (Nat.le_refl _) _
    replace H1 := H1.next hbb
    replace Oir := Oir.next hbb
    replace Bir := Bir.next hbb
    replace Osr := Osr.next hbb
    replace Bsr := Bsr.next hbb
    replace HXa := HXa.next hbb
    replace HXc := HXc.next hbb
    replace OU := OU.next hbb
    replace OV := OV.next hbb
    replace OZ := OZ.next hbb
    replace O4 := O4.next hbb
    replace B4 := B4.next hbb
    replace HYa := HYa.next hbb
    replace HB : Hid (Below w.heap.size w (w27.alloc (.cells #[.int .i64 ym, .int .i64 yn, .int .i64 yo, .int .i64 yp] 34))) := HB.out.trans (hbb.mono HB.out.size)
    replace HC : Hid (CodeIn (w27.alloc (.cells #[.int .i64 ym, .int .i64 yn, .int .i64 yo, .int .i64 yp] 34)).heap.size (w27.alloc (.cells #[.int .i64 ym, .int .i64 yn, .int .i64 yo, .int .i64 yp] 34)) a0 len0) := codeIn_later HC.out hbb
    have HYc : NodeIn w27.heap.size (⟨ym, yn, yo, yp⟩ : Nd) (w27.alloc (.cells #[.int .i64 ym, .int .i64 yn, .int .i64 yo, .int .i64 yp] 34)) := NodeIn.made
    clear hbb
    clear O4 B4
    clear HC
    have hgd := helGuard
    have hl1 := hel_eql xm xn xo xp
    have hl2 := hel_eql ym yn yo yp
    rcases HUB.out with h0 | h0
    · subst h0
      cases xb with
      | false =>
        clear HXB
        cases sb with
        | false =>
          clear HVB
          go_upto_region 18 with fail
          generalize w27.alloc (.cells #[.int .i64 ym, .int .i64 yn, .int .i64 yo, .int .i64 yp] 34) = w28 at H1 Oir Bir Osr Bsr HXa HXc OU OV OZ HYa HYc HB ⊢
          obtain ⟨S, hS0, hNE, HK⟩ := read_classF w28
          have k0 := var_heldH Bir HK.out.1
          have k1 := var_heldH Bsr HK.out.1
          have k2 : ∀ s : Hw S, s.w.cell? ⟨w8.heap.size, 0, none⟩ = some (.int .i64 xm) := HK.out.1 ⟨w8.heap.size, 0, none⟩ _ HXa.lt HXa.c0
          have k3 : ∀ s : Hw S, s.w.cell? ⟨w8.heap.size, 1, none⟩ = some (.int .i64 xn) := HK.out.1 ⟨w8.heap.size, 1, none⟩ _ HXa.lt HXa.c1
          have k4 : ∀ s : Hw S, s.w.cell? ⟨w8.heap.size, 2, none⟩ = some (.int .i64 xo) := HK.out.1 ⟨w8.heap.size, 2, none⟩ _ HXa.lt HXa.c2
          have k5 : ∀ s : Hw S, s.w.cell? ⟨w8.heap.size, 3, none⟩ = some (.int .i64 xp) := HK.out.1 ⟨w8.heap.size, 3, none⟩ _ HXa.lt HXa.c3
          have k6 : ∀ s : Hw S, s.w.cell? ⟨w10.heap.size, 0, none⟩ = some (.int .i64 xm) := HK.out.1 ⟨w10.heap.size, 0, none⟩ _ HXc.lt HXc.c0
          have k7 : ∀ s : Hw S, s.w.cell? ⟨w10.heap.size, 1, none⟩ = some (.int .i64 xn) := HK.out.1 ⟨w10.heap.size, 1, none⟩ _ HXc.lt HXc.c1
          have k8 : ∀ s : Hw S, s.w.cell? ⟨w10.heap.size, 2, none⟩ = some (.int .i64 xo) := HK.out.1 ⟨w10.heap.size, 2, none⟩ _ HXc.lt HXc.c2
          have k9 : ∀ s : Hw S, s.w.cell? ⟨w10.heap.size, 3, none⟩ = some (.int .i64 xp) := HK.out.1 ⟨w10.heap.size, 3, none⟩ _ HXc.lt HXc.c3
          have k10 : ∀ s : Hw S, s.w.cell? ⟨w1.heap.size + 1, 0, none⟩ = some (.int .i64 mo) := HK.out.1 ⟨w1.heap.size + 1, 0, none⟩ _ H1.lt H1.c0
          have k11 : ∀ s : Hw S, s.w.cell? ⟨w1.heap.size + 1, 1, none⟩ = some (.int .i64 na) := HK.out.1 ⟨w1.heap.size + 1, 1, none⟩ _ H1.lt H1.c1
          have k12 : ∀ s : Hw S, s.w.cell? ⟨w1.heap.size + 1, 2, none⟩ = some (.int .i64 no) := HK.out.1 ⟨w1.heap.size + 1, 2, none⟩ _ H1.lt H1.c2
          have k13 : ∀ s : Hw S, s.w.cell? ⟨w1.heap.size + 1, 3, none⟩ = some (.int .i64 pu) := HK.out.1 ⟨w1.heap.size + 1, 3, none⟩ _ H1.lt H1.c3
          have k14 : ∀ s : Hw S, s.w.cell? ⟨w25.heap.size, 0, none⟩ = some (.int .i64 ym) := HK.out.1 ⟨w25.heap.size, 0, none⟩ _ HYa.lt HYa.c0
          have k15 : ∀ s : Hw S, s.w.cell? ⟨w25.heap.size, 1, none⟩ = some (.int .i64 yn) := HK.out.1 ⟨w25.heap.size, 1, none⟩ _ HYa.lt HYa.c1
          have k16 : ∀ s : Hw S, s.w.cell? ⟨w25.heap.size, 2, none⟩ = some (.int .i64 yo) := HK.out.1 ⟨w25.heap.size, 2, none⟩ _ HYa.lt HYa.c2
          have k17 : ∀ s : Hw S, s.w.cell? ⟨w25.heap.size, 3, none⟩ = some (.int .i64 yp) := HK.out.1 ⟨w25.heap.size, 3, none⟩ _ HYa.lt HYa.c3
          have k18 : ∀ s : Hw S, s.w.cell? ⟨w27.heap.size, 0, none⟩ = some (.int .i64 ym) := HK.out.1 ⟨w27.heap.size, 0, none⟩ _ HYc.lt HYc.c0
          have k19 : ∀ s : Hw S, s.w.cell? ⟨w27.heap.size, 1, none⟩ = some (.int .i64 yn) := HK.out.1 ⟨w27.heap.size, 1, none⟩ _ HYc.lt HYc.c1
          have k20 : ∀ s : Hw S, s.w.cell? ⟨w27.heap.size, 2, none⟩ = some (.int .i64 yo) := HK.out.1 ⟨w27.heap.size, 2, none⟩ _ HYc.lt HYc.c2
          have k21 : ∀ s : Hw S, s.w.cell? ⟨w27.heap.size, 3, none⟩ = some (.int .i64 yp) := HK.out.1 ⟨w27.heap.size, 3, none⟩ _ HYc.lt HYc.c3
          have HRI : Hid (∀ s : Hw S, RowN s.w.heap.size s.w air Ar) := fun s => Oir.rowAt.grown (HK.out.2.2.2 s)
          have HRS : Hid (∀ s : Hw S, RowN s.w.heap.size s.w asr Ar) := fun s => Osr.rowAt.grown (HK.out.2.2.2 s)
          have HRV : Hid (∀ s : Hw S, RowI s.w.heap.size s.w av _) := fun s => OV.rowAt.grown (HK.out.2.2.2 s)
          have HRZ : Hid (∀ s : Hw S, RowI s.w.heap.size s.w az _) := fun s => OZ.all.grown (HK.out.2.2.2 s)
          have HRU : Hid (∀ s : Hw S, RowI s.w.heap.size s.w au _) := fun s => OU.rowAt.grown (HK.out.2.2.2 s)
          have hkk : ∀ (s : Hw S) w', Below s.w.heap.size s.w w' → S w' := HK.out.2.1
          have hV2 : V.length ≤ 2097152 := by omega
          clear H1 Oir Bir Osr Bsr HXa HXc OU OV OZ HYa HYc
          refine wp_region_heldF (S := S) hS0 ?_
          simp only [List.append_eq, List.cons_append, List.nil_append]
          repeat (go_big_quiet_step (first | (with_reducible exact held_sameA hAr HRI HRS hkk) | (with_reducible exact held_sameI hV2 HRV HRZ hkk)))
          refine wpQuiet_nil ?_
          rintro _ ⟨sw, rfl⟩
          have hb := HK.out.2.2.2 sw
          have HE : Hid (Below w.heap.size w sw.w) := HB.out.trans (hb.mono HB.out.size)
          clear hb
          go_wp2
          go_ret
          exact ⟨rfl, HE.out⟩
        | true =>
          have hs1 : (sq == no2) = true := by rw [(HVB.out rfl).1]; simp
          have hs2 : (sr == pu2) = true := by rw [(HVB.out rfl).2]; simp
          clear HVB
          go_upto_region 18 with fail
          generalize w27.alloc (.cells #[.int .i64 ym, .int .i64 yn, .int .i64 yo, .int .i64 yp] 34) = w28 at H1 Oir Bir Osr Bsr HXa HXc OU OV OZ HYa HYc HB ⊢
          obtain ⟨S, hS0, hNE, HK⟩ := read_classF w28
          have k0 := var_heldH Bir HK.out.1
          have k1 := var_heldH Bsr HK.out.1
          have k2 : ∀ s : Hw S, s.w.cell? ⟨w8.heap.size, 0, none⟩ = some (.int .i64 xm) := HK.out.1 ⟨w8.heap.size, 0, none⟩ _ HXa.lt HXa.c0
          have k3 : ∀ s : Hw S, s.w.cell? ⟨w8.heap.size, 1, none⟩ = some (.int .i64 xn) := HK.out.1 ⟨w8.heap.size, 1, none⟩ _ HXa.lt HXa.c1
          have k4 : ∀ s : Hw S, s.w.cell? ⟨w8.heap.size, 2, none⟩ = some (.int .i64 xo) := HK.out.1 ⟨w8.heap.size, 2, none⟩ _ HXa.lt HXa.c2
          have k5 : ∀ s : Hw S, s.w.cell? ⟨w8.heap.size, 3, none⟩ = some (.int .i64 xp) := HK.out.1 ⟨w8.heap.size, 3, none⟩ _ HXa.lt HXa.c3
          have k6 : ∀ s : Hw S, s.w.cell? ⟨w10.heap.size, 0, none⟩ = some (.int .i64 xm) := HK.out.1 ⟨w10.heap.size, 0, none⟩ _ HXc.lt HXc.c0
          have k7 : ∀ s : Hw S, s.w.cell? ⟨w10.heap.size, 1, none⟩ = some (.int .i64 xn) := HK.out.1 ⟨w10.heap.size, 1, none⟩ _ HXc.lt HXc.c1
          have k8 : ∀ s : Hw S, s.w.cell? ⟨w10.heap.size, 2, none⟩ = some (.int .i64 xo) := HK.out.1 ⟨w10.heap.size, 2, none⟩ _ HXc.lt HXc.c2
          have k9 : ∀ s : Hw S, s.w.cell? ⟨w10.heap.size, 3, none⟩ = some (.int .i64 xp) := HK.out.1 ⟨w10.heap.size, 3, none⟩ _ HXc.lt HXc.c3
          have k10 : ∀ s : Hw S, s.w.cell? ⟨w1.heap.size + 1, 0, none⟩ = some (.int .i64 mo) := HK.out.1 ⟨w1.heap.size + 1, 0, none⟩ _ H1.lt H1.c0
          have k11 : ∀ s : Hw S, s.w.cell? ⟨w1.heap.size + 1, 1, none⟩ = some (.int .i64 na) := HK.out.1 ⟨w1.heap.size + 1, 1, none⟩ _ H1.lt H1.c1
          have k12 : ∀ s : Hw S, s.w.cell? ⟨w1.heap.size + 1, 2, none⟩ = some (.int .i64 no) := HK.out.1 ⟨w1.heap.size + 1, 2, none⟩ _ H1.lt H1.c2
          have k13 : ∀ s : Hw S, s.w.cell? ⟨w1.heap.size + 1, 3, none⟩ = some (.int .i64 pu) := HK.out.1 ⟨w1.heap.size + 1, 3, none⟩ _ H1.lt H1.c3
          have k14 : ∀ s : Hw S, s.w.cell? ⟨w25.heap.size, 0, none⟩ = some (.int .i64 ym) := HK.out.1 ⟨w25.heap.size, 0, none⟩ _ HYa.lt HYa.c0
          have k15 : ∀ s : Hw S, s.w.cell? ⟨w25.heap.size, 1, none⟩ = some (.int .i64 yn) := HK.out.1 ⟨w25.heap.size, 1, none⟩ _ HYa.lt HYa.c1
          have k16 : ∀ s : Hw S, s.w.cell? ⟨w25.heap.size, 2, none⟩ = some (.int .i64 yo) := HK.out.1 ⟨w25.heap.size, 2, none⟩ _ HYa.lt HYa.c2
          have k17 : ∀ s : Hw S, s.w.cell? ⟨w25.heap.size, 3, none⟩ = some (.int .i64 yp) := HK.out.1 ⟨w25.heap.size, 3, none⟩ _ HYa.lt HYa.c3
          have k18 : ∀ s : Hw S, s.w.cell? ⟨w27.heap.size, 0, none⟩ = some (.int .i64 ym) := HK.out.1 ⟨w27.heap.size, 0, none⟩ _ HYc.lt HYc.c0
          have k19 : ∀ s : Hw S, s.w.cell? ⟨w27.heap.size, 1, none⟩ = some (.int .i64 yn) := HK.out.1 ⟨w27.heap.size, 1, none⟩ _ HYc.lt HYc.c1
          have k20 : ∀ s : Hw S, s.w.cell? ⟨w27.heap.size, 2, none⟩ = some (.int .i64 yo) := HK.out.1 ⟨w27.heap.size, 2, none⟩ _ HYc.lt HYc.c2
          have k21 : ∀ s : Hw S, s.w.cell? ⟨w27.heap.size, 3, none⟩ = some (.int .i64 yp) := HK.out.1 ⟨w27.heap.size, 3, none⟩ _ HYc.lt HYc.c3
          have HRI : Hid (∀ s : Hw S, RowN s.w.heap.size s.w air Ar) := fun s => Oir.rowAt.grown (HK.out.2.2.2 s)
          have HRS : Hid (∀ s : Hw S, RowN s.w.heap.size s.w asr Ar) := fun s => Osr.rowAt.grown (HK.out.2.2.2 s)
          have HRV : Hid (∀ s : Hw S, RowI s.w.heap.size s.w av _) := fun s => OV.rowAt.grown (HK.out.2.2.2 s)
          have HRZ : Hid (∀ s : Hw S, RowI s.w.heap.size s.w az _) := fun s => OZ.all.grown (HK.out.2.2.2 s)
          have HRU : Hid (∀ s : Hw S, RowI s.w.heap.size s.w au _) := fun s => OU.rowAt.grown (HK.out.2.2.2 s)
          have hkk : ∀ (s : Hw S) w', Below s.w.heap.size s.w w' → S w' := HK.out.2.1
          have hV2 : V.length ≤ 2097152 := by omega
          clear H1 Oir Bir Osr Bsr HXa HXc OU OV OZ HYa HYc
          refine wp_region_heldF (S := S) hS0 ?_
          simp only [List.append_eq, List.cons_append, List.nil_append]
          repeat (go_big_quiet_step (first | (with_reducible exact held_sameA hAr HRI HRS hkk) | (with_reducible exact held_sameI hV2 HRV HRZ hkk)))
          refine wpQuiet_nil ?_
          rintro _ ⟨sw, rfl⟩
          have hb := HK.out.2.2.2 sw
          have HE : Hid (Below w.heap.size w sw.w) := HB.out.trans (hb.mono HB.out.size)
          clear hb
          go_wp2
          go_ret
          exact ⟨rfl, HE.out⟩
      | true =>
        have hl3 : ∀ w, (Op.equalIn 10000 34 (.agg #[.int .i64 xm, .int .i64 xn, .int .i64 xo, .int .i64 xp]) (.agg #[.int .i64 mo, .int .i64 na, .int .i64 no, .int .i64 pu])).run Try.prog w = .ok true w := by
          obtain ⟨rfl, rfl, rfl, rfl⟩ := HXB.out rfl
          exact hel_eql _ _ _ _
        clear HXB
        cases sb with
        | false =>
          clear HVB
          go_upto_region 18 with fail
          generalize w27.alloc (.cells #[.int .i64 ym, .int .i64 yn, .int .i64 yo, .int .i64 yp] 34) = w28 at H1 Oir Bir Osr Bsr HXa HXc OU OV OZ HYa HYc HB ⊢
          obtain ⟨S, hS0, hNE, HK⟩ := read_classF w28
          have k0 := var_heldH Bir HK.out.1
          have k1 := var_heldH Bsr HK.out.1
          have k2 : ∀ s : Hw S, s.w.cell? ⟨w8.heap.size, 0, none⟩ = some (.int .i64 xm) := HK.out.1 ⟨w8.heap.size, 0, none⟩ _ HXa.lt HXa.c0
          have k3 : ∀ s : Hw S, s.w.cell? ⟨w8.heap.size, 1, none⟩ = some (.int .i64 xn) := HK.out.1 ⟨w8.heap.size, 1, none⟩ _ HXa.lt HXa.c1
          have k4 : ∀ s : Hw S, s.w.cell? ⟨w8.heap.size, 2, none⟩ = some (.int .i64 xo) := HK.out.1 ⟨w8.heap.size, 2, none⟩ _ HXa.lt HXa.c2
          have k5 : ∀ s : Hw S, s.w.cell? ⟨w8.heap.size, 3, none⟩ = some (.int .i64 xp) := HK.out.1 ⟨w8.heap.size, 3, none⟩ _ HXa.lt HXa.c3
          have k6 : ∀ s : Hw S, s.w.cell? ⟨w10.heap.size, 0, none⟩ = some (.int .i64 xm) := HK.out.1 ⟨w10.heap.size, 0, none⟩ _ HXc.lt HXc.c0
          have k7 : ∀ s : Hw S, s.w.cell? ⟨w10.heap.size, 1, none⟩ = some (.int .i64 xn) := HK.out.1 ⟨w10.heap.size, 1, none⟩ _ HXc.lt HXc.c1
          have k8 : ∀ s : Hw S, s.w.cell? ⟨w10.heap.size, 2, none⟩ = some (.int .i64 xo) := HK.out.1 ⟨w10.heap.size, 2, none⟩ _ HXc.lt HXc.c2
          have k9 : ∀ s : Hw S, s.w.cell? ⟨w10.heap.size, 3, none⟩ = some (.int .i64 xp) := HK.out.1 ⟨w10.heap.size, 3, none⟩ _ HXc.lt HXc.c3
          have k10 : ∀ s : Hw S, s.w.cell? ⟨w1.heap.size + 1, 0, none⟩ = some (.int .i64 mo) := HK.out.1 ⟨w1.heap.size + 1, 0, none⟩ _ H1.lt H1.c0
          have k11 : ∀ s : Hw S, s.w.cell? ⟨w1.heap.size + 1, 1, none⟩ = some (.int .i64 na) := HK.out.1 ⟨w1.heap.size + 1, 1, none⟩ _ H1.lt H1.c1
          have k12 : ∀ s : Hw S, s.w.cell? ⟨w1.heap.size + 1, 2, none⟩ = some (.int .i64 no) := HK.out.1 ⟨w1.heap.size + 1, 2, none⟩ _ H1.lt H1.c2
          have k13 : ∀ s : Hw S, s.w.cell? ⟨w1.heap.size + 1, 3, none⟩ = some (.int .i64 pu) := HK.out.1 ⟨w1.heap.size + 1, 3, none⟩ _ H1.lt H1.c3
          have k14 : ∀ s : Hw S, s.w.cell? ⟨w25.heap.size, 0, none⟩ = some (.int .i64 ym) := HK.out.1 ⟨w25.heap.size, 0, none⟩ _ HYa.lt HYa.c0
          have k15 : ∀ s : Hw S, s.w.cell? ⟨w25.heap.size, 1, none⟩ = some (.int .i64 yn) := HK.out.1 ⟨w25.heap.size, 1, none⟩ _ HYa.lt HYa.c1
          have k16 : ∀ s : Hw S, s.w.cell? ⟨w25.heap.size, 2, none⟩ = some (.int .i64 yo) := HK.out.1 ⟨w25.heap.size, 2, none⟩ _ HYa.lt HYa.c2
          have k17 : ∀ s : Hw S, s.w.cell? ⟨w25.heap.size, 3, none⟩ = some (.int .i64 yp) := HK.out.1 ⟨w25.heap.size, 3, none⟩ _ HYa.lt HYa.c3
          have k18 : ∀ s : Hw S, s.w.cell? ⟨w27.heap.size, 0, none⟩ = some (.int .i64 ym) := HK.out.1 ⟨w27.heap.size, 0, none⟩ _ HYc.lt HYc.c0
          have k19 : ∀ s : Hw S, s.w.cell? ⟨w27.heap.size, 1, none⟩ = some (.int .i64 yn) := HK.out.1 ⟨w27.heap.size, 1, none⟩ _ HYc.lt HYc.c1
          have k20 : ∀ s : Hw S, s.w.cell? ⟨w27.heap.size, 2, none⟩ = some (.int .i64 yo) := HK.out.1 ⟨w27.heap.size, 2, none⟩ _ HYc.lt HYc.c2
          have k21 : ∀ s : Hw S, s.w.cell? ⟨w27.heap.size, 3, none⟩ = some (.int .i64 yp) := HK.out.1 ⟨w27.heap.size, 3, none⟩ _ HYc.lt HYc.c3
          have HRI : Hid (∀ s : Hw S, RowN s.w.heap.size s.w air Ar) := fun s => Oir.rowAt.grown (HK.out.2.2.2 s)
          have HRS : Hid (∀ s : Hw S, RowN s.w.heap.size s.w asr Ar) := fun s => Osr.rowAt.grown (HK.out.2.2.2 s)
          have HRV : Hid (∀ s : Hw S, RowI s.w.heap.size s.w av _) := fun s => OV.rowAt.grown (HK.out.2.2.2 s)
          have HRZ : Hid (∀ s : Hw S, RowI s.w.heap.size s.w az _) := fun s => OZ.all.grown (HK.out.2.2.2 s)
          have HRU : Hid (∀ s : Hw S, RowI s.w.heap.size s.w au _) := fun s => OU.rowAt.grown (HK.out.2.2.2 s)
          have hkk : ∀ (s : Hw S) w', Below s.w.heap.size s.w w' → S w' := HK.out.2.1
          have hV2 : V.length ≤ 2097152 := by omega
          clear H1 Oir Bir Osr Bsr HXa HXc OU OV OZ HYa HYc
          refine wp_region_heldF (S := S) hS0 ?_
          simp only [List.append_eq, List.cons_append, List.nil_append]
          repeat (go_big_quiet_step (first | (with_reducible exact held_sameA hAr HRI HRS hkk) | (with_reducible exact held_sameI hV2 HRV HRZ hkk)))
          refine wpQuiet_nil ?_
          rintro _ ⟨sw, rfl⟩
          have hb := HK.out.2.2.2 sw
          have HE : Hid (Below w.heap.size w sw.w) := HB.out.trans (hb.mono HB.out.size)
          clear hb
          go_wp2
          go_ret
          exact ⟨rfl, HE.out⟩
        | true =>
          have hs1 : (sq == no2) = true := by rw [(HVB.out rfl).1]; simp
          have hs2 : (sr == pu2) = true := by rw [(HVB.out rfl).2]; simp
          clear HVB
          go_upto_region 18 with fail
          generalize w27.alloc (.cells #[.int .i64 ym, .int .i64 yn, .int .i64 yo, .int .i64 yp] 34) = w28 at H1 Oir Bir Osr Bsr HXa HXc OU OV OZ HYa HYc HB ⊢
          obtain ⟨S, hS0, hNE, HK⟩ := read_classF w28
          have k0 := var_heldH Bir HK.out.1
          have k1 := var_heldH Bsr HK.out.1
          have k2 : ∀ s : Hw S, s.w.cell? ⟨w8.heap.size, 0, none⟩ = some (.int .i64 xm) := HK.out.1 ⟨w8.heap.size, 0, none⟩ _ HXa.lt HXa.c0
          have k3 : ∀ s : Hw S, s.w.cell? ⟨w8.heap.size, 1, none⟩ = some (.int .i64 xn) := HK.out.1 ⟨w8.heap.size, 1, none⟩ _ HXa.lt HXa.c1
          have k4 : ∀ s : Hw S, s.w.cell? ⟨w8.heap.size, 2, none⟩ = some (.int .i64 xo) := HK.out.1 ⟨w8.heap.size, 2, none⟩ _ HXa.lt HXa.c2
          have k5 : ∀ s : Hw S, s.w.cell? ⟨w8.heap.size, 3, none⟩ = some (.int .i64 xp) := HK.out.1 ⟨w8.heap.size, 3, none⟩ _ HXa.lt HXa.c3
          have k6 : ∀ s : Hw S, s.w.cell? ⟨w10.heap.size, 0, none⟩ = some (.int .i64 xm) := HK.out.1 ⟨w10.heap.size, 0, none⟩ _ HXc.lt HXc.c0
          have k7 : ∀ s : Hw S, s.w.cell? ⟨w10.heap.size, 1, none⟩ = some (.int .i64 xn) := HK.out.1 ⟨w10.heap.size, 1, none⟩ _ HXc.lt HXc.c1
          have k8 : ∀ s : Hw S, s.w.cell? ⟨w10.heap.size, 2, none⟩ = some (.int .i64 xo) := HK.out.1 ⟨w10.heap.size, 2, none⟩ _ HXc.lt HXc.c2
          have k9 : ∀ s : Hw S, s.w.cell? ⟨w10.heap.size, 3, none⟩ = some (.int .i64 xp) := HK.out.1 ⟨w10.heap.size, 3, none⟩ _ HXc.lt HXc.c3
          have k10 : ∀ s : Hw S, s.w.cell? ⟨w1.heap.size + 1, 0, none⟩ = some (.int .i64 mo) := HK.out.1 ⟨w1.heap.size + 1, 0, none⟩ _ H1.lt H1.c0
          have k11 : ∀ s : Hw S, s.w.cell? ⟨w1.heap.size + 1, 1, none⟩ = some (.int .i64 na) := HK.out.1 ⟨w1.heap.size + 1, 1, none⟩ _ H1.lt H1.c1
          have k12 : ∀ s : Hw S, s.w.cell? ⟨w1.heap.size + 1, 2, none⟩ = some (.int .i64 no) := HK.out.1 ⟨w1.heap.size + 1, 2, none⟩ _ H1.lt H1.c2
          have k13 : ∀ s : Hw S, s.w.cell? ⟨w1.heap.size + 1, 3, none⟩ = some (.int .i64 pu) := HK.out.1 ⟨w1.heap.size + 1, 3, none⟩ _ H1.lt H1.c3
          have k14 : ∀ s : Hw S, s.w.cell? ⟨w25.heap.size, 0, none⟩ = some (.int .i64 ym) := HK.out.1 ⟨w25.heap.size, 0, none⟩ _ HYa.lt HYa.c0
          have k15 : ∀ s : Hw S, s.w.cell? ⟨w25.heap.size, 1, none⟩ = some (.int .i64 yn) := HK.out.1 ⟨w25.heap.size, 1, none⟩ _ HYa.lt HYa.c1
          have k16 : ∀ s : Hw S, s.w.cell? ⟨w25.heap.size, 2, none⟩ = some (.int .i64 yo) := HK.out.1 ⟨w25.heap.size, 2, none⟩ _ HYa.lt HYa.c2
          have k17 : ∀ s : Hw S, s.w.cell? ⟨w25.heap.size, 3, none⟩ = some (.int .i64 yp) := HK.out.1 ⟨w25.heap.size, 3, none⟩ _ HYa.lt HYa.c3
          have k18 : ∀ s : Hw S, s.w.cell? ⟨w27.heap.size, 0, none⟩ = some (.int .i64 ym) := HK.out.1 ⟨w27.heap.size, 0, none⟩ _ HYc.lt HYc.c0
          have k19 : ∀ s : Hw S, s.w.cell? ⟨w27.heap.size, 1, none⟩ = some (.int .i64 yn) := HK.out.1 ⟨w27.heap.size, 1, none⟩ _ HYc.lt HYc.c1
          have k20 : ∀ s : Hw S, s.w.cell? ⟨w27.heap.size, 2, none⟩ = some (.int .i64 yo) := HK.out.1 ⟨w27.heap.size, 2, none⟩ _ HYc.lt HYc.c2
          have k21 : ∀ s : Hw S, s.w.cell? ⟨w27.heap.size, 3, none⟩ = some (.int .i64 yp) := HK.out.1 ⟨w27.heap.size, 3, none⟩ _ HYc.lt HYc.c3
          have HRI : Hid (∀ s : Hw S, RowN s.w.heap.size s.w air Ar) := fun s => Oir.rowAt.grown (HK.out.2.2.2 s)
          have HRS : Hid (∀ s : Hw S, RowN s.w.heap.size s.w asr Ar) := fun s => Osr.rowAt.grown (HK.out.2.2.2 s)
          have HRV : Hid (∀ s : Hw S, RowI s.w.heap.size s.w av _) := fun s => OV.rowAt.grown (HK.out.2.2.2 s)
          have HRZ : Hid (∀ s : Hw S, RowI s.w.heap.size s.w az _) := fun s => OZ.all.grown (HK.out.2.2.2 s)
          have HRU : Hid (∀ s : Hw S, RowI s.w.heap.size s.w au _) := fun s => OU.rowAt.grown (HK.out.2.2.2 s)
          have hkk : ∀ (s : Hw S) w', Below s.w.heap.size s.w w' → S w' := HK.out.2.1
          have hV2 : V.length ≤ 2097152 := by omega
          clear H1 Oir Bir Osr Bsr HXa HXc OU OV OZ HYa HYc
          refine wp_region_heldF (S := S) hS0 ?_
          simp only [List.append_eq, List.cons_append, List.nil_append]
          repeat (go_big_quiet_step (first | (with_reducible exact held_sameA hAr HRI HRS hkk) | (with_reducible exact held_sameI hV2 HRV HRZ hkk)))
          refine wpQuiet_nil ?_
          rintro _ ⟨sw, rfl⟩
          have hb := HK.out.2.2.2 sw
          have HE : Hid (Below w.heap.size w sw.w) := HB.out.trans (hb.mono HB.out.size)
          clear hb
          go_wp2
          go_ret
          exact ⟨rfl, HE.out⟩
    · have hb0 : (UK == 0) = false := by simp; omega
      have hb1 : (UK == kd) = true := by simp [h0.1]
      have h02 := h0.2; subst h02
      clear h0
      cases xb with
      | false =>
        clear HXB
        cases sb with
        | false =>
          clear HVB
          go_upto_region 18 with fail
          generalize w27.alloc (.cells #[.int .i64 ym, .int .i64 yn, .int .i64 yo, .int .i64 yp] 34) = w28 at H1 Oir Bir Osr Bsr HXa HXc OU OV OZ HYa HYc HB ⊢
          obtain ⟨S, hS0, hNE, HK⟩ := read_classF w28
          have k0 := var_heldH Bir HK.out.1
          have k1 := var_heldH Bsr HK.out.1
          have k2 : ∀ s : Hw S, s.w.cell? ⟨w8.heap.size, 0, none⟩ = some (.int .i64 xm) := HK.out.1 ⟨w8.heap.size, 0, none⟩ _ HXa.lt HXa.c0
          have k3 : ∀ s : Hw S, s.w.cell? ⟨w8.heap.size, 1, none⟩ = some (.int .i64 xn) := HK.out.1 ⟨w8.heap.size, 1, none⟩ _ HXa.lt HXa.c1
          have k4 : ∀ s : Hw S, s.w.cell? ⟨w8.heap.size, 2, none⟩ = some (.int .i64 xo) := HK.out.1 ⟨w8.heap.size, 2, none⟩ _ HXa.lt HXa.c2
          have k5 : ∀ s : Hw S, s.w.cell? ⟨w8.heap.size, 3, none⟩ = some (.int .i64 xp) := HK.out.1 ⟨w8.heap.size, 3, none⟩ _ HXa.lt HXa.c3
          have k6 : ∀ s : Hw S, s.w.cell? ⟨w10.heap.size, 0, none⟩ = some (.int .i64 xm) := HK.out.1 ⟨w10.heap.size, 0, none⟩ _ HXc.lt HXc.c0
          have k7 : ∀ s : Hw S, s.w.cell? ⟨w10.heap.size, 1, none⟩ = some (.int .i64 xn) := HK.out.1 ⟨w10.heap.size, 1, none⟩ _ HXc.lt HXc.c1
          have k8 : ∀ s : Hw S, s.w.cell? ⟨w10.heap.size, 2, none⟩ = some (.int .i64 xo) := HK.out.1 ⟨w10.heap.size, 2, none⟩ _ HXc.lt HXc.c2
          have k9 : ∀ s : Hw S, s.w.cell? ⟨w10.heap.size, 3, none⟩ = some (.int .i64 xp) := HK.out.1 ⟨w10.heap.size, 3, none⟩ _ HXc.lt HXc.c3
          have k10 : ∀ s : Hw S, s.w.cell? ⟨w1.heap.size + 1, 0, none⟩ = some (.int .i64 mo) := HK.out.1 ⟨w1.heap.size + 1, 0, none⟩ _ H1.lt H1.c0
          have k11 : ∀ s : Hw S, s.w.cell? ⟨w1.heap.size + 1, 1, none⟩ = some (.int .i64 na) := HK.out.1 ⟨w1.heap.size + 1, 1, none⟩ _ H1.lt H1.c1
          have k12 : ∀ s : Hw S, s.w.cell? ⟨w1.heap.size + 1, 2, none⟩ = some (.int .i64 no) := HK.out.1 ⟨w1.heap.size + 1, 2, none⟩ _ H1.lt H1.c2
          have k13 : ∀ s : Hw S, s.w.cell? ⟨w1.heap.size + 1, 3, none⟩ = some (.int .i64 pu) := HK.out.1 ⟨w1.heap.size + 1, 3, none⟩ _ H1.lt H1.c3
          have k14 : ∀ s : Hw S, s.w.cell? ⟨w25.heap.size, 0, none⟩ = some (.int .i64 ym) := HK.out.1 ⟨w25.heap.size, 0, none⟩ _ HYa.lt HYa.c0
          have k15 : ∀ s : Hw S, s.w.cell? ⟨w25.heap.size, 1, none⟩ = some (.int .i64 yn) := HK.out.1 ⟨w25.heap.size, 1, none⟩ _ HYa.lt HYa.c1
          have k16 : ∀ s : Hw S, s.w.cell? ⟨w25.heap.size, 2, none⟩ = some (.int .i64 yo) := HK.out.1 ⟨w25.heap.size, 2, none⟩ _ HYa.lt HYa.c2
          have k17 : ∀ s : Hw S, s.w.cell? ⟨w25.heap.size, 3, none⟩ = some (.int .i64 yp) := HK.out.1 ⟨w25.heap.size, 3, none⟩ _ HYa.lt HYa.c3
          have k18 : ∀ s : Hw S, s.w.cell? ⟨w27.heap.size, 0, none⟩ = some (.int .i64 ym) := HK.out.1 ⟨w27.heap.size, 0, none⟩ _ HYc.lt HYc.c0
          have k19 : ∀ s : Hw S, s.w.cell? ⟨w27.heap.size, 1, none⟩ = some (.int .i64 yn) := HK.out.1 ⟨w27.heap.size, 1, none⟩ _ HYc.lt HYc.c1
          have k20 : ∀ s : Hw S, s.w.cell? ⟨w27.heap.size, 2, none⟩ = some (.int .i64 yo) := HK.out.1 ⟨w27.heap.size, 2, none⟩ _ HYc.lt HYc.c2
          have k21 : ∀ s : Hw S, s.w.cell? ⟨w27.heap.size, 3, none⟩ = some (.int .i64 yp) := HK.out.1 ⟨w27.heap.size, 3, none⟩ _ HYc.lt HYc.c3
          have HRI : Hid (∀ s : Hw S, RowN s.w.heap.size s.w air Ar) := fun s => Oir.rowAt.grown (HK.out.2.2.2 s)
          have HRS : Hid (∀ s : Hw S, RowN s.w.heap.size s.w asr Ar) := fun s => Osr.rowAt.grown (HK.out.2.2.2 s)
          have HRV : Hid (∀ s : Hw S, RowI s.w.heap.size s.w av _) := fun s => OV.rowAt.grown (HK.out.2.2.2 s)
          have HRZ : Hid (∀ s : Hw S, RowI s.w.heap.size s.w az _) := fun s => OZ.all.grown (HK.out.2.2.2 s)
          have HRU : Hid (∀ s : Hw S, RowI s.w.heap.size s.w au _) := fun s => OU.rowAt.grown (HK.out.2.2.2 s)
          have hkk : ∀ (s : Hw S) w', Below s.w.heap.size s.w w' → S w' := HK.out.2.1
          have hV2 : V.length ≤ 2097152 := by omega
          clear H1 Oir Bir Osr Bsr HXa HXc OU OV OZ HYa HYc
          refine wp_region_heldF (S := S) hS0 ?_
          simp only [List.append_eq, List.cons_append, List.nil_append]
          repeat (go_big_quiet_step (first | (with_reducible exact held_sameA hAr HRI HRS hkk) | (with_reducible exact held_sameI hV2 HRV HRZ hkk) | (with_reducible exact held_sameI hV2 HRV HRU hkk)))
          refine wpQuiet_nil ?_
          rintro _ ⟨sw, rfl⟩
          have hb := HK.out.2.2.2 sw
          have HE : Hid (Below w.heap.size w sw.w) := HB.out.trans (hb.mono HB.out.size)
          clear hb
          go_wp2
          go_ret
          exact ⟨rfl, HE.out⟩
        | true =>
          have hs1 : (sq == no2) = true := by rw [(HVB.out rfl).1]; simp
          have hs2 : (sr == pu2) = true := by rw [(HVB.out rfl).2]; simp
          clear HVB
          go_upto_region 18 with fail
          generalize w27.alloc (.cells #[.int .i64 ym, .int .i64 yn, .int .i64 yo, .int .i64 yp] 34) = w28 at H1 Oir Bir Osr Bsr HXa HXc OU OV OZ HYa HYc HB ⊢
          obtain ⟨S, hS0, hNE, HK⟩ := read_classF w28
          have k0 := var_heldH Bir HK.out.1
          have k1 := var_heldH Bsr HK.out.1
          have k2 : ∀ s : Hw S, s.w.cell? ⟨w8.heap.size, 0, none⟩ = some (.int .i64 xm) := HK.out.1 ⟨w8.heap.size, 0, none⟩ _ HXa.lt HXa.c0
          have k3 : ∀ s : Hw S, s.w.cell? ⟨w8.heap.size, 1, none⟩ = some (.int .i64 xn) := HK.out.1 ⟨w8.heap.size, 1, none⟩ _ HXa.lt HXa.c1
          have k4 : ∀ s : Hw S, s.w.cell? ⟨w8.heap.size, 2, none⟩ = some (.int .i64 xo) := HK.out.1 ⟨w8.heap.size, 2, none⟩ _ HXa.lt HXa.c2
          have k5 : ∀ s : Hw S, s.w.cell? ⟨w8.heap.size, 3, none⟩ = some (.int .i64 xp) := HK.out.1 ⟨w8.heap.size, 3, none⟩ _ HXa.lt HXa.c3
          have k6 : ∀ s : Hw S, s.w.cell? ⟨w10.heap.size, 0, none⟩ = some (.int .i64 xm) := HK.out.1 ⟨w10.heap.size, 0, none⟩ _ HXc.lt HXc.c0
          have k7 : ∀ s : Hw S, s.w.cell? ⟨w10.heap.size, 1, none⟩ = some (.int .i64 xn) := HK.out.1 ⟨w10.heap.size, 1, none⟩ _ HXc.lt HXc.c1
          have k8 : ∀ s : Hw S, s.w.cell? ⟨w10.heap.size, 2, none⟩ = some (.int .i64 xo) := HK.out.1 ⟨w10.heap.size, 2, none⟩ _ HXc.lt HXc.c2
          have k9 : ∀ s : Hw S, s.w.cell? ⟨w10.heap.size, 3, none⟩ = some (.int .i64 xp) := HK.out.1 ⟨w10.heap.size, 3, none⟩ _ HXc.lt HXc.c3
          have k10 : ∀ s : Hw S, s.w.cell? ⟨w1.heap.size + 1, 0, none⟩ = some (.int .i64 mo) := HK.out.1 ⟨w1.heap.size + 1, 0, none⟩ _ H1.lt H1.c0
          have k11 : ∀ s : Hw S, s.w.cell? ⟨w1.heap.size + 1, 1, none⟩ = some (.int .i64 na) := HK.out.1 ⟨w1.heap.size + 1, 1, none⟩ _ H1.lt H1.c1
          have k12 : ∀ s : Hw S, s.w.cell? ⟨w1.heap.size + 1, 2, none⟩ = some (.int .i64 no) := HK.out.1 ⟨w1.heap.size + 1, 2, none⟩ _ H1.lt H1.c2
          have k13 : ∀ s : Hw S, s.w.cell? ⟨w1.heap.size + 1, 3, none⟩ = some (.int .i64 pu) := HK.out.1 ⟨w1.heap.size + 1, 3, none⟩ _ H1.lt H1.c3
          have k14 : ∀ s : Hw S, s.w.cell? ⟨w25.heap.size, 0, none⟩ = some (.int .i64 ym) := HK.out.1 ⟨w25.heap.size, 0, none⟩ _ HYa.lt HYa.c0
          have k15 : ∀ s : Hw S, s.w.cell? ⟨w25.heap.size, 1, none⟩ = some (.int .i64 yn) := HK.out.1 ⟨w25.heap.size, 1, none⟩ _ HYa.lt HYa.c1
          have k16 : ∀ s : Hw S, s.w.cell? ⟨w25.heap.size, 2, none⟩ = some (.int .i64 yo) := HK.out.1 ⟨w25.heap.size, 2, none⟩ _ HYa.lt HYa.c2
          have k17 : ∀ s : Hw S, s.w.cell? ⟨w25.heap.size, 3, none⟩ = some (.int .i64 yp) := HK.out.1 ⟨w25.heap.size, 3, none⟩ _ HYa.lt HYa.c3
          have k18 : ∀ s : Hw S, s.w.cell? ⟨w27.heap.size, 0, none⟩ = some (.int .i64 ym) := HK.out.1 ⟨w27.heap.size, 0, none⟩ _ HYc.lt HYc.c0
          have k19 : ∀ s : Hw S, s.w.cell? ⟨w27.heap.size, 1, none⟩ = some (.int .i64 yn) := HK.out.1 ⟨w27.heap.size, 1, none⟩ _ HYc.lt HYc.c1
          have k20 : ∀ s : Hw S, s.w.cell? ⟨w27.heap.size, 2, none⟩ = some (.int .i64 yo) := HK.out.1 ⟨w27.heap.size, 2, none⟩ _ HYc.lt HYc.c2
          have k21 : ∀ s : Hw S, s.w.cell? ⟨w27.heap.size, 3, none⟩ = some (.int .i64 yp) := HK.out.1 ⟨w27.heap.size, 3, none⟩ _ HYc.lt HYc.c3
          have HRI : Hid (∀ s : Hw S, RowN s.w.heap.size s.w air Ar) := fun s => Oir.rowAt.grown (HK.out.2.2.2 s)
          have HRS : Hid (∀ s : Hw S, RowN s.w.heap.size s.w asr Ar) := fun s => Osr.rowAt.grown (HK.out.2.2.2 s)
          have HRV : Hid (∀ s : Hw S, RowI s.w.heap.size s.w av _) := fun s => OV.rowAt.grown (HK.out.2.2.2 s)
          have HRZ : Hid (∀ s : Hw S, RowI s.w.heap.size s.w az _) := fun s => OZ.all.grown (HK.out.2.2.2 s)
          have HRU : Hid (∀ s : Hw S, RowI s.w.heap.size s.w au _) := fun s => OU.rowAt.grown (HK.out.2.2.2 s)
          have hkk : ∀ (s : Hw S) w', Below s.w.heap.size s.w w' → S w' := HK.out.2.1
          have hV2 : V.length ≤ 2097152 := by omega
          clear H1 Oir Bir Osr Bsr HXa HXc OU OV OZ HYa HYc
          refine wp_region_heldF (S := S) hS0 ?_
          simp only [List.append_eq, List.cons_append, List.nil_append]
          repeat (go_big_quiet_step (first | (with_reducible exact held_sameA hAr HRI HRS hkk) | (with_reducible exact held_sameI hV2 HRV HRZ hkk) | (with_reducible exact held_sameI hV2 HRV HRU hkk)))
          refine wpQuiet_nil ?_
          rintro _ ⟨sw, rfl⟩
          have hb := HK.out.2.2.2 sw
          have HE : Hid (Below w.heap.size w sw.w) := HB.out.trans (hb.mono HB.out.size)
          clear hb
          go_wp2
          go_ret
          exact ⟨rfl, HE.out⟩
      | true =>
        have hl3 : ∀ w, (Op.equalIn 10000 34 (.agg #[.int .i64 xm, .int .i64 xn, .int .i64 xo, .int .i64 xp]) (.agg #[.int .i64 mo, .int .i64 na, .int .i64 no, .int .i64 pu])).run Try.prog w = .ok true w := by
          obtain ⟨rfl, rfl, rfl, rfl⟩ := HXB.out rfl
          exact hel_eql _ _ _ _
        clear HXB
        cases sb with
        | false =>
          clear HVB
          go_upto_region 18 with fail
          generalize w27.alloc (.cells #[.int .i64 ym, .int .i64 yn, .int .i64 yo, .int .i64 yp] 34) = w28 at H1 Oir Bir Osr Bsr HXa HXc OU OV OZ HYa HYc HB ⊢
          obtain ⟨S, hS0, hNE, HK⟩ := read_classF w28
          have k0 := var_heldH Bir HK.out.1
          have k1 := var_heldH Bsr HK.out.1
          have k2 : ∀ s : Hw S, s.w.cell? ⟨w8.heap.size, 0, none⟩ = some (.int .i64 xm) := HK.out.1 ⟨w8.heap.size, 0, none⟩ _ HXa.lt HXa.c0
          have k3 : ∀ s : Hw S, s.w.cell? ⟨w8.heap.size, 1, none⟩ = some (.int .i64 xn) := HK.out.1 ⟨w8.heap.size, 1, none⟩ _ HXa.lt HXa.c1
          have k4 : ∀ s : Hw S, s.w.cell? ⟨w8.heap.size, 2, none⟩ = some (.int .i64 xo) := HK.out.1 ⟨w8.heap.size, 2, none⟩ _ HXa.lt HXa.c2
          have k5 : ∀ s : Hw S, s.w.cell? ⟨w8.heap.size, 3, none⟩ = some (.int .i64 xp) := HK.out.1 ⟨w8.heap.size, 3, none⟩ _ HXa.lt HXa.c3
          have k6 : ∀ s : Hw S, s.w.cell? ⟨w10.heap.size, 0, none⟩ = some (.int .i64 xm) := HK.out.1 ⟨w10.heap.size, 0, none⟩ _ HXc.lt HXc.c0
          have k7 : ∀ s : Hw S, s.w.cell? ⟨w10.heap.size, 1, none⟩ = some (.int .i64 xn) := HK.out.1 ⟨w10.heap.size, 1, none⟩ _ HXc.lt HXc.c1
          have k8 : ∀ s : Hw S, s.w.cell? ⟨w10.heap.size, 2, none⟩ = some (.int .i64 xo) := HK.out.1 ⟨w10.heap.size, 2, none⟩ _ HXc.lt HXc.c2
          have k9 : ∀ s : Hw S, s.w.cell? ⟨w10.heap.size, 3, none⟩ = some (.int .i64 xp) := HK.out.1 ⟨w10.heap.size, 3, none⟩ _ HXc.lt HXc.c3
          have k10 : ∀ s : Hw S, s.w.cell? ⟨w1.heap.size + 1, 0, none⟩ = some (.int .i64 mo) := HK.out.1 ⟨w1.heap.size + 1, 0, none⟩ _ H1.lt H1.c0
          have k11 : ∀ s : Hw S, s.w.cell? ⟨w1.heap.size + 1, 1, none⟩ = some (.int .i64 na) := HK.out.1 ⟨w1.heap.size + 1, 1, none⟩ _ H1.lt H1.c1
          have k12 : ∀ s : Hw S, s.w.cell? ⟨w1.heap.size + 1, 2, none⟩ = some (.int .i64 no) := HK.out.1 ⟨w1.heap.size + 1, 2, none⟩ _ H1.lt H1.c2
          have k13 : ∀ s : Hw S, s.w.cell? ⟨w1.heap.size + 1, 3, none⟩ = some (.int .i64 pu) := HK.out.1 ⟨w1.heap.size + 1, 3, none⟩ _ H1.lt H1.c3
          have k14 : ∀ s : Hw S, s.w.cell? ⟨w25.heap.size, 0, none⟩ = some (.int .i64 ym) := HK.out.1 ⟨w25.heap.size, 0, none⟩ _ HYa.lt HYa.c0
          have k15 : ∀ s : Hw S, s.w.cell? ⟨w25.heap.size, 1, none⟩ = some (.int .i64 yn) := HK.out.1 ⟨w25.heap.size, 1, none⟩ _ HYa.lt HYa.c1
          have k16 : ∀ s : Hw S, s.w.cell? ⟨w25.heap.size, 2, none⟩ = some (.int .i64 yo) := HK.out.1 ⟨w25.heap.size, 2, none⟩ _ HYa.lt HYa.c2
          have k17 : ∀ s : Hw S, s.w.cell? ⟨w25.heap.size, 3, none⟩ = some (.int .i64 yp) := HK.out.1 ⟨w25.heap.size, 3, none⟩ _ HYa.lt HYa.c3
          have k18 : ∀ s : Hw S, s.w.cell? ⟨w27.heap.size, 0, none⟩ = some (.int .i64 ym) := HK.out.1 ⟨w27.heap.size, 0, none⟩ _ HYc.lt HYc.c0
          have k19 : ∀ s : Hw S, s.w.cell? ⟨w27.heap.size, 1, none⟩ = some (.int .i64 yn) := HK.out.1 ⟨w27.heap.size, 1, none⟩ _ HYc.lt HYc.c1
          have k20 : ∀ s : Hw S, s.w.cell? ⟨w27.heap.size, 2, none⟩ = some (.int .i64 yo) := HK.out.1 ⟨w27.heap.size, 2, none⟩ _ HYc.lt HYc.c2
          have k21 : ∀ s : Hw S, s.w.cell? ⟨w27.heap.size, 3, none⟩ = some (.int .i64 yp) := HK.out.1 ⟨w27.heap.size, 3, none⟩ _ HYc.lt HYc.c3
          have HRI : Hid (∀ s : Hw S, RowN s.w.heap.size s.w air Ar) := fun s => Oir.rowAt.grown (HK.out.2.2.2 s)
          have HRS : Hid (∀ s : Hw S, RowN s.w.heap.size s.w asr Ar) := fun s => Osr.rowAt.grown (HK.out.2.2.2 s)
          have HRV : Hid (∀ s : Hw S, RowI s.w.heap.size s.w av _) := fun s => OV.rowAt.grown (HK.out.2.2.2 s)
          have HRZ : Hid (∀ s : Hw S, RowI s.w.heap.size s.w az _) := fun s => OZ.all.grown (HK.out.2.2.2 s)
          have HRU : Hid (∀ s : Hw S, RowI s.w.heap.size s.w au _) := fun s => OU.rowAt.grown (HK.out.2.2.2 s)
          have hkk : ∀ (s : Hw S) w', Below s.w.heap.size s.w w' → S w' := HK.out.2.1
          have hV2 : V.length ≤ 2097152 := by omega
          clear H1 Oir Bir Osr Bsr HXa HXc OU OV OZ HYa HYc
          refine wp_region_heldF (S := S) hS0 ?_
          simp only [List.append_eq, List.cons_append, List.nil_append]
          repeat (go_big_quiet_step (first | (with_reducible exact held_sameA hAr HRI HRS hkk) | (with_reducible exact held_sameI hV2 HRV HRZ hkk) | (with_reducible exact held_sameI hV2 HRV HRU hkk)))
          refine wpQuiet_nil ?_
          rintro _ ⟨sw, rfl⟩
          have hb := HK.out.2.2.2 sw
          have HE : Hid (Below w.heap.size w sw.w) := HB.out.trans (hb.mono HB.out.size)
          clear hb
          go_wp2
          go_ret
          exact ⟨rfl, HE.out⟩
        | true =>
          have hs1 : (sq == no2) = true := by rw [(HVB.out rfl).1]; simp
          have hs2 : (sr == pu2) = true := by rw [(HVB.out rfl).2]; simp
          clear HVB
          go_upto_region 18 with fail
          generalize w27.alloc (.cells #[.int .i64 ym, .int .i64 yn, .int .i64 yo, .int .i64 yp] 34) = w28 at H1 Oir Bir Osr Bsr HXa HXc OU OV OZ HYa HYc HB ⊢
          obtain ⟨S, hS0, hNE, HK⟩ := read_classF w28
          have k0 := var_heldH Bir HK.out.1
          have k1 := var_heldH Bsr HK.out.1
          have k2 : ∀ s : Hw S, s.w.cell? ⟨w8.heap.size, 0, none⟩ = some (.int .i64 xm) := HK.out.1 ⟨w8.heap.size, 0, none⟩ _ HXa.lt HXa.c0
          have k3 : ∀ s : Hw S, s.w.cell? ⟨w8.heap.size, 1, none⟩ = some (.int .i64 xn) := HK.out.1 ⟨w8.heap.size, 1, none⟩ _ HXa.lt HXa.c1
          have k4 : ∀ s : Hw S, s.w.cell? ⟨w8.heap.size, 2, none⟩ = some (.int .i64 xo) := HK.out.1 ⟨w8.heap.size, 2, none⟩ _ HXa.lt HXa.c2
          have k5 : ∀ s : Hw S, s.w.cell? ⟨w8.heap.size, 3, none⟩ = some (.int .i64 xp) := HK.out.1 ⟨w8.heap.size, 3, none⟩ _ HXa.lt HXa.c3
          have k6 : ∀ s : Hw S, s.w.cell? ⟨w10.heap.size, 0, none⟩ = some (.int .i64 xm) := HK.out.1 ⟨w10.heap.size, 0, none⟩ _ HXc.lt HXc.c0
          have k7 : ∀ s : Hw S, s.w.cell? ⟨w10.heap.size, 1, none⟩ = some (.int .i64 xn) := HK.out.1 ⟨w10.heap.size, 1, none⟩ _ HXc.lt HXc.c1
          have k8 : ∀ s : Hw S, s.w.cell? ⟨w10.heap.size, 2, none⟩ = some (.int .i64 xo) := HK.out.1 ⟨w10.heap.size, 2, none⟩ _ HXc.lt HXc.c2
          have k9 : ∀ s : Hw S, s.w.cell? ⟨w10.heap.size, 3, none⟩ = some (.int .i64 xp) := HK.out.1 ⟨w10.heap.size, 3, none⟩ _ HXc.lt HXc.c3
          have k10 : ∀ s : Hw S, s.w.cell? ⟨w1.heap.size + 1, 0, none⟩ = some (.int .i64 mo) := HK.out.1 ⟨w1.heap.size + 1, 0, none⟩ _ H1.lt H1.c0
          have k11 : ∀ s : Hw S, s.w.cell? ⟨w1.heap.size + 1, 1, none⟩ = some (.int .i64 na) := HK.out.1 ⟨w1.heap.size + 1, 1, none⟩ _ H1.lt H1.c1
          have k12 : ∀ s : Hw S, s.w.cell? ⟨w1.heap.size + 1, 2, none⟩ = some (.int .i64 no) := HK.out.1 ⟨w1.heap.size + 1, 2, none⟩ _ H1.lt H1.c2
          have k13 : ∀ s : Hw S, s.w.cell? ⟨w1.heap.size + 1, 3, none⟩ = some (.int .i64 pu) := HK.out.1 ⟨w1.heap.size + 1, 3, none⟩ _ H1.lt H1.c3
          have k14 : ∀ s : Hw S, s.w.cell? ⟨w25.heap.size, 0, none⟩ = some (.int .i64 ym) := HK.out.1 ⟨w25.heap.size, 0, none⟩ _ HYa.lt HYa.c0
          have k15 : ∀ s : Hw S, s.w.cell? ⟨w25.heap.size, 1, none⟩ = some (.int .i64 yn) := HK.out.1 ⟨w25.heap.size, 1, none⟩ _ HYa.lt HYa.c1
          have k16 : ∀ s : Hw S, s.w.cell? ⟨w25.heap.size, 2, none⟩ = some (.int .i64 yo) := HK.out.1 ⟨w25.heap.size, 2, none⟩ _ HYa.lt HYa.c2
          have k17 : ∀ s : Hw S, s.w.cell? ⟨w25.heap.size, 3, none⟩ = some (.int .i64 yp) := HK.out.1 ⟨w25.heap.size, 3, none⟩ _ HYa.lt HYa.c3
          have k18 : ∀ s : Hw S, s.w.cell? ⟨w27.heap.size, 0, none⟩ = some (.int .i64 ym) := HK.out.1 ⟨w27.heap.size, 0, none⟩ _ HYc.lt HYc.c0
          have k19 : ∀ s : Hw S, s.w.cell? ⟨w27.heap.size, 1, none⟩ = some (.int .i64 yn) := HK.out.1 ⟨w27.heap.size, 1, none⟩ _ HYc.lt HYc.c1
          have k20 : ∀ s : Hw S, s.w.cell? ⟨w27.heap.size, 2, none⟩ = some (.int .i64 yo) := HK.out.1 ⟨w27.heap.size, 2, none⟩ _ HYc.lt HYc.c2
          have k21 : ∀ s : Hw S, s.w.cell? ⟨w27.heap.size, 3, none⟩ = some (.int .i64 yp) := HK.out.1 ⟨w27.heap.size, 3, none⟩ _ HYc.lt HYc.c3
          have HRI : Hid (∀ s : Hw S, RowN s.w.heap.size s.w air Ar) := fun s => Oir.rowAt.grown (HK.out.2.2.2 s)
          have HRS : Hid (∀ s : Hw S, RowN s.w.heap.size s.w asr Ar) := fun s => Osr.rowAt.grown (HK.out.2.2.2 s)
          have HRV : Hid (∀ s : Hw S, RowI s.w.heap.size s.w av _) := fun s => OV.rowAt.grown (HK.out.2.2.2 s)
          have HRZ : Hid (∀ s : Hw S, RowI s.w.heap.size s.w az _) := fun s => OZ.all.grown (HK.out.2.2.2 s)
          have HRU : Hid (∀ s : Hw S, RowI s.w.heap.size s.w au _) := fun s => OU.rowAt.grown (HK.out.2.2.2 s)
          have hkk : ∀ (s : Hw S) w', Below s.w.heap.size s.w w' → S w' := HK.out.2.1
          have hV2 : V.length ≤ 2097152 := by omega
          clear H1 Oir Bir Osr Bsr HXa HXc OU OV OZ HYa HYc
          refine wp_region_heldF (S := S) hS0 ?_
          simp only [List.append_eq, List.cons_append, List.nil_append]
          repeat (go_big_quiet_step (first | (with_reducible exact held_sameA hAr HRI HRS hkk) | (with_reducible exact held_sameI hV2 HRV HRZ hkk) | (with_reducible exact held_sameI hV2 HRV HRU hkk)))
          refine wpQuiet_nil ?_
          rintro _ ⟨sw, rfl⟩
          have hb := HK.out.2.2.2 sw
          have HE : Hid (Below w.heap.size w sw.w) := HB.out.trans (hb.mono HB.out.size)
          clear hb
          go_wp2
          go_ret
          exact ⟨rfl, HE.out⟩
  · have hd : decide ((1048576 : Int) < (len0 : Int)) = true := by simp; omega
    clear hcode
    go_enter Try.func6, Try.ntmps6
    go_wp2_with fail
    refine (big_any _ _ _ _).mono ?_
    rintro e wz ⟨rfl, rfl⟩
    rw [hd]
    go_wp2
    go_ret
    exact ⟨rfl, Below.refl _ _⟩

theorem laidOut : laidOutB Try.prog = true := by kernel_rfl
set_option maxRecDepth 100000 in
theorem lifted (os : Os) (started : os.Started) (H : Type) (enc : TypeId × Value → H) :
    ReturnsInHanded {} Try.checked os 6 .any (Rows.fnHellosSpec.pre6 enc Try.prog Try.f6 Rows.fnHellosRow.domain false) (Rows.fnHellosSpec.post enc Try.prog Try.f6 false true false false) := by
  refine returnsInHanded_of_change (C := Try.checked) own started (by kernel_rfl) Try.func6
    (ChangeSpec.witness6 (enc := enc) (C := Try.checked) false ⟨#[], #[.slice none 0 0], []⟩ 8 (by kernel_rfl) (by kernel_rfl) (by kernel_rfl) (by kernel_rfl)) ?_
  intro W base args ds gs before hval0 hW hcnd _
  have hval : ∀ (j : Nat) t v, Try.f6.params[j]? = some t → args[j]? = some v → Value.okWide Try.prog W .any base t v := hval0
  have hW' := hW
  obtain ⟨p, q, hA0, hV, rfl, hfz, hnd⟩ := hW
  have hA : DataW.TrodAll enc Try.prog W 0 (fun _ => true) true Try.f6.params.toList args.toList ds p := hA0
  rw [Try.params6] at hA hval
  obtain ⟨v0, vs0, d0, ds0, p0, q0, hargs, rfl, rfl, h0, r0⟩ := trodAll_cons hA
  obtain ⟨rfl, rfl, rfl⟩ := trodAll_nil r0
  obtain rfl : args = #[v0] := by cases args; simp_all
  obtain ⟨rfl, rfl⟩ := trodVars_none hV
  obtain ⟨a0, len0, cap0, rfl⟩ := okWide_slice Try.underlying47 (hval 0 47 v0 rfl rfl)
  have k0 := h0
  have lt0 : ∀ x ∈ p0, x.block < W.heap.size := by obtain ⟨m, hm⟩ := k0; exact DataW.trod_lt m _ _ _ hm
  clear hA0 hval0
  refine (walk a0 len0 cap0  W (code_of h0)).mono fun e W' ⟨he, bel⟩ => ?_
  subst he
  exact ⟨_, rfl, _, _, _, [], _, [], hW', trodAll_mk1 (shut_bool Try.underlying4 _), (trodAll_cons_mk (Below.trod laidOut (by kernel_rfl) (of_decide_eq_true (by kernel_rfl)) k0 bel lt0) trodAll_mk0), rfl, bel.frame _, fun h => by cases h⟩

theorem over : Rows.fnHellosRow.holds Try.pinned (OpenSpec.ofChange Rows.fnHellosSpec) :=
  OpenClaim.holds_of_wide 6 Try.f6 rfl rfl rfl rfl rfl rfl rfl ⟨rfl, rfl, rfl, rfl, rfl⟩ rfl rfl rfl rfl rfl (by kernel_rfl) Try.func6 (by kernel_rfl)
    (of_decide_eq_true (by kernel_rfl)) (by unfold Func.isWrapper; first | (rw [if_pos (by decide +kernel)]; kernel_rfl) | (rw [if_neg (by decide +kernel)]; exact ⟨rfl, rfl⟩))
    (fun os started H enc _ => lifted os started H enc)
end fnHellos

theorem fnHellos_holds : Rows.FnHellosSaid := fnHellos.over
#print axioms fnHellos_holds
end Go.Proofs.Ytlecpjgeaigjkaa
