/- For every code: what HandSecret, SideKey, DoneMac, AppSecret and EpochSecret of the program tell of drawn terms, right or not, is what the specification's tell. No condition. -/
import Derived.Test.YtffnadnndmmliaaRows
import Derived.Test.YtffnadnndmmliaaDrawS6
import Derived.Test.YtffnadnndmmliaaSec6
import Derived.Test.YtffnadnndmmliaaImplS6
import Derived.Test.YtffnadnndmmliaaKeptS
import Derived.Test.YtffnadnndmmliaaTermAt
import Derived.Test.YtffnadnndmmliaaLawKeep
import Derived.Test.YtffnadnndmmliaaLawArena2
import Derived.Test.YtffnadnndmmliaaLawClip
import Derived.WalkKit
import Derived.ProofKit
import Derived.OpenShut
import Derived.ShutString
import Derived.ChangeOld
import Derived.PlainAid
namespace Go.Proofs.Ytffnadnndmmliaa
namespace fnSecretsTold
open Go.ChangeShapes Go.WideShapes Go.ChangeAt Go.RowKit Go.PlainAid
open Go.ChangeMaps (open_string shut_string)
set_option linter.unusedVariables false

theorem own : ownKnob Try.prog.godebug = none := by kernel_rfl

theorem wf_of {x : Int} (h : -1000 ≤ x ∧ x ≤ 1000) : (Lit.int .i64 x).wf = true := by
  have h1 : IntKind.i64.min = -9223372036854775808 := rfl
  have h2 : IntKind.i64.max = 9223372036854775807 := rfl
  simp [Lit.wf, h1, h2]; omega
set_option maxHeartbeats 6400000 in
set_option maxRecDepth 20000 in
theorem walk (a0 : Option Addr) (len0 cap0 : Nat) (w : World) (hcode : len0 ≤ 1048576 → CodeIn w.heap.size w a0 len0) :
    Calls Try.prog 8 #[.slice a0 len0 cap0] w fun e w' => e = .returned (.bool true) ∧ Below w.heap.size w w' := by
  by_cases hbig : len0 ≤ 1048576
  · have HC : Hid (CodeIn w.heap.size w a0 len0) := hcode hbig
    have HB : Hid (Below w.heap.size w w) := Below.refl _ _
    have hd : decide ((1048576 : Int) < (len0 : Int)) = false := by simp; omega
    clear hcode hbig
    go_enter Try.func8, Try.ntmps8
    go_wp2_with fail
    refine (big_any _ _ _ _).mono ?_
    rintro e wz ⟨rfl, rfl⟩
    rw [hd]
    clear hd
    go_wp2_with fail
    refine (drawHand_any _ _ _ _ HC.out).mono ?_
    rintro e w1 ⟨v1, ns1, x, y, z, rfl, hn1, hn2, hfit, hx1, hx2, hy1, hy2, hz1, hz2, ho, hb⟩
    obtain ⟨a1, c1, rfl, -, -⟩ := ho.row
    have O10 := Own.made ho
    replace HB : Hid (Below w.heap.size w (w1)) := HB.out.trans (hb.mono HB.out.size)
    replace HC : Hid (CodeIn (w1).heap.size (w1) a0 len0) := codeIn_later HC.out hb
    have O1 := O10
    clear ho hb O10
    have hbb : Below w1.heap.size w1 (w1.alloc (.cells #[.slice a1 ns1.length c1] 28)) := (Below.refl _ _).alloc (Nat.le_refl _) _
    replace O1 := O1.next hbb
    replace HB : Hid (Below w.heap.size w (w1.alloc (.cells #[.slice a1 ns1.length c1] 28))) := HB.out.trans (hbb.mono HB.out.size)
    replace HC : Hid (CodeIn (w1.alloc (.cells #[.slice a1 ns1.length c1] 28)).heap.size (w1.alloc (.cells #[.slice a1 ns1.length c1] 28)) a0 len0) := codeIn_later HC.out hbb
    have B1 : Var w1.heap.size (.slice a1 ns1.length c1) (w1.alloc (.cells #[.slice a1 ns1.length c1] 28)) := Var.made
    clear hbb
    obtain ⟨Ah, Kh, HIh, HSh, hAh⟩ : ∃ (Ah : List Nd) (Kh : Int), Hid (∀ (a : Option Addr) (cap : Nat) (w : World), AddrN a cap → RowN w.heap.size w a ns1 → Calls Try.prog 46 #[.agg #[.slice a ns1.length cap], .int .i64 x, .int .i64 y, .int .i64 z] w fun e w' => ∃ v, e = .returned (.tuple #[.agg #[v], .int .i64 Kh]) ∧ OwnC w.heap.size w' v Ah ∧ Below w.heap.size w w') ∧ Hid (∀ (a : Option Addr) (cap : Nat) (w : World), AddrN a cap → RowN w.heap.size w a ns1 → Calls Try.prog 49 #[.agg #[.slice a ns1.length cap], .int .i64 x, .int .i64 y, .int .i64 z] w fun e w' => ∃ v, e = .returned (.tuple #[.agg #[v], .int .i64 Kh]) ∧ OwnN w.heap.size w' v Ah ∧ Below w.heap.size w w') ∧ Ah.length ≤ 1048576 :=
      ⟨keptA ns1 (handA ns1 x y z) (handK ns1 x y z), handK ns1 x y z, fun a cap w ha hr => implHand_any a cap ns1 x y z w (by omega) hfit (wf_of (by omega)) (wf_of (by omega)) (wf_of (by omega)) ha hr, fun a cap w ha hr => specHand_any a cap ns1 x y z w (by omega) ha hr, keptA_le (by omega) (handA_le (by omega))⟩
    go_wp2_with fail
    generalize w1.alloc (.cells #[.slice a1 ns1.length c1] 28) = w2 at O1 B1 HB HC ⊢
    refine (HIh.out _ _ _ O1.rowIs O1.rowAt).mono ?_
    rintro e w3 ⟨vih, rfl, ho, hb⟩
    obtain ⟨aih, cih, pih, rfl, -, ho⟩ := ho
    have Oih0 := Own.made ho
    replace O1 := O1.next hb
    replace B1 := B1.next hb
    replace HB : Hid (Below w.heap.size w (w3)) := HB.out.trans (hb.mono HB.out.size)
    replace HC : Hid (CodeIn (w3).heap.size (w3) a0 len0) := codeIn_later HC.out hb
    have Oih := Oih0
    clear ho hb Oih0 HIh
    have hbb : Below w3.heap.size w3 (w3.alloc (.cells #[.slice aih Ah.length cih] 28)) := (Below.refl _ _).alloc (Nat.le_refl _) _
    replace O1 := O1.next hbb
    replace B1 := B1.next hbb
    replace Oih := Oih.next hbb
    replace HB : Hid (Below w.heap.size w (w3.alloc (.cells #[.slice aih Ah.length cih] 28))) := HB.out.trans (hbb.mono HB.out.size)
    replace HC : Hid (CodeIn (w3.alloc (.cells #[.slice aih Ah.length cih] 28)).heap.size (w3.alloc (.cells #[.slice aih Ah.length cih] 28)) a0 len0) := codeIn_later HC.out hbb
    have Bih : Var w3.heap.size (.slice aih Ah.length cih) (w3.alloc (.cells #[.slice aih Ah.length cih] 28)) := Var.made
    clear hbb
    have q0 := B1.c
    go_wp2_with fail
    clear q0
    generalize w3.alloc (.cells #[.slice aih Ah.length cih] 28) = w4 at O1 B1 Oih Bih HB HC ⊢
    refine (HSh.out _ _ _ O1.rowIs O1.rowAt).mono ?_
    rintro e w5 ⟨vsh, rfl, ho, hb⟩
    obtain ⟨ash, csh, rfl, -, -⟩ := ho.row
    have Osh0 := Own.made ho
    replace O1 := O1.next hb
    replace B1 := B1.next hb
    replace Oih := Oih.next hb
    replace Bih := Bih.next hb
    replace HB : Hid (Below w.heap.size w (w5)) := HB.out.trans (hb.mono HB.out.size)
    replace HC : Hid (CodeIn (w5).heap.size (w5) a0 len0) := codeIn_later HC.out hb
    have Osh := Osh0
    clear ho hb Osh0 HSh
    have hbb : Below w5.heap.size w5 (w5.alloc (.cells #[.slice ash Ah.length csh] 28)) := (Below.refl _ _).alloc (Nat.le_refl _) _
    replace O1 := O1.next hbb
    replace B1 := B1.next hbb
    replace Oih := Oih.next hbb
    replace Bih := Bih.next hbb
    replace Osh := Osh.next hbb
    replace HB : Hid (Below w.heap.size w (w5.alloc (.cells #[.slice ash Ah.length csh] 28))) := HB.out.trans (hbb.mono HB.out.size)
    replace HC : Hid (CodeIn (w5.alloc (.cells #[.slice ash Ah.length csh] 28)).heap.size (w5.alloc (.cells #[.slice ash Ah.length csh] 28)) a0 len0) := codeIn_later HC.out hbb
    have Bsh : Var w5.heap.size (.slice ash Ah.length csh) (w5.alloc (.cells #[.slice ash Ah.length csh] 28)) := Var.made
    clear hbb
    obtain ⟨As, Ks, HIs, HSs, hAs⟩ : ∃ (As : List Nd) (Ks : Int), Hid (∀ (a : Option Addr) (cap : Nat) (w : World), AddrN a cap → RowN w.heap.size w a ns1 → Calls Try.prog 43 #[.agg #[.slice a ns1.length cap], .int .i64 x, .int .i64 y] w fun e w' => ∃ v, e = .returned (.tuple #[.agg #[v], .int .i64 Ks]) ∧ OwnC w.heap.size w' v As ∧ Below w.heap.size w w') ∧ Hid (∀ (a : Option Addr) (cap : Nat) (w : World), AddrN a cap → RowN w.heap.size w a ns1 → Calls Try.prog 50 #[.agg #[.slice a ns1.length cap], .int .i64 x, .int .i64 y] w fun e w' => ∃ v, e = .returned (.tuple #[.agg #[v], .int .i64 Ks]) ∧ OwnN w.heap.size w' v As ∧ Below w.heap.size w w') ∧ As.length ≤ 1048576 :=
      ⟨keptA ns1 (sideA ns1 x y) (sideK ns1 x y), sideK ns1 x y, fun a cap w ha hr => implSide_any a cap ns1 x y w (by omega) hfit (wf_of (by omega)) (wf_of (by omega)) ha hr, fun a cap w ha hr => specSide_any a cap ns1 x y w (by omega) ha hr, keptA_le (by omega) (sideA_le (by omega))⟩
    have q0 := B1.c
    go_wp2_with fail
    clear q0
    generalize w5.alloc (.cells #[.slice ash Ah.length csh] 28) = w6 at O1 B1 Oih Bih Osh Bsh HB HC ⊢
    refine (HIs.out _ _ _ O1.rowIs O1.rowAt).mono ?_
    rintro e w7 ⟨vis, rfl, ho, hb⟩
    obtain ⟨ais, cis, pis, rfl, -, ho⟩ := ho
    have Ois0 := Own.made ho
    replace O1 := O1.next hb
    replace B1 := B1.next hb
    replace Oih := Oih.next hb
    replace Bih := Bih.next hb
    replace Osh := Osh.next hb
    replace Bsh := Bsh.next hb
    replace HB : Hid (Below w.heap.size w (w7)) := HB.out.trans (hb.mono HB.out.size)
    replace HC : Hid (CodeIn (w7).heap.size (w7) a0 len0) := codeIn_later HC.out hb
    have Ois := Ois0
    clear ho hb Ois0 HIs
    have hbb : Below w7.heap.size w7 (w7.alloc (.cells #[.slice ais As.length cis] 28)) := (Below.refl _ _).alloc (Nat.le_refl _) _
    replace O1 := O1.next hbb
    replace B1 := B1.next hbb
    replace Oih := Oih.next hbb
    replace Bih := Bih.next hbb
    replace Osh := Osh.next hbb
    replace Bsh := Bsh.next hbb
    replace Ois := Ois.next hbb
    replace HB : Hid (Below w.heap.size w (w7.alloc (.cells #[.slice ais As.length cis] 28))) := HB.out.trans (hbb.mono HB.out.size)
    replace HC : Hid (CodeIn (w7.alloc (.cells #[.slice ais As.length cis] 28)).heap.size (w7.alloc (.cells #[.slice ais As.length cis] 28)) a0 len0) := codeIn_later HC.out hbb
    have Bis : Var w7.heap.size (.slice ais As.length cis) (w7.alloc (.cells #[.slice ais As.length cis] 28)) := Var.made
    clear hbb
    have q0 := B1.c
    go_wp2_with fail
    clear q0
    generalize w7.alloc (.cells #[.slice ais As.length cis] 28) = w8 at O1 B1 Oih Bih Osh Bsh Ois Bis HB HC ⊢
    refine (HSs.out _ _ _ O1.rowIs O1.rowAt).mono ?_
    rintro e w9 ⟨vss, rfl, ho, hb⟩
    obtain ⟨ass, css, rfl, -, -⟩ := ho.row
    have Oss0 := Own.made ho
    replace O1 := O1.next hb
    replace B1 := B1.next hb
    replace Oih := Oih.next hb
    replace Bih := Bih.next hb
    replace Osh := Osh.next hb
    replace Bsh := Bsh.next hb
    replace Ois := Ois.next hb
    replace Bis := Bis.next hb
    replace HB : Hid (Below w.heap.size w (w9)) := HB.out.trans (hb.mono HB.out.size)
    replace HC : Hid (CodeIn (w9).heap.size (w9) a0 len0) := codeIn_later HC.out hb
    have Oss := Oss0
    clear ho hb Oss0 HSs
    have hbb : Below w9.heap.size w9 (w9.alloc (.cells #[.slice ass As.length css] 28)) := (Below.refl _ _).alloc (Nat.le_refl _) _
    replace O1 := O1.next hbb
    replace B1 := B1.next hbb
    replace Oih := Oih.next hbb
    replace Bih := Bih.next hbb
    replace Osh := Osh.next hbb
    replace Bsh := Bsh.next hbb
    replace Ois := Ois.next hbb
    replace Bis := Bis.next hbb
    replace Oss := Oss.next hbb
    replace HB : Hid (Below w.heap.size w (w9.alloc (.cells #[.slice ass As.length css] 28))) := HB.out.trans (hbb.mono HB.out.size)
    replace HC : Hid (CodeIn (w9.alloc (.cells #[.slice ass As.length css] 28)).heap.size (w9.alloc (.cells #[.slice ass As.length css] 28)) a0 len0) := codeIn_later HC.out hbb
    have Bss : Var w9.heap.size (.slice ass As.length css) (w9.alloc (.cells #[.slice ass As.length css] 28)) := Var.made
    clear hbb
    obtain ⟨Ad, Kd, HId, HSd, hAd⟩ : ∃ (Ad : List Nd) (Kd : Int), Hid (∀ (a : Option Addr) (cap : Nat) (w : World), AddrN a cap → RowN w.heap.size w a ns1 → Calls Try.prog 45 #[.agg #[.slice a ns1.length cap], .int .i64 x, .int .i64 y, .int .i64 z] w fun e w' => ∃ v, e = .returned (.tuple #[.agg #[v], .int .i64 Kd]) ∧ OwnC w.heap.size w' v Ad ∧ Below w.heap.size w w') ∧ Hid (∀ (a : Option Addr) (cap : Nat) (w : World), AddrN a cap → RowN w.heap.size w a ns1 → Calls Try.prog 51 #[.agg #[.slice a ns1.length cap], .int .i64 x, .int .i64 y, .int .i64 z] w fun e w' => ∃ v, e = .returned (.tuple #[.agg #[v], .int .i64 Kd]) ∧ OwnN w.heap.size w' v Ad ∧ Below w.heap.size w w') ∧ Ad.length ≤ 1048576 :=
      ⟨keptA ns1 (overA ns1 9 x (IntKind.i64.wrap (10 + y)) z) (overK ns1 9 x (IntKind.i64.wrap (10 + y)) z), overK ns1 9 x (IntKind.i64.wrap (10 + y)) z, fun a cap w ha hr => implDone_any a cap ns1 x y z w (by omega) hfit (wf_of (by omega)) (wf_of (by omega)) (wf_of (by omega)) ha hr, fun a cap w ha hr => specDone_any a cap ns1 x y z w (by omega) ha hr, keptA_le (by omega) (overA_le (by omega))⟩
    have q0 := B1.c
    go_wp2_with fail
    clear q0
    generalize w9.alloc (.cells #[.slice ass As.length css] 28) = w10 at O1 B1 Oih Bih Osh Bsh Ois Bis Oss Bss HB HC ⊢
    refine (HId.out _ _ _ O1.rowIs O1.rowAt).mono ?_
    rintro e w11 ⟨vid, rfl, ho, hb⟩
    obtain ⟨aid, cid, pid, rfl, -, ho⟩ := ho
    have Oid0 := Own.made ho
    replace O1 := O1.next hb
    replace B1 := B1.next hb
    replace Oih := Oih.next hb
    replace Bih := Bih.next hb
    replace Osh := Osh.next hb
    replace Bsh := Bsh.next hb
    replace Ois := Ois.next hb
    replace Bis := Bis.next hb
    replace Oss := Oss.next hb
    replace Bss := Bss.next hb
    replace HB : Hid (Below w.heap.size w (w11)) := HB.out.trans (hb.mono HB.out.size)
    replace HC : Hid (CodeIn (w11).heap.size (w11) a0 len0) := codeIn_later HC.out hb
    have Oid := Oid0
    clear ho hb Oid0 HId
    have hbb : Below w11.heap.size w11 (w11.alloc (.cells #[.slice aid Ad.length cid] 28)) := (Below.refl _ _).alloc (Nat.le_refl _) _
    replace O1 := O1.next hbb
    replace B1 := B1.next hbb
    replace Oih := Oih.next hbb
    replace Bih := Bih.next hbb
    replace Osh := Osh.next hbb
    replace Bsh := Bsh.next hbb
    replace Ois := Ois.next hbb
    replace Bis := Bis.next hbb
    replace Oss := Oss.next hbb
    replace Bss := Bss.next hbb
    replace Oid := Oid.next hbb
    replace HB : Hid (Below w.heap.size w (w11.alloc (.cells #[.slice aid Ad.length cid] 28))) := HB.out.trans (hbb.mono HB.out.size)
    replace HC : Hid (CodeIn (w11.alloc (.cells #[.slice aid Ad.length cid] 28)).heap.size (w11.alloc (.cells #[.slice aid Ad.length cid] 28)) a0 len0) := codeIn_later HC.out hbb
    have Bid : Var w11.heap.size (.slice aid Ad.length cid) (w11.alloc (.cells #[.slice aid Ad.length cid] 28)) := Var.made
    clear hbb
    have q0 := B1.c
    go_wp2_with fail
    clear q0
    generalize w11.alloc (.cells #[.slice aid Ad.length cid] 28) = w12 at O1 B1 Oih Bih Osh Bsh Ois Bis Oss Bss Oid Bid HB HC ⊢
    refine (HSd.out _ _ _ O1.rowIs O1.rowAt).mono ?_
    rintro e w13 ⟨vsd, rfl, ho, hb⟩
    obtain ⟨asd, csd, rfl, -, -⟩ := ho.row
    have Osd0 := Own.made ho
    replace O1 := O1.next hb
    replace B1 := B1.next hb
    replace Oih := Oih.next hb
    replace Bih := Bih.next hb
    replace Osh := Osh.next hb
    replace Bsh := Bsh.next hb
    replace Ois := Ois.next hb
    replace Bis := Bis.next hb
    replace Oss := Oss.next hb
    replace Bss := Bss.next hb
    replace Oid := Oid.next hb
    replace Bid := Bid.next hb
    replace HB : Hid (Below w.heap.size w (w13)) := HB.out.trans (hb.mono HB.out.size)
    replace HC : Hid (CodeIn (w13).heap.size (w13) a0 len0) := codeIn_later HC.out hb
    have Osd := Osd0
    clear ho hb Osd0 HSd
    have hbb : Below w13.heap.size w13 (w13.alloc (.cells #[.slice asd Ad.length csd] 28)) := (Below.refl _ _).alloc (Nat.le_refl _) _
    replace O1 := O1.next hbb
    replace B1 := B1.next hbb
    replace Oih := Oih.next hbb
    replace Bih := Bih.next hbb
    replace Osh := Osh.next hbb
    replace Bsh := Bsh.next hbb
    replace Ois := Ois.next hbb
    replace Bis := Bis.next hbb
    replace Oss := Oss.next hbb
    replace Bss := Bss.next hbb
    replace Oid := Oid.next hbb
    replace Bid := Bid.next hbb
    replace Osd := Osd.next hbb
    replace HB : Hid (Below w.heap.size w (w13.alloc (.cells #[.slice asd Ad.length csd] 28))) := HB.out.trans (hbb.mono HB.out.size)
    replace HC : Hid (CodeIn (w13.alloc (.cells #[.slice asd Ad.length csd] 28)).heap.size (w13.alloc (.cells #[.slice asd Ad.length csd] 28)) a0 len0) := codeIn_later HC.out hbb
    have Bsd : Var w13.heap.size (.slice asd Ad.length csd) (w13.alloc (.cells #[.slice asd Ad.length csd] 28)) := Var.made
    clear hbb
    obtain ⟨Aa, Ka, HIa, HSa, hAa⟩ : ∃ (Aa : List Nd) (Ka : Int), Hid (∀ (a : Option Addr) (cap : Nat) (w : World), AddrN a cap → RowN w.heap.size w a ns1 → Calls Try.prog 44 #[.agg #[.slice a ns1.length cap], .int .i64 x, .int .i64 y] w fun e w' => ∃ v, e = .returned (.tuple #[.agg #[v], .int .i64 Ka]) ∧ OwnC w.heap.size w' v Aa ∧ Below w.heap.size w w') ∧ Hid (∀ (a : Option Addr) (cap : Nat) (w : World), AddrN a cap → RowN w.heap.size w a ns1 → Calls Try.prog 52 #[.agg #[.slice a ns1.length cap], .int .i64 x, .int .i64 y] w fun e w' => ∃ v, e = .returned (.tuple #[.agg #[v], .int .i64 Ka]) ∧ OwnN w.heap.size w' v Aa ∧ Below w.heap.size w w') ∧ Aa.length ≤ 1048576 :=
      ⟨keptA ns1 (overA ns1 4 x 20 y) (overK ns1 4 x 20 y), overK ns1 4 x 20 y, fun a cap w ha hr => implApp_any a cap ns1 x y w (by omega) hfit (wf_of (by omega)) (wf_of (by omega)) ha hr, fun a cap w ha hr => specApp_any a cap ns1 x y w (by omega) ha hr, keptA_le (by omega) (overA_le (by omega))⟩
    have q0 := B1.c
    go_wp2_with fail
    clear q0
    generalize w13.alloc (.cells #[.slice asd Ad.length csd] 28) = w14 at O1 B1 Oih Bih Osh Bsh Ois Bis Oss Bss Oid Bid Osd Bsd HB HC ⊢
    refine (HIa.out _ _ _ O1.rowIs O1.rowAt).mono ?_
    rintro e w15 ⟨via, rfl, ho, hb⟩
    obtain ⟨aia, cia, pia, rfl, -, ho⟩ := ho
    have Oia0 := Own.made ho
    replace O1 := O1.next hb
    replace B1 := B1.next hb
    replace Oih := Oih.next hb
    replace Bih := Bih.next hb
    replace Osh := Osh.next hb
    replace Bsh := Bsh.next hb
    replace Ois := Ois.next hb
    replace Bis := Bis.next hb
    replace Oss := Oss.next hb
    replace Bss := Bss.next hb
    replace Oid := Oid.next hb
    replace Bid := Bid.next hb
    replace Osd := Osd.next hb
    replace Bsd := Bsd.next hb
    replace HB : Hid (Below w.heap.size w (w15)) := HB.out.trans (hb.mono HB.out.size)
    replace HC : Hid (CodeIn (w15).heap.size (w15) a0 len0) := codeIn_later HC.out hb
    have Oia := Oia0
    clear ho hb Oia0 HIa
    have hbb : Below w15.heap.size w15 (w15.alloc (.cells #[.slice aia Aa.length cia] 28)) := (Below.refl _ _).alloc (Nat.le_refl _) _
    replace O1 := O1.next hbb
    replace B1 := B1.next hbb
    replace Oih := Oih.next hbb
    replace Bih := Bih.next hbb
    replace Osh := Osh.next hbb
    replace Bsh := Bsh.next hbb
    replace Ois := Ois.next hbb
    replace Bis := Bis.next hbb
    replace Oss := Oss.next hbb
    replace Bss := Bss.next hbb
    replace Oid := Oid.next hbb
    replace Bid := Bid.next hbb
    replace Osd := Osd.next hbb
    replace Bsd := Bsd.next hbb
    replace Oia := Oia.next hbb
    replace HB : Hid (Below w.heap.size w (w15.alloc (.cells #[.slice aia Aa.length cia] 28))) := HB.out.trans (hbb.mono HB.out.size)
    replace HC : Hid (CodeIn (w15.alloc (.cells #[.slice aia Aa.length cia] 28)).heap.size (w15.alloc (.cells #[.slice aia Aa.length cia] 28)) a0 len0) := codeIn_later HC.out hbb
    have Bia : Var w15.heap.size (.slice aia Aa.length cia) (w15.alloc (.cells #[.slice aia Aa.length cia] 28)) := Var.made
    clear hbb
    have q0 := B1.c
    go_wp2_with fail
    clear q0
    generalize w15.alloc (.cells #[.slice aia Aa.length cia] 28) = w16 at O1 B1 Oih Bih Osh Bsh Ois Bis Oss Bss Oid Bid Osd Bsd Oia Bia HB HC ⊢
    refine (HSa.out _ _ _ O1.rowIs O1.rowAt).mono ?_
    rintro e w17 ⟨vsa, rfl, ho, hb⟩
    obtain ⟨asa, csa, rfl, -, -⟩ := ho.row
    have Osa0 := Own.made ho
    replace O1 := O1.next hb
    replace B1 := B1.next hb
    replace Oih := Oih.next hb
    replace Bih := Bih.next hb
    replace Osh := Osh.next hb
    replace Bsh := Bsh.next hb
    replace Ois := Ois.next hb
    replace Bis := Bis.next hb
    replace Oss := Oss.next hb
    replace Bss := Bss.next hb
    replace Oid := Oid.next hb
    replace Bid := Bid.next hb
    replace Osd := Osd.next hb
    replace Bsd := Bsd.next hb
    replace Oia := Oia.next hb
    replace Bia := Bia.next hb
    replace HB : Hid (Below w.heap.size w (w17)) := HB.out.trans (hb.mono HB.out.size)
    replace HC : Hid (CodeIn (w17).heap.size (w17) a0 len0) := codeIn_later HC.out hb
    have Osa := Osa0
    clear ho hb Osa0 HSa
    have hbb : Below w17.heap.size w17 (w17.alloc (.cells #[.slice asa Aa.length csa] 28)) := (Below.refl _ _).alloc (Nat.le_refl _) _
    replace O1 := O1.next hbb
    replace B1 := B1.next hbb
    replace Oih := Oih.next hbb
    replace Bih := Bih.next hbb
    replace Osh := Osh.next hbb
    replace Bsh := Bsh.next hbb
    replace Ois := Ois.next hbb
    replace Bis := Bis.next hbb
    replace Oss := Oss.next hbb
    replace Bss := Bss.next hbb
    replace Oid := Oid.next hbb
    replace Bid := Bid.next hbb
    replace Osd := Osd.next hbb
    replace Bsd := Bsd.next hbb
    replace Oia := Oia.next hbb
    replace Bia := Bia.next hbb
    replace Osa := Osa.next hbb
    replace HB : Hid (Below w.heap.size w (w17.alloc (.cells #[.slice asa Aa.length csa] 28))) := HB.out.trans (hbb.mono HB.out.size)
    replace HC : Hid (CodeIn (w17.alloc (.cells #[.slice asa Aa.length csa] 28)).heap.size (w17.alloc (.cells #[.slice asa Aa.length csa] 28)) a0 len0) := codeIn_later HC.out hbb
    have Bsa : Var w17.heap.size (.slice asa Aa.length csa) (w17.alloc (.cells #[.slice asa Aa.length csa] 28)) := Var.made
    clear hbb
    clear O1 B1
    go_wp2_with fail
    generalize w17.alloc (.cells #[.slice asa Aa.length csa] 28) = w18 at Oih Bih Osh Bsh Ois Bis Oss Bss Oid Bid Osd Bsd Oia Bia Osa Bsa HB HC ⊢
    refine (drawEpoch_any _ _ _ _ HC.out).mono ?_
    rintro e w19 ⟨v2, ns2, r, s, rfl, hm1, hm2, hfit2, hr1, hr2, hs1, hs2, ho, hb⟩
    obtain ⟨a2, c2, rfl, -, -⟩ := ho.row
    have O20 := Own.made ho
    replace Oih := Oih.next hb
    replace Bih := Bih.next hb
    replace Osh := Osh.next hb
    replace Bsh := Bsh.next hb
    replace Ois := Ois.next hb
    replace Bis := Bis.next hb
    replace Oss := Oss.next hb
    replace Bss := Bss.next hb
    replace Oid := Oid.next hb
    replace Bid := Bid.next hb
    replace Osd := Osd.next hb
    replace Bsd := Bsd.next hb
    replace Oia := Oia.next hb
    replace Bia := Bia.next hb
    replace Osa := Osa.next hb
    replace Bsa := Bsa.next hb
    replace HB : Hid (Below w.heap.size w (w19)) := HB.out.trans (hb.mono HB.out.size)
    replace HC : Hid (CodeIn (w19).heap.size (w19) a0 len0) := codeIn_later HC.out hb
    have O2 := O20
    clear ho hb O20
    have hbb : Below w19.heap.size w19 (w19.alloc (.cells #[.slice a2 ns2.length c2] 28)) := (Below.refl _ _).alloc (Nat.le_refl _) _
    replace Oih := Oih.next hbb
    replace Bih := Bih.next hbb
    replace Osh := Osh.next hbb
    replace Bsh := Bsh.next hbb
    replace Ois := Ois.next hbb
    replace Bis := Bis.next hbb
    replace Oss := Oss.next hbb
    replace Bss := Bss.next hbb
    replace Oid := Oid.next hbb
    replace Bid := Bid.next hbb
    replace Osd := Osd.next hbb
    replace Bsd := Bsd.next hbb
    replace Oia := Oia.next hbb
    replace Bia := Bia.next hbb
    replace Osa := Osa.next hbb
    replace Bsa := Bsa.next hbb
    replace O2 := O2.next hbb
    replace HB : Hid (Below w.heap.size w (w19.alloc (.cells #[.slice a2 ns2.length c2] 28))) := HB.out.trans (hbb.mono HB.out.size)
    replace HC : Hid (CodeIn (w19.alloc (.cells #[.slice a2 ns2.length c2] 28)).heap.size (w19.alloc (.cells #[.slice a2 ns2.length c2] 28)) a0 len0) := codeIn_later HC.out hbb
    have B2 : Var w19.heap.size (.slice a2 ns2.length c2) (w19.alloc (.cells #[.slice a2 ns2.length c2] 28)) := Var.made
    clear hbb
    obtain ⟨Aq, Kq, HIq, HSq, hAq⟩ : ∃ (Aq : List Nd) (Kq : Int), Hid (∀ (a : Option Addr) (cap : Nat) (w : World), AddrN a cap → RowN w.heap.size w a ns2 → Calls Try.prog 41 #[.agg #[.slice a ns2.length cap], .int .i64 r, .int .i64 s] w fun e w' => ∃ v, e = .returned (.tuple #[.agg #[v], .int .i64 Kq]) ∧ OwnC w.heap.size w' v Aq ∧ Below w.heap.size w w') ∧ Hid (∀ (a : Option Addr) (cap : Nat) (w : World), AddrN a cap → RowN w.heap.size w a ns2 → Calls Try.prog 40 #[.agg #[.slice a ns2.length cap], .int .i64 r, .int .i64 s] w fun e w' => ∃ v, e = .returned (.tuple #[.agg #[v], .int .i64 Kq]) ∧ OwnN w.heap.size w' v Aq ∧ Below w.heap.size w w') ∧ Aq.length ≤ 1048576 :=
      ⟨keptA ns2 (epochA ns2 r s) (epochK ns2 r s), epochK ns2 r s, fun a cap w ha hr => implEpoch_any a cap ns2 r s w (by omega) hfit2 (wf_of (by omega)) (wf_of (by omega)) ha hr, fun a cap w ha hr => specEpoch_any a cap ns2 r s w (by omega) ha hr, keptA_le (by omega) (epochA_le (by omega))⟩
    go_wp2_with fail
    generalize w19.alloc (.cells #[.slice a2 ns2.length c2] 28) = w20 at Oih Bih Osh Bsh Ois Bis Oss Bss Oid Bid Osd Bsd Oia Bia Osa Bsa O2 B2 HB HC ⊢
    refine (HIq.out _ _ _ O2.rowIs O2.rowAt).mono ?_
    rintro e w21 ⟨viq, rfl, ho, hb⟩
    obtain ⟨aiq, ciq, piq, rfl, -, ho⟩ := ho
    have Oiq0 := Own.made ho
    replace Oih := Oih.next hb
    replace Bih := Bih.next hb
    replace Osh := Osh.next hb
    replace Bsh := Bsh.next hb
    replace Ois := Ois.next hb
    replace Bis := Bis.next hb
    replace Oss := Oss.next hb
    replace Bss := Bss.next hb
    replace Oid := Oid.next hb
    replace Bid := Bid.next hb
    replace Osd := Osd.next hb
    replace Bsd := Bsd.next hb
    replace Oia := Oia.next hb
    replace Bia := Bia.next hb
    replace Osa := Osa.next hb
    replace Bsa := Bsa.next hb
    replace O2 := O2.next hb
    replace B2 := B2.next hb
    replace HB : Hid (Below w.heap.size w (w21)) := HB.out.trans (hb.mono HB.out.size)
    replace HC : Hid (CodeIn (w21).heap.size (w21) a0 len0) := codeIn_later HC.out hb
    have Oiq := Oiq0
    clear ho hb Oiq0 HIq
    have hbb : Below w21.heap.size w21 (w21.alloc (.cells #[.slice aiq Aq.length ciq] 28)) := (Below.refl _ _).alloc (Nat.le_refl _) _
    replace Oih := Oih.next hbb
    replace Bih := Bih.next hbb
    replace Osh := Osh.next hbb
    replace Bsh := Bsh.next hbb
    replace Ois := Ois.next hbb
    replace Bis := Bis.next hbb
    replace Oss := Oss.next hbb
    replace Bss := Bss.next hbb
    replace Oid := Oid.next hbb
    replace Bid := Bid.next hbb
    replace Osd := Osd.next hbb
    replace Bsd := Bsd.next hbb
    replace Oia := Oia.next hbb
    replace Bia := Bia.next hbb
    replace Osa := Osa.next hbb
    replace Bsa := Bsa.next hbb
    replace O2 := O2.next hbb
    replace B2 := B2.next hbb
    replace Oiq := Oiq.next hbb
    replace HB : Hid (Below w.heap.size w (w21.alloc (.cells #[.slice aiq Aq.length ciq] 28))) := HB.out.trans (hbb.mono HB.out.size)
    replace HC : Hid (CodeIn (w21.alloc (.cells #[.slice aiq Aq.length ciq] 28)).heap.size (w21.alloc (.cells #[.slice aiq Aq.length ciq] 28)) a0 len0) := codeIn_later HC.out hbb
    have Biq : Var w21.heap.size (.slice aiq Aq.length ciq) (w21.alloc (.cells #[.slice aiq Aq.length ciq] 28)) := Var.made
    clear hbb
    have q0 := B2.c
    go_wp2_with fail
    clear q0
    generalize w21.alloc (.cells #[.slice aiq Aq.length ciq] 28) = w22 at Oih Bih Osh Bsh Ois Bis Oss Bss Oid Bid Osd Bsd Oia Bia Osa Bsa O2 B2 Oiq Biq HB HC ⊢
    refine (HSq.out _ _ _ O2.rowIs O2.rowAt).mono ?_
    rintro e w23 ⟨vsq, rfl, ho, hb⟩
    obtain ⟨asq, csq, rfl, -, -⟩ := ho.row
    have Osq0 := Own.made ho
    replace Oih := Oih.next hb
    replace Bih := Bih.next hb
    replace Osh := Osh.next hb
    replace Bsh := Bsh.next hb
    replace Ois := Ois.next hb
    replace Bis := Bis.next hb
    replace Oss := Oss.next hb
    replace Bss := Bss.next hb
    replace Oid := Oid.next hb
    replace Bid := Bid.next hb
    replace Osd := Osd.next hb
    replace Bsd := Bsd.next hb
    replace Oia := Oia.next hb
    replace Bia := Bia.next hb
    replace Osa := Osa.next hb
    replace Bsa := Bsa.next hb
    replace O2 := O2.next hb
    replace B2 := B2.next hb
    replace Oiq := Oiq.next hb
    replace Biq := Biq.next hb
    replace HB : Hid (Below w.heap.size w (w23)) := HB.out.trans (hb.mono HB.out.size)
    replace HC : Hid (CodeIn (w23).heap.size (w23) a0 len0) := codeIn_later HC.out hb
    have Osq := Osq0
    clear ho hb Osq0 HSq
    have hbb : Below w23.heap.size w23 (w23.alloc (.cells #[.slice asq Aq.length csq] 28)) := (Below.refl _ _).alloc (Nat.le_refl _) _
    replace Oih := Oih.next hbb
    replace Bih := Bih.next hbb
    replace Osh := Osh.next hbb
    replace Bsh := Bsh.next hbb
    replace Ois := Ois.next hbb
    replace Bis := Bis.next hbb
    replace Oss := Oss.next hbb
    replace Bss := Bss.next hbb
    replace Oid := Oid.next hbb
    replace Bid := Bid.next hbb
    replace Osd := Osd.next hbb
    replace Bsd := Bsd.next hbb
    replace Oia := Oia.next hbb
    replace Bia := Bia.next hbb
    replace Osa := Osa.next hbb
    replace Bsa := Bsa.next hbb
    replace O2 := O2.next hbb
    replace B2 := B2.next hbb
    replace Oiq := Oiq.next hbb
    replace Biq := Biq.next hbb
    replace Osq := Osq.next hbb
    replace HB : Hid (Below w.heap.size w (w23.alloc (.cells #[.slice asq Aq.length csq] 28))) := HB.out.trans (hbb.mono HB.out.size)
    replace HC : Hid (CodeIn (w23.alloc (.cells #[.slice asq Aq.length csq] 28)).heap.size (w23.alloc (.cells #[.slice asq Aq.length csq] 28)) a0 len0) := codeIn_later HC.out hbb
    have Bsq : Var w23.heap.size (.slice asq Aq.length csq) (w23.alloc (.cells #[.slice asq Aq.length csq] 28)) := Var.made
    clear hbb
    clear O2 B2
    clear hfit hfit2
    have q0 := Bih.c
    have q1 := Bsh.c
    go_wp2_with fail
    clear q0 q1
    generalize w23.alloc (.cells #[.slice asq Aq.length csq] 28) = w24 at Oih Bih Osh Bsh Ois Bis Oss Bss Oid Bid Osd Bsd Oia Bia Osa Bsa Oiq Biq Osq Bsq HB HC ⊢
    refine (sameA_same aih ash cih csh Ah _ (by omega) Oih.rowAt Osh.rowAt).mono ?_
    rintro e w25 ⟨rfl, hb⟩
    clear Oih Osh Bih Bsh
    replace Ois := Ois.next hb
    replace Bis := Bis.next hb
    replace Oss := Oss.next hb
    replace Bss := Bss.next hb
    replace Oid := Oid.next hb
    replace Bid := Bid.next hb
    replace Osd := Osd.next hb
    replace Bsd := Bsd.next hb
    replace Oia := Oia.next hb
    replace Bia := Bia.next hb
    replace Osa := Osa.next hb
    replace Bsa := Bsa.next hb
    replace Oiq := Oiq.next hb
    replace Biq := Biq.next hb
    replace Osq := Osq.next hb
    replace Bsq := Bsq.next hb
    replace HB : Hid (Below w.heap.size w (w25)) := HB.out.trans (hb.mono HB.out.size)
    replace HC : Hid (CodeIn (w25).heap.size (w25) a0 len0) := codeIn_later HC.out hb
    clear hb
    have q0 := Bis.c
    have q1 := Bss.c
    go_wp2_with fail
    clear q0 q1
    refine (sameA_same ais ass cis css As _ (by omega) Ois.rowAt Oss.rowAt).mono ?_
    rintro e w26 ⟨rfl, hb⟩
    clear Ois Oss Bis Bss
    replace Oid := Oid.next hb
    replace Bid := Bid.next hb
    replace Osd := Osd.next hb
    replace Bsd := Bsd.next hb
    replace Oia := Oia.next hb
    replace Bia := Bia.next hb
    replace Osa := Osa.next hb
    replace Bsa := Bsa.next hb
    replace Oiq := Oiq.next hb
    replace Biq := Biq.next hb
    replace Osq := Osq.next hb
    replace Bsq := Bsq.next hb
    replace HB : Hid (Below w.heap.size w (w26)) := HB.out.trans (hb.mono HB.out.size)
    replace HC : Hid (CodeIn (w26).heap.size (w26) a0 len0) := codeIn_later HC.out hb
    clear hb
    have q0 := Bid.c
    have q1 := Bsd.c
    go_wp2_with fail
    clear q0 q1
    refine (sameA_same aid asd cid csd Ad _ (by omega) Oid.rowAt Osd.rowAt).mono ?_
    rintro e w27 ⟨rfl, hb⟩
    clear Oid Osd Bid Bsd
    replace Oia := Oia.next hb
    replace Bia := Bia.next hb
    replace Osa := Osa.next hb
    replace Bsa := Bsa.next hb
    replace Oiq := Oiq.next hb
    replace Biq := Biq.next hb
    replace Osq := Osq.next hb
    replace Bsq := Bsq.next hb
    replace HB : Hid (Below w.heap.size w (w27)) := HB.out.trans (hb.mono HB.out.size)
    replace HC : Hid (CodeIn (w27).heap.size (w27) a0 len0) := codeIn_later HC.out hb
    clear hb
    have q0 := Bia.c
    have q1 := Bsa.c
    go_wp2_with fail
    clear q0 q1
    refine (sameA_same aia asa cia csa Aa _ (by omega) Oia.rowAt Osa.rowAt).mono ?_
    rintro e w28 ⟨rfl, hb⟩
    clear Oia Osa Bia Bsa
    replace Oiq := Oiq.next hb
    replace Biq := Biq.next hb
    replace Osq := Osq.next hb
    replace Bsq := Bsq.next hb
    replace HB : Hid (Below w.heap.size w (w28)) := HB.out.trans (hb.mono HB.out.size)
    replace HC : Hid (CodeIn (w28).heap.size (w28) a0 len0) := codeIn_later HC.out hb
    clear hb
    have q0 := Biq.c
    have q1 := Bsq.c
    go_wp2_with fail
    clear q0 q1
    refine (sameA_same aiq asq ciq csq Aq _ (by omega) Oiq.rowAt Osq.rowAt).mono ?_
    rintro e w29 ⟨rfl, hb⟩
    clear Oiq Osq Biq Bsq
    replace HB : Hid (Below w.heap.size w (w29)) := HB.out.trans (hb.mono HB.out.size)
    replace HC : Hid (CodeIn (w29).heap.size (w29) a0 len0) := codeIn_later HC.out hb
    clear hb
    go_wp2
    go_ret
    exact ⟨rfl, HB.out⟩
  · have hd : decide ((1048576 : Int) < (len0 : Int)) = true := by simp; omega
    clear hcode
    go_enter Try.func8, Try.ntmps8
    go_wp2_with fail
    refine (big_any _ _ _ _).mono ?_
    rintro e w1 ⟨rfl, rfl⟩
    rw [hd]
    go_wp2
    go_ret
    exact ⟨rfl, Below.refl _ _⟩

theorem laidOut : laidOutB Try.prog = true := by kernel_rfl
set_option maxRecDepth 100000 in
theorem lifted (os : Os) (started : os.Started) (H : Type) (enc : TypeId × Value → H) :
    ReturnsInHanded {} Try.checked os 8 .any (Rows.fnSecretsToldSpec.pre6 enc Try.prog Try.f8 Rows.fnSecretsToldRow.domain false) (Rows.fnSecretsToldSpec.post enc Try.prog Try.f8 false true false false) := by
  refine returnsInHanded_of_change (C := Try.checked) own started (by kernel_rfl) Try.func8
    (ChangeSpec.witness6 (enc := enc) (C := Try.checked) false ⟨#[], #[.slice none 0 0], []⟩ 8 (by kernel_rfl) (by kernel_rfl) (by kernel_rfl) (by kernel_rfl)) ?_
  intro W base args ds gs before hval0 hW hcnd _
  have hval : ∀ (j : Nat) t v, Try.f8.params[j]? = some t → args[j]? = some v → Value.okWide Try.prog W .any base t v := hval0
  have hW' := hW
  obtain ⟨p, q, hA0, hV, rfl, hfz, hnd⟩ := hW
  have hA : DataW.TrodAll enc Try.prog W 0 (fun _ => true) true Try.f8.params.toList args.toList ds p := hA0
  rw [Try.params8] at hA hval
  obtain ⟨v0, vs0, d0, ds0, p0, q0, hargs, rfl, rfl, h0, r0⟩ := trodAll_cons hA
  obtain ⟨rfl, rfl, rfl⟩ := trodAll_nil r0
  obtain rfl : args = #[v0] := by cases args; simp_all
  obtain ⟨rfl, rfl⟩ := trodVars_none hV
  obtain ⟨a0, len0, cap0, rfl⟩ := okWide_slice Try.underlying35 (hval 0 35 v0 rfl rfl)
  have k0 := h0
  have lt0 : ∀ x ∈ p0, x.block < W.heap.size := by obtain ⟨m, hm⟩ := k0; exact DataW.trod_lt m _ _ _ hm
  clear hA0 hval0
  refine (walk a0 len0 cap0  W (code_of h0)).mono fun e W' ⟨he, bel⟩ => ?_
  subst he
  exact ⟨_, rfl, _, _, _, [], _, [], hW', trodAll_mk1 (shut_bool Try.underlying4 _), (trodAll_cons_mk (Below.trod laidOut (by kernel_rfl) (of_decide_eq_true (by kernel_rfl)) k0 bel lt0) trodAll_mk0), rfl, bel.frame _, fun h => by cases h⟩

theorem over : Rows.fnSecretsToldRow.holds Try.pinned (OpenSpec.ofChange Rows.fnSecretsToldSpec) :=
  OpenClaim.holds_of_wide 8 Try.f8 rfl rfl rfl rfl rfl rfl rfl ⟨rfl, rfl, rfl, rfl, rfl⟩ rfl rfl rfl rfl rfl (by kernel_rfl) Try.func8 (by kernel_rfl)
    (of_decide_eq_true (by kernel_rfl)) (by unfold Func.isWrapper; first | (rw [if_pos (by decide +kernel)]; kernel_rfl) | (rw [if_neg (by decide +kernel)]; exact ⟨rfl, rfl⟩))
    (fun os started H enc _ => lifted os started H enc)
end fnSecretsTold

theorem fnSecretsTold_holds : Rows.FnSecretsToldSaid := fnSecretsTold.over
#print axioms fnSecretsTold_holds
end Go.Proofs.Ytffnadnndmmliaa
