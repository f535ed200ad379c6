/- For every code: what TermText, SizeOf, NodeOk, Put and ArenaOk of the program tell of drawn arenas, right or not, is what the specification's tell. No condition. -/
import Derived.Test.YtffnadnndmmliaaRows
import Derived.Test.YtffnadnndmmliaaDrawTold
import Derived.Test.YtffnadnndmmliaaDrawPut
import Derived.Test.YtffnadnndmmliaaSameA
import Derived.Test.YtffnadnndmmliaaLawKeep
import Derived.Test.YtffnadnndmmliaaLawArena2
import Derived.Test.YtffnadnndmmliaaImplText2
import Derived.Test.YtffnadnndmmliaaSpecText
import Derived.Test.YtffnadnndmmliaaImplArena
import Derived.Test.YtffnadnndmmliaaImplPut2
import Derived.Test.YtffnadnndmmliaaTermPut3
import Derived.WalkKit
import Derived.ProofKit
import Derived.OpenShut
import Derived.ShutString
import Derived.ChangeOld
import Derived.PlainAid
namespace Go.Proofs.Ytffnadnndmmliaa
namespace fnTermsTold
open Go.ChangeShapes Go.WideShapes Go.ChangeAt Go.RowKit Go.PlainAid
open Go.ChangeMaps (open_string shut_string)
set_option linter.unusedVariables false

theorem own : ownKnob Try.prog.godebug = none := by kernel_rfl

theorem txt_both (ns : List Nd) (k : Int) (hl : ns.length ≤ 1048576) : ∃ t ok,
    (∀ (a : Option Addr) (cap : Nat) (w : World), RowN w.heap.size w a ns → Calls Try.prog 25 #[.agg #[.slice a ns.length cap], .int .i64 k] w fun e w' => e = .returned (.tuple #[.string t, .bool ok]) ∧ Below w.heap.size w w') ∧
    (∀ (a : Option Addr) (cap : Nat) (w : World), RowN w.heap.size w a ns → Calls Try.prog 32 #[.agg #[.slice a ns.length cap], .int .i64 k] w fun e w' => e = .returned (.tuple #[.string t, .bool ok]) ∧ Below w.heap.size w w') := by
  cases hz : inB (sizeN ns k) 1 2000 with
  | false => exact ⟨_, _, fun a cap w hr => implText_no a cap ns k w hl hr hz, fun a cap w hr => specText_no a cap ns k w hl hr hz⟩
  | true =>
    have hb := inB_true hz
    obtain ⟨i, rfl, hg, he⟩ := sizeN_good (show sizeN ns k ≠ 0 by omega)
    exact ⟨_, _, fun a cap w hr => implText_yes a cap ns i w hl hr hg (by omega), fun a cap w hr => specText_yes a cap ns i w hl hr hg (by omega)⟩
set_option maxHeartbeats 1600000 in
set_option maxRecDepth 20000 in
theorem walk (a0 : Option Addr) (len0 cap0 : Nat) (w : World) (hcode : len0 ≤ 1048576 → CodeIn w.heap.size w a0 len0) :
    Calls Try.prog 5 #[.slice a0 len0 cap0] w fun e w' => e = .returned (.bool true) ∧ Below w.heap.size w w' := by
  by_cases hbig : len0 ≤ 1048576
  · have HC : Hid (CodeIn w.heap.size w a0 len0) := hcode hbig
    have HB : Hid (Below w.heap.size w w) := Below.refl _ _
    have hd : decide ((1048576 : Int) < (len0 : Int)) = false := by simp; omega
    clear hcode hbig
    go_enter Try.func5, Try.ntmps5
    go_wp2_with fail
    refine (big_any _ _ _ _).mono ?_
    rintro e w1 ⟨rfl, rfl⟩
    rw [hd]
    clear hd
    go_wp2_with fail
    refine (drawText_any _ _ _ _ HC.out).mono ?_
    rintro e w1 ⟨v1, ns, k, rfl, hn1, hn2, -, -, -, ho1, hb1⟩
    obtain ⟨a1, c1, rfl, -, -⟩ := ho1.row
    have OA := Own.made ho1
    replace HB : Hid (Below w.heap.size w (w1)) := HB.out.trans (hb1.mono HB.out.size)
    replace HC : Hid (CodeIn (w1).heap.size (w1) a0 len0) := codeIn_later HC.out hb1
    clear ho1 hb1
    have hbb : Below w1.heap.size w1 (w1.alloc (.cells #[.slice a1 ns.length c1] 28)) := (Below.refl _ _).alloc (Nat.le_refl _) _
    replace OA := OA.next hbb
    replace HB : Hid (Below w.heap.size w (w1.alloc (.cells #[.slice a1 ns.length c1] 28))) := HB.out.trans (hbb.mono HB.out.size)
    replace HC : Hid (CodeIn (w1.alloc (.cells #[.slice a1 ns.length c1] 28)).heap.size (w1.alloc (.cells #[.slice a1 ns.length c1] 28)) a0 len0) := codeIn_later HC.out hbb
    have BA : Var w1.heap.size (.slice a1 ns.length c1) (w1.alloc (.cells #[.slice a1 ns.length c1] 28)) := Var.made
    clear hbb
    obtain ⟨t, ok, hti, hts⟩ := txt_both ns k (by omega)
    have HTI : Hid _ := hti
    have HTS : Hid _ := hts
    clear hti hts
    have q := BA.c
    go_wp2_with fail
    clear q
    generalize w1.alloc (.cells #[.slice a1 ns.length c1] 28) = w2 at BA OA HB HC ⊢
    refine (HTI.out _ _ _ OA.rowAt).mono ?_
    rintro e w3 ⟨rfl, hb⟩
    replace BA := BA.next hb
    replace OA := OA.next hb
    replace HB : Hid (Below w.heap.size w (w3)) := HB.out.trans (hb.mono HB.out.size)
    replace HC : Hid (CodeIn (w3).heap.size (w3) a0 len0) := codeIn_later HC.out hb
    clear hb HTI
    have q := BA.c
    go_wp2_with fail
    clear q
    refine (HTS.out _ _ _ OA.rowAt).mono ?_
    rintro e w4 ⟨rfl, hb⟩
    replace BA := BA.next hb
    replace OA := OA.next hb
    replace HB : Hid (Below w.heap.size w (w4)) := HB.out.trans (hb.mono HB.out.size)
    replace HC : Hid (CodeIn (w4).heap.size (w4) a0 len0) := codeIn_later HC.out hb
    clear hb HTS
    go_wp2_with fail
    refine (drawPut_any _ _ _ _ HC.out).mono ?_
    rintro e w5 ⟨v5, ms, x, rfl, hm1, hm2, -, -, ho5, hb5⟩
    obtain ⟨a5, c5, rfl, -, -⟩ := ho5.row
    have OP := Own.made ho5
    replace BA := BA.next hb5
    replace OA := OA.next hb5
    replace HB : Hid (Below w.heap.size w (w5)) := HB.out.trans (hb5.mono HB.out.size)
    replace HC : Hid (CodeIn (w5).heap.size (w5) a0 len0) := codeIn_later HC.out hb5
    clear ho5 hb5
    obtain ⟨ps, hps⟩ : ∃ ps, ps = putA ms x := ⟨_, rfl⟩
    obtain ⟨pk, hpk⟩ : ∃ pk, pk = putK ms x := ⟨_, rfl⟩
    have hpl : ps.length ≤ 15 := by have := put_len (ns := ms) (x := x); rw [hps]; omega
    have HPI : Hid (∀ (a : Option Addr) (cap : Nat) (w : World), AddrN a cap → RowN w.heap.size w a ms → Calls Try.prog 26 #[.agg #[.slice a ms.length cap], .agg #[.int .i64 x.k, .int .i64 x.n, .int .i64 x.a, .int .i64 x.b]] w fun e w' => ∃ v, e = .returned (.tuple #[.agg #[v], .int .i64 pk]) ∧ OwnN w.heap.size w' v ps ∧ Below w.heap.size w w') := fun a cap w ha hr => by rw [hps, hpk]; exact implPut_any a cap ms x w (by omega) ha hr
    have HPS : Hid (∀ (a : Option Addr) (cap : Nat) (w : World), AddrN a cap → RowN w.heap.size w a ms → Calls Try.prog 34 #[.agg #[.slice a ms.length cap], .agg #[.int .i64 x.k, .int .i64 x.n, .int .i64 x.a, .int .i64 x.b]] w fun e w' => ∃ v, e = .returned (.tuple #[.agg #[v], .int .i64 pk]) ∧ OwnN w.heap.size w' v ps ∧ Below w.heap.size w w') := fun a cap w ha hr => by rw [hps, hpk]; exact specPut_any a cap ms x w (by omega) ha hr
    clear hps hpk
    have hbb : Below w5.heap.size w5 (w5.alloc (.cells #[.slice a5 ms.length c5] 28)) := (Below.refl _ _).alloc (Nat.le_refl _) _
    replace BA := BA.next hbb
    replace OA := OA.next hbb
    replace OP := OP.next hbb
    replace HB : Hid (Below w.heap.size w (w5.alloc (.cells #[.slice a5 ms.length c5] 28))) := HB.out.trans (hbb.mono HB.out.size)
    replace HC : Hid (CodeIn (w5.alloc (.cells #[.slice a5 ms.length c5] 28)).heap.size (w5.alloc (.cells #[.slice a5 ms.length c5] 28)) a0 len0) := codeIn_later HC.out hbb
    have BP : Var w5.heap.size (.slice a5 ms.length c5) (w5.alloc (.cells #[.slice a5 ms.length c5] 28)) := Var.made
    clear hbb
    have hs5 : (w5.alloc (.cells #[.slice a5 ms.length c5] 28)).heap.size = w5.heap.size + 1 := by simp
    have hbb : Below (w5.alloc (.cells #[.slice a5 ms.length c5] 28)).heap.size (w5.alloc (.cells #[.slice a5 ms.length c5] 28)) ((w5.alloc (.cells #[.slice a5 ms.length c5] 28)).alloc (.cells #[.int .i64 x.k, .int .i64 x.n, .int .i64 x.a, .int .i64 x.b] 45)) := (Below.refl _ _).alloc (Nat.le_refl _) _
    replace BA := BA.next hbb
    replace OA := OA.next hbb
    replace BP := BP.next hbb
    replace OP := OP.next hbb
    replace HB : Hid (Below w.heap.size w ((w5.alloc (.cells #[.slice a5 ms.length c5] 28)).alloc (.cells #[.int .i64 x.k, .int .i64 x.n, .int .i64 x.a, .int .i64 x.b] 45))) := HB.out.trans (hbb.mono HB.out.size)
    replace HC : Hid (CodeIn ((w5.alloc (.cells #[.slice a5 ms.length c5] 28)).alloc (.cells #[.int .i64 x.k, .int .i64 x.n, .int .i64 x.a, .int .i64 x.b] 45)).heap.size ((w5.alloc (.cells #[.slice a5 ms.length c5] 28)).alloc (.cells #[.int .i64 x.k, .int .i64 x.n, .int .i64 x.a, .int .i64 x.b] 45)) a0 len0) := codeIn_later HC.out hbb
    have NX : NodeIn (w5.alloc (.cells #[.slice a5 ms.length c5] 28)).heap.size x ((w5.alloc (.cells #[.slice a5 ms.length c5] 28)).alloc (.cells #[.int .i64 x.k, .int .i64 x.n, .int .i64 x.a, .int .i64 x.b] 45)) := NodeIn.made
    rw [hs5] at NX
    clear hbb hs5
    go_wp2_with fail
    generalize (w5.alloc (.cells #[.slice a5 ms.length c5] 28)).alloc (.cells #[.int .i64 x.k, .int .i64 x.n, .int .i64 x.a, .int .i64 x.b] 45) = w6 at BA OA BP OP NX HB HC ⊢
    refine (HPI.out _ _ _ OP.rowIs OP.rowAt).mono ?_
    rintro e w7 ⟨v7, rfl, ho7, hb⟩
    obtain ⟨a7, c7, rfl, -, -⟩ := ho7.row
    have OC := Own.made ho7
    replace BA := BA.next hb
    replace OA := OA.next hb
    replace BP := BP.next hb
    replace OP := OP.next hb
    replace NX := NX.next hb
    replace HB : Hid (Below w.heap.size w (w7)) := HB.out.trans (hb.mono HB.out.size)
    replace HC : Hid (CodeIn (w7).heap.size (w7) a0 len0) := codeIn_later HC.out hb
    clear hb ho7 HPI
    have hbb : Below w7.heap.size w7 (w7.alloc (.cells #[.slice a7 ps.length c7] 28)) := (Below.refl _ _).alloc (Nat.le_refl _) _
    replace BA := BA.next hbb
    replace OA := OA.next hbb
    replace BP := BP.next hbb
    replace OP := OP.next hbb
    replace NX := NX.next hbb
    replace OC := OC.next hbb
    replace HB : Hid (Below w.heap.size w (w7.alloc (.cells #[.slice a7 ps.length c7] 28))) := HB.out.trans (hbb.mono HB.out.size)
    replace HC : Hid (CodeIn (w7.alloc (.cells #[.slice a7 ps.length c7] 28)).heap.size (w7.alloc (.cells #[.slice a7 ps.length c7] 28)) a0 len0) := codeIn_later HC.out hbb
    have BC : Var w7.heap.size (.slice a7 ps.length c7) (w7.alloc (.cells #[.slice a7 ps.length c7] 28)) := Var.made
    clear hbb
    have q := BP.c
    have n0 := NX.c0
    have n1 := NX.c1
    have n2 := NX.c2
    have n3 := NX.c3
    go_wp2_with fail
    clear q n0 n1 n2 n3
    generalize w7.alloc (.cells #[.slice a7 ps.length c7] 28) = w8 at BA OA BP OP NX BC OC HB HC ⊢
    refine (HPS.out _ _ _ OP.rowIs OP.rowAt).mono ?_
    rintro e w9 ⟨v9, rfl, ho9, hb⟩
    obtain ⟨a9, c9, rfl, -, -⟩ := ho9.row
    have OD := Own.made ho9
    clear BP OP NX
    replace BA := BA.next hb
    replace OA := OA.next hb
    replace BC := BC.next hb
    replace OC := OC.next hb
    replace HB : Hid (Below w.heap.size w (w9)) := HB.out.trans (hb.mono HB.out.size)
    replace HC : Hid (CodeIn (w9).heap.size (w9) a0 len0) := codeIn_later HC.out hb
    clear hb ho9 HPS
    have hbb : Below w9.heap.size w9 (w9.alloc (.cells #[.slice a9 ps.length c9] 28)) := (Below.refl _ _).alloc (Nat.le_refl _) _
    replace BA := BA.next hbb
    replace OA := OA.next hbb
    replace BC := BC.next hbb
    replace OC := OC.next hbb
    replace OD := OD.next hbb
    replace HB : Hid (Below w.heap.size w (w9.alloc (.cells #[.slice a9 ps.length c9] 28))) := HB.out.trans (hbb.mono HB.out.size)
    replace HC : Hid (CodeIn (w9.alloc (.cells #[.slice a9 ps.length c9] 28)).heap.size (w9.alloc (.cells #[.slice a9 ps.length c9] 28)) a0 len0) := codeIn_later HC.out hbb
    have BD : Var w9.heap.size (.slice a9 ps.length c9) (w9.alloc (.cells #[.slice a9 ps.length c9] 28)) := Var.made
    clear hbb
    go_wp2_with fail
    generalize w9.alloc (.cells #[.slice a9 ps.length c9] 28) = w10 at BA OA BC OC BD OD HB HC ⊢
    refine (drawArenaOk_any _ _ _ _ HC.out).mono ?_
    rintro e w11 ⟨v11, es, rfl, he1, he2, hfe, ho11, hb⟩
    obtain ⟨a11, c11, rfl, -, -⟩ := ho11.row
    have OE := Own.made ho11
    replace BA := BA.next hb
    replace OA := OA.next hb
    replace BC := BC.next hb
    replace OC := OC.next hb
    replace BD := BD.next hb
    replace OD := OD.next hb
    replace HB : Hid (Below w.heap.size w (w11)) := HB.out.trans (hb.mono HB.out.size)
    replace HC : Hid (CodeIn (w11).heap.size (w11) a0 len0) := codeIn_later HC.out hb
    clear hb ho11
    have hbb : Below w11.heap.size w11 (w11.alloc (.cells #[.slice a11 es.length c11] 28)) := (Below.refl _ _).alloc (Nat.le_refl _) _
    replace BA := BA.next hbb
    replace OA := OA.next hbb
    replace BC := BC.next hbb
    replace OC := OC.next hbb
    replace BD := BD.next hbb
    replace OD := OD.next hbb
    replace OE := OE.next hbb
    replace HB : Hid (Below w.heap.size w (w11.alloc (.cells #[.slice a11 es.length c11] 28))) := HB.out.trans (hbb.mono HB.out.size)
    replace HC : Hid (CodeIn (w11.alloc (.cells #[.slice a11 es.length c11] 28)).heap.size (w11.alloc (.cells #[.slice a11 es.length c11] 28)) a0 len0) := codeIn_later HC.out hbb
    have BE : Var w11.heap.size (.slice a11 es.length c11) (w11.alloc (.cells #[.slice a11 es.length c11] 28)) := Var.made
    clear hbb
    clear HC
    go_wp2_with fail
    generalize w11.alloc (.cells #[.slice a11 es.length c11] 28) = w12 at BA OA BC OC BD OD BE OE HB ⊢
    obtain ⟨S, hS0, hNE, HK⟩ := below_class (Below.refl w12.heap.size w12) (Nat.le_refl _)
    have cA : ∀ s : Hw S, s.w.cell? ⟨w1.heap.size, 0, none⟩ = some (.slice a1 ns.length c1) := fun s => ((HK.out.2 _ s.ok).cell (p := ⟨w1.heap.size, 0, none⟩) BA.lt).trans BA.c
    have cC : ∀ s : Hw S, s.w.cell? ⟨w7.heap.size, 0, none⟩ = some (.slice a7 ps.length c7) := fun s => ((HK.out.2 _ s.ok).cell (p := ⟨w7.heap.size, 0, none⟩) BC.lt).trans BC.c
    have cD : ∀ s : Hw S, s.w.cell? ⟨w9.heap.size, 0, none⟩ = some (.slice a9 ps.length c9) := fun s => ((HK.out.2 _ s.ok).cell (p := ⟨w9.heap.size, 0, none⟩) BD.lt).trans BD.c
    have cE : ∀ s : Hw S, s.w.cell? ⟨w11.heap.size, 0, none⟩ = some (.slice a11 es.length c11) := fun s => ((HK.out.2 _ s.ok).cell (p := ⟨w11.heap.size, 0, none⟩) BE.lt).trans BE.c
    have H1 : Hid (∀ s : Hw S, Calls Try.prog 28 #[.agg #[.slice a1 ns.length c1], .int .i64 k] s.w fun e w' => e = .returned (.int .i64 (sizeN ns k)) ∧ Below s.w.heap.size s.w w') := fun s => implSize_any a1 c1 ns k s.w (by omega) (OA.rowAt.grown (HK.out.2 _ s.ok))
    have H2 : Hid (∀ s : Hw S, Calls Try.prog 36 #[.agg #[.slice a1 ns.length c1], .int .i64 k] s.w fun e w' => e = .returned (.int .i64 (sizeN ns k)) ∧ Below s.w.heap.size s.w w') := fun s => specSize_any a1 c1 ns k s.w (by omega) (OA.rowAt.grown (HK.out.2 _ s.ok))
    have H3 : Hid (∀ s : Hw S, Calls Try.prog 37 #[.agg #[.slice a1 ns.length c1], .int .i64 k] s.w fun e w' => e = .returned (.bool (okAt ns k)) ∧ Below s.w.heap.size s.w w') := fun s => implOk_any a1 c1 ns k s.w (by omega) (OA.rowAt.grown (HK.out.2 _ s.ok))
    have H4 : Hid (∀ s : Hw S, Calls Try.prog 38 #[.agg #[.slice a1 ns.length c1], .int .i64 k] s.w fun e w' => e = .returned (.bool (okAt ns k)) ∧ Below s.w.heap.size s.w w') := fun s => specOk_any a1 c1 ns k s.w (by omega) (OA.rowAt.grown (HK.out.2 _ s.ok))
    have H5 : Hid (∀ s : Hw S, Calls Try.prog 29 #[.agg #[.slice a7 ps.length c7], .agg #[.slice a9 ps.length c9]] s.w fun e w' => e = .returned (.bool true) ∧ Below s.w.heap.size s.w w') := fun s => sameA_same a7 a9 c7 c9 ps s.w (by omega) (OC.rowAt.grown (HK.out.2 _ s.ok)) (OD.rowAt.grown (HK.out.2 _ s.ok))
    have H6 : Hid (∀ s : Hw S, Calls Try.prog 30 #[.agg #[.slice a11 es.length c11]] s.w fun e w' => e = .returned (.bool (arenaB es)) ∧ Below s.w.heap.size s.w w') := fun s => implArena_any a11 c11 es s.w (by omega) hfe (OE.rowAt.grown (HK.out.2 _ s.ok))
    have H7 : Hid (∀ s : Hw S, Calls Try.prog 39 #[.agg #[.slice a11 es.length c11]] s.w fun e w' => e = .returned (.bool (arenaB es)) ∧ Below s.w.heap.size s.w w') := fun s => specArena_any a11 c11 es s.w (by omega) (OE.rowAt.grown (HK.out.2 _ s.ok))
    have H8 : Hid (∀ s : Hw S, Calls Try.prog 30 #[.agg #[.slice none 0 0]] s.w fun e w' => e = .returned (.bool true) ∧ Below s.w.heap.size s.w w') := fun s => implArena_any none 0 [] s.w (by simp) (fun y hy => by cases hy) (.inl rfl)
    generalize sizeN ns k = sz at H1 H2
    generalize okAt ns k = b1 at H3 H4
    generalize arenaB es = b2 at H6 H7
    have HA : Hid (∀ (s : Hw S) (v : Value) (b : Bool), (v = .agg #[.slice a11 es.length c11] ∧ b = b2) ∨ (v = .agg #[.slice none 0 0] ∧ b = true) → Calls Try.prog 30 #[v] s.w fun e w' => e = .returned (.bool b) ∧ Below s.w.heap.size s.w w') := fun s v b h => by
      rcases h with ⟨rfl, rfl⟩ | ⟨rfl, rfl⟩
      · exact H6.out s
      · exact H8.out s
    clear BA OA BC OC BD OD BE OE hfe H6 H8
    refine wp_region_held (S := S) (by kernel_rfl) (by kernel_rfl) hS0 ?_
    repeat (go_big_quiet_step (first | (go_at_call 28; exact Calls.held (H1.out _) (HK.out.1 _)) | (go_at_call 36; exact Calls.held (H2.out _) (HK.out.1 _)) | (go_at_call 37; exact Calls.held (H3.out _) (HK.out.1 _)) | (go_at_call 38; exact Calls.held (H4.out _) (HK.out.1 _)) | (go_at_call 29; exact Calls.held (H5.out _) (HK.out.1 _)) | (go_at_call 30; refine Calls.held (HA.out _ _ b2 ?_) (HK.out.1 _); exact .inl ⟨rfl, rfl⟩) | (go_at_call 30; refine Calls.held (HA.out _ _ true ?_) (HK.out.1 _); exact .inr ⟨rfl, rfl⟩) | (go_at_call 39; exact Calls.held (H7.out _) (HK.out.1 _))))
    refine wpQuiet_nil ?_
    rintro _ ⟨sw, rfl⟩
    have hBB := HB.out.trans ((HK.out.2 _ sw.ok).mono HB.out.size)
    clear cA cC cD cE HK H1 H2 H3 H4 H5 HA H7
    go_wp2
    go_ret
    exact ⟨rfl, hBB⟩
  · have hd : decide ((1048576 : Int) < (len0 : Int)) = true := by simp; omega
    clear hcode
    go_enter Try.func5, Try.ntmps5
    go_wp2_with fail
    refine (big_any _ _ _ _).mono ?_
    rintro e w1 ⟨rfl, rfl⟩
    rw [hd]
    go_wp2
    go_ret
    exact ⟨rfl, Below.refl _ _⟩

theorem laidOut : laidOutB Try.prog = true := by kernel_rfl
set_option maxRecDepth 100000 in
theorem lifted (os : Os) (started : os.Started) (H : Type) (enc : TypeId × Value → H) :
    ReturnsInHanded {} Try.checked os 5 .any (Rows.fnTermsToldSpec.pre6 enc Try.prog Try.f5 Rows.fnTermsToldRow.domain false) (Rows.fnTermsToldSpec.post enc Try.prog Try.f5 false true false false) := by
  refine returnsInHanded_of_change (C := Try.checked) own started (by kernel_rfl) Try.func5
    (ChangeSpec.witness6 (enc := enc) (C := Try.checked) false ⟨#[], #[.slice none 0 0], []⟩ 8 (by kernel_rfl) (by kernel_rfl) (by kernel_rfl) (by kernel_rfl)) ?_
  intro W base args ds gs before hval0 hW hcnd _
  have hval : ∀ (j : Nat) t v, Try.f5.params[j]? = some t → args[j]? = some v → Value.okWide Try.prog W .any base t v := hval0
  have hW' := hW
  obtain ⟨p, q, hA0, hV, rfl, hfz, hnd⟩ := hW
  have hA : DataW.TrodAll enc Try.prog W 0 (fun _ => true) true Try.f5.params.toList args.toList ds p := hA0
  rw [Try.params5] at hA hval
  obtain ⟨v0, vs0, d0, ds0, p0, q0, hargs, rfl, rfl, h0, r0⟩ := trodAll_cons hA
  obtain ⟨rfl, rfl, rfl⟩ := trodAll_nil r0
  obtain rfl : args = #[v0] := by cases args; simp_all
  obtain ⟨rfl, rfl⟩ := trodVars_none hV
  obtain ⟨a0, len0, cap0, rfl⟩ := okWide_slice Try.underlying35 (hval 0 35 v0 rfl rfl)
  have k0 := h0
  have lt0 : ∀ x ∈ p0, x.block < W.heap.size := by obtain ⟨m, hm⟩ := k0; exact DataW.trod_lt m _ _ _ hm
  clear hA0 hval0
  refine (walk a0 len0 cap0  W (code_of h0)).mono fun e W' ⟨he, bel⟩ => ?_
  subst he
  exact ⟨_, rfl, _, _, _, [], _, [], hW', trodAll_mk1 (shut_bool Try.underlying4 _), (trodAll_cons_mk (Below.trod laidOut (by kernel_rfl) (of_decide_eq_true (by kernel_rfl)) k0 bel lt0) trodAll_mk0), rfl, bel.frame _, fun h => by cases h⟩

theorem over : Rows.fnTermsToldRow.holds Try.pinned (OpenSpec.ofChange Rows.fnTermsToldSpec) :=
  OpenClaim.holds_of_wide 5 Try.f5 rfl rfl rfl rfl rfl rfl rfl ⟨rfl, rfl, rfl, rfl, rfl⟩ rfl rfl rfl rfl rfl (by kernel_rfl) Try.func5 (by kernel_rfl)
    (of_decide_eq_true (by kernel_rfl)) (by unfold Func.isWrapper; first | (rw [if_pos (by decide +kernel)]; kernel_rfl) | (rw [if_neg (by decide +kernel)]; exact ⟨rfl, rfl⟩))
    (fun os started H enc _ => lifted os started H enc)
end fnTermsTold

theorem fnTermsTold_holds : Rows.FnTermsToldSaid := fnTermsTold.over
#print axioms fnTermsTold_holds
end Go.Proofs.Ytffnadnndmmliaa
