/- For every code: drawn terms come back from their texts, into an arena of their own and into one that has them; what is put twice is there once; ReadTerm of the program answers as the specification's does at a drawn arena and text. No condition. -/
import Derived.Test.YtffnadnndmmliaaRows
import Derived.Test.YtffnadnndmmliaaDrawRT
import Derived.Test.YtffnadnndmmliaaPlainFT
import Derived.Test.YtffnadnndmmliaaRdLaw
import Derived.Test.YtffnadnndmmliaaTermAt
import Derived.Test.YtffnadnndmmliaaLawKeep
import Derived.Test.YtffnadnndmmliaaLawArena2
import Derived.Test.YtffnadnndmmliaaImplOk
import Derived.Test.YtffnadnndmmliaaImplPut2
import Derived.WalkKit
import Derived.ProofKit
import Derived.OpenShut
import Derived.ShutString
import Derived.ChangeOld
import Derived.PlainAid
namespace Go.Proofs.Ytffnadnndmmliaa
namespace fnTerms
open Go.ChangeShapes Go.WideShapes Go.ChangeAt Go.RowKit Go.PlainAid
open Go.ChangeMaps (open_string shut_string)
set_option linter.unusedVariables false

theorem own : ownKnob Try.prog.godebug = none := by kernel_rfl

set_option maxHeartbeats 6400000 in
set_option maxRecDepth 20000 in
theorem walk (a0 : Option Addr) (len0 cap0 : Nat) (w : World) (hcode : len0 ≤ 1048576 → CodeIn w.heap.size w a0 len0) :
    Calls Try.prog 4 #[.slice a0 len0 cap0] w fun e w' => e = .returned (.bool true) ∧ Below w.heap.size w w' := by
  by_cases hbig : len0 ≤ 1048576
  · have HC : Hid (CodeIn w.heap.size w a0 len0) := hcode hbig
    have HB : Hid (Below w.heap.size w w) := Below.refl _ _
    have hd : decide ((1048576 : Int) < (len0 : Int)) = false := by simp; omega
    clear hcode hbig
    go_enter Try.func4, Try.ntmps4
    go_wp2_with fail
    refine (big_any _ _ _ _).mono ?_
    rintro e wz ⟨rfl, rfl⟩
    rw [hd]
    clear hd
    go_wp2_with fail
    refine (drawArena_any _ _ _ _ HC.out).mono ?_
    rintro e w1 ⟨v1, ns, rfl, hn1, hn2, hall, ho1, hb1⟩
    have HALL : Hid (allFrom ns ns 0 = true) := hall
    clear hall
    obtain ⟨a1, c1, rfl, -, -⟩ := ho1.row
    have OA := Own.made ho1
    replace HB : Hid (Below w.heap.size w (w1)) := HB.out.trans (hb1.mono HB.out.size)
    replace HC : Hid (CodeIn (w1).heap.size (w1) a0 len0) := codeIn_later HC.out hb1
    clear ho1 hb1
    have hbb : Below w1.heap.size w1 (w1.alloc (.cells #[.slice a1 ns.length c1] 28)) := (Below.refl _ _).alloc (Nat.le_refl _) _
    replace OA := OA.next hbb
    replace HB : Hid (Below w.heap.size w (w1.alloc (.cells #[.slice a1 ns.length c1] 28))) := HB.out.trans (hbb.mono HB.out.size)
    replace HC : Hid (CodeIn (w1.alloc (.cells #[.slice a1 ns.length c1] 28)).heap.size (w1.alloc (.cells #[.slice a1 ns.length c1] 28)) a0 len0) := codeIn_later HC.out hbb
    have BA : Var w1.heap.size (.slice a1 ns.length c1) (w1.alloc (.cells #[.slice a1 ns.length c1] 28)) := Var.made
    clear hbb
    go_wp2_with fail
    generalize w1.alloc (.cells #[.slice a1 ns.length c1] 28) = w2 at BA OA HB HC ⊢
    refine wp_region_list (I := fun w' => Below w2.heap.size w2 w') (R := fun _ w' w'' => Below w'.heap.size w' w'')
      (fs := #[⟨[29], fun vs _ => vs = [.slice a0 len0 cap0]⟩, ⟨[30], fun vs w' => ∃ (g cp x : Nat), vs = [.slice (some ⟨g, 0, none⟩) 12 cp] ∧ g < w'.heap.size ∧ w'.cell? ⟨g, 0, none⟩ = some (.int .i64 (x : Int)) ∧ x < 10000⟩, ⟨[31], fun vs w' => ∃ (g cp x : Nat), vs = [.pointer (some ⟨g, 0, none⟩)] ∧ g < w'.heap.size ∧ w'.cell? ⟨g, 0, none⟩ = some (.int .i64 (x : Int)) ∧ x < 10000⟩, ⟨[32], fun vs _ => ∃ x : Nat, vs = [.int .i64 (x : Int)] ∧ x < 10000⟩, ⟨[33], fun vs _ => vs = [.pointer (some ⟨w1.heap.size, 0, none⟩)]⟩, ⟨[34], fun vs _ => vs = [.slice a1 ns.length c1]⟩, ⟨[35], fun vs _ => vs = [.int .i64 (ns.length : Int)]⟩, ⟨[36], fun vs _ => ∃ k : Nat, vs = [.int .i64 (k : Int)] ∧ k < ns.length⟩, ⟨[4], fun vs _ => ∃ k : Nat, vs = [.int .i64 (k : Int)] ∧ k < ns.length⟩])
      (by kernel_rfl) 155 rfl (by kernel_rfl) ?stab ?istab ?start ?exec ?fin
    case stab =>
      intro k i f hki hf
      have hk : k < 9 := (Array.getElem?_eq_some_iff.1 hf).1
      rcases (show k = 0 ∨ k = 1 ∨ k = 2 ∨ k = 3 ∨ k = 4 ∨ k = 5 ∨ k = 6 ∨ k = 7 ∨ k = 8 by omega) with rfl | rfl | rfl | rfl | rfl | rfl | rfl | rfl | rfl
      all_goals
        simp only [List.getElem?_toArray, List.getElem?_cons_succ, List.getElem?_cons_zero, Option.some.injEq] at hf
        subst hf
      · exact fun vs _ _ _ h => h
      · exact fun vs w' w'' hR ⟨g, cp, x, h1, h2, h3, h4⟩ => ⟨g, cp, x, h1, Nat.lt_of_lt_of_le h2 hR.size, (hR.cell (p := ⟨g, 0, none⟩) h2).trans h3, h4⟩
      · exact fun vs w' w'' hR ⟨g, cp, x, h1, h2, h3, h4⟩ => ⟨g, cp, x, h1, Nat.lt_of_lt_of_le h2 hR.size, (hR.cell (p := ⟨g, 0, none⟩) h2).trans h3, h4⟩
      · exact fun vs _ _ _ h => h
      · exact fun vs _ _ _ h => h
      · exact fun vs _ _ _ h => h
      · exact fun vs _ _ _ h => h
      · exact fun vs _ _ _ h => h
      · exact fun vs _ _ _ h => h
    case istab => exact fun i w' w'' hR h => h.trans (hR.mono h.size)
    case start => exact (Below.refl _ _).drew
    case exec =>
      intro i o f hi hf a_1 wq hsz hI hold hpre
      have hi11 : i < 9 := (Array.getElem?_eq_some_iff.1 hi).1
      rcases (show i = 0 ∨ i = 1 ∨ i = 2 ∨ i = 3 ∨ i = 4 ∨ i = 5 ∨ i = 6 ∨ i = 7 ∨ i = 8 by omega) with rfl | rfl | rfl | rfl | rfl | rfl | rfl | rfl | rfl
      all_goals
        simp only [List.getElem?_toArray, List.getElem?_cons_succ, List.getElem?_cons_zero, Option.some.injEq] at hi hf
        subst hi hf
      · have g0 : a_1.tmps.getD 0 undef = .slice a0 len0 cap0 := hold 0 (free_spec (by kernel_rfl))
        refine exec_same (v := .slice a0 len0 cap0) ?_ ⟨_, rfl, (Below.refl _ _), at_one (by omega) rfl⟩
        simp [go_sem, Act.eval, g0]
      · have g29 : a_1.tmps.getD 29 undef = .slice a0 len0 cap0 := by have := of_one (hpre ⟨0, .data⟩ (by simp) rfl _ rfl); simpa using this
        refine exec_call (f := 24) (args := #[.slice a0 len0 cap0]) (by simp [go_sem, Act.eval, g29]) ?_
        refine (places_any a0 len0 cap0 wq (codeIn_later HC.out hI)).mono ?_
        rintro e w3 ⟨g, cp, xs, rfl, hxl, hxb, hg1, hg2, hcl, hb⟩
        have hx0 : xs.getD 0 0 < 10000 := by rw [List.getD_eq_getElem?_getD, List.getElem?_eq_getElem (by omega)]; exact hxb _ (List.getElem_mem _)
        exact ⟨_, rfl, _, rfl, hb, at_one (by omega) ⟨g, cp, _, rfl, hg2, hcl 0 (by omega), hx0⟩⟩
      · obtain ⟨g, cp, x, h30, h2, h3, h4⟩ := of_one (hpre ⟨1, .data⟩ (by simp) rfl _ rfl)
        have g30 : a_1.tmps.getD 30 undef = .slice (some ⟨g, 0, none⟩) 12 cp := by simpa using h30
        refine exec_same (v := .pointer (some ⟨g, 0, none⟩)) ?_ ⟨_, rfl, (Below.refl _ _), at_one (by omega) ⟨g, cp, x, rfl, h2, h3, h4⟩⟩
        simp [go_sem, Act.eval, g30]
      · obtain ⟨g, cp, x, h31, h2, h3, h4⟩ := of_one (hpre ⟨2, .data⟩ (by simp) rfl _ rfl)
        have g31 : a_1.tmps.getD 31 undef = .pointer (some ⟨g, 0, none⟩) := by simpa using h31
        refine exec_same (v := .int .i64 (x : Int)) ?_ ⟨_, rfl, (Below.refl _ _), at_one (by omega) ⟨x, rfl, h4⟩⟩
        simp [go_sem, Act.eval, g31, h3]
      · have g3 : a_1.tmps.getD 3 undef = .pointer (some ⟨w1.heap.size, 0, none⟩) := hold 3 (free_spec (by kernel_rfl))
        refine exec_same (v := .pointer (some ⟨w1.heap.size, 0, none⟩)) ?_ ⟨_, rfl, (Below.refl _ _), at_one (by omega) rfl⟩
        simp [go_sem, Act.eval, g3]
      · have g33 : a_1.tmps.getD 33 undef = .pointer (some ⟨w1.heap.size, 0, none⟩) := by have := of_one (hpre ⟨4, .data⟩ (by simp) rfl _ rfl); simpa using this
        have hc : wq.cell? ⟨w1.heap.size, 0, none⟩ = some (.slice a1 ns.length c1) := (hI.cell (p := ⟨w1.heap.size, 0, none⟩) BA.lt).trans BA.c
        refine exec_same (v := .slice a1 ns.length c1) ?_ ⟨_, rfl, (Below.refl _ _), at_one (by omega) rfl⟩
        simp [go_sem, Act.eval, g33, hc]
      · have g34 : a_1.tmps.getD 34 undef = .slice a1 ns.length c1 := by have := of_one (hpre ⟨5, .data⟩ (by simp) rfl _ rfl); simpa using this
        refine exec_same (v := .int .i64 (ns.length : Int)) ?_ ⟨_, rfl, (Below.refl _ _), at_one (by omega) rfl⟩
        simp [go_sem, Act.eval, g34]
      · obtain ⟨x, h32, h4⟩ := of_one (hpre ⟨3, .data⟩ (by simp) rfl _ rfl)
        have g32 : a_1.tmps.getD 32 undef = .int .i64 (x : Int) := by simpa using h32
        have g35 : a_1.tmps.getD 35 undef = .int .i64 (ns.length : Int) := by have := of_one (hpre ⟨6, .data⟩ (by simp) rfl _ rfl); simpa using this
        have hnil : ns ≠ [] := fun e => by rw [e] at hn1; simp at hn1
        have hlt : x % ns.length < ns.length := Nat.mod_lt _ (by omega)
        refine exec_same (v := .int .i64 ((x % ns.length : Nat) : Int)) ?_ ⟨_, rfl, (Below.refl _ _), at_one (by omega) ⟨_, rfl, hlt⟩⟩
        simp [go_sem, Act.eval, g32, g35, hnil]
        exact Int.tmod_eq_emod_of_nonneg (by omega)
      · obtain ⟨k, h36, h4⟩ := of_one (hpre ⟨7, .data⟩ (by simp) rfl _ rfl)
        have g36 : a_1.tmps.getD 36 undef = .int .i64 (k : Int) := by simpa using h36
        refine exec_same (v := .int .i64 (k : Int)) ?_ ⟨_, rfl, (Below.refl _ _), at_one (by omega) ⟨k, rfl, h4⟩⟩
        simp [go_sem, Act.eval, g36]
    case fin =>
      intro zs w3 hzl hI hF
      obtain ⟨z0, z1, z2, z3, z4, z5, z6, z7, z8, rfl⟩ := list9 zs hzl
      obtain ⟨k, hst, hk⟩ := of_one (hF 8 _ rfl)
      simp only [List.cons.injEq, and_true] at hst
      have hs2 := last_is (i := 8) (v := z8) (n := 155) hst (by kernel_rfl) rfl rfl (by omega)
      clear hst
      subst hs2
      clear hF
      simp only [putAll, Act.put, List.setIfInBounds_toArray, List.set_cons_succ, List.set_cons_zero]
      replace BA := BA.next hI
      replace OA := OA.next hI
      replace HB : Hid (Below w.heap.size w (w3)) := HB.out.trans (hI.mono HB.out.size)
      replace HC : Hid (CodeIn (w3).heap.size (w3) a0 len0) := codeIn_later HC.out hI
      clear hI
      obtain ⟨bA, oA, rfl⟩ := OA.rowAt.addr hk
      obtain ⟨t, ok, hti, HTB⟩ : ∃ (t : ByteArray) (ok : Bool), (∀ (a : Option Addr) (cap : Nat) (w : World), RowN w.heap.size w a ns → Calls Try.prog 25 #[.agg #[.slice a ns.length cap], .int .i64 (k : Int)] w fun e w' => e = .returned (.tuple #[.string t, .bool ok]) ∧ Below w.heap.size w w') ∧ Hid (t = txS ns (k : Int) ∧ ok = txB ns (k : Int) ∧ t.size ≤ 8000) := ⟨_, _, fun a cap w hr => implTextV_any a cap ns (k : Int) w (by omega) hr, ⟨rfl, rfl, txS_size ns _⟩⟩
      have HTI : Hid _ := hti
      clear hti
      have q := BA.c
      go_wp2_with fail
      clear q
      refine (HTI.out _ _ _ OA.rowAt).mono ?_
      rintro e w4 ⟨rfl, hb⟩
      replace BA := BA.next hb
      replace OA := OA.next hb
      replace HB : Hid (Below w.heap.size w (w4)) := HB.out.trans (hb.mono HB.out.size)
      replace HC : Hid (CodeIn (w4).heap.size (w4) a0 len0) := codeIn_later HC.out hb
      clear hb HTI
      have hts := HTB.out.2.2
      obtain ⟨ls, j, rj, hr0, HE0⟩ : ∃ (ls : List Nd) (j : Int) (rj : Bool), (∀ (w : World), Calls Try.prog 18 #[.agg #[.slice none 0 0], .string t] w fun e w' => ∃ v, e = .returned (.tuple #[.agg #[v], .int .i64 j, .bool rj]) ∧ OwnC w.heap.size w' v ls ∧ Below w.heap.size w w') ∧ Hid (ls = rtA t [] ∧ j = rtK t [] ∧ rj = rtB t [] ∧ ls.length ≤ 1048576) := ⟨_, _, _, fun w => implRT_any none 0 [] t w (by omega) (by simp) (fun y hy => by cases hy) (.inl ⟨rfl, rfl⟩) (.inl rfl), ⟨rfl, rfl, rfl, rtA_le t [] (by simp)⟩⟩
      have HR0 : Hid _ := hr0
      clear hr0
      obtain ⟨cs, ci, cr, hr1, HE1⟩ : ∃ (cs : List Nd) (ci : Int) (cr : Bool), (∀ (a : Option Addr) (cap : Nat) (w : World), AddrN a cap → RowN w.heap.size w a ns → Calls Try.prog 18 #[.agg #[.slice a ns.length cap], .string t] w fun e w' => ∃ v, e = .returned (.tuple #[.agg #[v], .int .i64 ci, .bool cr]) ∧ OwnC w.heap.size w' v cs ∧ Below w.heap.size w w') ∧ Hid (cs = rtA t ns ∧ ci = rtK t ns ∧ cr = rtB t ns ∧ cs.length ≤ 1048576) := ⟨_, _, _, fun a cap w ha hr => implRT_any a cap ns t w (by omega) (by omega) (all_fits HALL.out (by omega)) ha hr, ⟨rfl, rfl, rfl, rtA_le t ns (by omega)⟩⟩
      have HR1 : Hid _ := hr1
      clear hr1
      go_wp2_with fail
      refine (HR0.out _).mono ?_
      rintro e w5 ⟨v5, rfl, ho5, hb⟩
      obtain ⟨aB, cB, pB, rfl, hAB, ho5⟩ := ho5
      have OB := Own.made ho5
      replace BA := BA.next hb
      replace OA := OA.next hb
      replace HB : Hid (Below w.heap.size w (w5)) := HB.out.trans (hb.mono HB.out.size)
      replace HC : Hid (CodeIn (w5).heap.size (w5) a0 len0) := codeIn_later HC.out hb
      clear hb ho5 HR0
      have hbb : Below w5.heap.size w5 (w5.alloc (.cells #[.slice aB ls.length cB] 28)) := (Below.refl _ _).alloc (Nat.le_refl _) _
      replace BA := BA.next hbb
      replace OA := OA.next hbb
      replace OB := OB.next hbb
      replace HB : Hid (Below w.heap.size w (w5.alloc (.cells #[.slice aB ls.length cB] 28))) := HB.out.trans (hbb.mono HB.out.size)
      replace HC : Hid (CodeIn (w5.alloc (.cells #[.slice aB ls.length cB] 28)).heap.size (w5.alloc (.cells #[.slice aB ls.length cB] 28)) a0 len0) := codeIn_later HC.out hbb
      have BB : Var w5.heap.size (.slice aB ls.length cB) (w5.alloc (.cells #[.slice aB ls.length cB] 28)) := Var.made
      clear hbb
      have q := BA.c
      go_wp2_with fail
      clear q
      generalize w5.alloc (.cells #[.slice aB ls.length cB] 28) = w6 at BA OA BB OB HB HC ⊢
      refine (HR1.out _ _ _ OA.rowIs OA.rowAt).mono ?_
      rintro e w7 ⟨v7, rfl, ho7, hb⟩
      obtain ⟨aC, cC, pC, rfl, hAC, ho7⟩ := ho7
      have OC := Own.made ho7
      replace BA := BA.next hb
      replace OA := OA.next hb
      replace BB := BB.next hb
      replace OB := OB.next hb
      replace HB : Hid (Below w.heap.size w (w7)) := HB.out.trans (hb.mono HB.out.size)
      replace HC : Hid (CodeIn (w7).heap.size (w7) a0 len0) := codeIn_later HC.out hb
      clear hb ho7 HR1
      have hbb : Below w7.heap.size w7 (w7.alloc (.cells #[.slice aC cs.length cC] 28)) := (Below.refl _ _).alloc (Nat.le_refl _) _
      replace BA := BA.next hbb
      replace OA := OA.next hbb
      replace BB := BB.next hbb
      replace OB := OB.next hbb
      replace OC := OC.next hbb
      replace HB : Hid (Below w.heap.size w (w7.alloc (.cells #[.slice aC cs.length cC] 28))) := HB.out.trans (hbb.mono HB.out.size)
      replace HC : Hid (CodeIn (w7.alloc (.cells #[.slice aC cs.length cC] 28)).heap.size (w7.alloc (.cells #[.slice aC cs.length cC] 28)) a0 len0) := codeIn_later HC.out hbb
      have BC : Var w7.heap.size (.slice aC cs.length cC) (w7.alloc (.cells #[.slice aC cs.length cC] 28)) := Var.made
      clear hbb
      go_wp2_with fail
      generalize w7.alloc (.cells #[.slice aC cs.length cC] 28) = w8 at BA OA BB OB BC OC HB HC ⊢
      obtain ⟨x, hxe⟩ : ∃ x, ns.getD k Nd.zero = x := ⟨_, rfl⟩
      have HPU : Hid (∀ (a : Option Addr) (cap : Nat) (w : World), AddrN a cap → RowN w.heap.size w a ns → Calls Try.prog 26 #[.agg #[.slice a ns.length cap], .agg #[.int .i64 x.k, .int .i64 x.n, .int .i64 x.a, .int .i64 x.b]] w fun e w' => ∃ v, e = .returned (.tuple #[.agg #[v], .int .i64 (k : Int)]) ∧ OwnN w.heap.size w' v ns ∧ Below w.heap.size w w') := fun a cap w ha hr => by
        have := implPut_any a cap ns x w (by omega) ha hr
        obtain ⟨p1, p2⟩ := put_self HALL.out hk
        rw [hxe] at p1 p2
        rw [p1, p2] at this
        exact this
      have HCL : Hid (∀ wq, Below w8.heap.size w8 wq → wq.cell? ⟨bA, oA + k * 4, none⟩ = some (.int .i64 x.k) ∧ wq.cell? ⟨bA, oA + k * 4 + 1, none⟩ = some (.int .i64 x.n) ∧ wq.cell? ⟨bA, oA + k * 4 + 2, none⟩ = some (.int .i64 x.a) ∧ wq.cell? ⟨bA, oA + k * 4 + 3, none⟩ = some (.int .i64 x.b)) := fun wq hq => by
        have := (OA.rowAt.at hq hk).2
        rw [hxe] at this
        exact this
      have hk0 : (0 : Int) ≤ (k : Int) := by omega
      have hk1 : (k : Int) < (ns.length : Int) := by omega
      refine wp_region_list (I := fun w' => Below w8.heap.size w8 w') (R := Rst w8.heap.size 11)
        (fs := #[⟨[58], fun vs _ => vs = [.agg #[.slice (some ⟨bA, oA, none⟩) ns.length c1]]⟩, ⟨[59], fun vs _ => vs = [.pointer (some ⟨w1.heap.size, 0, none⟩)]⟩, ⟨[60], fun vs _ => vs = [.slice (some ⟨bA, oA, none⟩) ns.length c1]⟩, ⟨[61], fun vs _ => vs = [.int .i64 (k : Int)]⟩, ⟨[62], fun vs _ => vs = [.pointer (some ⟨bA, oA + k * 4, none⟩)]⟩, ⟨[63], fun vs _ => vs = [.agg #[.int .i64 x.k, .int .i64 x.n, .int .i64 x.a, .int .i64 x.b]]⟩, ⟨[64], fun vs w' => ∃ v, vs = [.tuple #[.agg #[v], .int .i64 ((k : Int))]] ∧ OwnN w8.heap.size w' v (ns)⟩, ⟨[57], fun vs w' => ∃ v, vs = [.tuple #[.agg #[v], .int .i64 ((k : Int))]] ∧ OwnN w8.heap.size w' v (ns)⟩, ⟨[65], fun vs w' => ∃ v, vs = [.agg #[v]] ∧ OwnN w8.heap.size w' v (ns)⟩, ⟨[66], fun vs _ => vs = [.int .i64 ((k : Int))]⟩, ⟨[13], fun vs w' => ∃ g u, vs = [.pointer (some ⟨g, 0, none⟩)] ∧ w8.heap.size ≤ g ∧ w'.heap[g]? = some (.cells #[u] 28 (0, 0))⟩, ⟨[13, 65], fun vs w' => ∃ g v, vs = [.pointer (some ⟨g, 0, none⟩), .agg #[v]] ∧ w8.heap.size ≤ g ∧ w'.heap[g]? = some (.cells #[v] 28 (0, 0)) ∧ OwnN w8.heap.size w' v (ns)⟩, ⟨[14], fun vs _ => vs = [.int .i64 ((k : Int))]⟩])
        (by kernel_rfl) 155 rfl (by kernel_rfl) ?stab ?istab ?start ?exec ?fin
      case stab =>
        intro k i f hki hf
        have hk : k < 13 := (Array.getElem?_eq_some_iff.1 hf).1
        rcases (show k = 0 ∨ k = 1 ∨ k = 2 ∨ k = 3 ∨ k = 4 ∨ k = 5 ∨ k = 6 ∨ k = 7 ∨ k = 8 ∨ k = 9 ∨ k = 10 ∨ k = 11 ∨ k = 12 by omega) with rfl | rfl | rfl | rfl | rfl | rfl | rfl | rfl | rfl | rfl | rfl | rfl | rfl
        all_goals
          simp only [List.getElem?_toArray, List.getElem?_cons_succ, List.getElem?_cons_zero, Option.some.injEq] at hf
          subst hf
        · exact fun vs _ _ _ h => h
        · exact fun vs _ _ _ h => h
        · exact fun vs _ _ _ h => h
        · exact fun vs _ _ _ h => h
        · exact fun vs _ _ _ h => h
        · exact fun vs _ _ _ h => h
        · exact fun vs w' w'' hR ⟨v, h1, h2⟩ => ⟨v, h1, hR.own h2⟩
        · exact fun vs w' w'' hR ⟨v, h1, h2⟩ => ⟨v, h1, hR.own h2⟩
        · exact fun vs w' w'' hR ⟨v, h1, h2⟩ => ⟨v, h1, hR.own h2⟩
        · exact fun vs _ _ _ h => h
        · exact fun vs w' w'' hR ⟨g, u, h1, h2, h3⟩ => by obtain ⟨u', hu'⟩ := hR.box ⟨u, h3⟩; exact ⟨g, u', h1, h2, hu'⟩
        · exact fun vs w' w'' hR ⟨g, v, h1, h2, h3, h4⟩ => ⟨g, v, h1, h2, ((hR.other (Ne.symm hki)).block g (Array.getElem?_eq_some_iff.1 h3).1).trans h3, hR.own h4⟩
        · exact fun vs _ _ _ h => h
      case istab => exact fun i w' w'' hR h => Rst.inv (Nat.le_refl _) hR h
      case start => exact (Below.refl _ _).drew
      case exec =>
        intro i o f hi hf a wq hsz hI hold hpre
        have hi11 : i < 13 := (Array.getElem?_eq_some_iff.1 hi).1
        rcases (show i = 0 ∨ i = 1 ∨ i = 2 ∨ i = 3 ∨ i = 4 ∨ i = 5 ∨ i = 6 ∨ i = 7 ∨ i = 8 ∨ i = 9 ∨ i = 10 ∨ i = 11 ∨ i = 12 by omega) with rfl | rfl | rfl | rfl | rfl | rfl | rfl | rfl | rfl | rfl | rfl | rfl | rfl
        all_goals
          simp only [List.getElem?_toArray, List.getElem?_cons_succ, List.getElem?_cons_zero, Option.some.injEq] at hi hf
          subst hi hf
        · have h2 : a.tmps.getD 3 undef = .pointer (some ⟨w1.heap.size, 0, none⟩) := hold 3 (free_spec (by kernel_rfl))
          have hc : wq.cell? ⟨w1.heap.size, 0, none⟩ = some (.slice (some ⟨bA, oA, none⟩) ns.length c1) := (hI.cell (p := ⟨w1.heap.size, 0, none⟩) BA.lt).trans BA.c
          refine exec_same (v := .agg #[.slice (some ⟨bA, oA, none⟩) ns.length c1]) ?_ ⟨_, rfl, Rst.refl (by decide), at_one (by omega) rfl⟩
          simp [go_sem, Act.eval, h2, hc]
        · have g3 : a.tmps.getD 3 undef = .pointer (some ⟨w1.heap.size, 0, none⟩) := hold 3 (free_spec (by kernel_rfl))
          refine exec_same (v := .pointer (some ⟨w1.heap.size, 0, none⟩)) ?_ ⟨_, rfl, Rst.refl (by decide), at_one (by omega) rfl⟩
          simp [go_sem, Act.eval, g3]
        · have g59 : a.tmps.getD 59 undef = .pointer (some ⟨w1.heap.size, 0, none⟩) := by have := of_one (hpre ⟨1, .data⟩ (by simp) rfl _ rfl); simpa using this
          have hc : wq.cell? ⟨w1.heap.size, 0, none⟩ = some (.slice (some ⟨bA, oA, none⟩) ns.length c1) := (hI.cell (p := ⟨w1.heap.size, 0, none⟩) BA.lt).trans BA.c
          refine exec_same (v := .slice (some ⟨bA, oA, none⟩) ns.length c1) ?_ ⟨_, rfl, Rst.refl (by decide), at_one (by omega) rfl⟩
          simp [go_sem, Act.eval, g59, hc]
        · have g4 : a.tmps.getD 4 undef = .int .i64 (k : Int) := hold 4 (free_spec (by kernel_rfl))
          refine exec_same (v := .int .i64 (k : Int)) ?_ ⟨_, rfl, Rst.refl (by decide), at_one (by omega) rfl⟩
          simp [go_sem, Act.eval, g4]
        · have g60 : a.tmps.getD 60 undef = .slice (some ⟨bA, oA, none⟩) ns.length c1 := by have := of_one (hpre ⟨2, .data⟩ (by simp) rfl _ rfl); simpa using this
          have g61 : a.tmps.getD 61 undef = .int .i64 (k : Int) := by have := of_one (hpre ⟨3, .data⟩ (by simp) rfl _ rfl); simpa using this
          refine exec_same (v := .pointer (some ⟨bA, oA + k * 4, none⟩)) ?_ ⟨_, rfl, Rst.refl (by decide), at_one (by omega) rfl⟩
          simp [go_sem, Act.eval, g60, g61, hk0, hk1]
        · have g62 : a.tmps.getD 62 undef = .pointer (some ⟨bA, oA + k * 4, none⟩) := by have := of_one (hpre ⟨4, .data⟩ (by simp) rfl _ rfl); simpa using this
          obtain ⟨n0, n1, n2, n3⟩ := HCL.out wq hI
          refine exec_same (v := .agg #[.int .i64 x.k, .int .i64 x.n, .int .i64 x.a, .int .i64 x.b]) ?_ ⟨_, rfl, Rst.refl (by decide), at_one (by omega) rfl⟩
          simp [go_sem, Act.eval, g62, n0, n1, n2, n3]
        · have g58 : a.tmps.getD 58 undef = .agg #[.slice (some ⟨bA, oA, none⟩) ns.length c1] := by have := of_one (hpre ⟨0, .data⟩ (by simp) rfl _ rfl); simpa using this
          have g63 : a.tmps.getD 63 undef = .agg #[.int .i64 x.k, .int .i64 x.n, .int .i64 x.a, .int .i64 x.b] := by have := of_one (hpre ⟨5, .data⟩ (by simp) rfl _ rfl); simpa using this
          refine exec_call (f := 26) (args := #[.agg #[.slice (some ⟨bA, oA, none⟩) ns.length c1], .agg #[.int .i64 x.k, .int .i64 x.n, .int .i64 x.a, .int .i64 x.b]]) (by simp [go_sem, Act.eval, g58, g63]) ?_
          refine (HPU.out (some ⟨bA, oA, none⟩) c1 wq OA.rowIs (OA.next hI).rowAt).mono ?_
          rintro e w2 ⟨v', rfl, ho', hb⟩
          exact ⟨_, rfl, _, rfl, Rst.of (by decide) hb, at_one (by omega) ⟨v', rfl, OwnN.base ho' hI.size⟩⟩
        · obtain ⟨v, h26, ho⟩ := of_one (hpre ⟨6, .data⟩ (by simp) rfl _ rfl)
          have h26' : a.tmps.getD 64 undef = .tuple #[.agg #[v], .int .i64 ((k : Int))] := by simpa using h26
          refine exec_same (v := .tuple #[.agg #[v], .int .i64 ((k : Int))]) ?_ ⟨_, rfl, Rst.refl (by decide), at_one (by omega) ⟨v, rfl, ho⟩⟩
          simp [go_sem, Act.eval, h26']
        · obtain ⟨v, h21, ho⟩ := of_one (hpre ⟨7, .data⟩ (by simp) rfl _ rfl)
          have h21' : a.tmps.getD 57 undef = .tuple #[.agg #[v], .int .i64 ((k : Int))] := by simpa using h21
          refine exec_same (v := .agg #[v]) ?_ ⟨_, rfl, Rst.refl (by decide), at_one (by omega) ⟨v, rfl, ho⟩⟩
          simp [go_sem, Act.eval, h21']
        · obtain ⟨v, h21, ho⟩ := of_one (hpre ⟨7, .data⟩ (by simp) rfl _ rfl)
          have h21' : a.tmps.getD 57 undef = .tuple #[.agg #[v], .int .i64 ((k : Int))] := by simpa using h21
          refine exec_same (v := .int .i64 ((k : Int))) ?_ ⟨_, rfl, Rst.refl (by decide), at_one (by omega) rfl⟩
          simp [go_sem, Act.eval, h21']
        · refine exec_made (v := .pointer (some ⟨wq.heap.size, 0, none⟩)) (w' := wq.alloc (.cells #[.slice none 0 0] 28)) ?_ ⟨_, rfl, Rst.of (by decide) ((Below.refl wq.heap.size wq).alloc (Nat.le_refl _) _), at_one (by omega) ⟨wq.heap.size, .slice none 0 0, rfl, hI.size, heap_alloc_new _ _⟩⟩
          simp [go_sem]
        · obtain ⟨g, u, h6, hg, hu⟩ := of_one (hpre ⟨10, .data⟩ (by simp) rfl _ rfl)
          obtain ⟨v, h27, ho⟩ := of_one (hpre ⟨8, .data⟩ (by simp) rfl _ rfl)
          have h6' : a.tmps.getD 13 undef = .pointer (some ⟨g, 0, none⟩) := by simpa using h6
          have h27' : a.tmps.getD 65 undef = .agg #[v] := by simpa using h27
          have hcg : wq.cell? ⟨g, 0, none⟩ = some u := by rw [cell_of_row wq g 0 _ _ _ hu]; rfl
          have hfg : wq.frozen? ⟨g, 0, none⟩ = false := frozen_of_row wq g 0 _ _ hu
          obtain ⟨av, capv, rfl, _, _⟩ := ho.row
          refine exec_skip (w' := wq.setCell ⟨g, 0, none⟩ (.slice av (ns).length capv)) ?_ ⟨_, rfl, ?_, ?_⟩
          · simp [go_sem, Act.eval, h6', h27', hcg, hfg]
          · unfold Rst; rw [if_pos rfl]; exact ⟨g, u, _, rfl, hg, hu⟩
          · exact ⟨g, _, by show [a.tmps.getD 13 undef, a.tmps.getD 65 undef] = _; rw [h6', h27'], hg, (heap_setCell_same wq g 0 _ _ _ hu).trans rfl, own_store ho hu⟩
        · have p7 := of_one (hpre ⟨9, .data⟩ (by simp) rfl _ rfl)
          have h28 : a.tmps.getD 66 undef = .int .i64 ((k : Int)) := by simpa using p7
          refine exec_same (v := .int .i64 ((k : Int))) ?_ ⟨_, rfl, Rst.refl (by decide), at_one (by omega) rfl⟩
          simp [go_sem, Act.eval, h28]
      case fin =>
        intro zs w9 hzl hI hF
        obtain ⟨z0, z1, z2, z3, z4, z5, z6, z7, z8, z9, z10, z11, z12, rfl⟩ := list13 zs hzl
        obtain ⟨gD, vD, hst, hg, hbox, hown⟩ := of_two (hF 11 _ rfl)
        have hint := of_one (hF 12 _ rfl)
        simp only [List.cons.injEq, and_true] at hst hint
        have hs1 := last_is (i := 10) (v := z10) (n := 155) hst.1 (by kernel_rfl) rfl rfl (by omega)
        have hs2 := last_is (i := 8) (v := z8) (n := 155) hst.2 (by kernel_rfl) rfl rfl (by omega)
        have hs3 := last_is (i := 12) (v := z12) (n := 155) hint (by kernel_rfl) rfl rfl (by omega)
        clear hst hint
        subst hs1 hs2 hs3
        clear hF
        simp only [putAll, Act.put, List.setIfInBounds_toArray, List.set_cons_succ, List.set_cons_zero]
        have OD := Own.made hown
        have BD : Var gD vD w9 := ⟨(Array.getElem?_eq_some_iff.1 hbox).1, (cell_of_row w9 gD 0 _ _ _ hbox).trans rfl⟩
        replace BA := BA.next hI
        replace OA := OA.next hI
        replace BB := BB.next hI
        replace OB := OB.next hI
        replace BC := BC.next hI
        replace OC := OC.next hI
        replace HB : Hid (Below w.heap.size w (w9)) := HB.out.trans (hI.mono HB.out.size)
        replace HC : Hid (CodeIn (w9).heap.size (w9) a0 len0) := codeIn_later HC.out hI
        obtain ⟨aD, cD, rfl, -, -⟩ := hown.row
        clear hown hbox hI HPU HCL hg
        go_wp2_with fail
        refine (drawRT_any _ _ _ _ HC.out).mono ?_
        rintro e w10 ⟨v10, ms, s, rfl, hm1, hm2, hmf, hss, ho10, hb⟩
        obtain ⟨aX, cX, rfl, -, -⟩ := ho10.row
        have OX := Own.made ho10
        replace BA := BA.next hb
        replace OA := OA.next hb
        replace BB := BB.next hb
        replace OB := OB.next hb
        replace BC := BC.next hb
        replace OC := OC.next hb
        replace BD := BD.next hb
        replace OD := OD.next hb
        replace HB : Hid (Below w.heap.size w (w10)) := HB.out.trans (hb.mono HB.out.size)
        replace HC : Hid (CodeIn (w10).heap.size (w10) a0 len0) := codeIn_later HC.out hb
        clear hb ho10
        have hbb : Below w10.heap.size w10 (w10.alloc (.cells #[.slice aX ms.length cX] 28)) := (Below.refl _ _).alloc (Nat.le_refl _) _
        replace BA := BA.next hbb
        replace OA := OA.next hbb
        replace BB := BB.next hbb
        replace OB := OB.next hbb
        replace BC := BC.next hbb
        replace OC := OC.next hbb
        replace BD := BD.next hbb
        replace OD := OD.next hbb
        replace OX := OX.next hbb
        replace HB : Hid (Below w.heap.size w (w10.alloc (.cells #[.slice aX ms.length cX] 28))) := HB.out.trans (hbb.mono HB.out.size)
        replace HC : Hid (CodeIn (w10.alloc (.cells #[.slice aX ms.length cX] 28)).heap.size (w10.alloc (.cells #[.slice aX ms.length cX] 28)) a0 len0) := codeIn_later HC.out hbb
        have BX : Var w10.heap.size (.slice aX ms.length cX) (w10.alloc (.cells #[.slice aX ms.length cX] 28)) := Var.made
        clear hbb
        obtain ⟨zs, zk, zb, hr2, hr3, HZL⟩ : ∃ (zs : List Nd) (zk : Int) (zb : Bool), (∀ (a : Option Addr) (cap : Nat) (w : World), AddrN a cap → RowN w.heap.size w a ms → Calls Try.prog 18 #[.agg #[.slice a ms.length cap], .string s] w fun e w' => ∃ v, e = .returned (.tuple #[.agg #[v], .int .i64 zk, .bool zb]) ∧ OwnC w.heap.size w' v zs ∧ Below w.heap.size w w') ∧ (∀ (a : Option Addr) (cap : Nat) (w : World), AddrN a cap → RowN w.heap.size w a ms → Calls Try.prog 16 #[.agg #[.slice a ms.length cap], .string s] w fun e w' => ∃ v, e = .returned (.tuple #[.agg #[v], .int .i64 zk, .bool zb]) ∧ OwnN w.heap.size w' v zs ∧ Below w.heap.size w w') ∧ Hid (zs.length ≤ 1048576) := ⟨_, _, _, fun a cap w ha hr => implRT_any a cap ms s w (by omega) (by omega) hmf ha hr, fun a cap w ha hr => specRTv_any a cap ms s w (by omega) (by omega) ha hr, rtA_le s ms (by omega)⟩
        have HR2 : Hid _ := hr2
        have HR3 : Hid _ := hr3
        clear hr2 hr3 hmf
        go_wp2_with fail
        generalize w10.alloc (.cells #[.slice aX ms.length cX] 28) = w11 at BA OA BB OB BC OC BD OD BX OX HB HC ⊢
        refine (HR2.out _ _ _ OX.rowIs OX.rowAt).mono ?_
        rintro e w12 ⟨v12, rfl, ho12, hb⟩
        obtain ⟨aE, cE, pE, rfl, hAE, ho12⟩ := ho12
        have OE := Own.made ho12
        replace BA := BA.next hb
        replace OA := OA.next hb
        replace BB := BB.next hb
        replace OB := OB.next hb
        replace BC := BC.next hb
        replace OC := OC.next hb
        replace BD := BD.next hb
        replace OD := OD.next hb
        replace BX := BX.next hb
        replace OX := OX.next hb
        replace HB : Hid (Below w.heap.size w (w12)) := HB.out.trans (hb.mono HB.out.size)
        replace HC : Hid (CodeIn (w12).heap.size (w12) a0 len0) := codeIn_later HC.out hb
        clear hb ho12 HR2
        have hbb : Below w12.heap.size w12 (w12.alloc (.cells #[.slice aE zs.length cE] 28)) := (Below.refl _ _).alloc (Nat.le_refl _) _
        replace BA := BA.next hbb
        replace OA := OA.next hbb
        replace BB := BB.next hbb
        replace OB := OB.next hbb
        replace BC := BC.next hbb
        replace OC := OC.next hbb
        replace BD := BD.next hbb
        replace OD := OD.next hbb
        replace BX := BX.next hbb
        replace OX := OX.next hbb
        replace OE := OE.next hbb
        replace HB : Hid (Below w.heap.size w (w12.alloc (.cells #[.slice aE zs.length cE] 28))) := HB.out.trans (hbb.mono HB.out.size)
        replace HC : Hid (CodeIn (w12.alloc (.cells #[.slice aE zs.length cE] 28)).heap.size (w12.alloc (.cells #[.slice aE zs.length cE] 28)) a0 len0) := codeIn_later HC.out hbb
        have BE : Var w12.heap.size (.slice aE zs.length cE) (w12.alloc (.cells #[.slice aE zs.length cE] 28)) := Var.made
        clear hbb
        have q := BX.c
        go_wp2_with fail
        clear q
        generalize w12.alloc (.cells #[.slice aE zs.length cE] 28) = w13 at BA OA BB OB BC OC BD OD BX OX BE OE HB HC ⊢
        refine (HR3.out _ _ _ OX.rowIs OX.rowAt).mono ?_
        rintro e w14 ⟨v14, rfl, ho14, hb⟩
        obtain ⟨aF, cF, rfl, -, -⟩ := ho14.row
        have OF := Own.made ho14
        replace BA := BA.next hb
        replace OA := OA.next hb
        replace BB := BB.next hb
        replace OB := OB.next hb
        replace BC := BC.next hb
        replace OC := OC.next hb
        replace BD := BD.next hb
        replace OD := OD.next hb
        replace BX := BX.next hb
        replace OX := OX.next hb
        replace BE := BE.next hb
        replace OE := OE.next hb
        replace HB : Hid (Below w.heap.size w (w14)) := HB.out.trans (hb.mono HB.out.size)
        replace HC : Hid (CodeIn (w14).heap.size (w14) a0 len0) := codeIn_later HC.out hb
        clear hb ho14 HR3
        have hbb : Below w14.heap.size w14 (w14.alloc (.cells #[.slice aF zs.length cF] 28)) := (Below.refl _ _).alloc (Nat.le_refl _) _
        replace BA := BA.next hbb
        replace OA := OA.next hbb
        replace BB := BB.next hbb
        replace OB := OB.next hbb
        replace BC := BC.next hbb
        replace OC := OC.next hbb
        replace BD := BD.next hbb
        replace OD := OD.next hbb
        replace BX := BX.next hbb
        replace OX := OX.next hbb
        replace BE := BE.next hbb
        replace OE := OE.next hbb
        replace OF := OF.next hbb
        replace HB : Hid (Below w.heap.size w (w14.alloc (.cells #[.slice aF zs.length cF] 28))) := HB.out.trans (hbb.mono HB.out.size)
        replace HC : Hid (CodeIn (w14.alloc (.cells #[.slice aF zs.length cF] 28)).heap.size (w14.alloc (.cells #[.slice aF zs.length cF] 28)) a0 len0) := codeIn_later HC.out hbb
        have BF : Var w14.heap.size (.slice aF zs.length cF) (w14.alloc (.cells #[.slice aF zs.length cF] 28)) := Var.made
        clear hbb
        clear BX OX HC
        cases hok : ok with
        | false =>
          have HSZ : Hid (2000 < sizeN ns (k : Int)) := by
            have h1 := HTB.out.2.1
            rw [hok] at h1
            have h2 := inB_false h1.symm
            have h3 := (szv_range ns k (all_good HALL.out hk).2).1
            rw [← sizeN_in ns k hk] at h3
            show _ < _
            omega
          have HS : Hid _ := implSize_any (some ⟨bA, oA, none⟩) c1 ns (k : Int) (w14.alloc (.cells #[.slice aF zs.length cF] 28)) (by omega) OA.rowAt
          have q := BA.c
          go_wp2_with fail
          refine Calls.mono HS.out ?_
          rintro e w16 ⟨rfl, hb⟩
          have hBB := HB.out.trans (hb.mono HB.out.size)
          have hgt := HSZ.out
          generalize sizeN ns (k : Int) = z at hgt
          clear hb HS q BA OA BB OB BC OC BD OD BE OE BF OF
          go_wp2
          go_ret
          exact ⟨by first | rfl | simp, hBB⟩
        | true =>
          obtain ⟨e1, ms', j', e2, e3, e4, e5, e6, e7⟩ := text_back HALL.out (by omega) hk (show txB ns (k : Int) = true by rw [← HTB.out.2.1, hok])
          rw [← HTB.out.1] at e1 e2 e4
          obtain ⟨u1, u2, u3⟩ := rt_some e1
          obtain ⟨y1, y2, y3⟩ := rt_some e2
          obtain ⟨x1, x2, x3, x4⟩ := HE0.out
          obtain ⟨z1, z2, z3, z4⟩ := HE1.out
          rw [y1] at x1
          rw [y2] at x2
          rw [y3] at x3
          rw [u1] at z1
          rw [u2] at z2
          rw [u3] at z3
          have z1' := z1.symm
          clear z1
          subst x1 x2 x3 z1' z2 z3
          have HTU : Hid (∀ (a : Option Addr) (cap : Nat) (w : World), RowN w.heap.size w a ls → Calls Try.prog 25 #[.agg #[.slice a ls.length cap], .int .i64 (j' : Int)] w fun e w' => e = .returned (.tuple #[.string t, .bool true]) ∧ Below w.heap.size w w') := fun a cap w hr => by
            have := implTextV_any a cap ls (j' : Int) w (by omega) hr
            rw [e3, e4] at this
            exact this
          have HSE : Hid (sizeN ls (j' : Int) = sizeN ns (k : Int)) := e5
          have HAO : Hid (arenaB ls = true ∧ ∀ y ∈ ls, y.Fits) := ⟨e6, all_fits (by unfold arenaB at e6; simp at e6; exact e6.2) (by omega)⟩
          have hll : ls.length ≤ 2000 := e7
          clear e1 e2 e3 e4 e5 e6 e7 u1 u2 u3 y1 y2 y3 x4 z4 HE0 HE1 HTB hts
          have q := BB.c
          go_wp2_with fail
          clear q
          generalize w14.alloc (.cells #[.slice aF zs.length cF] 28) = w15 at BA OA BB OB BC OC BD OD BE OE BF OF HB ⊢
          refine (HTU.out _ _ _ OB.rowAt).mono ?_
          rintro e w16 ⟨rfl, hb⟩
          replace BA := BA.next hb
          replace OA := OA.next hb
          replace BB := BB.next hb
          replace OB := OB.next hb
          replace BC := BC.next hb
          replace OC := OC.next hb
          replace BD := BD.next hb
          replace OD := OD.next hb
          replace BE := BE.next hb
          replace OE := OE.next hb
          replace BF := BF.next hb
          replace OF := OF.next hb
          replace HB : Hid (Below w.heap.size w w16) := HB.out.trans (hb.mono HB.out.size)
          clear hb HTU
          go_wp2_with fail
          obtain ⟨S, hS0, hNE, HK⟩ := below_class (Below.refl w16.heap.size w16) (Nat.le_refl _)
          have cA : ∀ s : Hw S, s.w.cell? ⟨w1.heap.size, 0, none⟩ = some (.slice (some ⟨bA, oA, none⟩) ns.length c1) := fun s => ((HK.out.2 _ s.ok).cell (p := ⟨w1.heap.size, 0, none⟩) BA.lt).trans BA.c
          have cB' : ∀ s : Hw S, s.w.cell? ⟨w5.heap.size, 0, none⟩ = some (.slice aB ls.length cB) := fun s => ((HK.out.2 _ s.ok).cell (p := ⟨w5.heap.size, 0, none⟩) BB.lt).trans BB.c
          have cC' : ∀ s : Hw S, s.w.cell? ⟨w7.heap.size, 0, none⟩ = some (.slice aC ns.length cC) := fun s => ((HK.out.2 _ s.ok).cell (p := ⟨w7.heap.size, 0, none⟩) BC.lt).trans BC.c
          have cD' : ∀ s : Hw S, s.w.cell? ⟨gD, 0, none⟩ = some (.slice aD ns.length cD) := fun s => ((HK.out.2 _ s.ok).cell (p := ⟨gD, 0, none⟩) BD.lt).trans BD.c
          have cE' : ∀ s : Hw S, s.w.cell? ⟨w12.heap.size, 0, none⟩ = some (.slice aE zs.length cE) := fun s => ((HK.out.2 _ s.ok).cell (p := ⟨w12.heap.size, 0, none⟩) BE.lt).trans BE.c
          have cF' : ∀ s : Hw S, s.w.cell? ⟨w14.heap.size, 0, none⟩ = some (.slice aF zs.length cF) := fun s => ((HK.out.2 _ s.ok).cell (p := ⟨w14.heap.size, 0, none⟩) BF.lt).trans BF.c
          have HSA : Hid (∀ (s : Hw S) (v u : Value), (v = .agg #[.slice aC ns.length cC] ∧ u = .agg #[.slice (some ⟨bA, oA, none⟩) ns.length c1]) ∨ (v = .agg #[.slice aD ns.length cD] ∧ u = .agg #[.slice (some ⟨bA, oA, none⟩) ns.length c1]) ∨ (v = .agg #[.slice aE zs.length cE] ∧ u = .agg #[.slice aF zs.length cF]) → Calls Try.prog 29 #[v, u] s.w fun e w' => e = .returned (.bool true) ∧ Below s.w.heap.size s.w w') := fun s v u h => by
            rcases h with ⟨rfl, rfl⟩ | ⟨rfl, rfl⟩ | ⟨rfl, rfl⟩
            · exact sameA_same aC _ cC c1 ns s.w (by omega) (OC.rowAt.grown (HK.out.2 _ s.ok)) (OA.rowAt.grown (HK.out.2 _ s.ok))
            · exact sameA_same aD _ cD c1 ns s.w (by omega) (OD.rowAt.grown (HK.out.2 _ s.ok)) (OA.rowAt.grown (HK.out.2 _ s.ok))
            · exact sameA_same aE aF cE cF zs s.w HZL.out (OE.rowAt.grown (HK.out.2 _ s.ok)) (OF.rowAt.grown (HK.out.2 _ s.ok))
          have HSO : Hid (∀ (s : Hw S) (v : Value) (i : Int), (v = .agg #[.slice aB ls.length cB] ∧ i = (j' : Int)) ∨ (v = .agg #[.slice (some ⟨bA, oA, none⟩) ns.length c1] ∧ i = (k : Int)) → Calls Try.prog 28 #[v, .int .i64 i] s.w fun e w' => e = .returned (.int .i64 (sizeN ns (k : Int))) ∧ Below s.w.heap.size s.w w') := fun s v i h => by
            rcases h with ⟨rfl, rfl⟩ | ⟨rfl, rfl⟩
            · have := implSize_any aB cB ls (j' : Int) s.w (by omega) (OB.rowAt.grown (HK.out.2 _ s.ok)); rw [HSE.out] at this; exact this
            · exact implSize_any _ c1 ns (k : Int) s.w (by omega) (OA.rowAt.grown (HK.out.2 _ s.ok))
          have HAK : Hid (∀ s : Hw S, Calls Try.prog 30 #[.agg #[.slice aB ls.length cB]] s.w fun e w' => e = .returned (.bool true) ∧ Below s.w.heap.size s.w w') := fun s => by
            have := implArena_any aB cB ls s.w (by omega) HAO.out.2 (OB.rowAt.grown (HK.out.2 _ s.ok)); rw [HAO.out.1] at this; exact this
          generalize sizeN ns (k : Int) = sz at HSO HSE
          clear HSE HAO HALL BA OA BB OB BC OC BD OD BE OE BF OF
          refine wp_region_held (S := S) (by kernel_rfl) (by kernel_rfl) hS0 ?_
          repeat (go_big_quiet_step (first | (go_at_call 29; refine Calls.held (HSA.out _ _ _ ?_) (HK.out.1 _); first | exact .inl ⟨rfl, rfl⟩ | exact .inr (.inl ⟨rfl, rfl⟩) | exact .inr (.inr ⟨rfl, rfl⟩)) | (go_at_call 28; refine Calls.held (HSO.out _ _ _ ?_) (HK.out.1 _); first | exact .inl ⟨rfl, rfl⟩ | exact .inr ⟨rfl, rfl⟩) | (go_at_call 30; exact Calls.held (HAK.out _) (HK.out.1 _))))
          refine wpQuiet_nil ?_
          rintro _ ⟨sw, rfl⟩
          have hBB := HB.out.trans ((HK.out.2 _ sw.ok).mono HB.out.size)
          clear cA cB' cC' cD' cE' cF' HK HSA HSO HAK
          go_wp2
          go_ret
          exact ⟨rfl, hBB⟩
  · have hd : decide ((1048576 : Int) < (len0 : Int)) = true := by simp; omega
    clear hcode
    go_enter Try.func4, Try.ntmps4
    go_wp2_with fail
    refine (big_any _ _ _ _).mono ?_
    rintro e w1 ⟨rfl, rfl⟩
    rw [hd]
    go_wp2
    go_ret
    exact ⟨rfl, Below.refl _ _⟩

theorem laidOut : laidOutB Try.prog = true := by kernel_rfl
set_option maxRecDepth 100000 in
theorem lifted (os : Os) (started : os.Started) (H : Type) (enc : TypeId × Value → H) :
    ReturnsInHanded {} Try.checked os 4 .any (Rows.fnTermsSpec.pre6 enc Try.prog Try.f4 Rows.fnTermsRow.domain false) (Rows.fnTermsSpec.post enc Try.prog Try.f4 false true false false) := by
  refine returnsInHanded_of_change (C := Try.checked) own started (by kernel_rfl) Try.func4
    (ChangeSpec.witness6 (enc := enc) (C := Try.checked) false ⟨#[], #[.slice none 0 0], []⟩ 8 (by kernel_rfl) (by kernel_rfl) (by kernel_rfl) (by kernel_rfl)) ?_
  intro W base args ds gs before hval0 hW hcnd _
  have hval : ∀ (j : Nat) t v, Try.f4.params[j]? = some t → args[j]? = some v → Value.okWide Try.prog W .any base t v := hval0
  have hW' := hW
  obtain ⟨p, q, hA0, hV, rfl, hfz, hnd⟩ := hW
  have hA : DataW.TrodAll enc Try.prog W 0 (fun _ => true) true Try.f4.params.toList args.toList ds p := hA0
  rw [Try.params4] at hA hval
  obtain ⟨v0, vs0, d0, ds0, p0, q0, hargs, rfl, rfl, h0, r0⟩ := trodAll_cons hA
  obtain ⟨rfl, rfl, rfl⟩ := trodAll_nil r0
  obtain rfl : args = #[v0] := by cases args; simp_all
  obtain ⟨rfl, rfl⟩ := trodVars_none hV
  obtain ⟨a0, len0, cap0, rfl⟩ := okWide_slice Try.underlying35 (hval 0 35 v0 rfl rfl)
  have k0 := h0
  have lt0 : ∀ x ∈ p0, x.block < W.heap.size := by obtain ⟨m, hm⟩ := k0; exact DataW.trod_lt m _ _ _ hm
  clear hA0 hval0
  refine (walk a0 len0 cap0  W (code_of h0)).mono fun e W' ⟨he, bel⟩ => ?_
  subst he
  exact ⟨_, rfl, _, _, _, [], _, [], hW', trodAll_mk1 (shut_bool Try.underlying4 _), (trodAll_cons_mk (Below.trod laidOut (by kernel_rfl) (of_decide_eq_true (by kernel_rfl)) k0 bel lt0) trodAll_mk0), rfl, bel.frame _, fun h => by cases h⟩

theorem over : Rows.fnTermsRow.holds Try.pinned (OpenSpec.ofChange Rows.fnTermsSpec) :=
  OpenClaim.holds_of_wide 4 Try.f4 rfl rfl rfl rfl rfl rfl rfl ⟨rfl, rfl, rfl, rfl, rfl⟩ rfl rfl rfl rfl rfl (by kernel_rfl) Try.func4 (by kernel_rfl)
    (of_decide_eq_true (by kernel_rfl)) (by unfold Func.isWrapper; first | (rw [if_pos (by decide +kernel)]; kernel_rfl) | (rw [if_neg (by decide +kernel)]; exact ⟨rfl, rfl⟩))
    (fun os started H enc _ => lifted os started H enc)
end fnTerms

theorem fnTerms_holds : Rows.FnTermsSaid := fnTerms.over
#print axioms fnTerms_holds
end Go.Proofs.Ytffnadnndmmliaa
