/- For every arena and hello: HelloTerm of the program answers as the specification's HelloTerm does, writes into no argument, keeps nothing of one, owns its answer's memory, behind another call too; and the arguments read as before. No condition. -/
import Derived.Test.YtlecpjgeaigjkaaRows
import Derived.Test.YtlecpjgeaigjkaaArgArena
import Derived.Test.YtlecpjgeaigjkaaLawKeep
import Derived.Test.YtlecpjgeaigjkaaHello11
import Derived.Test.YtlecpjgeaigjkaaImplHT11
import Derived.Test.YtlecpjgeaigjkaaLawHel
import Derived.Test.YtlecpjgeaigjkaaKeptL
import Derived.Test.YtlecpjgeaigjkaaRegionA
import Derived.WalkKit
import Derived.ProofKit
import Derived.OpenShut
import Derived.ShutString
import Derived.ChangeOld
import Derived.PlainAid
import Derived.Deep.RegionHeld3
import Derived.Deep.DeepCutAuto
namespace Go.Proofs.Ytlecpjgeaigjkaa
namespace fnExactHelloTerm
open Go.ChangeShapes Go.WideShapes Go.ChangeAt Go.RowKit Go.PlainAid
open Go.ChangeMaps (open_string shut_string)
set_option linter.unusedVariables false

theorem own : ownKnob Try.prog.godebug = none := by kernel_rfl

theorem wf_in {x : Int} (h : -9223372036854775808 ≤ x ∧ x ≤ 9223372036854775807) : (Lit.int .i64 x).wf = true := by
  have h1 : IntKind.i64.min = -9223372036854775808 := rfl
  have h2 : IntKind.i64.max = 9223372036854775807 := rfl
  simp [Lit.wf, h1, h2]; omega
set_option maxHeartbeats 6400000 in
set_option maxRecDepth 20000 in
theorem walk (a0 : Option Addr) (cp : Nat) (ns : List Nd) (x : Nd) (w0 : ns.length ≤ maxLen) (f0 : ∀ y ∈ ns, y.Fits) (w1 : x.Fits) (w : World) (hr : RowN w.heap.size w a0 ns) :
    Calls Try.prog 3 #[.agg #[.slice a0 ns.length cp], .agg #[.int .i64 x.k, .int .i64 x.n, .int .i64 x.a, .int .i64 x.b]] w fun e w' => e = .returned (.bool true) ∧ Below w.heap.size w w' := by
  have HR : Hid (RowN w.heap.size w a0 ns) := hr
  have HF : Hid (∀ y ∈ ns, y.Fits) := f0
  have wx := w1
  clear hr f0 w1
  by_cases hl : ns.length ≤ 1048576
  · obtain ⟨HM, HK, HS, HI, HPL⟩ : ∃ (HM : List Nd) (HK : Int), Hid (∀ (a : Option Addr) (cap : Nat) (w : World), AddrN a cap → RowN w.heap.size w a ns → Calls Try.prog 10 #[.agg #[.slice a ns.length cap], .agg #[.int .i64 x.k, .int .i64 x.n, .int .i64 x.a, .int .i64 x.b]] w fun e w' => ∃ v, e = .returned (.tuple #[.agg #[v], .int .i64 HK]) ∧ OwnN w.heap.size w' v HM ∧ Below w.heap.size w w') ∧ Hid (∀ (a : Option Addr) (cap : Nat) (w : World), AddrN a cap → RowN w.heap.size w a ns → Calls Try.prog 13 #[.agg #[.slice a ns.length cap], .agg #[.int .i64 x.k, .int .i64 x.n, .int .i64 x.a, .int .i64 x.b]] w fun e w' => ∃ v, e = .returned (.tuple #[.agg #[v], .int .i64 HK]) ∧ OwnC w.heap.size w' v HM ∧ Below w.heap.size w w') ∧ Hid (HM.length ≤ 1048577) :=
      ⟨keptA ns (hlA ns x.k x.n x.a x.b) (hlK ns x.k x.n x.a x.b), hlK ns x.k x.n x.a x.b, fun a cap w ha hr => specHello_any a cap ns x.k x.n x.a x.b w hl ha hr, fun a cap w ha hr => implHello_any a cap ns x.k x.n x.a x.b w hl HF.out (wf_in wx.1) (wf_in wx.2.1) (wf_in wx.2.2.1) (wf_in wx.2.2.2) ha hr, keptA_len hl (hlA_le hl)⟩
    have hl' : ¬ (1048576 : Int) - (ns.length : Int) < 0 := by omega
    clear w0
    have B0 : Below w.heap.size w ((w.alloc (.cells #[.slice a0 ns.length cp] 24)).alloc (.cells #[.int .i64 x.k, .int .i64 x.n, .int .i64 x.a, .int .i64 x.b] 26)) := ((Below.refl _ _).alloc (Nat.le_refl _) _).alloc (by simp) _
    have A0 : Var w.heap.size (.slice a0 ns.length cp) ((w.alloc (.cells #[.slice a0 ns.length cp] 24)).alloc (.cells #[.int .i64 x.k, .int .i64 x.n, .int .i64 x.a, .int .i64 x.b] 26)) := Var.made.next ((Below.refl _ _).alloc (Nat.le_refl _) _)
    have N0 : NodeIn (w.heap.size + 1) x ((w.alloc (.cells #[.slice a0 ns.length cp] 24)).alloc (.cells #[.int .i64 x.k, .int .i64 x.n, .int .i64 x.a, .int .i64 x.b] 26)) := by
      have := NodeIn.made (w := w.alloc (.cells #[.slice a0 ns.length cp] 24)) (x := x) (t := 26)
      simpa using this
    have I0 : In w.heap.size a0 ns ((w.alloc (.cells #[.slice a0 ns.length cp] 24)).alloc (.cells #[.int .i64 x.k, .int .i64 x.n, .int .i64 x.a, .int .i64 x.b] 26)) := ⟨by simp; omega, HR.out.later B0⟩
    have HB0 : Hid _ := B0
    clear B0 HR
    go_enter Try.func3, Try.ntmps3
    go_wp2_with fail
    generalize (w.alloc (.cells #[.slice a0 ns.length cp] 24)).alloc (.cells #[.int .i64 x.k, .int .i64 x.n, .int .i64 x.a, .int .i64 x.b] 26) = wA at A0 N0 I0 HB0 ⊢
    refine (szArena_any a0 ns.length cp _ hl).mono ?_
    rintro e w1 ⟨rfl, hb⟩
    have A1 := A0.next hb
    have N1 := N0.next hb
    have I1 := I0.next hb
    have HB1 : Hid (Below w.heap.size w w1) := HB0.out.trans (hb.mono HB0.out.size)
    clear A0 N0 I0 HB0 hb
    have AV := A1
    have AN := N1
    have AI := I1
    clear A1 N1 I1
    clear HF wx
    go_wp2_with fail
    refine wp_region_list (I := fun w' => Below w1.heap.size w1 w') (R := Rst w1.heap.size 9)
      (fs := #[⟨[22], fun vs _ => vs = [.agg #[.slice a0 ns.length cp]]⟩, ⟨[23], fun vs w' => ∃ v, vs = [.agg #[v]] ∧ OwnN w1.heap.size w' v ns⟩, ⟨[24], fun vs _ => vs = [.agg #[.int .i64 x.k, .int .i64 x.n, .int .i64 x.a, .int .i64 x.b]]⟩, ⟨[25], fun vs _ => vs = [.agg #[.int .i64 x.k, .int .i64 x.n, .int .i64 x.a, .int .i64 x.b]]⟩, ⟨[26], fun vs w' => ∃ v, vs = [.tuple #[.agg #[v], .int .i64 HK]] ∧ OwnN w1.heap.size w' v HM⟩, ⟨[21], fun vs w' => ∃ v, vs = [.tuple #[.agg #[v], .int .i64 HK]] ∧ OwnN w1.heap.size w' v HM⟩, ⟨[27], fun vs w' => ∃ v, vs = [.agg #[v]] ∧ OwnN w1.heap.size w' v HM⟩, ⟨[28], fun vs _ => vs = [.int .i64 HK]⟩, ⟨[6], fun vs w' => ∃ g u, vs = [.pointer (some ⟨g, 0, none⟩)] ∧ w1.heap.size ≤ g ∧ w'.heap[g]? = some (.cells #[u] 30 (0, 0))⟩, ⟨[6, 27], fun vs w' => ∃ g v, vs = [.pointer (some ⟨g, 0, none⟩), .agg #[v]] ∧ w1.heap.size ≤ g ∧ w'.heap[g]? = some (.cells #[v] 30 (0, 0)) ∧ OwnN w1.heap.size w' v HM⟩, ⟨[7], fun vs _ => vs = [.int .i64 HK]⟩])
      (by kernel_rfl) 104 rfl (by kernel_rfl) ?stab ?istab ?start ?exec ?fin
    case stab =>
      intro k i f hki hf
      have hk : k < 11 := (Array.getElem?_eq_some_iff.1 hf).1
      rcases (show k = 0 ∨ k = 1 ∨ k = 2 ∨ k = 3 ∨ k = 4 ∨ k = 5 ∨ k = 6 ∨ k = 7 ∨ k = 8 ∨ k = 9 ∨ k = 10 by omega) with rfl | rfl | rfl | rfl | rfl | rfl | rfl | rfl | rfl | rfl | rfl
      all_goals
        simp only [List.getElem?_toArray, List.getElem?_cons_succ, List.getElem?_cons_zero, Option.some.injEq] at hf
        subst hf
      · exact fun vs _ _ _ h => h
      · exact fun vs w' w'' hR ⟨v, h1, h2⟩ => ⟨v, h1, hR.own h2⟩
      · exact fun vs _ _ _ h => h
      · exact fun vs _ _ _ h => h
      · exact fun vs w' w'' hR ⟨v, h1, h2⟩ => ⟨v, h1, hR.own h2⟩
      · exact fun vs w' w'' hR ⟨v, h1, h2⟩ => ⟨v, h1, hR.own h2⟩
      · exact fun vs w' w'' hR ⟨v, h1, h2⟩ => ⟨v, h1, hR.own h2⟩
      · exact fun vs _ _ _ h => h
      · exact fun vs w' w'' hR ⟨g, u, h1, h2, h3⟩ => by obtain ⟨u', hu'⟩ := hR.box ⟨u, h3⟩; exact ⟨g, u', h1, h2, hu'⟩
      · exact fun vs w' w'' hR ⟨g, v, h1, h2, h3, h4⟩ => ⟨g, v, h1, h2, ((hR.other (Ne.symm hki)).block g (Array.getElem?_eq_some_iff.1 h3).1).trans h3, hR.own h4⟩
      · exact fun vs _ _ _ h => h
    case istab => exact fun i w' w'' hR h => Rst.inv (Nat.le_refl _) hR h
    case start => exact (Below.refl _ _).drew
    case exec =>
      intro i o f hi hf a wq hsz hI hold hpre
      have hi11 : i < 11 := (Array.getElem?_eq_some_iff.1 hi).1
      rcases (show i = 0 ∨ i = 1 ∨ i = 2 ∨ i = 3 ∨ i = 4 ∨ i = 5 ∨ i = 6 ∨ i = 7 ∨ i = 8 ∨ i = 9 ∨ i = 10 by omega) with rfl | rfl | rfl | rfl | rfl | rfl | rfl | rfl | rfl | rfl | rfl
      all_goals
        simp only [List.getElem?_toArray, List.getElem?_cons_succ, List.getElem?_cons_zero, Option.some.injEq] at hi hf
        subst hi hf
      · have h2 : a.tmps.getD 2 undef = .pointer (some ⟨w.heap.size, 0, none⟩) := hold 2 (free_spec (by kernel_rfl))
        have hc : wq.cell? ⟨w.heap.size, 0, none⟩ = some (.slice a0 ns.length cp) := (hI.cell (p := ⟨w.heap.size, 0, none⟩) AV.lt).trans AV.c
        refine exec_same (v := .agg #[.slice a0 ns.length cp]) ?_ ⟨_, rfl, Rst.refl (by decide), at_one (by omega) rfl⟩
        simp [go_sem, Act.eval, h2, hc]
      · have p0 := hpre ⟨0, .data⟩ (by simp) rfl _ rfl
        have h22 : a.tmps.getD 22 undef = .agg #[.slice a0 ns.length cp] := by have := of_one p0; simpa using this
        refine exec_call (f := 11) (args := #[.agg #[.slice a0 ns.length cp]]) (by simp [go_sem, Act.eval, h22]) ?_
        refine (toArena_any a0 cp ns wq hl (AI.next hI).all).mono ?_
        rintro e w2 ⟨v, rfl, ho, hb⟩
        exact ⟨_, rfl, _, rfl, Rst.of (by decide) hb, at_one (by omega) ⟨v, rfl, OwnN.base ho hI.size⟩⟩
      · have h3 : a.tmps.getD 3 undef = .pointer (some ⟨w.heap.size + 1, 0, none⟩) := hold 3 (free_spec (by kernel_rfl))
        have nn := AN.next hI
        have n0 := nn.c0
        have n1 := nn.c1
        have n2 := nn.c2
        have n3 := nn.c3
        refine exec_same (v := .agg #[.int .i64 x.k, .int .i64 x.n, .int .i64 x.a, .int .i64 x.b]) ?_ ⟨_, rfl, Rst.refl (by decide), at_one (by omega) rfl⟩
        simp [go_sem, Act.eval, h3, n0, n1, n2, n3]
      · have p0 := hpre ⟨2, .data⟩ (by simp) rfl _ rfl
        have h24 : a.tmps.getD 24 undef = .agg #[.int .i64 x.k, .int .i64 x.n, .int .i64 x.a, .int .i64 x.b] := by have := of_one p0; simpa using this
        refine exec_call (f := 12) (args := #[.agg #[.int .i64 x.k, .int .i64 x.n, .int .i64 x.a, .int .i64 x.b]]) (by simp [go_sem, Act.eval, h24]) ?_
        refine (toHello_any x wq).mono ?_
        rintro e w2 ⟨rfl, hb⟩
        exact ⟨_, rfl, _, rfl, Rst.of (by decide) hb, at_one (by omega) rfl⟩
      · obtain ⟨v, h23, ho⟩ := of_one (hpre ⟨1, .data⟩ (by simp) rfl _ rfl)
        have p3 := of_one (hpre ⟨3, .data⟩ (by simp) rfl _ rfl)
        have h23' : a.tmps.getD 23 undef = .agg #[v] := by simpa using h23
        have h25 : a.tmps.getD 25 undef = .agg #[.int .i64 x.k, .int .i64 x.n, .int .i64 x.a, .int .i64 x.b] := by simpa using p3
        obtain ⟨a2, cap2, rfl, hA2, hr2⟩ := ho.row
        refine exec_call (f := 10) (args := #[.agg #[.slice a2 ns.length cap2], .agg #[.int .i64 x.k, .int .i64 x.n, .int .i64 x.a, .int .i64 x.b]]) (by simp [go_sem, Act.eval, h23', h25]) ?_
        refine (HS.out a2 cap2 wq hA2 hr2).mono ?_
        rintro e w2 ⟨v', rfl, ho', hb⟩
        exact ⟨_, rfl, _, rfl, Rst.of (by decide) hb, at_one (by omega) ⟨v', rfl, OwnN.base ho' hI.size⟩⟩
      · obtain ⟨v, h26, ho⟩ := of_one (hpre ⟨4, .data⟩ (by simp) rfl _ rfl)
        have h26' : a.tmps.getD 26 undef = .tuple #[.agg #[v], .int .i64 HK] := by simpa using h26
        refine exec_same (v := .tuple #[.agg #[v], .int .i64 HK]) ?_ ⟨_, rfl, Rst.refl (by decide), at_one (by omega) ⟨v, rfl, ho⟩⟩
        simp [go_sem, Act.eval, h26']
      · obtain ⟨v, h21, ho⟩ := of_one (hpre ⟨5, .data⟩ (by simp) rfl _ rfl)
        have h21' : a.tmps.getD 21 undef = .tuple #[.agg #[v], .int .i64 HK] := by simpa using h21
        refine exec_same (v := .agg #[v]) ?_ ⟨_, rfl, Rst.refl (by decide), at_one (by omega) ⟨v, rfl, ho⟩⟩
        simp [go_sem, Act.eval, h21']
      · obtain ⟨v, h21, ho⟩ := of_one (hpre ⟨5, .data⟩ (by simp) rfl _ rfl)
        have h21' : a.tmps.getD 21 undef = .tuple #[.agg #[v], .int .i64 HK] := by simpa using h21
        refine exec_same (v := .int .i64 HK) ?_ ⟨_, rfl, Rst.refl (by decide), at_one (by omega) rfl⟩
        simp [go_sem, Act.eval, h21']
      · refine exec_made (v := .pointer (some ⟨wq.heap.size, 0, none⟩)) (w' := wq.alloc (.cells #[.slice none 0 0] 30)) ?_ ⟨_, rfl, Rst.of (by decide) ((Below.refl wq.heap.size wq).alloc (Nat.le_refl _) _), at_one (by omega) ⟨wq.heap.size, .slice none 0 0, rfl, hI.size, heap_alloc_new _ _⟩⟩
        simp [go_sem]
      · obtain ⟨g, u, h6, hg, hu⟩ := of_one (hpre ⟨8, .data⟩ (by simp) rfl _ rfl)
        obtain ⟨v, h27, ho⟩ := of_one (hpre ⟨6, .data⟩ (by simp) rfl _ rfl)
        have h6' : a.tmps.getD 6 undef = .pointer (some ⟨g, 0, none⟩) := by simpa using h6
        have h27' : a.tmps.getD 27 undef = .agg #[v] := by simpa using h27
        have hcg : wq.cell? ⟨g, 0, none⟩ = some u := by rw [cell_of_row wq g 0 _ _ _ hu]; rfl
        have hfg : wq.frozen? ⟨g, 0, none⟩ = false := frozen_of_row wq g 0 _ _ hu
        obtain ⟨av, capv, rfl, _, _⟩ := ho.row
        refine exec_skip (w' := wq.setCell ⟨g, 0, none⟩ (.slice av HM.length capv)) ?_ ⟨_, rfl, ?_, ?_⟩
        · simp [go_sem, Act.eval, h6', h27', hcg, hfg]
        · unfold Rst; rw [if_pos rfl]; exact ⟨g, u, _, rfl, hg, hu⟩
        · exact ⟨g, _, by show [a.tmps.getD 6 undef, a.tmps.getD 27 undef] = _; rw [h6', h27'], hg, (heap_setCell_same wq g 0 _ _ _ hu).trans rfl, own_store ho hu⟩
      · have p7 := of_one (hpre ⟨7, .data⟩ (by simp) rfl _ rfl)
        have h28 : a.tmps.getD 28 undef = .int .i64 HK := by simpa using p7
        refine exec_same (v := .int .i64 HK) ?_ ⟨_, rfl, Rst.refl (by decide), at_one (by omega) rfl⟩
        simp [go_sem, Act.eval, h28]
    case fin =>
      intro zs w5 hzl hI hF
      obtain ⟨z0, z1, z2, z3, z4, z5, z6, z7, z8, z9, z10, rfl⟩ := list11 zs hzl
      obtain ⟨g6, v0, hst, hg, hbox, hown⟩ := of_two (hF 9 _ rfl)
      have hint := of_one (hF 10 _ rfl)
      simp only [List.cons.injEq, and_true] at hst hint
      have hs1 := last_is (i := 8) (v := z8) (n := 104) hst.1 (by kernel_rfl) rfl rfl (by omega)
      have hs2 := last_is (i := 6) (v := z6) (n := 104) hst.2 (by kernel_rfl) rfl rfl (by omega)
      have hs3 := last_is (i := 10) (v := z10) (n := 104) hint (by kernel_rfl) rfl rfl (by omega)
      clear hst hint
      subst hs1 hs2 hs3
      clear hF
      simp only [putAll, Act.put, List.setIfInBounds_toArray, List.set_cons_succ, List.set_cons_zero]
      have O0_5 := Own.made hown
      have B0_5 : Var g6 v0 w5 := ⟨(Array.getElem?_eq_some_iff.1 hbox).1, (cell_of_row w5 g6 0 _ _ _ hbox).trans rfl⟩
      have hne6 := own_box_ne hown hbox
      have AV_5 := AV.next hI
      have AN_5 := AN.next hI
      have AI_5 := AI.next hI
      have HB5 : Hid (Below w.heap.size w w5) := HB1.out.trans (hI.mono HB1.out.size)
      have hs15 := hI.size
      have hB0lt : g6 < w5.heap.size := B0_5.lt
      have hw1 := HB1.out.size
      have hw11 := AN.lt
      obtain ⟨av0, cap0, rfl, hA0, _⟩ := hown.row
      clear hown hbox hI AV AN AI HB1
      have cA := AV_5.c
      go_wp2_with fail
      refine (toArena_any a0 cp ns w5 hl AI_5.all).mono ?_
      rintro e w6 ⟨vx, rfl, hox, hbx⟩
      obtain ⟨ax, capx, rfl, hAx, _⟩ := hox.row
      have OX_6 := Own.made hox
      have O0_6 := O0_5.next hbx
      have B0_6 := B0_5.next hbx
      have AV_6 := AV_5.next hbx
      have AN_6 := AN_5.next hbx
      have AI_6 := AI_5.next hbx
      have HB6 : Hid (Below w.heap.size w w6) := HB5.out.trans (hbx.mono HB5.out.size)
      have hs56 := hbx.size
      clear hox hbx cA HB5
      clear O0_5 B0_5 AV_5 AN_5 AI_5
      go_wp2_with fail
      have hb7 : Below w6.heap.size w6 (w6.alloc (.cells #[.slice ax ns.length capx] 30)) := (Below.refl _ _).alloc (Nat.le_refl _) _
      have BX_7 : Var w6.heap.size (.slice ax ns.length capx) (w6.alloc (.cells #[.slice ax ns.length capx] 30)) := Var.made
      have OX_7 := OX_6.next hb7
      have hneX : (Value.slice ax ns.length capx).ownBlock ≠ some w6.heap.size := fun e => by have := (OX_6.block _ e).2; omega
      have O0_7 := O0_6.next hb7
      have B0_7 := B0_6.next hb7
      have AV_7 := AV_6.next hb7
      have AN_7 := AN_6.next hb7
      have AI_7 := AI_6.next hb7
      have HB7 : Hid (Below w.heap.size w (w6.alloc (.cells #[.slice ax ns.length capx] 30))) := HB6.out.trans (hb7.mono HB6.out.size)
      have hs67 := hb7.size
      clear hb7 HB6 OX_6
      clear O0_6 B0_6 AV_6 AN_6 AI_6
      generalize w6.alloc (.cells #[.slice ax ns.length capx] 30) = w7 at BX_7 OX_7 O0_7 B0_7 AV_7 AN_7 AI_7 HB7 hs67 ⊢
      have AN := AN_7
      have hlX := BX_7.lt
      refine wp_region_list (I := fun w' => Below w7.heap.size w7 w') (R := Rst w7.heap.size 8)
        (fs := #[⟨[32], fun vs _ => vs = [.agg #[.slice ax ns.length capx]]⟩, ⟨[33], fun vs _ => vs = [.agg #[.int .i64 x.k, .int .i64 x.n, .int .i64 x.a, .int .i64 x.b]]⟩, ⟨[34], fun vs _ => vs = [.agg #[.int .i64 x.k, .int .i64 x.n, .int .i64 x.a, .int .i64 x.b]]⟩, ⟨[35], fun vs w' => ∃ v, vs = [.tuple #[.agg #[v], .int .i64 HK]] ∧ OwnC w7.heap.size w' v HM⟩, ⟨[31], fun vs w' => ∃ v, vs = [.tuple #[.agg #[v], .int .i64 HK]] ∧ OwnC w7.heap.size w' v HM⟩, ⟨[36], fun vs w' => ∃ v, vs = [.agg #[v]] ∧ OwnC w7.heap.size w' v HM⟩, ⟨[37], fun vs _ => vs = [.int .i64 HK]⟩, ⟨[9], fun vs w' => ∃ g u, vs = [.pointer (some ⟨g, 0, none⟩)] ∧ w7.heap.size ≤ g ∧ w'.heap[g]? = some (.cells #[u] 30 (0, 0))⟩, ⟨[9, 36], fun vs w' => ∃ g v, vs = [.pointer (some ⟨g, 0, none⟩), .agg #[v]] ∧ w7.heap.size ≤ g ∧ w'.heap[g]? = some (.cells #[v] 30 (0, 0)) ∧ OwnC w7.heap.size w' v HM⟩, ⟨[10], fun vs _ => vs = [.int .i64 HK]⟩])
        (by kernel_rfl) 104 rfl (by kernel_rfl) ?stab ?istab ?start ?exec ?fin
      case stab =>
        intro k i f hki hf
        have hk : k < 10 := (Array.getElem?_eq_some_iff.1 hf).1
        rcases (show k = 0 ∨ k = 1 ∨ k = 2 ∨ k = 3 ∨ k = 4 ∨ k = 5 ∨ k = 6 ∨ k = 7 ∨ k = 8 ∨ k = 9 by omega) with rfl | rfl | rfl | rfl | rfl | rfl | rfl | rfl | rfl | rfl
        all_goals
          simp only [List.getElem?_toArray, List.getElem?_cons_succ, List.getElem?_cons_zero, Option.some.injEq] at hf
          subst hf
        · exact fun vs _ _ _ h => h
        · exact fun vs _ _ _ h => h
        · exact fun vs _ _ _ h => h
        · first | exact fun vs w' w'' hR ⟨v, h1, h2⟩ => ⟨v, h1, Rst.ownC hR h2⟩ | exact fun vs w' w'' hR ⟨v, h1, h2⟩ => ⟨v, h1, hR.own h2⟩
        · first | exact fun vs w' w'' hR ⟨v, h1, h2⟩ => ⟨v, h1, Rst.ownC hR h2⟩ | exact fun vs w' w'' hR ⟨v, h1, h2⟩ => ⟨v, h1, hR.own h2⟩
        · first | exact fun vs w' w'' hR ⟨v, h1, h2⟩ => ⟨v, h1, Rst.ownC hR h2⟩ | exact fun vs w' w'' hR ⟨v, h1, h2⟩ => ⟨v, h1, hR.own h2⟩
        · exact fun vs _ _ _ h => h
        · exact fun vs w' w'' hR ⟨g, u, h1, h2, h3⟩ => by obtain ⟨u', hu'⟩ := hR.box ⟨u, h3⟩; exact ⟨g, u', h1, h2, hu'⟩
        · exact fun vs w' w'' hR ⟨g, v, h1, h2, h3, h4⟩ => ⟨g, v, h1, h2, ((hR.other (Ne.symm hki)).block g (Array.getElem?_eq_some_iff.1 h3).1).trans h3, Rst.ownC hR h4⟩
        · exact fun vs _ _ _ h => h
      case istab => exact fun i w' w'' hR h => Rst.inv (Nat.le_refl _) hR h
      case start => exact (Below.refl _ _).drew
      case exec =>
        intro i o f hi hf a wq hsz hI hold hpre
        have hi11 : i < 10 := (Array.getElem?_eq_some_iff.1 hi).1
        rcases (show i = 0 ∨ i = 1 ∨ i = 2 ∨ i = 3 ∨ i = 4 ∨ i = 5 ∨ i = 6 ∨ i = 7 ∨ i = 8 ∨ i = 9 by omega) with rfl | rfl | rfl | rfl | rfl | rfl | rfl | rfl | rfl | rfl
        all_goals
          simp only [List.getElem?_toArray, List.getElem?_cons_succ, List.getElem?_cons_zero, Option.some.injEq] at hi hf
          subst hi hf
        · have h2 : a.tmps.getD 8 undef = .pointer (some ⟨w6.heap.size, 0, none⟩) := hold 8 (free_spec (by kernel_rfl))
          have hc : wq.cell? ⟨w6.heap.size, 0, none⟩ = some (.slice ax ns.length capx) := (hI.cell (p := ⟨w6.heap.size, 0, none⟩) BX_7.lt).trans BX_7.c
          refine exec_same (v := .agg #[.slice ax ns.length capx]) ?_ ⟨_, rfl, Rst.refl (by decide), at_one (by omega) rfl⟩
          simp [go_sem, Act.eval, h2, hc]
        · have h3 : a.tmps.getD 3 undef = .pointer (some ⟨w.heap.size + 1, 0, none⟩) := hold 3 (free_spec (by kernel_rfl))
          have nn := AN.next hI
          have n0 := nn.c0
          have n1 := nn.c1
          have n2 := nn.c2
          have n3 := nn.c3
          refine exec_same (v := .agg #[.int .i64 x.k, .int .i64 x.n, .int .i64 x.a, .int .i64 x.b]) ?_ ⟨_, rfl, Rst.refl (by decide), at_one (by omega) rfl⟩
          simp [go_sem, Act.eval, h3, n0, n1, n2, n3]
        · have p0 := hpre ⟨1, .data⟩ (by simp) rfl _ rfl
          have h24 : a.tmps.getD 33 undef = .agg #[.int .i64 x.k, .int .i64 x.n, .int .i64 x.a, .int .i64 x.b] := by have := of_one p0; simpa using this
          refine exec_call (f := 12) (args := #[.agg #[.int .i64 x.k, .int .i64 x.n, .int .i64 x.a, .int .i64 x.b]]) (by simp [go_sem, Act.eval, h24]) ?_
          refine (toHello_any x wq).mono ?_
          rintro e w2 ⟨rfl, hb⟩
          exact ⟨_, rfl, _, rfl, Rst.of (by decide) hb, at_one (by omega) rfl⟩
        · have p0 := of_one (hpre ⟨0, .data⟩ (by simp) rfl _ rfl)
          have p3 := of_one (hpre ⟨2, .data⟩ (by simp) rfl _ rfl)
          have h23' : a.tmps.getD 32 undef = .agg #[.slice ax ns.length capx] := by simpa using p0
          have h25 : a.tmps.getD 34 undef = .agg #[.int .i64 x.k, .int .i64 x.n, .int .i64 x.a, .int .i64 x.b] := by simpa using p3
          refine exec_call (f := 13) (args := #[.agg #[.slice ax ns.length capx], .agg #[.int .i64 x.k, .int .i64 x.n, .int .i64 x.a, .int .i64 x.b]]) (by simp [go_sem, Act.eval, h23', h25]) ?_
          refine (HI.out ax capx wq hAx (OX_7.next hI).rowAt).mono ?_
          rintro e w2 ⟨v', rfl, ho', hb⟩
          exact ⟨_, rfl, _, rfl, Rst.of (by decide) hb, at_one (by omega) ⟨v', rfl, ownC_base ho' hI.size⟩⟩
        · obtain ⟨v, h26, ho⟩ := of_one (hpre ⟨3, .data⟩ (by simp) rfl _ rfl)
          have h26' : a.tmps.getD 35 undef = .tuple #[.agg #[v], .int .i64 HK] := by simpa using h26
          refine exec_same (v := .tuple #[.agg #[v], .int .i64 HK]) ?_ ⟨_, rfl, Rst.refl (by decide), at_one (by omega) ⟨v, rfl, ho⟩⟩
          simp [go_sem, Act.eval, h26']
        · obtain ⟨v, h21, ho⟩ := of_one (hpre ⟨4, .data⟩ (by simp) rfl _ rfl)
          have h21' : a.tmps.getD 31 undef = .tuple #[.agg #[v], .int .i64 HK] := by simpa using h21
          refine exec_same (v := .agg #[v]) ?_ ⟨_, rfl, Rst.refl (by decide), at_one (by omega) ⟨v, rfl, ho⟩⟩
          simp [go_sem, Act.eval, h21']
        · obtain ⟨v, h21, ho⟩ := of_one (hpre ⟨4, .data⟩ (by simp) rfl _ rfl)
          have h21' : a.tmps.getD 31 undef = .tuple #[.agg #[v], .int .i64 HK] := by simpa using h21
          refine exec_same (v := .int .i64 HK) ?_ ⟨_, rfl, Rst.refl (by decide), at_one (by omega) rfl⟩
          simp [go_sem, Act.eval, h21']
        · refine exec_made (v := .pointer (some ⟨wq.heap.size, 0, none⟩)) (w' := wq.alloc (.cells #[.slice none 0 0] 30)) ?_ ⟨_, rfl, Rst.of (by decide) ((Below.refl wq.heap.size wq).alloc (Nat.le_refl _) _), at_one (by omega) ⟨wq.heap.size, .slice none 0 0, rfl, hI.size, heap_alloc_new _ _⟩⟩
          simp [go_sem]
        · obtain ⟨g, u, h6, hg, hu⟩ := of_one (hpre ⟨7, .data⟩ (by simp) rfl _ rfl)
          obtain ⟨v, h27, ho⟩ := of_one (hpre ⟨5, .data⟩ (by simp) rfl _ rfl)
          have h6' : a.tmps.getD 9 undef = .pointer (some ⟨g, 0, none⟩) := by simpa using h6
          have h27' : a.tmps.getD 36 undef = .agg #[v] := by simpa using h27
          have hcg : wq.cell? ⟨g, 0, none⟩ = some u := by rw [cell_of_row wq g 0 _ _ _ hu]; rfl
          have hfg : wq.frozen? ⟨g, 0, none⟩ = false := frozen_of_row wq g 0 _ _ hu
          obtain ⟨av, capv, rfl⟩ := ownC_row ho
          refine exec_skip (w' := wq.setCell ⟨g, 0, none⟩ (.slice av HM.length capv)) ?_ ⟨_, rfl, ?_, ?_⟩
          · simp [go_sem, Act.eval, h6', h27', hcg, hfg]
          · unfold Rst; rw [if_pos rfl]; exact ⟨g, u, _, rfl, hg, hu⟩
          · exact ⟨g, _, by show [a.tmps.getD 9 undef, a.tmps.getD 36 undef] = _; rw [h6', h27'], hg, (heap_setCell_same wq g 0 _ _ _ hu).trans rfl, own_storeC ho hu⟩
        · have p7 := of_one (hpre ⟨6, .data⟩ (by simp) rfl _ rfl)
          have h28 : a.tmps.getD 37 undef = .int .i64 HK := by simpa using p7
          refine exec_same (v := .int .i64 HK) ?_ ⟨_, rfl, Rst.refl (by decide), at_one (by omega) rfl⟩
          simp [go_sem, Act.eval, h28]
      case fin =>
        intro zs w8 hzl hI hF
        obtain ⟨z0, z1, z2, z3, z4, z5, z6, z7, z8, z9, rfl⟩ := list10 zs hzl
        obtain ⟨g9, vg, hst, hg, hbox, hown⟩ := of_two (hF 8 _ rfl)
        have hint := of_one (hF 9 _ rfl)
        simp only [List.cons.injEq, and_true] at hst hint
        have hs1 := last_is (i := 7) (v := z7) (n := 104) hst.1 (by kernel_rfl) rfl rfl (by omega)
        have hs2 := last_is (i := 5) (v := z5) (n := 104) hst.2 (by kernel_rfl) rfl rfl (by omega)
        have hs3 := last_is (i := 9) (v := z9) (n := 104) hint (by kernel_rfl) rfl rfl (by omega)
        clear hst hint
        subst hs1 hs2 hs3
        clear hF
        simp only [putAll, Act.put, List.setIfInBounds_toArray, List.set_cons_succ, List.set_cons_zero]
        obtain ⟨avg, capg, pcg, rfl, hAg, hown⟩ := hown
        have OG_8 := Own.made hown
        have BG_8 : Var g9 (.slice avg HM.length capg) w8 := ⟨(Array.getElem?_eq_some_iff.1 hbox).1, (cell_of_row w8 g9 0 _ _ _ hbox).trans rfl⟩
        have hneG := own_box_ne hown hbox
        have hg9 := hg
        have O0_8 := O0_7.next hI
        have B0_8 := B0_7.next hI
        have OX_8 := OX_7.next hI
        have BX_8 := BX_7.next hI
        have AV_8 := AV_7.next hI
        have AN_8 := AN_7.next hI
        have AI_8 := AI_7.next hI
        have HB8 : Hid (Below w.heap.size w w8) := HB7.out.trans (hI.mono HB7.out.size)
        have hs78 := hI.size
        clear hown hbox hI HB7 AN
        clear O0_7 B0_7 OX_7 BX_7 AV_7 AN_7 AI_7
        have q0 := BG_8.c
        have q1 := B0_8.c
        go_wp2_with fail
        refine (eqArena_same avg av0 capg cap0 HM w8 (by have := HPL.out; omega) OG_8.rowAt O0_8.rowAt).mono ?_
        rintro e w9 ⟨rfl, hb9⟩
        have O0_9 := O0_8.next hb9
        have B0_9 := B0_8.next hb9
        have OX_9 := OX_8.next hb9
        have BX_9 := BX_8.next hb9
        have AV_9 := AV_8.next hb9
        have AN_9 := AN_8.next hb9
        have AI_9 := AI_8.next hb9
        have OG_9 := OG_8.next hb9
        have BG_9 := BG_8.next hb9
        have HB9 : Hid (Below w.heap.size w w9) := HB8.out.trans (hb9.mono HB8.out.size)
        have hs89 := hb9.size
        clear hb9 HB8 q0 q1
        clear O0_8 B0_8 OX_8 BX_8 AV_8 AN_8 AI_8 OG_8 BG_8
        have hx5 := BX_9.c
        have hc5 := AV_9.c
        have hs5 : w6.heap.size < w9.drew.heap.size := BX_9.lt
        have hsw5 : w.heap.size < w9.drew.heap.size := AV_9.lt
        have HRA5 : Hid (RowN w9.drew.heap.size w9.drew a0 ns) := AI_9.all
        have HRX5 : Hid (RowN w9.drew.heap.size w9.drew ax ns) := OX_9.rowAt
        have HK9 : Hid _ := And.intro O0_9 (And.intro B0_9 (And.intro OX_9 (And.intro BX_9 (And.intro AV_9 (And.intro AN_9 (And.intro AI_9 (And.intro OG_9 BG_9)))))))
        clear O0_9 B0_9 OX_9 BX_9 AV_9 AN_9 AI_9 OG_9 BG_9
        go_wp2_with fail
        go_region_held3 (fun w' => w'.cell? ⟨w6.heap.size, 0, none⟩ = some (.slice ax ns.length capx) ∧ w'.cell? ⟨w.heap.size, 0, none⟩ = some (.slice a0 ns.length cp)) (first | exact ⟨hx5, hc5⟩ | assumption | exact two_kept (by assumption) hs5 hsw5 hb6 | exact two_kept (by assumption) hs6 hsw6 hb7) (first | (go_at_call 11; refine (toArena_any a0 cp ns _ hl ?_).mono ?_; exact HRA5.out; rintro e wa ⟨v6, rfl, ho6, hb6⟩; obtain ⟨a6, cap6, rfl, hA6, hr6⟩ := ho6.row; have hs6 := Nat.lt_of_lt_of_le hs5 hb6.size; have hsw6 := Nat.lt_of_lt_of_le hsw5 hb6.size) | (go_at_call 14; refine (eqArena_same ax a6 capx cap6 ns _ ?_ ?_ ?_).mono ?_; omega; exact HRX5.out.grown hb6; exact hr6; rintro e w10 ⟨rfl, hb7⟩))
        have hbT : Below w9.heap.size w9 w10 := ((Below.refl _ _).drew).trans (hb6.trans (hb7.mono hb6.size))
        obtain ⟨O0_9, B0_9, OX_9, BX_9, AV_9, AN_9, AI_9, OG_9, BG_9⟩ := HK9.out
        have O0_10 := O0_9.next hbT
        have B0_10 := B0_9.next hbT
        have OX_10 := OX_9.next hbT
        have BX_10 := BX_9.next hbT
        have AV_10 := AV_9.next hbT
        have AN_10 := AN_9.next hbT
        have AI_10 := AI_9.next hbT
        have OG_10 := OG_9.next hbT
        have BG_10 := BG_9.next hbT
        have HB10 : Hid (Below w.heap.size w w10) := HB9.out.trans (hbT.mono HB9.out.size)
        have hs910 := hbT.size
        clear ho6 hr6 hb6 hA6 hc5 hx5 hb7 hbT HB9 HRA5 HRX5 HK9 hs5 hsw5 hs6 hsw6
        clear O0_9 B0_9 OX_9 BX_9 AV_9 AN_9 AI_9 OG_9 BG_9
        have q0 := BX_10.c
        go_wp2_with fail
        refine (markArena_any w5.heap.size 1 (.slice ax ns.length capx) ns w10 (by omega) (by omega) OX_10.own).mono ?_
        rintro e w11 ⟨rfl, hox, hgr⟩
        have hbk := OX_10.block
        have O0_11 := O0_10.mark hgr (fun g hg => by have := hbk g hg; omega)
        have OG_11 := OG_10.mark hgr (fun g hg => by have := hbk g hg; omega)
        have B0_11 := B0_10.mark hgr (fun h => by have := hbk _ h; have := hB0lt; omega)
        have BG_11 := BG_10.mark hgr (fun h => by have := hbk _ h; omega)
        have AV_11 := AV_10.mark hgr (fun h => by have := hbk _ h; omega)
        have AN_11 := AN_10.mark hgr (fun h => by have := hbk _ h; omega)
        have AI_11 := AI_10.mark hgr (fun g hg => by have := hbk g hg; omega)
        have HB11 : Hid (Below w.heap.size w w11) := HB10.out.grown hgr HB10.out.size (fun k hk => by have := hbk k hk; omega)
        clear hox hgr hbk HB10 q0
        clear O0_10 B0_10 OX_10 BX_10 AV_10 AN_10 AI_10 OG_10 BG_10
        have q0 := BG_11.c
        have q1 := B0_11.c
        have hk0 : ¬ (1 : Int) + 4 * (ns.length : Int) < 0 := by omega
        go_wp2_with fail
        refine (eqArena_same avg av0 capg cap0 HM w11 (by have := HPL.out; omega) OG_11.rowAt O0_11.rowAt).mono ?_
        rintro e w12 ⟨rfl, hb12⟩
        have O0_12 := O0_11.next hb12
        have OG_12 := OG_11.next hb12
        have B0_12 := B0_11.next hb12
        have BG_12 := BG_11.next hb12
        have AV_12 := AV_11.next hb12
        have AN_12 := AN_11.next hb12
        have AI_12 := AI_11.next hb12
        have HB12 : Hid (Below w.heap.size w w12) := HB11.out.trans (hb12.mono HB11.out.size)
        clear hb12 HB11 q0 q1 hk0
        clear O0_11 OG_11 B0_11 BG_11 AV_11 AN_11 AI_11
        have q0 := BG_12.c
        go_wp2_with fail
        refine (markArenaC_any w7.heap.size 1 avg capg pcg HM w12 (by have := HPL.out; omega) (by omega) hAg OG_12.own).mono ?_
        rintro e w13 ⟨rfl, hox, hgr⟩
        have hbk := OG_12.block
        have O0_13 := O0_12.mark hgr (fun g hg => by have := hbk g hg; omega)
        have B0_13 := B0_12.mark hgr (fun h => by have := hbk _ h; have := hB0lt; omega)
        have BG_13 := BG_12.mark hgr hneG
        have AV_13 := AV_12.mark hgr (fun h => by have := hbk _ h; omega)
        have AN_13 := AN_12.mark hgr (fun h => by have := hbk _ h; omega)
        have AI_13 := AI_12.mark hgr (fun g hg => by have := hbk g hg; omega)
        have OM_13 : Own w7.heap.size w8.heap.size (.slice avg HM.length pcg) (marksN 1 HM.length) w13 := ⟨hox, Nat.le_trans OG_12.le hgr.size, OG_12.lt⟩
        have HB13 : Hid (Below w.heap.size w w13) := HB12.out.grown hgr HB12.out.size (fun k hk => by have := hbk k hk; omega)
        clear hox hgr hbk HB12 q0
        clear O0_12 OG_12 B0_12 BG_12 AV_12 AN_12 AI_12
        have q0 := BG_13.c
        go_wp2_with fail
        refine (heldArena_any 1 avg HM.length capg w13 (by have := HPL.out; omega) (by omega) OM_13.rowAt).mono ?_
        rintro e w14 ⟨rfl, hb14⟩
        have O0_14 := O0_13.next hb14
        have OM_14 := OM_13.next hb14
        have B0_14 := B0_13.next hb14
        have BG_14 := BG_13.next hb14
        have AV_14 := AV_13.next hb14
        have AN_14 := AN_13.next hb14
        have AI_14 := AI_13.next hb14
        have HB14 : Hid (Below w.heap.size w w14) := HB13.out.trans (hb14.mono HB13.out.size)
        clear hb14 HB13 q0
        clear O0_13 OM_13 B0_13 BG_13 AV_13 AN_13 AI_13
        have hk0 : ¬ (1 : Int) + 4 * (HM.length : Int) < 0 := by omega
        have AV := AV_14
        have AN := AN_14
        have AI := AI_14
        go_wp2_with fail
        refine wp_region_list (I := fun w' => Below w14.heap.size w14 w') (R := Rst w14.heap.size 9)
          (fs := #[⟨[80], fun vs _ => vs = [.agg #[.slice a0 ns.length cp]]⟩, ⟨[81], fun vs w' => ∃ v, vs = [.agg #[v]] ∧ OwnN w14.heap.size w' v ns⟩, ⟨[82], fun vs _ => vs = [.agg #[.int .i64 x.k, .int .i64 x.n, .int .i64 x.a, .int .i64 x.b]]⟩, ⟨[83], fun vs _ => vs = [.agg #[.int .i64 x.k, .int .i64 x.n, .int .i64 x.a, .int .i64 x.b]]⟩, ⟨[84], fun vs w' => ∃ v, vs = [.tuple #[.agg #[v], .int .i64 HK]] ∧ OwnC w14.heap.size w' v HM⟩, ⟨[79], fun vs w' => ∃ v, vs = [.tuple #[.agg #[v], .int .i64 HK]] ∧ OwnC w14.heap.size w' v HM⟩, ⟨[85], fun vs w' => ∃ v, vs = [.agg #[v]] ∧ OwnC w14.heap.size w' v HM⟩, ⟨[86], fun vs _ => vs = [.int .i64 HK]⟩, ⟨[14], fun vs w' => ∃ g u, vs = [.pointer (some ⟨g, 0, none⟩)] ∧ w14.heap.size ≤ g ∧ w'.heap[g]? = some (.cells #[u] 30 (0, 0))⟩, ⟨[14, 85], fun vs w' => ∃ g v, vs = [.pointer (some ⟨g, 0, none⟩), .agg #[v]] ∧ w14.heap.size ≤ g ∧ w'.heap[g]? = some (.cells #[v] 30 (0, 0)) ∧ OwnC w14.heap.size w' v HM⟩, ⟨[15], fun vs _ => vs = [.int .i64 HK]⟩])
          (by kernel_rfl) 104 rfl (by kernel_rfl) ?stab ?istab ?start ?exec ?fin
        case stab =>
          intro k i f hki hf
          have hk : k < 11 := (Array.getElem?_eq_some_iff.1 hf).1
          rcases (show k = 0 ∨ k = 1 ∨ k = 2 ∨ k = 3 ∨ k = 4 ∨ k = 5 ∨ k = 6 ∨ k = 7 ∨ k = 8 ∨ k = 9 ∨ k = 10 by omega) with rfl | rfl | rfl | rfl | rfl | rfl | rfl | rfl | rfl | rfl | rfl
          all_goals
            simp only [List.getElem?_toArray, List.getElem?_cons_succ, List.getElem?_cons_zero, Option.some.injEq] at hf
            subst hf
          · exact fun vs _ _ _ h => h
          · first | exact fun vs w' w'' hR ⟨v, h1, h2⟩ => ⟨v, h1, Rst.ownC hR h2⟩ | exact fun vs w' w'' hR ⟨v, h1, h2⟩ => ⟨v, h1, hR.own h2⟩
          · exact fun vs _ _ _ h => h
          · exact fun vs _ _ _ h => h
          · first | exact fun vs w' w'' hR ⟨v, h1, h2⟩ => ⟨v, h1, Rst.ownC hR h2⟩ | exact fun vs w' w'' hR ⟨v, h1, h2⟩ => ⟨v, h1, hR.own h2⟩
          · first | exact fun vs w' w'' hR ⟨v, h1, h2⟩ => ⟨v, h1, Rst.ownC hR h2⟩ | exact fun vs w' w'' hR ⟨v, h1, h2⟩ => ⟨v, h1, hR.own h2⟩
          · first | exact fun vs w' w'' hR ⟨v, h1, h2⟩ => ⟨v, h1, Rst.ownC hR h2⟩ | exact fun vs w' w'' hR ⟨v, h1, h2⟩ => ⟨v, h1, hR.own h2⟩
          · exact fun vs _ _ _ h => h
          · exact fun vs w' w'' hR ⟨g, u, h1, h2, h3⟩ => by obtain ⟨u', hu'⟩ := hR.box ⟨u, h3⟩; exact ⟨g, u', h1, h2, hu'⟩
          · exact fun vs w' w'' hR ⟨g, v, h1, h2, h3, h4⟩ => ⟨g, v, h1, h2, ((hR.other (Ne.symm hki)).block g (Array.getElem?_eq_some_iff.1 h3).1).trans h3, Rst.ownC hR h4⟩
          · exact fun vs _ _ _ h => h
        case istab => exact fun i w' w'' hR h => Rst.inv (Nat.le_refl _) hR h
        case start => exact (Below.refl _ _).drew
        case exec =>
          intro i o f hi hf a wq hsz hI hold hpre
          have hi11 : i < 11 := (Array.getElem?_eq_some_iff.1 hi).1
          rcases (show i = 0 ∨ i = 1 ∨ i = 2 ∨ i = 3 ∨ i = 4 ∨ i = 5 ∨ i = 6 ∨ i = 7 ∨ i = 8 ∨ i = 9 ∨ i = 10 by omega) with rfl | rfl | rfl | rfl | rfl | rfl | rfl | rfl | rfl | rfl | rfl
          all_goals
            simp only [List.getElem?_toArray, List.getElem?_cons_succ, List.getElem?_cons_zero, Option.some.injEq] at hi hf
            subst hi hf
          · have h2 : a.tmps.getD 2 undef = .pointer (some ⟨w.heap.size, 0, none⟩) := hold 2 (free_spec (by kernel_rfl))
            have hc : wq.cell? ⟨w.heap.size, 0, none⟩ = some (.slice a0 ns.length cp) := (hI.cell (p := ⟨w.heap.size, 0, none⟩) AV.lt).trans AV.c
            refine exec_same (v := .agg #[.slice a0 ns.length cp]) ?_ ⟨_, rfl, Rst.refl (by decide), at_one (by omega) rfl⟩
            simp [go_sem, Act.eval, h2, hc]
          · have p0 := hpre ⟨0, .data⟩ (by simp) rfl _ rfl
            have h22 : a.tmps.getD 80 undef = .agg #[.slice a0 ns.length cp] := by have := of_one p0; simpa using this
            refine exec_call (f := 11) (args := #[.agg #[.slice a0 ns.length cp]]) (by simp [go_sem, Act.eval, h22]) ?_
            refine (toArena_any a0 cp ns wq hl (AI.next hI).all).mono ?_
            rintro e w2 ⟨v, rfl, ho, hb⟩
            exact ⟨_, rfl, _, rfl, Rst.of (by decide) hb, at_one (by omega) ⟨v, rfl, OwnN.base ho hI.size⟩⟩
          · have h3 : a.tmps.getD 3 undef = .pointer (some ⟨w.heap.size + 1, 0, none⟩) := hold 3 (free_spec (by kernel_rfl))
            have nn := AN.next hI
            have n0 := nn.c0
            have n1 := nn.c1
            have n2 := nn.c2
            have n3 := nn.c3
            refine exec_same (v := .agg #[.int .i64 x.k, .int .i64 x.n, .int .i64 x.a, .int .i64 x.b]) ?_ ⟨_, rfl, Rst.refl (by decide), at_one (by omega) rfl⟩
            simp [go_sem, Act.eval, h3, n0, n1, n2, n3]
          · have p0 := hpre ⟨2, .data⟩ (by simp) rfl _ rfl
            have h24 : a.tmps.getD 82 undef = .agg #[.int .i64 x.k, .int .i64 x.n, .int .i64 x.a, .int .i64 x.b] := by have := of_one p0; simpa using this
            refine exec_call (f := 12) (args := #[.agg #[.int .i64 x.k, .int .i64 x.n, .int .i64 x.a, .int .i64 x.b]]) (by simp [go_sem, Act.eval, h24]) ?_
            refine (toHello_any x wq).mono ?_
            rintro e w2 ⟨rfl, hb⟩
            exact ⟨_, rfl, _, rfl, Rst.of (by decide) hb, at_one (by omega) rfl⟩
          · obtain ⟨v, h23, ho⟩ := of_one (hpre ⟨1, .data⟩ (by simp) rfl _ rfl)
            have p3 := of_one (hpre ⟨3, .data⟩ (by simp) rfl _ rfl)
            have h23' : a.tmps.getD 81 undef = .agg #[v] := by simpa using h23
            have h25 : a.tmps.getD 83 undef = .agg #[.int .i64 x.k, .int .i64 x.n, .int .i64 x.a, .int .i64 x.b] := by simpa using p3
            obtain ⟨a2, cap2, rfl, hA2, hr2⟩ := ho.row
            refine exec_call (f := 13) (args := #[.agg #[.slice a2 ns.length cap2], .agg #[.int .i64 x.k, .int .i64 x.n, .int .i64 x.a, .int .i64 x.b]]) (by simp [go_sem, Act.eval, h23', h25]) ?_
            refine (HI.out a2 cap2 wq hA2 hr2).mono ?_
            rintro e w2 ⟨v', rfl, ho', hb⟩
            exact ⟨_, rfl, _, rfl, Rst.of (by decide) hb, at_one (by omega) ⟨v', rfl, ownC_base ho' hI.size⟩⟩
          · obtain ⟨v, h26, ho⟩ := of_one (hpre ⟨4, .data⟩ (by simp) rfl _ rfl)
            have h26' : a.tmps.getD 84 undef = .tuple #[.agg #[v], .int .i64 HK] := by simpa using h26
            refine exec_same (v := .tuple #[.agg #[v], .int .i64 HK]) ?_ ⟨_, rfl, Rst.refl (by decide), at_one (by omega) ⟨v, rfl, ho⟩⟩
            simp [go_sem, Act.eval, h26']
          · obtain ⟨v, h21, ho⟩ := of_one (hpre ⟨5, .data⟩ (by simp) rfl _ rfl)
            have h21' : a.tmps.getD 79 undef = .tuple #[.agg #[v], .int .i64 HK] := by simpa using h21
            refine exec_same (v := .agg #[v]) ?_ ⟨_, rfl, Rst.refl (by decide), at_one (by omega) ⟨v, rfl, ho⟩⟩
            simp [go_sem, Act.eval, h21']
          · obtain ⟨v, h21, ho⟩ := of_one (hpre ⟨5, .data⟩ (by simp) rfl _ rfl)
            have h21' : a.tmps.getD 79 undef = .tuple #[.agg #[v], .int .i64 HK] := by simpa using h21
            refine exec_same (v := .int .i64 HK) ?_ ⟨_, rfl, Rst.refl (by decide), at_one (by omega) rfl⟩
            simp [go_sem, Act.eval, h21']
          · refine exec_made (v := .pointer (some ⟨wq.heap.size, 0, none⟩)) (w' := wq.alloc (.cells #[.slice none 0 0] 30)) ?_ ⟨_, rfl, Rst.of (by decide) ((Below.refl wq.heap.size wq).alloc (Nat.le_refl _) _), at_one (by omega) ⟨wq.heap.size, .slice none 0 0, rfl, hI.size, heap_alloc_new _ _⟩⟩
            simp [go_sem]
          · obtain ⟨g, u, h6, hg, hu⟩ := of_one (hpre ⟨8, .data⟩ (by simp) rfl _ rfl)
            obtain ⟨v, h27, ho⟩ := of_one (hpre ⟨6, .data⟩ (by simp) rfl _ rfl)
            have h6' : a.tmps.getD 14 undef = .pointer (some ⟨g, 0, none⟩) := by simpa using h6
            have h27' : a.tmps.getD 85 undef = .agg #[v] := by simpa using h27
            have hcg : wq.cell? ⟨g, 0, none⟩ = some u := by rw [cell_of_row wq g 0 _ _ _ hu]; rfl
            have hfg : wq.frozen? ⟨g, 0, none⟩ = false := frozen_of_row wq g 0 _ _ hu
            obtain ⟨av, capv, rfl⟩ := ownC_row ho
            refine exec_skip (w' := wq.setCell ⟨g, 0, none⟩ (.slice av HM.length capv)) ?_ ⟨_, rfl, ?_, ?_⟩
            · simp [go_sem, Act.eval, h6', h27', hcg, hfg]
            · unfold Rst; rw [if_pos rfl]; exact ⟨g, u, _, rfl, hg, hu⟩
            · exact ⟨g, _, by show [a.tmps.getD 14 undef, a.tmps.getD 85 undef] = _; rw [h6', h27'], hg, (heap_setCell_same wq g 0 _ _ _ hu).trans rfl, own_storeC ho hu⟩
          · have p7 := of_one (hpre ⟨7, .data⟩ (by simp) rfl _ rfl)
            have h28 : a.tmps.getD 86 undef = .int .i64 HK := by simpa using p7
            refine exec_same (v := .int .i64 HK) ?_ ⟨_, rfl, Rst.refl (by decide), at_one (by omega) rfl⟩
            simp [go_sem, Act.eval, h28]
        case fin =>
          intro zs w15 hzl hI hF
          obtain ⟨z0, z1, z2, z3, z4, z5, z6, z7, z8, z9, z10, rfl⟩ := list11 zs hzl
          obtain ⟨g14, vh, hst, hg, hbox, hown⟩ := of_two (hF 9 _ rfl)
          have hint := of_one (hF 10 _ rfl)
          simp only [List.cons.injEq, and_true] at hst hint
          have hs1 := last_is (i := 8) (v := z8) (n := 104) hst.1 (by kernel_rfl) rfl rfl (by omega)
          have hs2 := last_is (i := 6) (v := z6) (n := 104) hst.2 (by kernel_rfl) rfl rfl (by omega)
          have hs3 := last_is (i := 10) (v := z10) (n := 104) hint (by kernel_rfl) rfl rfl (by omega)
          clear hst hint
          subst hs1 hs2 hs3
          clear hF
          simp only [putAll, Act.put, List.setIfInBounds_toArray, List.set_cons_succ, List.set_cons_zero]
          obtain ⟨avh, caph, pch, rfl, hAh, hown⟩ := hown
          have OH_15 := Own.made hown
          have BH_15 : Var g14 (.slice avh HM.length caph) w15 := ⟨(Array.getElem?_eq_some_iff.1 hbox).1, (cell_of_row w15 g14 0 _ _ _ hbox).trans rfl⟩
          have O0_15 := O0_14.next hI
          have OM_15 := OM_14.next hI
          have B0_15 := B0_14.next hI
          have BG_15 := BG_14.next hI
          have HB15 : Hid (Below w.heap.size w w15) := HB14.out.trans (hI.mono HB14.out.size)
          clear hown hbox hI HB14 AV AN AI AV_14 AN_14 AI_14
          clear O0_14 OM_14 B0_14 BG_14
          have q0 := BH_15.c
          have q1 := B0_15.c
          go_wp2_with fail
          refine (eqArena_same avh av0 caph cap0 HM w15 (by have := HPL.out; omega) OH_15.rowAt O0_15.rowAt).mono ?_
          rintro e w16 ⟨rfl, hb16⟩
          have OM_16 := OM_15.next hb16
          have BG_16 := BG_15.next hb16
          have HB16 : Hid (Below w.heap.size w w16) := HB15.out.trans (hb16.mono HB15.out.size)
          clear hb16 HB15 q0 q1 OH_15 BH_15
          clear O0_15 OM_15 B0_15 BG_15
          have q0 := BG_16.c
          go_wp2_with fail
          refine (heldArena_any 1 avg HM.length capg w16 (by have := HPL.out; omega) (by omega) OM_16.rowAt).mono ?_
          rintro e w17 ⟨rfl, hb17⟩
          have HB17 : Hid (Below w.heap.size w w17) := HB16.out.trans (hb17.mono HB16.out.size)
          clear hb17 HB16 q0 OM_16 BG_16
          go_wp2
          go_ret
          exact ⟨rfl, HB17.out⟩
  · have hl' : (1048576 : Int) - (ns.length : Int) < 0 := by omega
    have B0 : Below w.heap.size w ((w.alloc (.cells #[.slice a0 ns.length cp] 24)).alloc (.cells #[.int .i64 x.k, .int .i64 x.n, .int .i64 x.a, .int .i64 x.b] 26)) := ((Below.refl _ _).alloc (Nat.le_refl _) _).alloc (by simp) _
    have H : Hid _ := szArena_big a0 ns.length cp ((w.alloc (.cells #[.slice a0 ns.length cp] 24)).alloc (.cells #[.int .i64 x.k, .int .i64 x.n, .int .i64 x.a, .int .i64 x.b] 26)) (by omega) w0
    have HA : Hid _ := B0
    clear w0 B0 HR HF wx
    go_enter Try.func3, Try.ntmps3
    go_wp2_with fail
    refine Calls.mono H.out ?_
    rintro e w1 ⟨rfl, hb1⟩
    go_wp2
    go_ret
    exact ⟨rfl, HA.out.trans (hb1.mono HA.out.size)⟩

theorem laidOut : laidOutB Try.prog = true := by kernel_rfl
set_option maxRecDepth 100000 in
theorem lifted (os : Os) (started : os.Started) (H : Type) (enc : TypeId × Value → H) :
    ReturnsInHanded {} Try.checked os 3 .any (Rows.fnExactHelloTermSpec.pre6 enc Try.prog Try.f3 Rows.fnExactHelloTermRow.domain false) (Rows.fnExactHelloTermSpec.post enc Try.prog Try.f3 false true false false) := by
  refine returnsInHanded_of_change (C := Try.checked) own started (by kernel_rfl) Try.func3
    (ChangeSpec.witness6 (enc := enc) (C := Try.checked) false ⟨#[], #[.agg #[.slice none 0 0], .agg #[.int .i64 0, .int .i64 0, .int .i64 0, .int .i64 0]], []⟩ 8 (by kernel_rfl) (by kernel_rfl) (by kernel_rfl) (by kernel_rfl)) ?_
  intro W base args ds gs before hval0 hW hcnd _
  have hval : ∀ (j : Nat) t v, Try.f3.params[j]? = some t → args[j]? = some v → Value.okWide Try.prog W .any base t v := hval0
  have hW' := hW
  obtain ⟨p, q, hA0, hV, rfl, hfz, hnd⟩ := hW
  have hA : DataW.TrodAll enc Try.prog W 0 (fun _ => true) true Try.f3.params.toList args.toList ds p := hA0
  rw [Try.params3] at hA hval
  obtain ⟨v0, vs0, d0, ds0, p0, q0, hargs, rfl, rfl, h0, r0⟩ := trodAll_cons hA
  obtain ⟨v1, vs1, d1, ds1, p1, q1, rfl, rfl, rfl, h1, r1⟩ := trodAll_cons r0
  obtain ⟨rfl, rfl, rfl⟩ := trodAll_nil r1
  obtain rfl : args = #[v0, v1] := by cases args; simp_all
  obtain ⟨rfl, rfl⟩ := trodVars_none hV
  have k0 := h0
  have lt0 : ∀ x ∈ p0, x.block < W.heap.size := by obtain ⟨m, hm⟩ := k0; exact DataW.trod_lt m _ _ _ hm
  obtain ⟨a0, c0, n0, rfl, w0, rn0, f0⟩ := arena_of (hval 0 24 v0 rfl rfl) h0
  have k1 := h1
  have lt1 : ∀ x ∈ p1, x.block < W.heap.size := by obtain ⟨m, hm⟩ := k1; exact DataW.trod_lt m _ _ _ hm
  obtain ⟨a1, rfl, w1⟩ := hello_of (hval 1 26 v1 rfl rfl) h1
  clear hA0 hval0
  refine (walk a0 c0 n0 a1 w0 f0 w1 W rn0).mono fun e W' ⟨he, bel⟩ => ?_
  subst he
  exact ⟨_, rfl, _, _, _, [], _, [], hW', trodAll_mk1 (shut_bool Try.underlying4 _), (trodAll_cons_mk (Below.trod laidOut (by kernel_rfl) (of_decide_eq_true (by kernel_rfl)) k0 bel lt0) (trodAll_cons_mk (Below.trod laidOut (by kernel_rfl) (of_decide_eq_true (by kernel_rfl)) k1 bel lt1) trodAll_mk0)), rfl, bel.frame _, fun h => by cases h⟩

theorem over : Rows.fnExactHelloTermRow.holds Try.pinned (OpenSpec.ofChange Rows.fnExactHelloTermSpec) :=
  OpenClaim.holds_of_wide 3 Try.f3 rfl rfl rfl rfl rfl rfl rfl ⟨rfl, rfl, rfl, rfl, rfl⟩ rfl rfl rfl rfl rfl (by kernel_rfl) Try.func3 (by kernel_rfl)
    (of_decide_eq_true (by kernel_rfl)) (by unfold Func.isWrapper; first | (rw [if_pos (by decide +kernel)]; kernel_rfl) | (rw [if_neg (by decide +kernel)]; exact ⟨rfl, rfl⟩))
    (fun os started H enc _ => lifted os started H enc)
end fnExactHelloTerm

theorem fnExactHelloTerm_holds : Rows.FnExactHelloTermSaid := fnExactHelloTerm.over
#print axioms fnExactHelloTerm_holds
end Go.Proofs.Ytlecpjgeaigjkaa
