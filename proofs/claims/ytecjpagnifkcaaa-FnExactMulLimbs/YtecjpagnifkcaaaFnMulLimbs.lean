/- For all two numbers of limbs, right or not: MulLimbs of the program answers as the specification's MulLimbs does, writes into no argument, keeps nothing of one, owns its answer's memory, behind another call too; the arguments read as before. No condition. -/
import Derived.Test.YtecjpagnifkcaaaRows
import Derived.Test.YtecjpagnifkcaaaLawL
import Derived.Test.YtecjpagnifkcaaaRegionL
import Derived.Test.YtecjpagnifkcaaaSmu25
import Derived.WalkKit
import Derived.ProofKit
import Derived.OpenShut
import Derived.ShutString
import Derived.ChangeOld
import Derived.PlainAid
import Derived.Deep.RegionHeld3
namespace Go.Proofs.Ytecjpagnifkcaaa
namespace fnExactMulLimbs
open Go.ChangeShapes Go.WideShapes Go.ChangeAt Go.RowKit Go.PlainAid
open Go.ChangeMaps (open_string shut_string)
set_option linter.unusedVariables false

theorem own : ownKnob Try.prog.godebug = none := by kernel_rfl

set_option maxHeartbeats 6400000 in
set_option maxRecDepth 20000 in
theorem walk (a0 : Option Addr) (c0 : Nat) (n0 : List Int) (a1 : Option Addr) (c1 : Nat) (n1 : List Int) (w0 : n0.length ≤ maxLen) (f0 : ∀ x ∈ n0, -9223372036854775808 ≤ x ∧ x ≤ 9223372036854775807) (w1 : n1.length ≤ maxLen) (f1 : ∀ x ∈ n1, -9223372036854775808 ≤ x ∧ x ≤ 9223372036854775807) (w : World) (rn0 : RowI w.heap.size w a0 n0) (rn1 : RowI w.heap.size w a1 n1) :
    Calls Try.prog 6 #[.agg #[.slice a0 n0.length c0], .agg #[.slice a1 n1.length c1]] w fun e w' => e = .returned (.bool true) ∧ Below w.heap.size w w' := by
  clear f0 f1
  have hB0 : Below w.heap.size w ((w.alloc (.cells #[.slice a0 n0.length c0] 30)).alloc (.cells #[.slice a1 n1.length c1] 30)) := ((Below.refl _ _).alloc (Nat.le_refl _) _).alloc (by simp) _
  have A0 : VarZ w.heap.size (.slice a0 n0.length c0) ((w.alloc (.cells #[.slice a0 n0.length c0] 30)).alloc (.cells #[.slice a1 n1.length c1] 30)) := VarZ.made.next (below_alloc _ _)
  have A1 : VarZ (w.heap.size + 1) (.slice a1 n1.length c1) ((w.alloc (.cells #[.slice a0 n0.length c0] 30)).alloc (.cells #[.slice a1 n1.length c1] 30)) := by
    have h := VarZ.made (w := (w.alloc (.cells #[.slice a0 n0.length c0] 30))) (v := .slice a1 n1.length c1) (t := 30)
    simpa using h
  have I0 : InI w.heap.size a0 n0 ((w.alloc (.cells #[.slice a0 n0.length c0] 30)).alloc (.cells #[.slice a1 n1.length c1] 30)) := ⟨hB0.size, rn0.later hB0⟩
  have I1 : InI w.heap.size a1 n1 ((w.alloc (.cells #[.slice a0 n0.length c0] 30)).alloc (.cells #[.slice a1 n1.length c1] 30)) := ⟨hB0.size, rn1.later hB0⟩
  have HB : Hid (Below w.heap.size w ((w.alloc (.cells #[.slice a0 n0.length c0] 30)).alloc (.cells #[.slice a1 n1.length c1] 30))) := hB0
  clear hB0 rn0 rn1
  by_cases hz0 : n0.length ≤ 1048576
  rotate_left
  · have hl0 : (1048576 : Int) - (n0.length : Int) < 0 := by omega
    have H : Hid _ := szLimbs_big a0 n0.length c0 1048576 ((w.alloc (.cells #[.slice a0 n0.length c0] 30)).alloc (.cells #[.slice a1 n1.length c1] 30)) (by omega) (by omega) w0
    have eA0 := A0.c
    clear w0 w1 A0 A1 I0 I1
    go_enter Try.func6, Try.ntmps6
    go_wp2_with fail
    refine Calls.mono H.out ?_
    rintro e w1 ⟨rfl, hb⟩
    go_wp2
    go_ret
    exact ⟨rfl, HB.out.trans (hb.mono HB.out.size)⟩
  have hl0 : ¬ (1048576 : Int) - (n0.length : Int) < 0 := by omega
  clear w0
  go_enter Try.func6, Try.ntmps6
  have eA0 := A0.c
  have eA1 := A1.c
  go_wp2_with fail
  generalize ((w.alloc (.cells #[.slice a0 n0.length c0] 30)).alloc (.cells #[.slice a1 n1.length c1] 30)) = z0 at A0 A1 I0 I1 HB eA0 eA1 ⊢
  have hst : w.heap.size + 1 < z0.heap.size := A1.lt
  refine (szLimbs_any a0 n0.length c0 1048576 z0 (by omega) (by omega)).mono ?_
  rintro e z1 ⟨rfl, hb⟩
  clear eA0 eA1
  replace A0 := A0.next hb
  replace A1 := A1.next hb
  replace I0 := I0.next hb
  replace I1 := I1.next hb
  replace HB : Hid (Below w.heap.size w z1) := HB.out.trans (hb.mono HB.out.size)
  have hsz1 := hb.size
  clear hb
  by_cases hz1 : (n1.length : Int) ≤ 1048576 - (n0.length : Int)
  rotate_left
  · have hl1 : (1048576 : Int) - (n0.length : Int) - (n1.length : Int) < 0 := by omega
    have H : Hid _ := szLimbs_big a1 n1.length c1 (1048576 - (n0.length : Int)) z1 (by omega) (by omega) w1
    have eA1 := A1.c
    clear w1 A0 A1 I0 I1
    go_wp2_with fail
    refine Calls.mono H.out ?_
    rintro e z2 ⟨rfl, hb⟩
    go_wp2
    go_ret
    exact ⟨rfl, HB.out.trans (hb.mono HB.out.size)⟩
  have hl1 : ¬ (1048576 : Int) - (n0.length : Int) - (n1.length : Int) < 0 := by omega
  clear w1
  have eA0 := A0.c
  have eA1 := A1.c
  go_wp2_with fail
  refine (szLimbs_any a1 n1.length c1 (1048576 - (n0.length : Int)) z1 (by omega) (by omega)).mono ?_
  rintro e z2 ⟨rfl, hb⟩
  clear eA0 eA1
  replace A0 := A0.next hb
  replace A1 := A1.next hb
  replace I0 := I0.next hb
  replace I1 := I1.next hb
  replace HB : Hid (Below w.heap.size w z2) := HB.out.trans (hb.mono HB.out.size)
  have hsz2 := hb.size
  clear hb
  replace hz1 : n1.length ≤ 1048576 := by omega
  obtain ⟨R0, HS, HI, HL⟩ : ∃ (R0 : List Int), Hid (∀ (a b : Option Addr) (ca cb : Nat) (w1 : World), AddrN a ca → AddrN b cb → RowI w1.heap.size w1 a n0 → RowI w1.heap.size w1 b n1 → Calls Try.prog 20 #[.agg #[.slice a n0.length ca], .agg #[.slice b n1.length cb]] w1 fun e w' => ∃ v, e = .returned (.agg #[v]) ∧ OwnInt w1.heap.size w' v R0 ∧ Below w1.heap.size w1 w') ∧ Hid (∀ (a b : Option Addr) (ca cb : Nat) (w1 : World), AddrN a ca → AddrN b cb → RowI w1.heap.size w1 a n0 → RowI w1.heap.size w1 b n1 → Calls Try.prog 21 #[.agg #[.slice a n0.length ca], .agg #[.slice b n1.length cb]] w1 fun e w' => ∃ v, e = .returned (.agg #[v]) ∧ OwnInt w1.heap.size w' v R0 ∧ Below w1.heap.size w1 w') ∧ Hid (R0.length ≤ 2097152) := ⟨twoP n0 n1 (lval pb n0 * lval pb n1), fun a b ca cb w1 ha hb hr hq => specMulLimbs_any a b ca cb n0 n1 w1 hr hq hz0 hz1, fun a b ca cb w1 ha hb hr hq => implMulLimbs_any a b ca cb n0 n1 w1 hr hq, twoP_len _ _ _⟩
  have hRL := HL.out
  have eA0 := A0.c
  have eA1 := A1.c
  go_wp2_with fail
  clear eA0 eA1
  have A0r := A0
  have A1r := A1
  have I0r := I0
  have I1r := I1
  refine wp_region_list (I := fun w' => Below z2.heap.size z2 w') (R := Rst z2.heap.size 6)
    (fs := #[⟨[24], fun vs _ => vs = [.agg #[.slice a0 n0.length c0]]⟩, ⟨[25], fun vs w' => ∃ v, vs = [.agg #[v]] ∧ OwnInt z2.heap.size w' v n0⟩, ⟨[26], fun vs _ => vs = [.agg #[.slice a1 n1.length c1]]⟩, ⟨[27], fun vs w' => ∃ v, vs = [.agg #[v]] ∧ OwnInt z2.heap.size w' v n1⟩, ⟨[28], fun vs w' => ∃ v, vs = [.agg #[v]] ∧ OwnInt z2.heap.size w' v R0⟩, ⟨[6], fun vs w' => ∃ g, vs = [.pointer (some ⟨g, 0, none⟩)] ∧ z2.heap.size ≤ g ∧ ∃ u, w'.heap[g]? = some (.cells #[u] 24 (0, 0))⟩, ⟨[6, 28], fun vs w' => ∃ g v, vs = [.pointer (some ⟨g, 0, none⟩), .agg #[v]] ∧ z2.heap.size ≤ g ∧ w'.heap[g]? = some (.cells #[v] 24 (0, 0)) ∧ OwnInt z2.heap.size w' v R0⟩])
    (by kernel_rfl) 92 rfl (by kernel_rfl) ?stab ?istab ?start ?exec ?fin
  case stab =>
    intro k i f hki hf
    have hk : k < 7 := (Array.getElem?_eq_some_iff.1 hf).1
    rcases (show k = 0 ∨ k = 1 ∨ k = 2 ∨ k = 3 ∨ k = 4 ∨ k = 5 ∨ k = 6 by omega) with rfl | rfl | rfl | rfl | rfl | rfl | rfl
    all_goals
      simp only [List.getElem?_toArray, List.getElem?_cons_succ, List.getElem?_cons_zero, Option.some.injEq] at hf
      subst hf
    · exact fun vs _ _ _ h => h
    · exact fun vs w' w'' hR ⟨v, h1, h2⟩ => ⟨v, h1, hR.own h2⟩
    · exact fun vs _ _ _ h => h
    · exact fun vs w' w'' hR ⟨v, h1, h2⟩ => ⟨v, h1, hR.own h2⟩
    · exact fun vs w' w'' hR ⟨v, h1, h2⟩ => ⟨v, h1, hR.own h2⟩
    · exact fun vs w' w'' hR ⟨g, h1, h2, h3⟩ => ⟨g, h1, h2, hR.box h3⟩
    · exact fun vs w' w'' hR ⟨g, v, h1, h2, h3, h4⟩ => ⟨g, v, h1, h2, Rst.keep (Ne.symm hki) hR h3, hR.own h4⟩
  case istab => exact fun i w' w'' hR h => Rst.inv (Nat.le_refl _) hR h
  case start => exact (Below.refl _ _).drew
  case exec =>
    intro i o f hi hf a wq hsz hI hold hpre
    have hi11 : i < 7 := (Array.getElem?_eq_some_iff.1 hi).1
    rcases (show i = 0 ∨ i = 1 ∨ i = 2 ∨ i = 3 ∨ i = 4 ∨ i = 5 ∨ i = 6 by omega) with rfl | rfl | rfl | rfl | rfl | rfl | rfl
    all_goals
      simp only [List.getElem?_toArray, List.getElem?_cons_succ, List.getElem?_cons_zero, Option.some.injEq] at hi hf
      subst hi hf
    · have o2 : a.tmps.getD 2 undef = .pointer (some ⟨w.heap.size, 0, none⟩) := hold 2 (free_spec (by kernel_rfl))
      have hc : wq.cell? ⟨w.heap.size, 0, none⟩ = some (.slice a0 n0.length c0) := (hI.cell (p := ⟨w.heap.size, 0, none⟩) A0r.lt).trans A0r.c
      refine exec_same (v := .agg #[.slice a0 n0.length c0]) ?_ ⟨_, rfl, Rst.refl (by decide), at_one (by omega) rfl⟩
      simp [go_sem, Act.eval, o2, hc]
    · have p0 := of_one (hpre ⟨0, .data⟩ (by simp) rfl _ rfl)
      have h24 : a.tmps.getD 24 undef = .agg #[.slice a0 n0.length c0] := by simpa using p0
      refine exec_call (f := 16) (args := #[.agg #[.slice a0 n0.length c0]]) (by simp [go_sem, Act.eval, h24]) ?_
      refine (toLimbs_any a0 c0 n0 wq hz0 (I0r.next hI).all).mono ?_
      rintro e w2 ⟨v, rfl, ho, hb⟩
      exact ⟨_, rfl, _, rfl, Rst.of (by decide) hb, at_one (by omega) ⟨v, rfl, OwnInt.base ho hI.size⟩⟩
    · have o3 : a.tmps.getD 3 undef = .pointer (some ⟨w.heap.size + 1, 0, none⟩) := hold 3 (free_spec (by kernel_rfl))
      have hc : wq.cell? ⟨w.heap.size + 1, 0, none⟩ = some (.slice a1 n1.length c1) := (hI.cell (p := ⟨w.heap.size + 1, 0, none⟩) A1r.lt).trans A1r.c
      refine exec_same (v := .agg #[.slice a1 n1.length c1]) ?_ ⟨_, rfl, Rst.refl (by decide), at_one (by omega) rfl⟩
      simp [go_sem, Act.eval, o3, hc]
    · have p2 := of_one (hpre ⟨2, .data⟩ (by simp) rfl _ rfl)
      have h26 : a.tmps.getD 26 undef = .agg #[.slice a1 n1.length c1] := by simpa using p2
      refine exec_call (f := 16) (args := #[.agg #[.slice a1 n1.length c1]]) (by simp [go_sem, Act.eval, h26]) ?_
      refine (toLimbs_any a1 c1 n1 wq hz1 (I1r.next hI).all).mono ?_
      rintro e w2 ⟨v, rfl, ho, hb⟩
      exact ⟨_, rfl, _, rfl, Rst.of (by decide) hb, at_one (by omega) ⟨v, rfl, OwnInt.base ho hI.size⟩⟩
    · obtain ⟨v1, q1, ho1⟩ := of_one (hpre ⟨1, .data⟩ (by simp) rfl _ rfl)
      have h25 : a.tmps.getD 25 undef = .agg #[v1] := by simpa using q1
      obtain ⟨v2, q2, ho2⟩ := of_one (hpre ⟨3, .data⟩ (by simp) rfl _ rfl)
      have h27 : a.tmps.getD 27 undef = .agg #[v2] := by simpa using q2
      obtain ⟨x1, y1, rfl, hA1, hr1⟩ := ho1.row
      obtain ⟨x2, y2, rfl, hA2, hr2⟩ := ho2.row
      refine exec_call (f := 20) (args := #[.agg #[.slice x1 n0.length y1], .agg #[.slice x2 n1.length y2]]) (by simp [go_sem, Act.eval, h25, h27]) ?_
      refine (HS.out x1 x2 y1 y2 wq hA1 hA2 hr1 hr2).mono ?_
      rintro e w2 ⟨v', rfl, ho', hb⟩
      exact ⟨_, rfl, _, rfl, Rst.of (by decide) hb, at_one (by omega) ⟨v', rfl, OwnInt.base ho' hI.size⟩⟩
    · refine exec_made (v := .pointer (some ⟨wq.heap.size, 0, none⟩)) (w' := wq.alloc (.cells #[.slice none 0 0] 24)) ?_ ⟨_, rfl, Rst.of (by decide) ((Below.refl wq.heap.size wq).alloc (Nat.le_refl _) _), at_one (by omega) ⟨wq.heap.size, rfl, hI.size, _, heap_alloc_new _ _⟩⟩
      simp [go_sem]
    · obtain ⟨g, qa, hg, u, hu⟩ := of_one (hpre ⟨5, .data⟩ (by simp) rfl _ rfl)
      have ha' : a.tmps.getD 6 undef = .pointer (some ⟨g, 0, none⟩) := by simpa using qa
      obtain ⟨v4, q4, ho4⟩ := of_one (hpre ⟨4, .data⟩ (by simp) rfl _ rfl)
      have h28 : a.tmps.getD 28 undef = .agg #[v4] := by simpa using q4
      have hcg : wq.cell? ⟨g, 0, none⟩ = some u := by rw [cell_of_row wq g 0 _ _ _ hu]; rfl
      have hfg : wq.frozen? ⟨g, 0, none⟩ = false := frozen_of_row wq g 0 _ _ hu
      obtain ⟨av9, capv9, rfl, _, _⟩ := ho4.row
      have hR2 : Rst z2.heap.size 6 6 wq (wq.setCell ⟨g, 0, none⟩ (.slice av9 R0.length capv9)) := by unfold Rst; rw [if_pos rfl]; exact ⟨g, u, _, rfl, hg, hu⟩
      refine exec_skip (w' := wq.setCell ⟨g, 0, none⟩ (.slice av9 R0.length capv9)) ?_ ⟨_, rfl, hR2, ?_⟩
      · simp [go_sem, Act.eval, ha', h28, hcg, hfg]
      · exact ⟨g, _, by show [a.tmps.getD 6 undef, a.tmps.getD 28 undef] = _; rw [ha', h28], hg, (heap_setCell_same wq g 0 _ _ _ hu).trans rfl, hR2.own ho4⟩
  case fin =>
    intro zs z3 hzl hI hF
    obtain ⟨y0, y1, y2, y3, y4, y5, y6, rfl⟩ := list7s zs hzl
    obtain ⟨gBW, v, hst, hgA_, hbox, hown⟩ := of_two (hF 6 _ rfl)
    simp only [List.cons.injEq, and_true] at hst
    have hs1 := last_is (i := 5) (v := y5) (n := 92) hst.1 (by kernel_rfl) rfl rfl (by omega)
    have hs2 := last_is (i := 4) (v := y4) (n := 92) hst.2 (by kernel_rfl) rfl rfl (by omega)
    clear hst
    subst hs1 hs2
    clear hF
    simp only [putAll, Act.put, List.setIfInBounds_toArray, List.set_cons_succ, List.set_cons_zero]
    obtain ⟨qW, kW, rfl, -, -⟩ := hown.row
    have OW := OwnZ.made hown
    have BW : VarZ gBW (.slice qW R0.length kW) z3 := ⟨(Array.getElem?_eq_some_iff.1 hbox).1, (cell_of_row z3 gBW 0 _ _ _ hbox).trans rfl⟩
    have hb := hI
    replace A0 := A0.next hb
    replace A1 := A1.next hb
    replace I0 := I0.next hb
    replace I1 := I1.next hb
    replace HB : Hid (Below w.heap.size w z3) := HB.out.trans (hb.mono HB.out.size)
    have hsz3 := hb.size
    have hgtBW := BW.lt
    clear hb hI hbox hown A0r A1r I0r I1r
    have eA0 := A0.c
    have eA1 := A1.c
    have eBW := BW.c
    go_wp2_with fail
    refine (toLimbs_any a0 c0 n0 z3 hz0 I0.all).mono ?_
    rintro e z4 ⟨v, rfl, ho, hb⟩
    obtain ⟨qX, kX, rfl, hAX, -⟩ := ho.row
    have OX := OwnZ.made ho
    clear ho
    clear eA0 eA1 eBW
    replace A0 := A0.next hb
    replace A1 := A1.next hb
    replace I0 := I0.next hb
    replace I1 := I1.next hb
    replace OW := OW.next hb
    replace BW := BW.next hb
    replace HB : Hid (Below w.heap.size w z4) := HB.out.trans (hb.mono HB.out.size)
    have hsz4 := hb.size
    clear hb
    have hb : Below z4.heap.size z4 (z4.alloc (.cells #[.slice qX n0.length kX] 24)) := below_alloc _ _
    have BX : VarZ z4.heap.size (.slice qX n0.length kX) (z4.alloc (.cells #[.slice qX n0.length kX] 24)) := VarZ.made
    replace A0 := A0.next hb
    replace A1 := A1.next hb
    replace I0 := I0.next hb
    replace I1 := I1.next hb
    replace OW := OW.next hb
    replace BW := BW.next hb
    replace OX := OX.next hb
    replace HB : Hid (Below w.heap.size w (z4.alloc (.cells #[.slice qX n0.length kX] 24))) := HB.out.trans (hb.mono HB.out.size)
    have hgtBX : z4.heap.size < (z4.alloc (.cells #[.slice qX n0.length kX] 24)).heap.size := BX.lt
    clear hb
    have eA0 := A0.c
    have eA1 := A1.c
    have eBW := BW.c
    have eBX := BX.c
    go_wp2_with fail
    generalize (z4.alloc (.cells #[.slice qX n0.length kX] 24)) = z5 at HB hgtBX A0 A1 I0 I1 OW BW OX BX eA0 eA1 eBW eBX ⊢
    refine (toLimbs_any a1 c1 n1 z5 hz1 I1.all).mono ?_
    rintro e z6 ⟨v, rfl, ho, hb⟩
    obtain ⟨qY, kY, rfl, hAY, -⟩ := ho.row
    have OY := OwnZ.made ho
    clear ho
    clear eA0 eA1 eBW eBX
    replace A0 := A0.next hb
    replace A1 := A1.next hb
    replace I0 := I0.next hb
    replace I1 := I1.next hb
    replace OW := OW.next hb
    replace BW := BW.next hb
    replace OX := OX.next hb
    replace BX := BX.next hb
    replace HB : Hid (Below w.heap.size w z6) := HB.out.trans (hb.mono HB.out.size)
    have hsz6 := hb.size
    clear hb
    have hb : Below z6.heap.size z6 (z6.alloc (.cells #[.slice qY n1.length kY] 24)) := below_alloc _ _
    have BY : VarZ z6.heap.size (.slice qY n1.length kY) (z6.alloc (.cells #[.slice qY n1.length kY] 24)) := VarZ.made
    replace A0 := A0.next hb
    replace A1 := A1.next hb
    replace I0 := I0.next hb
    replace I1 := I1.next hb
    replace OW := OW.next hb
    replace BW := BW.next hb
    replace OX := OX.next hb
    replace BX := BX.next hb
    replace OY := OY.next hb
    replace HB : Hid (Below w.heap.size w (z6.alloc (.cells #[.slice qY n1.length kY] 24))) := HB.out.trans (hb.mono HB.out.size)
    have hgtBY : z6.heap.size < (z6.alloc (.cells #[.slice qY n1.length kY] 24)).heap.size := BY.lt
    clear hb
    have eA0 := A0.c
    have eA1 := A1.c
    have eBW := BW.c
    have eBX := BX.c
    have eBY := BY.c
    go_wp2_with fail
    generalize (z6.alloc (.cells #[.slice qY n1.length kY] 24)) = z7 at HB hgtBY A0 A1 I0 I1 OW BW OX BX OY BY eA0 eA1 eBW eBX eBY ⊢
    refine (HI.out _ _ _ _ z7 hAX hAY OX.rowAt OY.rowAt).mono ?_
    rintro e z8 ⟨v, rfl, ho, hb⟩
    obtain ⟨qG, kG, rfl, hAG, -⟩ := ho.row
    have OG := OwnZ.made ho
    clear ho
    clear eA0 eA1 eBW eBX eBY
    replace A0 := A0.next hb
    replace A1 := A1.next hb
    replace I0 := I0.next hb
    replace I1 := I1.next hb
    replace OW := OW.next hb
    replace BW := BW.next hb
    replace OX := OX.next hb
    replace BX := BX.next hb
    replace OY := OY.next hb
    replace BY := BY.next hb
    replace HB : Hid (Below w.heap.size w z8) := HB.out.trans (hb.mono HB.out.size)
    have hsz8 := hb.size
    clear hb
    have hb : Below z8.heap.size z8 (z8.alloc (.cells #[.slice qG R0.length kG] 24)) := below_alloc _ _
    have BG : VarZ z8.heap.size (.slice qG R0.length kG) (z8.alloc (.cells #[.slice qG R0.length kG] 24)) := VarZ.made
    replace A0 := A0.next hb
    replace A1 := A1.next hb
    replace I0 := I0.next hb
    replace I1 := I1.next hb
    replace OW := OW.next hb
    replace BW := BW.next hb
    replace OX := OX.next hb
    replace BX := BX.next hb
    replace OY := OY.next hb
    replace BY := BY.next hb
    replace OG := OG.next hb
    replace HB : Hid (Below w.heap.size w (z8.alloc (.cells #[.slice qG R0.length kG] 24))) := HB.out.trans (hb.mono HB.out.size)
    have hgtBG : z8.heap.size < (z8.alloc (.cells #[.slice qG R0.length kG] 24)).heap.size := BG.lt
    clear hb
    have eA0 := A0.c
    have eA1 := A1.c
    have eBW := BW.c
    have eBX := BX.c
    have eBY := BY.c
    have eBG := BG.c
    go_wp2_with fail
    generalize (z8.alloc (.cells #[.slice qG R0.length kG] 24)) = z9 at HB hgtBG A0 A1 I0 I1 OW BW OX BX OY BY OG BG eA0 eA1 eBW eBX eBY eBG ⊢
    refine (eqLimbs_same _ _ _ _ R0 z9 HL.out OG.rowAt OW.rowAt).mono ?_
    rintro e z10 ⟨rfl, hb⟩
    clear eA0 eA1 eBW eBX eBY eBG
    replace A0 := A0.next hb
    replace A1 := A1.next hb
    replace I0 := I0.next hb
    replace I1 := I1.next hb
    replace OW := OW.next hb
    replace BW := BW.next hb
    replace OX := OX.next hb
    replace BX := BX.next hb
    replace OY := OY.next hb
    replace BY := BY.next hb
    replace OG := OG.next hb
    replace BG := BG.next hb
    replace HB : Hid (Below w.heap.size w z10) := HB.out.trans (hb.mono HB.out.size)
    have hsz10 := hb.size
    clear hb
    have eA0 := A0.c
    have eA1 := A1.c
    have eBW := BW.c
    have eBX := BX.c
    have eBY := BY.c
    have eBG := BG.c
    go_wp2_with fail
    have hI5 : RowI z10.drew.heap.size z10.drew a0 n0 := I0.all
    have hO5 : RowI z10.drew.heap.size z10.drew qX n0 := OX.rowAt
    have hX5 : z4.heap.size < z10.drew.heap.size := BX.lt
    have hA5 : w.heap.size < z10.drew.heap.size := A0.lt
    go_region_held3 (fun w' => w'.cell? ⟨z4.heap.size, 0, none⟩ = some (.slice qX n0.length kX) ∧ w'.cell? ⟨w.heap.size, 0, none⟩ = some (.slice a0 n0.length c0)) (first | exact ⟨eBX, eA0⟩ | assumption | exact two_keptZ (by assumption) hX5 hA5 hb6 | exact two_keptZ (by assumption) hX6 hA6 hb7) (first | (go_at_call 16; refine (toLimbs_any a0 c0 n0 _ hz0 ?_).mono ?_; exact hI5; rintro e y6 ⟨v6, rfl, ho6, hb6⟩; obtain ⟨q6, k6, rfl, hA6', hr6⟩ := ho6.row; have hX6 := Nat.lt_of_lt_of_le hX5 hb6.size; have hA6 := Nat.lt_of_lt_of_le hA5 hb6.size) | (go_at_call 11; refine (eqLimbs_same qX q6 kX k6 n0 _ ?_ ?_ ?_).mono ?_; omega; exact hO5.grown hb6; exact hr6; rintro e y7 ⟨rfl, hb7⟩))
    have hb : Below z10.heap.size z10 y7 := by have h := hb6.trans (hb7.mono hb6.size); exact ⟨h.os, h.tape, h.output, h.size, h.block⟩
    replace A0 := A0.next (w := z10) (w' := y7) hb
    replace A1 := A1.next (w := z10) (w' := y7) hb
    replace I0 := I0.next (w := z10) (w' := y7) hb
    replace I1 := I1.next (w := z10) (w' := y7) hb
    replace OW := OW.next (w := z10) (w' := y7) hb
    replace BW := BW.next (w := z10) (w' := y7) hb
    replace OX := OX.next (w := z10) (w' := y7) hb
    replace BX := BX.next (w := z10) (w' := y7) hb
    replace OY := OY.next (w := z10) (w' := y7) hb
    replace BY := BY.next (w := z10) (w' := y7) hb
    replace OG := OG.next (w := z10) (w' := y7) hb
    replace BG := BG.next (w := z10) (w' := y7) hb
    replace HB : Hid (Below w.heap.size w y7) := HB.out.trans (hb.mono HB.out.size)
    have hszy := hb.size
    clear hb hb6 hb7 hI5 hO5 hX5 hA5 ho6 hr6 hX6 hA6 eA0 eA1 eBW eBX eBY eBG
    generalize hyy : y7 = z11 at HB hszy A0 A1 I0 I1 OW BW OX BX OY BY OG BG ⊢
    clear hyy
    have hsz11 := hszy
    clear hszy
    have eA0 := A0.c
    have eA1 := A1.c
    have eBW := BW.c
    have eBX := BX.c
    have eBY := BY.c
    have eBG := BG.c
    go_wp2_with fail
    have hI5 : RowI z11.drew.heap.size z11.drew a1 n1 := I1.all
    have hO5 : RowI z11.drew.heap.size z11.drew qY n1 := OY.rowAt
    have hX5 : z6.heap.size < z11.drew.heap.size := BY.lt
    have hA5 : w.heap.size + 1 < z11.drew.heap.size := A1.lt
    go_region_held3 (fun w' => w'.cell? ⟨z6.heap.size, 0, none⟩ = some (.slice qY n1.length kY) ∧ w'.cell? ⟨w.heap.size + 1, 0, none⟩ = some (.slice a1 n1.length c1)) (first | exact ⟨eBY, eA1⟩ | assumption | exact two_keptZ (by assumption) hX5 hA5 hb6 | exact two_keptZ (by assumption) hX6 hA6 hb7) (first | (go_at_call 16; refine (toLimbs_any a1 c1 n1 _ hz1 ?_).mono ?_; exact hI5; rintro e y6 ⟨v6, rfl, ho6, hb6⟩; obtain ⟨q6, k6, rfl, hA6', hr6⟩ := ho6.row; have hX6 := Nat.lt_of_lt_of_le hX5 hb6.size; have hA6 := Nat.lt_of_lt_of_le hA5 hb6.size) | (go_at_call 11; refine (eqLimbs_same qY q6 kY k6 n1 _ ?_ ?_ ?_).mono ?_; omega; exact hO5.grown hb6; exact hr6; rintro e y7 ⟨rfl, hb7⟩))
    have hb : Below z11.heap.size z11 y7 := by have h := hb6.trans (hb7.mono hb6.size); exact ⟨h.os, h.tape, h.output, h.size, h.block⟩
    replace A0 := A0.next (w := z11) (w' := y7) hb
    replace A1 := A1.next (w := z11) (w' := y7) hb
    replace I0 := I0.next (w := z11) (w' := y7) hb
    replace I1 := I1.next (w := z11) (w' := y7) hb
    replace OW := OW.next (w := z11) (w' := y7) hb
    replace BW := BW.next (w := z11) (w' := y7) hb
    replace OX := OX.next (w := z11) (w' := y7) hb
    replace BX := BX.next (w := z11) (w' := y7) hb
    replace OY := OY.next (w := z11) (w' := y7) hb
    replace BY := BY.next (w := z11) (w' := y7) hb
    replace OG := OG.next (w := z11) (w' := y7) hb
    replace BG := BG.next (w := z11) (w' := y7) hb
    replace HB : Hid (Below w.heap.size w y7) := HB.out.trans (hb.mono HB.out.size)
    have hszy := hb.size
    clear hb hb6 hb7 hI5 hO5 hX5 hA5 ho6 hr6 hX6 hA6 eA0 eA1 eBW eBX eBY eBG
    generalize hyy : y7 = z12 at HB hszy A0 A1 I0 I1 OW BW OX BX OY BY OG BG ⊢
    clear hyy
    have hsz12 := hszy
    clear hszy
    have eA0 := A0.c
    have eA1 := A1.c
    have eBW := BW.c
    have eBX := BX.c
    have eBY := BY.c
    have eBG := BG.c
    go_wp2_with fail
    refine (markLimbs_any _ 1 (.slice qX n0.length kX) n0 z12 (by omega) (by omega) OX.own).mono ?_
    rintro e z13 ⟨rfl, hox, hgr⟩
    have hbk := OX.block
    clear eA0 eA1 eBW eBX eBY eBG
    clear hox
    replace A0 := A0.mark hgr (fun e => by have h1 := hbk _ e; have h2 := A0.lt; omega)
    replace A1 := A1.mark hgr (fun e => by have h1 := hbk _ e; have h2 := A1.lt; omega)
    replace I0 := I0.mark hgr (fun g hg => by have := hbk g hg; omega)
    replace I1 := I1.mark hgr (fun g hg => by have := hbk g hg; omega)
    replace OW := OW.mark hgr (fun g hg => by have := hbk g hg; omega)
    replace BW := BW.mark hgr (fun e => by have h1 := hbk _ e; have h2 := BW.lt; omega)
    replace BX := BX.mark hgr (fun e => by have h1 := hbk _ e; have h2 := BX.lt; omega)
    replace OY := OY.mark hgr (fun g hg => by have := hbk g hg; omega)
    replace BY := BY.mark hgr (fun e => by have h1 := hbk _ e; have h2 := BY.lt; omega)
    replace OG := OG.mark hgr (fun g hg => by have := hbk g hg; omega)
    replace BG := BG.mark hgr (fun e => by have h1 := hbk _ e; have h2 := BG.lt; omega)
    replace HB : Hid (Below w.heap.size w z13) := HB.out.grown hgr HB.out.size (fun k hk => by have := hbk k hk; omega)
    have hsz13 := hgr.size
    clear hgr hbk OX
    have eA0 := A0.c
    have eA1 := A1.c
    have eBW := BW.c
    have eBX := BX.c
    have eBY := BY.c
    have eBG := BG.c
    go_wp2_with fail
    have hk1 : (1 : Int) + (n0.length : Int) = ((1 + n0.length : Nat) : Int) := by omega
    rw [hk1]
    refine (markLimbs_any _ (1 + n0.length) (.slice qY n1.length kY) n1 z13 (by omega) (by omega) OY.own).mono ?_
    rintro e z14 ⟨rfl, hox, hgr⟩
    have hbk := OY.block
    clear eA0 eA1 eBW eBX eBY eBG
    clear hox
    rw [← hk1]
    clear hk1
    replace A0 := A0.mark hgr (fun e => by have h1 := hbk _ e; have h2 := A0.lt; omega)
    replace A1 := A1.mark hgr (fun e => by have h1 := hbk _ e; have h2 := A1.lt; omega)
    replace I0 := I0.mark hgr (fun g hg => by have := hbk g hg; omega)
    replace I1 := I1.mark hgr (fun g hg => by have := hbk g hg; omega)
    replace OW := OW.mark hgr (fun g hg => by have := hbk g hg; omega)
    replace BW := BW.mark hgr (fun e => by have h1 := hbk _ e; have h2 := BW.lt; omega)
    replace BX := BX.mark hgr (fun e => by have h1 := hbk _ e; have h2 := BX.lt; omega)
    replace BY := BY.mark hgr (fun e => by have h1 := hbk _ e; have h2 := BY.lt; omega)
    replace OG := OG.mark hgr (fun g hg => by have := hbk g hg; omega)
    replace BG := BG.mark hgr (fun e => by have h1 := hbk _ e; have h2 := BG.lt; omega)
    replace HB : Hid (Below w.heap.size w z14) := HB.out.grown hgr HB.out.size (fun k hk => by have := hbk k hk; omega)
    have hsz14 := hgr.size
    clear hgr hbk OY
    have hk0 : ¬ (1 : Int) + (n0.length : Int) + (n1.length : Int) < 0 := by omega
    have eA0 := A0.c
    have eA1 := A1.c
    have eBW := BW.c
    have eBX := BX.c
    have eBY := BY.c
    have eBG := BG.c
    go_wp2_with fail
    refine (eqLimbs_same _ _ _ _ R0 z14 HL.out OG.rowAt OW.rowAt).mono ?_
    rintro e z15 ⟨rfl, hb⟩
    clear eA0 eA1 eBW eBX eBY eBG
    replace A0 := A0.next hb
    replace A1 := A1.next hb
    replace I0 := I0.next hb
    replace I1 := I1.next hb
    replace OW := OW.next hb
    replace BW := BW.next hb
    replace BX := BX.next hb
    replace BY := BY.next hb
    replace OG := OG.next hb
    replace BG := BG.next hb
    replace HB : Hid (Below w.heap.size w z15) := HB.out.trans (hb.mono HB.out.size)
    have hsz15 := hb.size
    clear hb
    have eA0 := A0.c
    have eA1 := A1.c
    have eBW := BW.c
    have eBX := BX.c
    have eBY := BY.c
    have eBG := BG.c
    go_wp2_with fail
    refine (markLimbs_any _ 1 (.slice qG R0.length kG) R0 z15 (by omega) (by omega) OG.own).mono ?_
    rintro e z16 ⟨rfl, hox, hgr⟩
    have hbk := OG.block
    clear eA0 eA1 eBW eBX eBY eBG
    have OM : OwnZ _ _ (.slice qG R0.length kG) (marksI 1 R0.length) z16 := ⟨hox, Nat.le_trans OG.le hgr.size, OG.lt⟩
    clear hox
    replace A0 := A0.mark hgr (fun e => by have h1 := hbk _ e; have h2 := A0.lt; omega)
    replace A1 := A1.mark hgr (fun e => by have h1 := hbk _ e; have h2 := A1.lt; omega)
    replace I0 := I0.mark hgr (fun g hg => by have := hbk g hg; omega)
    replace I1 := I1.mark hgr (fun g hg => by have := hbk g hg; omega)
    replace OW := OW.mark hgr (fun g hg => by have := hbk g hg; omega)
    replace BW := BW.mark hgr (fun e => by have h1 := hbk _ e; have h2 := BW.lt; omega)
    replace BX := BX.mark hgr (fun e => by have h1 := hbk _ e; have h2 := BX.lt; omega)
    replace BY := BY.mark hgr (fun e => by have h1 := hbk _ e; have h2 := BY.lt; omega)
    replace BG := BG.mark hgr (fun e => by have h1 := hbk _ e; have h2 := BG.lt; omega)
    replace HB : Hid (Below w.heap.size w z16) := HB.out.grown hgr HB.out.size (fun k hk => by have := hbk k hk; omega)
    have hsz16 := hgr.size
    clear hgr hbk OG
    have eA0 := A0.c
    have eA1 := A1.c
    have eBW := BW.c
    have eBX := BX.c
    have eBY := BY.c
    have eBG := BG.c
    go_wp2_with fail
    refine (heldLimbs_any qG kG R0.length 1 z16 (by omega) (by omega) OM.rowAt).mono ?_
    rintro e z17 ⟨rfl, hb⟩
    clear eA0 eA1 eBW eBX eBY eBG
    replace A0 := A0.next hb
    replace A1 := A1.next hb
    replace I0 := I0.next hb
    replace I1 := I1.next hb
    replace OW := OW.next hb
    replace BW := BW.next hb
    replace BX := BX.next hb
    replace BY := BY.next hb
    replace BG := BG.next hb
    replace OM := OM.next hb
    replace HB : Hid (Below w.heap.size w z17) := HB.out.trans (hb.mono HB.out.size)
    have hsz17 := hb.size
    clear hb
    have hk2 : ¬ (1 : Int) + (R0.length : Int) < 0 := by omega
    have eA0 := A0.c
    have eA1 := A1.c
    have eBW := BW.c
    have eBX := BX.c
    have eBY := BY.c
    have eBG := BG.c
    go_wp2_with fail
    clear eA0 eA1 eBW eBX eBY eBG
    have A0r := A0
    have A1r := A1
    have I0r := I0
    have I1r := I1
    refine wp_region_list (I := fun w' => Below z17.heap.size z17 w') (R := Rst z17.heap.size 6)
      (fs := #[⟨[75], fun vs _ => vs = [.agg #[.slice a0 n0.length c0]]⟩, ⟨[76], fun vs w' => ∃ v, vs = [.agg #[v]] ∧ OwnInt z17.heap.size w' v n0⟩, ⟨[77], fun vs _ => vs = [.agg #[.slice a1 n1.length c1]]⟩, ⟨[78], fun vs w' => ∃ v, vs = [.agg #[v]] ∧ OwnInt z17.heap.size w' v n1⟩, ⟨[79], fun vs w' => ∃ v, vs = [.agg #[v]] ∧ OwnInt z17.heap.size w' v R0⟩, ⟨[13], fun vs w' => ∃ g, vs = [.pointer (some ⟨g, 0, none⟩)] ∧ z17.heap.size ≤ g ∧ ∃ u, w'.heap[g]? = some (.cells #[u] 24 (0, 0))⟩, ⟨[13, 79], fun vs w' => ∃ g v, vs = [.pointer (some ⟨g, 0, none⟩), .agg #[v]] ∧ z17.heap.size ≤ g ∧ w'.heap[g]? = some (.cells #[v] 24 (0, 0)) ∧ OwnInt z17.heap.size w' v R0⟩])
      (by kernel_rfl) 92 rfl (by kernel_rfl) ?stab ?istab ?start ?exec ?fin
    case stab =>
      intro k i f hki hf
      have hk : k < 7 := (Array.getElem?_eq_some_iff.1 hf).1
      rcases (show k = 0 ∨ k = 1 ∨ k = 2 ∨ k = 3 ∨ k = 4 ∨ k = 5 ∨ k = 6 by omega) with rfl | rfl | rfl | rfl | rfl | rfl | rfl
      all_goals
        simp only [List.getElem?_toArray, List.getElem?_cons_succ, List.getElem?_cons_zero, Option.some.injEq] at hf
        subst hf
      · exact fun vs _ _ _ h => h
      · exact fun vs w' w'' hR ⟨v, h1, h2⟩ => ⟨v, h1, hR.own h2⟩
      · exact fun vs _ _ _ h => h
      · exact fun vs w' w'' hR ⟨v, h1, h2⟩ => ⟨v, h1, hR.own h2⟩
      · exact fun vs w' w'' hR ⟨v, h1, h2⟩ => ⟨v, h1, hR.own h2⟩
      · exact fun vs w' w'' hR ⟨g, h1, h2, h3⟩ => ⟨g, h1, h2, hR.box h3⟩
      · exact fun vs w' w'' hR ⟨g, v, h1, h2, h3, h4⟩ => ⟨g, v, h1, h2, Rst.keep (Ne.symm hki) hR h3, hR.own h4⟩
    case istab => exact fun i w' w'' hR h => Rst.inv (Nat.le_refl _) hR h
    case start => exact (Below.refl _ _).drew
    case exec =>
      intro i o f hi hf a wq hsz hI hold hpre
      have hi11 : i < 7 := (Array.getElem?_eq_some_iff.1 hi).1
      rcases (show i = 0 ∨ i = 1 ∨ i = 2 ∨ i = 3 ∨ i = 4 ∨ i = 5 ∨ i = 6 by omega) with rfl | rfl | rfl | rfl | rfl | rfl | rfl
      all_goals
        simp only [List.getElem?_toArray, List.getElem?_cons_succ, List.getElem?_cons_zero, Option.some.injEq] at hi hf
        subst hi hf
      · have o2 : a.tmps.getD 2 undef = .pointer (some ⟨w.heap.size, 0, none⟩) := hold 2 (free_spec (by kernel_rfl))
        have hc : wq.cell? ⟨w.heap.size, 0, none⟩ = some (.slice a0 n0.length c0) := (hI.cell (p := ⟨w.heap.size, 0, none⟩) A0r.lt).trans A0r.c
        refine exec_same (v := .agg #[.slice a0 n0.length c0]) ?_ ⟨_, rfl, Rst.refl (by decide), at_one (by omega) rfl⟩
        simp [go_sem, Act.eval, o2, hc]
      · have p0 := of_one (hpre ⟨0, .data⟩ (by simp) rfl _ rfl)
        have h75 : a.tmps.getD 75 undef = .agg #[.slice a0 n0.length c0] := by simpa using p0
        refine exec_call (f := 16) (args := #[.agg #[.slice a0 n0.length c0]]) (by simp [go_sem, Act.eval, h75]) ?_
        refine (toLimbs_any a0 c0 n0 wq hz0 (I0r.next hI).all).mono ?_
        rintro e w2 ⟨v, rfl, ho, hb⟩
        exact ⟨_, rfl, _, rfl, Rst.of (by decide) hb, at_one (by omega) ⟨v, rfl, OwnInt.base ho hI.size⟩⟩
      · have o3 : a.tmps.getD 3 undef = .pointer (some ⟨w.heap.size + 1, 0, none⟩) := hold 3 (free_spec (by kernel_rfl))
        have hc : wq.cell? ⟨w.heap.size + 1, 0, none⟩ = some (.slice a1 n1.length c1) := (hI.cell (p := ⟨w.heap.size + 1, 0, none⟩) A1r.lt).trans A1r.c
        refine exec_same (v := .agg #[.slice a1 n1.length c1]) ?_ ⟨_, rfl, Rst.refl (by decide), at_one (by omega) rfl⟩
        simp [go_sem, Act.eval, o3, hc]
      · have p2 := of_one (hpre ⟨2, .data⟩ (by simp) rfl _ rfl)
        have h77 : a.tmps.getD 77 undef = .agg #[.slice a1 n1.length c1] := by simpa using p2
        refine exec_call (f := 16) (args := #[.agg #[.slice a1 n1.length c1]]) (by simp [go_sem, Act.eval, h77]) ?_
        refine (toLimbs_any a1 c1 n1 wq hz1 (I1r.next hI).all).mono ?_
        rintro e w2 ⟨v, rfl, ho, hb⟩
        exact ⟨_, rfl, _, rfl, Rst.of (by decide) hb, at_one (by omega) ⟨v, rfl, OwnInt.base ho hI.size⟩⟩
      · obtain ⟨v1, q1, ho1⟩ := of_one (hpre ⟨1, .data⟩ (by simp) rfl _ rfl)
        have h76 : a.tmps.getD 76 undef = .agg #[v1] := by simpa using q1
        obtain ⟨v2, q2, ho2⟩ := of_one (hpre ⟨3, .data⟩ (by simp) rfl _ rfl)
        have h78 : a.tmps.getD 78 undef = .agg #[v2] := by simpa using q2
        obtain ⟨x1, y1, rfl, hA1, hr1⟩ := ho1.row
        obtain ⟨x2, y2, rfl, hA2, hr2⟩ := ho2.row
        refine exec_call (f := 21) (args := #[.agg #[.slice x1 n0.length y1], .agg #[.slice x2 n1.length y2]]) (by simp [go_sem, Act.eval, h76, h78]) ?_
        refine (HI.out x1 x2 y1 y2 wq hA1 hA2 hr1 hr2).mono ?_
        rintro e w2 ⟨v', rfl, ho', hb⟩
        exact ⟨_, rfl, _, rfl, Rst.of (by decide) hb, at_one (by omega) ⟨v', rfl, OwnInt.base ho' hI.size⟩⟩
      · refine exec_made (v := .pointer (some ⟨wq.heap.size, 0, none⟩)) (w' := wq.alloc (.cells #[.slice none 0 0] 24)) ?_ ⟨_, rfl, Rst.of (by decide) ((Below.refl wq.heap.size wq).alloc (Nat.le_refl _) _), at_one (by omega) ⟨wq.heap.size, rfl, hI.size, _, heap_alloc_new _ _⟩⟩
        simp [go_sem]
      · obtain ⟨g, qa, hg, u, hu⟩ := of_one (hpre ⟨5, .data⟩ (by simp) rfl _ rfl)
        have ha' : a.tmps.getD 13 undef = .pointer (some ⟨g, 0, none⟩) := by simpa using qa
        obtain ⟨v4, q4, ho4⟩ := of_one (hpre ⟨4, .data⟩ (by simp) rfl _ rfl)
        have h79 : a.tmps.getD 79 undef = .agg #[v4] := by simpa using q4
        have hcg : wq.cell? ⟨g, 0, none⟩ = some u := by rw [cell_of_row wq g 0 _ _ _ hu]; rfl
        have hfg : wq.frozen? ⟨g, 0, none⟩ = false := frozen_of_row wq g 0 _ _ hu
        obtain ⟨av9, capv9, rfl, _, _⟩ := ho4.row
        have hR2 : Rst z17.heap.size 6 6 wq (wq.setCell ⟨g, 0, none⟩ (.slice av9 R0.length capv9)) := by unfold Rst; rw [if_pos rfl]; exact ⟨g, u, _, rfl, hg, hu⟩
        refine exec_skip (w' := wq.setCell ⟨g, 0, none⟩ (.slice av9 R0.length capv9)) ?_ ⟨_, rfl, hR2, ?_⟩
        · simp [go_sem, Act.eval, ha', h79, hcg, hfg]
        · exact ⟨g, _, by show [a.tmps.getD 13 undef, a.tmps.getD 79 undef] = _; rw [ha', h79], hg, (heap_setCell_same wq g 0 _ _ _ hu).trans rfl, hR2.own ho4⟩
    case fin =>
      intro zs z18 hzl hI hF
      obtain ⟨y0, y1, y2, y3, y4, y5, y6, rfl⟩ := list7s zs hzl
      obtain ⟨gBH, v, hst, hgA_, hbox, hown⟩ := of_two (hF 6 _ rfl)
      simp only [List.cons.injEq, and_true] at hst
      have hs1 := last_is (i := 5) (v := y5) (n := 92) hst.1 (by kernel_rfl) rfl rfl (by omega)
      have hs2 := last_is (i := 4) (v := y4) (n := 92) hst.2 (by kernel_rfl) rfl rfl (by omega)
      clear hst
      subst hs1 hs2
      clear hF
      simp only [putAll, Act.put, List.setIfInBounds_toArray, List.set_cons_succ, List.set_cons_zero]
      obtain ⟨qH, kH, rfl, -, -⟩ := hown.row
      have OH := OwnZ.made hown
      have BH : VarZ gBH (.slice qH R0.length kH) z18 := ⟨(Array.getElem?_eq_some_iff.1 hbox).1, (cell_of_row z18 gBH 0 _ _ _ hbox).trans rfl⟩
      have hb := hI
      replace A0 := A0.next hb
      replace A1 := A1.next hb
      replace I0 := I0.next hb
      replace I1 := I1.next hb
      replace OW := OW.next hb
      replace BW := BW.next hb
      replace BX := BX.next hb
      replace BY := BY.next hb
      replace BG := BG.next hb
      replace OM := OM.next hb
      replace HB : Hid (Below w.heap.size w z18) := HB.out.trans (hb.mono HB.out.size)
      have hsz18 := hb.size
      clear hb hI hbox hown A0r A1r I0r I1r
      have eA0 := A0.c
      have eA1 := A1.c
      have eBW := BW.c
      have eBX := BX.c
      have eBY := BY.c
      have eBG := BG.c
      have eBH := BH.c
      go_wp2_with fail
      refine (eqLimbs_same _ _ _ _ R0 z18 HL.out OH.rowAt OW.rowAt).mono ?_
      rintro e z19 ⟨rfl, hb⟩
      clear eA0 eA1 eBW eBX eBY eBG eBH
      replace A0 := A0.next hb
      replace A1 := A1.next hb
      replace I0 := I0.next hb
      replace I1 := I1.next hb
      replace OW := OW.next hb
      replace BW := BW.next hb
      replace BX := BX.next hb
      replace BY := BY.next hb
      replace BG := BG.next hb
      replace OM := OM.next hb
      replace OH := OH.next hb
      replace BH := BH.next hb
      replace HB : Hid (Below w.heap.size w z19) := HB.out.trans (hb.mono HB.out.size)
      have hsz19 := hb.size
      clear hb
      have eA0 := A0.c
      have eA1 := A1.c
      have eBW := BW.c
      have eBX := BX.c
      have eBY := BY.c
      have eBG := BG.c
      have eBH := BH.c
      go_wp2_with fail
      refine (heldLimbs_any qG kG R0.length 1 z19 (by omega) (by omega) OM.rowAt).mono ?_
      rintro e z20 ⟨rfl, hb⟩
      clear eA0 eA1 eBW eBX eBY eBG eBH
      replace A0 := A0.next hb
      replace A1 := A1.next hb
      replace I0 := I0.next hb
      replace I1 := I1.next hb
      replace OW := OW.next hb
      replace BW := BW.next hb
      replace BX := BX.next hb
      replace BY := BY.next hb
      replace BG := BG.next hb
      replace OM := OM.next hb
      replace OH := OH.next hb
      replace BH := BH.next hb
      replace HB : Hid (Below w.heap.size w z20) := HB.out.trans (hb.mono HB.out.size)
      have hsz20 := hb.size
      clear hb
      go_wp2
      go_ret
      exact ⟨rfl, HB.out⟩

theorem laidOut : laidOutB Try.prog = true := by kernel_rfl
set_option maxRecDepth 100000 in
theorem lifted (os : Os) (started : os.Started) (H : Type) (enc : TypeId × Value → H) :
    ReturnsInHanded {} Try.checked os 6 .any (Rows.fnExactMulLimbsSpec.pre6 enc Try.prog Try.f6 Rows.fnExactMulLimbsRow.domain false) (Rows.fnExactMulLimbsSpec.post enc Try.prog Try.f6 false true false false) := by
  refine returnsInHanded_of_change (C := Try.checked) own started (by kernel_rfl) Try.func6
    (ChangeSpec.witness6 (enc := enc) (C := Try.checked) false ⟨#[], #[.agg #[.slice none 0 0], .agg #[.slice none 0 0]], []⟩ 8 (by kernel_rfl) (by kernel_rfl) (by kernel_rfl) (by kernel_rfl)) ?_
  intro W base args ds gs before hval0 hW hcnd _
  have hval : ∀ (j : Nat) t v, Try.f6.params[j]? = some t → args[j]? = some v → Value.okWide Try.prog W .any base t v := hval0
  have hW' := hW
  obtain ⟨p, q, hA0, hV, rfl, hfz, hnd⟩ := hW
  have hA : DataW.TrodAll enc Try.prog W 0 (fun _ => true) true Try.f6.params.toList args.toList ds p := hA0
  rw [Try.params6] at hA hval
  obtain ⟨v0, vs0, d0, ds0, p0, q0, hargs, rfl, rfl, h0, r0⟩ := trodAll_cons hA
  obtain ⟨v1, vs1, d1, ds1, p1, q1, rfl, rfl, rfl, h1, r1⟩ := trodAll_cons r0
  obtain ⟨rfl, rfl, rfl⟩ := trodAll_nil r1
  obtain rfl : args = #[v0, v1] := by cases args; simp_all
  obtain ⟨rfl, rfl⟩ := trodVars_none hV
  have k0 := h0
  have lt0 : ∀ x ∈ p0, x.block < W.heap.size := by obtain ⟨m, hm⟩ := k0; exact DataW.trod_lt m _ _ _ hm
  obtain ⟨a0, c0, n0, rfl, w0, rn0, f0⟩ := box_of (hval 0 30 v0 rfl rfl) h0
  have k1 := h1
  have lt1 : ∀ x ∈ p1, x.block < W.heap.size := by obtain ⟨m, hm⟩ := k1; exact DataW.trod_lt m _ _ _ hm
  obtain ⟨a1, c1, n1, rfl, w1, rn1, f1⟩ := box_of (hval 1 30 v1 rfl rfl) h1
  clear hA0 hval0
  refine (walk a0 c0 n0 a1 c1 n1 w0 f0 w1 f1 W rn0 rn1).mono fun e W' ⟨he, bel⟩ => ?_
  subst he
  exact ⟨_, rfl, _, _, _, [], _, [], hW', trodAll_mk1 (shut_bool Try.underlying4 _), (trodAll_cons_mk (Below.trod laidOut (by kernel_rfl) (of_decide_eq_true (by kernel_rfl)) k0 bel lt0) (trodAll_cons_mk (Below.trod laidOut (by kernel_rfl) (of_decide_eq_true (by kernel_rfl)) k1 bel lt1) trodAll_mk0)), rfl, bel.frame _, fun h => by cases h⟩

theorem over : Rows.fnExactMulLimbsRow.holds Try.pinned (OpenSpec.ofChange Rows.fnExactMulLimbsSpec) :=
  OpenClaim.holds_of_wide 6 Try.f6 rfl rfl rfl rfl rfl rfl rfl ⟨rfl, rfl, rfl, rfl, rfl⟩ rfl rfl rfl rfl rfl (by kernel_rfl) Try.func6 (by kernel_rfl)
    (of_decide_eq_true (by kernel_rfl)) (by unfold Func.isWrapper; first | (rw [if_pos (by decide +kernel)]; kernel_rfl) | (rw [if_neg (by decide +kernel)]; exact ⟨rfl, rfl⟩))
    (fun os started H enc _ => lifted os started H enc)
end fnExactMulLimbs

theorem fnExactMulLimbs_holds : Rows.FnExactMulLimbsSaid := fnExactMulLimbs.over
#print axioms fnExactMulLimbs_holds
end Go.Proofs.Ytecjpagnifkcaaa
