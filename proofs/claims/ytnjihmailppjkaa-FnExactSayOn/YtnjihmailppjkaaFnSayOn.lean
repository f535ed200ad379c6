/- For every arena, channel and body: SayOn of the program answers as the specification's SayOn does, writes into no argument, keeps nothing of one, owns its answer's memory, behind another call too; and the arguments read as before. No condition. -/
import Derived.Test.YtnjihmailppjkaaRows
import Derived.Test.YtnjihmailppjkaaLawClip
import Derived.Test.YtnjihmailppjkaaLawKeep
import Derived.Test.YtnjihmailppjkaaLawArena3
import Derived.Test.YtnjihmailppjkaaRegS13
import Derived.Test.YtnjihmailppjkaaImplSay13
import Derived.WalkKit
import Derived.ProofKit
import Derived.OpenShut
import Derived.ShutString
import Derived.ChangeOld
import Derived.PlainAid
import Derived.Deep.RegionHeld3
namespace Go.Proofs.Ytnjihmailppjkaa
namespace fnExactSayOn
open Go.ChangeShapes Go.WideShapes Go.ChangeAt Go.RowKit Go.PlainAid
open Go.ChangeMaps (open_string shut_string)
set_option linter.unusedVariables false

theorem own : ownKnob Try.prog.godebug = none := by kernel_rfl

theorem sayA_le {ns : List Nd} {x : Ch} {b : Int} (h : ns.length ≤ 1048576) : (sayA ns x b).length ≤ 1048576 := by
  unfold sayA syA; split
  · exact recA_le (seA_le h)
  · exact h
set_option maxHeartbeats 12800000 in
set_option maxRecDepth 20000 in
theorem walk (a0 : Option Addr) (cp : Nat) (ns : List Nd) (x : Ch) (bd : Int) (w0 : ns.length ≤ maxLen) (f0 : ∀ y ∈ ns, y.Fits) (wx : x.Fits) (wb : (Lit.int .i64 bd).wf = true) (w : World) (hr : RowN w.heap.size w a0 ns) :
    Calls Try.prog 5 #[.agg #[.slice a0 ns.length cp], .agg #[.int .i64 x.a, .int .i64 x.s, .int .i64 x.e, .int .i64 x.q, .int .i64 x.h, .int .i64 x.t, .int .i64 x.u, .int .i64 x.l, .int .i64 x.m], .int .i64 bd] w fun e w' => e = .returned (.bool true) ∧ Below w.heap.size w w' := by
  have hB0 : Below w.heap.size w ((w.alloc (.cells #[.slice a0 ns.length cp] 31)).alloc (.cells #[.int .i64 x.a, .int .i64 x.s, .int .i64 x.e, .int .i64 x.q, .int .i64 x.h, .int .i64 x.t, .int .i64 x.u, .int .i64 x.l, .int .i64 x.m] 34)) := ((Below.refl _ _).alloc (Nat.le_refl _) _).alloc (by simp) _
  by_cases hl : ns.length ≤ 1048576
  rotate_left
  · have hl' : (1048576 : Int) - (ns.length : Int) < 0 := by omega
    have H : Hid _ := szArena_big a0 ns.length cp ((w.alloc (.cells #[.slice a0 ns.length cp] 31)).alloc (.cells #[.int .i64 x.a, .int .i64 x.s, .int .i64 x.e, .int .i64 x.q, .int .i64 x.h, .int .i64 x.t, .int .i64 x.u, .int .i64 x.l, .int .i64 x.m] 34)) (by omega) w0
    have HA : Hid _ := hB0
    clear w0 hB0 hr wx wb f0
    go_enter Try.func5, Try.ntmps5
    go_wp2_with fail
    refine Calls.mono H.out ?_
    rintro e w1 ⟨rfl, hb1⟩
    go_wp2
    go_ret
    exact ⟨rfl, HA.out.trans (hb1.mono HA.out.size)⟩
  have hl' : ¬ (1048576 : Int) - (ns.length : Int) < 0 := by omega
  obtain ⟨HM, C, HK, HS, HI, HPL⟩ : ∃ (HM : List Nd) (C : Ch) (HK : Int), Hid (∀ (a : Option Addr) (cap : Nat) (w : World), AddrN a cap → RowN w.heap.size w a ns → Calls Try.prog 17 #[.agg #[.slice a ns.length cap], .agg #[.int .i64 x.a, .int .i64 x.s, .int .i64 x.e, .int .i64 x.q, .int .i64 x.h, .int .i64 x.t, .int .i64 x.u, .int .i64 x.l, .int .i64 x.m], .int .i64 bd] w fun e w' => ∃ v, e = .returned (.tuple #[.agg #[v], .agg #[.int .i64 C.a, .int .i64 C.s, .int .i64 C.e, .int .i64 C.q, .int .i64 C.h, .int .i64 C.t, .int .i64 C.u, .int .i64 C.l, .int .i64 C.m], .int .i64 HK]) ∧ OwnN w.heap.size w' v HM ∧ Below w.heap.size w w') ∧ Hid (∀ (a : Option Addr) (cap : Nat) (w : World), AddrN a cap → RowN w.heap.size w a ns → Calls Try.prog 18 #[.agg #[.slice a ns.length cap], .agg #[.int .i64 x.a, .int .i64 x.s, .int .i64 x.e, .int .i64 x.q, .int .i64 x.h, .int .i64 x.t, .int .i64 x.u, .int .i64 x.l, .int .i64 x.m], .int .i64 bd] w fun e w' => ∃ v, e = .returned (.tuple #[.agg #[v], .agg #[.int .i64 C.a, .int .i64 C.s, .int .i64 C.e, .int .i64 C.q, .int .i64 C.h, .int .i64 C.t, .int .i64 C.u, .int .i64 C.l, .int .i64 C.m], .int .i64 HK]) ∧ OwnC w.heap.size w' v HM ∧ Below w.heap.size w w') ∧ Hid (HM.length ≤ 1048576) :=
    ⟨sayA ns x bd, sayC ns x bd, sayK ns x bd, fun a cap w ha hr => specSayOn_any a cap ns x bd w hl ha hr, fun a cap w ha hr => implSayOn_any a cap ns x bd w hl f0 wx wb ha hr, sayA_le hl⟩
  have hKK : (HK != HK) = false := by simp
  clear w0 f0 wx wb
  have A0 : Var w.heap.size (.slice a0 ns.length cp) ((w.alloc (.cells #[.slice a0 ns.length cp] 31)).alloc (.cells #[.int .i64 x.a, .int .i64 x.s, .int .i64 x.e, .int .i64 x.q, .int .i64 x.h, .int .i64 x.t, .int .i64 x.u, .int .i64 x.l, .int .i64 x.m] 34)) := Var.made.next ((Below.refl _ _).alloc (Nat.le_refl _) _)
  have N0 : ChIn (w.heap.size + 1) x ((w.alloc (.cells #[.slice a0 ns.length cp] 31)).alloc (.cells #[.int .i64 x.a, .int .i64 x.s, .int .i64 x.e, .int .i64 x.q, .int .i64 x.h, .int .i64 x.t, .int .i64 x.u, .int .i64 x.l, .int .i64 x.m] 34)) := by
    have := ChIn.made (w := w.alloc (.cells #[.slice a0 ns.length cp] 31)) (x := x) (t := 34)
    simpa using this
  have I0 : In w.heap.size a0 ns ((w.alloc (.cells #[.slice a0 ns.length cp] 31)).alloc (.cells #[.int .i64 x.a, .int .i64 x.s, .int .i64 x.e, .int .i64 x.q, .int .i64 x.h, .int .i64 x.t, .int .i64 x.u, .int .i64 x.l, .int .i64 x.m] 34)) := ⟨by simp; omega, hr.later hB0⟩
  have HB0 : Hid _ := hB0
  clear hB0 hr
  go_enter Try.func5, Try.ntmps5
  go_wp2_with fail
  generalize (w.alloc (.cells #[.slice a0 ns.length cp] 31)).alloc (.cells #[.int .i64 x.a, .int .i64 x.s, .int .i64 x.e, .int .i64 x.q, .int .i64 x.h, .int .i64 x.t, .int .i64 x.u, .int .i64 x.l, .int .i64 x.m] 34) = wA at A0 N0 I0 HB0 ⊢
  refine (szArena_any a0 ns.length cp _ hl).mono ?_
  rintro e w1 ⟨rfl, hb⟩
  have AVr := A0.next hb
  have ANr := N0.next hb
  have AIr := I0.next hb
  have HB1 : Hid (Below w.heap.size w w1) := HB0.out.trans (hb.mono HB0.out.size)
  clear A0 N0 I0 HB0 hb
  go_wp2_with fail
  refine wp_region_list (I := fun w' => Below w1.heap.size w1 w') (R := R2 w1.heap.size 12 13)
    (fs := #[⟨[27], fun vs _ => vs = [.agg #[.slice a0 ns.length cp]]⟩, ⟨[28], fun vs w' => ∃ v, vs = [.agg #[v]] ∧ OwnN w1.heap.size w' v ns⟩, ⟨[29], fun vs _ => vs = [.agg #[.int .i64 x.a, .int .i64 x.s, .int .i64 x.e, .int .i64 x.q, .int .i64 x.h, .int .i64 x.t, .int .i64 x.u, .int .i64 x.l, .int .i64 x.m]]⟩, ⟨[30], fun vs _ => vs = [.agg #[.int .i64 x.a, .int .i64 x.s, .int .i64 x.e, .int .i64 x.q, .int .i64 x.h, .int .i64 x.t, .int .i64 x.u, .int .i64 x.l, .int .i64 x.m]]⟩, ⟨[31], fun vs _ => vs = [.int .i64 bd]⟩, ⟨[32], fun vs w' => ∃ v, vs = [.tuple #[.agg #[v], .agg #[.int .i64 C.a, .int .i64 C.s, .int .i64 C.e, .int .i64 C.q, .int .i64 C.h, .int .i64 C.t, .int .i64 C.u, .int .i64 C.l, .int .i64 C.m], .int .i64 HK]] ∧ OwnN w1.heap.size w' v HM⟩, ⟨[26], fun vs w' => ∃ v, vs = [.tuple #[.agg #[v], .agg #[.int .i64 C.a, .int .i64 C.s, .int .i64 C.e, .int .i64 C.q, .int .i64 C.h, .int .i64 C.t, .int .i64 C.u, .int .i64 C.l, .int .i64 C.m], .int .i64 HK]] ∧ OwnN w1.heap.size w' v HM⟩, ⟨[33], fun vs w' => ∃ v, vs = [.agg #[v]] ∧ OwnN w1.heap.size w' v HM⟩, ⟨[34], fun vs _ => vs = [.agg #[.int .i64 C.a, .int .i64 C.s, .int .i64 C.e, .int .i64 C.q, .int .i64 C.h, .int .i64 C.t, .int .i64 C.u, .int .i64 C.l, .int .i64 C.m]]⟩, ⟨[35], fun vs _ => vs = [.int .i64 HK]⟩, ⟨[8], fun vs w' => ∃ g, vs = [.pointer (some ⟨g, 0, none⟩)] ∧ w1.heap.size ≤ g ∧ ∃ u, w'.heap[g]? = some (.cells #[u] 39 (0, 0))⟩, ⟨[9], fun vs w' => ∃ g, vs = [.pointer (some ⟨g, 0, none⟩)] ∧ w1.heap.size ≤ g ∧ ∃ cs : Array Value, cs.size = 9 ∧ w'.heap[g]? = some (.cells cs 25 (0, 0))⟩, ⟨[8, 33], fun vs w' => ∃ g v, vs = [.pointer (some ⟨g, 0, none⟩), .agg #[v]] ∧ w1.heap.size ≤ g ∧ w'.heap[g]? = some (.cells #[v] 39 (0, 0)) ∧ OwnN w1.heap.size w' v HM⟩, ⟨[9], fun vs w' => ∃ g, vs = [.pointer (some ⟨g, 0, none⟩)] ∧ w1.heap.size ≤ g ∧ w'.heap[g]? = some (.cells #[.int .i64 C.a, .int .i64 C.s, .int .i64 C.e, .int .i64 C.q, .int .i64 C.h, .int .i64 C.t, .int .i64 C.u, .int .i64 C.l, .int .i64 C.m] 25 (0, 0))⟩, ⟨[10], fun vs _ => vs = [.int .i64 HK]⟩])
    (by kernel_rfl) 133 rfl (by kernel_rfl) ?stab ?istab ?start ?exec ?fin
  case stab =>
    intro k i f hki hf
    have hk : k < 15 := (Array.getElem?_eq_some_iff.1 hf).1
    rcases (show k = 0 ∨ k = 1 ∨ k = 2 ∨ k = 3 ∨ k = 4 ∨ k = 5 ∨ k = 6 ∨ k = 7 ∨ k = 8 ∨ k = 9 ∨ k = 10 ∨ k = 11 ∨ k = 12 ∨ k = 13 ∨ k = 14 by omega) with rfl | rfl | rfl | rfl | rfl | rfl | rfl | rfl | rfl | rfl | rfl | rfl | rfl | rfl | rfl
    all_goals
      simp only [List.getElem?_toArray, List.getElem?_cons_succ, List.getElem?_cons_zero, Option.some.injEq] at hf
      subst hf
    · exact fun vs _ _ _ h => h
    · exact fun vs w' w'' hR ⟨v, h1, h2⟩ => ⟨v, h1, hR.own h2⟩
    · exact fun vs _ _ _ h => h
    · exact fun vs _ _ _ h => h
    · exact fun vs _ _ _ h => h
    · exact fun vs w' w'' hR ⟨v, h1, h2⟩ => ⟨v, h1, hR.own h2⟩
    · exact fun vs w' w'' hR ⟨v, h1, h2⟩ => ⟨v, h1, hR.own h2⟩
    · exact fun vs w' w'' hR ⟨v, h1, h2⟩ => ⟨v, h1, hR.own h2⟩
    · exact fun vs _ _ _ h => h
    · exact fun vs _ _ _ h => h
    · exact fun vs w' w'' hR ⟨g, h1, h2, h3⟩ => ⟨g, h1, h2, hR.boxA h3⟩
    · exact fun vs w' w'' hR ⟨g, h1, h2, h3⟩ => ⟨g, h1, h2, hR.boxC h3⟩
    · exact fun vs w' w'' hR ⟨g, v, h1, h2, h3, h4⟩ => ⟨g, v, h1, h2, R2.keepA (Ne.symm hki) hR h3, hR.own h4⟩
    · exact fun vs w' w'' hR ⟨g, h1, h2, h3⟩ => ⟨g, h1, h2, R2.keepC (Ne.symm hki) hR h3⟩
    · exact fun vs _ _ _ h => h
  case istab => exact fun i w' w'' hR h => R2.inv (Nat.le_refl _) hR h
  case start => exact (Below.refl _ _).drew
  case exec =>
    intro i o f hi hf a wq hsz hI hold hpre
    have hi11 : i < 15 := (Array.getElem?_eq_some_iff.1 hi).1
    rcases (show i = 0 ∨ i = 1 ∨ i = 2 ∨ i = 3 ∨ i = 4 ∨ i = 5 ∨ i = 6 ∨ i = 7 ∨ i = 8 ∨ i = 9 ∨ i = 10 ∨ i = 11 ∨ i = 12 ∨ i = 13 ∨ i = 14 by omega) with rfl | rfl | rfl | rfl | rfl | rfl | rfl | rfl | rfl | rfl | rfl | rfl | rfl | rfl | rfl
    all_goals
      simp only [List.getElem?_toArray, List.getElem?_cons_succ, List.getElem?_cons_zero, Option.some.injEq] at hi hf
      subst hi hf
    · have o3 : a.tmps.getD 3 undef = .pointer (some ⟨w.heap.size, 0, none⟩) := hold 3 (free_spec (by kernel_rfl))
      have hc : wq.cell? ⟨w.heap.size, 0, none⟩ = some (.slice a0 ns.length cp) := (hI.cell (p := ⟨w.heap.size, 0, none⟩) AVr.lt).trans AVr.c
      refine exec_same (v := .agg #[.slice a0 ns.length cp]) ?_ ⟨_, rfl, R2.refl ⟨by decide, by decide⟩, at_one (by omega) rfl⟩
      simp [go_sem, Act.eval, o3, hc]
    · have p0 := of_one (hpre ⟨0, .data⟩ (by simp) rfl _ rfl)
      have h27 : a.tmps.getD 27 undef = .agg #[.slice a0 ns.length cp] := by simpa using p0
      refine exec_call (f := 13) (args := #[.agg #[.slice a0 ns.length cp]]) (by simp [go_sem, Act.eval, h27]) ?_
      refine (toArena_any a0 cp ns wq hl (AIr.next hI).all).mono ?_
      rintro e w2 ⟨v, rfl, ho, hb⟩
      exact ⟨_, rfl, _, rfl, R2.of ⟨by decide, by decide⟩ hb, at_one (by omega) ⟨v, rfl, OwnN.base ho hI.size⟩⟩
    · have o4 : a.tmps.getD 4 undef = .pointer (some ⟨w.heap.size + 1, 0, none⟩) := hold 4 (free_spec (by kernel_rfl))
      have nn := ANr.next hI
      have n0 := nn.c0
      have n1 := nn.c1
      have n2 := nn.c2
      have n3 := nn.c3
      have n4 := nn.c4
      have n5 := nn.c5
      have n6 := nn.c6
      have n7 := nn.c7
      have n8 := nn.c8
      refine exec_same (v := .agg #[.int .i64 x.a, .int .i64 x.s, .int .i64 x.e, .int .i64 x.q, .int .i64 x.h, .int .i64 x.t, .int .i64 x.u, .int .i64 x.l, .int .i64 x.m]) ?_ ⟨_, rfl, R2.refl ⟨by decide, by decide⟩, at_one (by omega) rfl⟩
      simp [go_sem, Act.eval, o4, n0, n1, n2, n3, n4, n5, n6, n7, n8]
    · have p2 := of_one (hpre ⟨2, .data⟩ (by simp) rfl _ rfl)
      have h29 : a.tmps.getD 29 undef = .agg #[.int .i64 x.a, .int .i64 x.s, .int .i64 x.e, .int .i64 x.q, .int .i64 x.h, .int .i64 x.t, .int .i64 x.u, .int .i64 x.l, .int .i64 x.m] := by simpa using p2
      refine exec_call (f := 14) (args := #[.agg #[.int .i64 x.a, .int .i64 x.s, .int .i64 x.e, .int .i64 x.q, .int .i64 x.h, .int .i64 x.t, .int .i64 x.u, .int .i64 x.l, .int .i64 x.m]]) (by simp [go_sem, Act.eval, h29]) ?_
      refine (toChan_any x wq).mono ?_
      rintro e w2 ⟨rfl, hb⟩
      exact ⟨_, rfl, _, rfl, R2.of ⟨by decide, by decide⟩ hb, at_one (by omega) rfl⟩
    · have o2 : a.tmps.getD 2 undef = .int .i64 bd := hold 2 (free_spec (by kernel_rfl))
      refine exec_same (v := .int .i64 bd) ?_ ⟨_, rfl, R2.refl ⟨by decide, by decide⟩, at_one (by omega) rfl⟩
      simp [go_sem, Act.eval, o2]
    · obtain ⟨v, h28, ho⟩ := of_one (hpre ⟨1, .data⟩ (by simp) rfl _ rfl)
      have h28 : a.tmps.getD 28 undef = .agg #[v] := by simpa using h28
      obtain ⟨a2, cap2, rfl, hA2, hr2⟩ := ho.row
      have p3 := of_one (hpre ⟨3, .data⟩ (by simp) rfl _ rfl)
      have h30 : a.tmps.getD 30 undef = .agg #[.int .i64 x.a, .int .i64 x.s, .int .i64 x.e, .int .i64 x.q, .int .i64 x.h, .int .i64 x.t, .int .i64 x.u, .int .i64 x.l, .int .i64 x.m] := by simpa using p3
      have p4 := of_one (hpre ⟨4, .data⟩ (by simp) rfl _ rfl)
      have h31 : a.tmps.getD 31 undef = .int .i64 bd := by simpa using p4
      refine exec_call (f := 17) (args := #[.agg #[.slice a2 ns.length cap2], .agg #[.int .i64 x.a, .int .i64 x.s, .int .i64 x.e, .int .i64 x.q, .int .i64 x.h, .int .i64 x.t, .int .i64 x.u, .int .i64 x.l, .int .i64 x.m], .int .i64 bd]) (by simp [go_sem, Act.eval, h28, h30, h31]) ?_
      refine (HS.out a2 cap2 wq hA2 hr2).mono ?_
      rintro e w2 ⟨v', rfl, ho', hb⟩
      exact ⟨_, rfl, _, rfl, R2.of ⟨by decide, by decide⟩ hb, at_one (by omega) ⟨v', rfl, OwnN.base ho' hI.size⟩⟩
    · obtain ⟨v5, q5, ho5⟩ := of_one (hpre ⟨5, .data⟩ (by simp) rfl _ rfl)
      have h32 : a.tmps.getD 32 undef = .tuple #[.agg #[v5], .agg #[.int .i64 C.a, .int .i64 C.s, .int .i64 C.e, .int .i64 C.q, .int .i64 C.h, .int .i64 C.t, .int .i64 C.u, .int .i64 C.l, .int .i64 C.m], .int .i64 HK] := by simpa using q5
      refine exec_same (v := .tuple #[.agg #[v5], .agg #[.int .i64 C.a, .int .i64 C.s, .int .i64 C.e, .int .i64 C.q, .int .i64 C.h, .int .i64 C.t, .int .i64 C.u, .int .i64 C.l, .int .i64 C.m], .int .i64 HK]) ?_ ⟨_, rfl, R2.refl ⟨by decide, by decide⟩, at_one (by omega) ⟨_, rfl, ho5⟩⟩
      simp [go_sem, Act.eval, h32]
    · obtain ⟨v6, q6, ho6⟩ := of_one (hpre ⟨6, .data⟩ (by simp) rfl _ rfl)
      have h26 : a.tmps.getD 26 undef = .tuple #[.agg #[v6], .agg #[.int .i64 C.a, .int .i64 C.s, .int .i64 C.e, .int .i64 C.q, .int .i64 C.h, .int .i64 C.t, .int .i64 C.u, .int .i64 C.l, .int .i64 C.m], .int .i64 HK] := by simpa using q6
      refine exec_same (v := .agg #[v6]) ?_ ⟨_, rfl, R2.refl ⟨by decide, by decide⟩, at_one (by omega) ⟨_, rfl, ho6⟩⟩
      simp [go_sem, Act.eval, h26]
    · obtain ⟨v6, q6, ho6⟩ := of_one (hpre ⟨6, .data⟩ (by simp) rfl _ rfl)
      have h26 : a.tmps.getD 26 undef = .tuple #[.agg #[v6], .agg #[.int .i64 C.a, .int .i64 C.s, .int .i64 C.e, .int .i64 C.q, .int .i64 C.h, .int .i64 C.t, .int .i64 C.u, .int .i64 C.l, .int .i64 C.m], .int .i64 HK] := by simpa using q6
      refine exec_same (v := .agg #[.int .i64 C.a, .int .i64 C.s, .int .i64 C.e, .int .i64 C.q, .int .i64 C.h, .int .i64 C.t, .int .i64 C.u, .int .i64 C.l, .int .i64 C.m]) ?_ ⟨_, rfl, R2.refl ⟨by decide, by decide⟩, at_one (by omega) rfl⟩
      simp [go_sem, Act.eval, h26]
    · obtain ⟨v6, q6, ho6⟩ := of_one (hpre ⟨6, .data⟩ (by simp) rfl _ rfl)
      have h26 : a.tmps.getD 26 undef = .tuple #[.agg #[v6], .agg #[.int .i64 C.a, .int .i64 C.s, .int .i64 C.e, .int .i64 C.q, .int .i64 C.h, .int .i64 C.t, .int .i64 C.u, .int .i64 C.l, .int .i64 C.m], .int .i64 HK] := by simpa using q6
      refine exec_same (v := .int .i64 HK) ?_ ⟨_, rfl, R2.refl ⟨by decide, by decide⟩, at_one (by omega) rfl⟩
      simp [go_sem, Act.eval, h26]
    · refine exec_made (v := .pointer (some ⟨wq.heap.size, 0, none⟩)) (w' := wq.alloc (.cells #[.slice none 0 0] 39)) ?_ ⟨_, rfl, R2.of ⟨by decide, by decide⟩ ((Below.refl wq.heap.size wq).alloc (Nat.le_refl _) _), at_one (by omega) ⟨wq.heap.size, rfl, hI.size, _, heap_alloc_new _ _⟩⟩
      simp [go_sem]
    · refine exec_made (v := .pointer (some ⟨wq.heap.size, 0, none⟩)) (w' := wq.alloc (.cells #[.int .i64 0, .int .i64 0, .int .i64 0, .int .i64 0, .int .i64 0, .int .i64 0, .int .i64 0, .int .i64 0, .int .i64 0] 25)) ?_ ⟨_, rfl, R2.of ⟨by decide, by decide⟩ ((Below.refl wq.heap.size wq).alloc (Nat.le_refl _) _), at_one (by omega) ⟨wq.heap.size, rfl, hI.size, _, rfl, heap_alloc_new _ _⟩⟩
      simp [go_sem]
    · obtain ⟨g, qa, hg, u, hu⟩ := of_one (hpre ⟨10, .data⟩ (by simp) rfl _ rfl)
      have ha' : a.tmps.getD 8 undef = .pointer (some ⟨g, 0, none⟩) := by simpa using qa
      obtain ⟨v7, q7, ho7⟩ := of_one (hpre ⟨7, .data⟩ (by simp) rfl _ rfl)
      have h33 : a.tmps.getD 33 undef = .agg #[v7] := by simpa using q7
      have hcg : wq.cell? ⟨g, 0, none⟩ = some u := by rw [cell_of_row wq g 0 _ _ _ hu]; rfl
      have hfg : wq.frozen? ⟨g, 0, none⟩ = false := frozen_of_row wq g 0 _ _ hu
      obtain ⟨av9, capv9, rfl, _, _⟩ := ho7.row
      have hR2 : R2 w1.heap.size 12 13 12 wq (wq.setCell ⟨g, 0, none⟩ (.slice av9 HM.length capv9)) := by unfold R2; rw [if_pos rfl]; exact ⟨g, u, _, rfl, hg, hu⟩
      refine exec_skip (w' := wq.setCell ⟨g, 0, none⟩ (.slice av9 HM.length capv9)) ?_ ⟨_, rfl, hR2, ?_⟩
      · simp [go_sem, Act.eval, ha', h33, hcg, hfg]
      · exact ⟨g, _, by show [a.tmps.getD 8 undef, a.tmps.getD 33 undef] = _; rw [ha', h33], hg, (heap_setCell_same wq g 0 _ _ _ hu).trans rfl, hR2.own ho7⟩
    · obtain ⟨g, qa, hg, old, h9, hu⟩ := of_one (hpre ⟨11, .data⟩ (by simp) rfl _ rfl)
      have ha' : a.tmps.getD 9 undef = .pointer (some ⟨g, 0, none⟩) := by simpa using qa
      have p8 := of_one (hpre ⟨8, .data⟩ (by simp) rfl _ rfl)
      have h34 : a.tmps.getD 34 undef = .agg #[.int .i64 C.a, .int .i64 C.s, .int .i64 C.e, .int .i64 C.q, .int .i64 C.h, .int .i64 C.t, .int .i64 C.u, .int .i64 C.l, .int .i64 C.m] := by simpa using p8
      have hR2 : R2 w1.heap.size 12 13 13 wq (wq.setRow g #[.int .i64 C.a, .int .i64 C.s, .int .i64 C.e, .int .i64 C.q, .int .i64 C.h, .int .i64 C.t, .int .i64 C.u, .int .i64 C.l, .int .i64 C.m]) := by unfold R2; rw [if_neg (by decide), if_pos rfl]; exact ⟨g, old, _, rfl, hg, rfl, hu⟩
      refine exec_skip (w' := wq.setRow g #[.int .i64 C.a, .int .i64 C.s, .int .i64 C.e, .int .i64 C.q, .int .i64 C.h, .int .i64 C.t, .int .i64 C.u, .int .i64 C.l, .int .i64 C.m]) (exec_storeRow 25 (.tmp 9) (.tmp 34) rfl g #[.int .i64 C.a, .int .i64 C.s, .int .i64 C.e, .int .i64 C.q, .int .i64 C.h, .int .i64 C.t, .int .i64 C.u, .int .i64 C.l, .int .i64 C.m] ha' h34 25 old hu chanSize h9 (by simp [Value.oneCell'])) ⟨_, rfl, hR2, ?_⟩
      exact ⟨g, by show [a.tmps.getD 9 undef] = _; rw [ha'], hg, setRow_heap _ _ _ _ _ _ hu⟩
    · have p9 := of_one (hpre ⟨9, .data⟩ (by simp) rfl _ rfl)
      have h35 : a.tmps.getD 35 undef = .int .i64 HK := by simpa using p9
      refine exec_same (v := .int .i64 HK) ?_ ⟨_, rfl, R2.refl ⟨by decide, by decide⟩, at_one (by omega) rfl⟩
      simp [go_sem, Act.eval, h35]
  case fin =>
    intro zs w5 hzl hI hF
    obtain ⟨z0, z1, z2, z3, z4, z5, z6, z7, z8, z9, z10, z11, z12, z13, z14, rfl⟩ := list15s zs hzl
    obtain ⟨gA, v0, hst, hgA_, hbox, hown⟩ := of_two (hF 12 _ rfl)
    obtain ⟨gC, hsc, hgC_, hbc⟩ := of_one (hF 13 _ rfl)
    have hint := of_one (hF 14 _ rfl)
    simp only [List.cons.injEq, and_true] at hst hint hsc
    have hs1 := last_is (i := 10) (v := z10) (n := 133) hst.1 (by kernel_rfl) rfl rfl (by omega)
    have hs2 := last_is (i := 7) (v := z7) (n := 133) hst.2 (by kernel_rfl) rfl rfl (by omega)
    have hs4 := last_is (i := 11) (v := z11) (n := 133) hsc (by kernel_rfl) rfl rfl (by omega)
    have hs3 := last_is (i := 14) (v := z14) (n := 133) hint (by kernel_rfl) rfl rfl (by omega)
    clear hst hint hsc
    subst hs1 hs2 hs3 hs4
    clear hF
    simp only [putAll, Act.put, List.setIfInBounds_toArray, List.set_cons_succ, List.set_cons_zero]
    have O0_5 := Own.made hown
    have B0_5 : Var gA v0 w5 := ⟨(Array.getElem?_eq_some_iff.1 hbox).1, (cell_of_row w5 gA 0 _ _ _ hbox).trans rfl⟩
    have C0_5 : ChIn gC C w5 := ChIn.of hbc
    have AV_5 := AVr.next hI
    have AN_5 := ANr.next hI
    have AI_5 := AIr.next hI
    have HB5 : Hid (Below w.heap.size w w5) := HB1.out.trans (hI.mono HB1.out.size)
    have hs15 := hI.size
    have hgAl : gA < w5.heap.size := B0_5.lt
    have hgCl : gC < w5.heap.size := C0_5.lt
    have hw1 := HB1.out.size
    have hw11 := ANr.lt
    obtain ⟨av0, cap0, rfl, hA0, _⟩ := hown.row
    clear hown hbox hbc hI AVr ANr AIr HB1
    have cA := AV_5.c
    go_wp2_with fail
    refine (toArena_any a0 cp ns w5 hl AI_5.all).mono ?_
    rintro e w6 ⟨vx, rfl, hox, hb⟩
    obtain ⟨ax, capx, rfl, hAx, _⟩ := hox.row
    have OX_6 := Own.made hox
    have hs56 := hb.size
    have O0_6 := O0_5.next hb
    have B0_6 := B0_5.next hb
    have C0_6 := C0_5.next hb
    have AV_6 := AV_5.next hb
    have AN_6 := AN_5.next hb
    have AI_6 := AI_5.next hb
    have HB6 : Hid (Below w.heap.size w w6) := HB5.out.trans (hb.mono HB5.out.size)
    clear HB5 O0_5 B0_5 C0_5 AV_5 AN_5 AI_5
    clear hox hb cA
    have hb : Below w6.heap.size w6 (w6.alloc (.cells #[.slice ax ns.length capx] 39)) := (Below.refl _ _).alloc (Nat.le_refl _) _
    have BX_7 : Var w6.heap.size (.slice ax ns.length capx) (w6.alloc (.cells #[.slice ax ns.length capx] 39)) := Var.made
    have hneX : (Value.slice ax ns.length capx).ownBlock ≠ some w6.heap.size := fun e => by have := (OX_6.block _ e).2; omega
    have hs67 := hb.size
    have O0_7 := O0_6.next hb
    have B0_7 := B0_6.next hb
    have C0_7 := C0_6.next hb
    have AV_7 := AV_6.next hb
    have AN_7 := AN_6.next hb
    have AI_7 := AI_6.next hb
    have OX_7 := OX_6.next hb
    have HB7 : Hid (Below w.heap.size w (w6.alloc (.cells #[.slice ax ns.length capx] 39))) := HB6.out.trans (hb.mono HB6.out.size)
    clear HB6 O0_6 B0_6 C0_6 AV_6 AN_6 AI_6 OX_6
    clear hb
    go_wp2_with fail
    generalize w6.alloc (.cells #[.slice ax ns.length capx] 39) = w7 at BX_7 O0_7 B0_7 C0_7 AV_7 AN_7 AI_7 OX_7 HB7 hs67 ⊢
    have AVr := BX_7
    have ANr := AN_7
    have hAX : Hid (AddrN ax capx) := hAx
    have HRX : Hid (RowN w7.heap.size w7 ax ns) := OX_7.rowAt
    refine wp_region_list (I := fun w' => Below w7.heap.size w7 w') (R := R2 w7.heap.size 11 12)
      (fs := #[⟨[39], fun vs _ => vs = [.agg #[.slice ax ns.length capx]]⟩, ⟨[40], fun vs _ => vs = [.agg #[.int .i64 x.a, .int .i64 x.s, .int .i64 x.e, .int .i64 x.q, .int .i64 x.h, .int .i64 x.t, .int .i64 x.u, .int .i64 x.l, .int .i64 x.m]]⟩, ⟨[41], fun vs _ => vs = [.agg #[.int .i64 x.a, .int .i64 x.s, .int .i64 x.e, .int .i64 x.q, .int .i64 x.h, .int .i64 x.t, .int .i64 x.u, .int .i64 x.l, .int .i64 x.m]]⟩, ⟨[42], fun vs _ => vs = [.int .i64 bd]⟩, ⟨[43], fun vs w' => ∃ v, vs = [.tuple #[.agg #[v], .agg #[.int .i64 C.a, .int .i64 C.s, .int .i64 C.e, .int .i64 C.q, .int .i64 C.h, .int .i64 C.t, .int .i64 C.u, .int .i64 C.l, .int .i64 C.m], .int .i64 HK]] ∧ OwnC w7.heap.size w' v HM⟩, ⟨[38], fun vs w' => ∃ v, vs = [.tuple #[.agg #[v], .agg #[.int .i64 C.a, .int .i64 C.s, .int .i64 C.e, .int .i64 C.q, .int .i64 C.h, .int .i64 C.t, .int .i64 C.u, .int .i64 C.l, .int .i64 C.m], .int .i64 HK]] ∧ OwnC w7.heap.size w' v HM⟩, ⟨[44], fun vs w' => ∃ v, vs = [.agg #[v]] ∧ OwnC w7.heap.size w' v HM⟩, ⟨[45], fun vs _ => vs = [.agg #[.int .i64 C.a, .int .i64 C.s, .int .i64 C.e, .int .i64 C.q, .int .i64 C.h, .int .i64 C.t, .int .i64 C.u, .int .i64 C.l, .int .i64 C.m]]⟩, ⟨[46], fun vs _ => vs = [.int .i64 HK]⟩, ⟨[12], fun vs w' => ∃ g, vs = [.pointer (some ⟨g, 0, none⟩)] ∧ w7.heap.size ≤ g ∧ ∃ u, w'.heap[g]? = some (.cells #[u] 39 (0, 0))⟩, ⟨[13], fun vs w' => ∃ g, vs = [.pointer (some ⟨g, 0, none⟩)] ∧ w7.heap.size ≤ g ∧ ∃ cs : Array Value, cs.size = 9 ∧ w'.heap[g]? = some (.cells cs 25 (0, 0))⟩, ⟨[12, 44], fun vs w' => ∃ g v, vs = [.pointer (some ⟨g, 0, none⟩), .agg #[v]] ∧ w7.heap.size ≤ g ∧ w'.heap[g]? = some (.cells #[v] 39 (0, 0)) ∧ OwnC w7.heap.size w' v HM⟩, ⟨[13], fun vs w' => ∃ g, vs = [.pointer (some ⟨g, 0, none⟩)] ∧ w7.heap.size ≤ g ∧ w'.heap[g]? = some (.cells #[.int .i64 C.a, .int .i64 C.s, .int .i64 C.e, .int .i64 C.q, .int .i64 C.h, .int .i64 C.t, .int .i64 C.u, .int .i64 C.l, .int .i64 C.m] 25 (0, 0))⟩, ⟨[14], fun vs _ => vs = [.int .i64 HK]⟩])
      (by kernel_rfl) 133 rfl (by kernel_rfl) ?stab ?istab ?start ?exec ?fin
    case stab =>
      intro k i f hki hf
      have hk : k < 14 := (Array.getElem?_eq_some_iff.1 hf).1
      rcases (show k = 0 ∨ k = 1 ∨ k = 2 ∨ k = 3 ∨ k = 4 ∨ k = 5 ∨ k = 6 ∨ k = 7 ∨ k = 8 ∨ k = 9 ∨ k = 10 ∨ k = 11 ∨ k = 12 ∨ k = 13 by omega) with rfl | rfl | rfl | rfl | rfl | rfl | rfl | rfl | rfl | rfl | rfl | rfl | rfl | rfl
      all_goals
        simp only [List.getElem?_toArray, List.getElem?_cons_succ, List.getElem?_cons_zero, Option.some.injEq] at hf
        subst hf
      · exact fun vs _ _ _ h => h
      · exact fun vs _ _ _ h => h
      · exact fun vs _ _ _ h => h
      · exact fun vs _ _ _ h => h
      · exact fun vs w' w'' hR ⟨v, h1, h2⟩ => ⟨v, h1, hR.ownC h2⟩
      · exact fun vs w' w'' hR ⟨v, h1, h2⟩ => ⟨v, h1, hR.ownC h2⟩
      · exact fun vs w' w'' hR ⟨v, h1, h2⟩ => ⟨v, h1, hR.ownC h2⟩
      · exact fun vs _ _ _ h => h
      · exact fun vs _ _ _ h => h
      · exact fun vs w' w'' hR ⟨g, h1, h2, h3⟩ => ⟨g, h1, h2, hR.boxA h3⟩
      · exact fun vs w' w'' hR ⟨g, h1, h2, h3⟩ => ⟨g, h1, h2, hR.boxC h3⟩
      · exact fun vs w' w'' hR ⟨g, v, h1, h2, h3, h4⟩ => ⟨g, v, h1, h2, R2.keepA (Ne.symm hki) hR h3, hR.ownC h4⟩
      · exact fun vs w' w'' hR ⟨g, h1, h2, h3⟩ => ⟨g, h1, h2, R2.keepC (Ne.symm hki) hR h3⟩
      · exact fun vs _ _ _ h => h
    case istab => exact fun i w' w'' hR h => R2.inv (Nat.le_refl _) hR h
    case start => exact (Below.refl _ _).drew
    case exec =>
      intro i o f hi hf a wq hsz hI hold hpre
      have hi11 : i < 14 := (Array.getElem?_eq_some_iff.1 hi).1
      rcases (show i = 0 ∨ i = 1 ∨ i = 2 ∨ i = 3 ∨ i = 4 ∨ i = 5 ∨ i = 6 ∨ i = 7 ∨ i = 8 ∨ i = 9 ∨ i = 10 ∨ i = 11 ∨ i = 12 ∨ i = 13 by omega) with rfl | rfl | rfl | rfl | rfl | rfl | rfl | rfl | rfl | rfl | rfl | rfl | rfl | rfl
      all_goals
        simp only [List.getElem?_toArray, List.getElem?_cons_succ, List.getElem?_cons_zero, Option.some.injEq] at hi hf
        subst hi hf
      · have o11 : a.tmps.getD 11 undef = .pointer (some ⟨w6.heap.size, 0, none⟩) := hold 11 (free_spec (by kernel_rfl))
        have hc : wq.cell? ⟨w6.heap.size, 0, none⟩ = some (.slice ax ns.length capx) := (hI.cell (p := ⟨w6.heap.size, 0, none⟩) AVr.lt).trans AVr.c
        refine exec_same (v := .agg #[.slice ax ns.length capx]) ?_ ⟨_, rfl, R2.refl ⟨by decide, by decide⟩, at_one (by omega) rfl⟩
        simp [go_sem, Act.eval, o11, hc]
      · have o4 : a.tmps.getD 4 undef = .pointer (some ⟨w.heap.size + 1, 0, none⟩) := hold 4 (free_spec (by kernel_rfl))
        have nn := ANr.next hI
        have n0 := nn.c0
        have n1 := nn.c1
        have n2 := nn.c2
        have n3 := nn.c3
        have n4 := nn.c4
        have n5 := nn.c5
        have n6 := nn.c6
        have n7 := nn.c7
        have n8 := nn.c8
        refine exec_same (v := .agg #[.int .i64 x.a, .int .i64 x.s, .int .i64 x.e, .int .i64 x.q, .int .i64 x.h, .int .i64 x.t, .int .i64 x.u, .int .i64 x.l, .int .i64 x.m]) ?_ ⟨_, rfl, R2.refl ⟨by decide, by decide⟩, at_one (by omega) rfl⟩
        simp [go_sem, Act.eval, o4, n0, n1, n2, n3, n4, n5, n6, n7, n8]
      · have p1 := of_one (hpre ⟨1, .data⟩ (by simp) rfl _ rfl)
        have h40 : a.tmps.getD 40 undef = .agg #[.int .i64 x.a, .int .i64 x.s, .int .i64 x.e, .int .i64 x.q, .int .i64 x.h, .int .i64 x.t, .int .i64 x.u, .int .i64 x.l, .int .i64 x.m] := by simpa using p1
        refine exec_call (f := 14) (args := #[.agg #[.int .i64 x.a, .int .i64 x.s, .int .i64 x.e, .int .i64 x.q, .int .i64 x.h, .int .i64 x.t, .int .i64 x.u, .int .i64 x.l, .int .i64 x.m]]) (by simp [go_sem, Act.eval, h40]) ?_
        refine (toChan_any x wq).mono ?_
        rintro e w2 ⟨rfl, hb⟩
        exact ⟨_, rfl, _, rfl, R2.of ⟨by decide, by decide⟩ hb, at_one (by omega) rfl⟩
      · have o2 : a.tmps.getD 2 undef = .int .i64 bd := hold 2 (free_spec (by kernel_rfl))
        refine exec_same (v := .int .i64 bd) ?_ ⟨_, rfl, R2.refl ⟨by decide, by decide⟩, at_one (by omega) rfl⟩
        simp [go_sem, Act.eval, o2]
      · have p0 := of_one (hpre ⟨0, .data⟩ (by simp) rfl _ rfl)
        have h39 : a.tmps.getD 39 undef = .agg #[.slice ax ns.length capx] := by simpa using p0
        have p2 := of_one (hpre ⟨2, .data⟩ (by simp) rfl _ rfl)
        have h41 : a.tmps.getD 41 undef = .agg #[.int .i64 x.a, .int .i64 x.s, .int .i64 x.e, .int .i64 x.q, .int .i64 x.h, .int .i64 x.t, .int .i64 x.u, .int .i64 x.l, .int .i64 x.m] := by simpa using p2
        have p3 := of_one (hpre ⟨3, .data⟩ (by simp) rfl _ rfl)
        have h42 : a.tmps.getD 42 undef = .int .i64 bd := by simpa using p3
        refine exec_call (f := 18) (args := #[.agg #[.slice ax ns.length capx], .agg #[.int .i64 x.a, .int .i64 x.s, .int .i64 x.e, .int .i64 x.q, .int .i64 x.h, .int .i64 x.t, .int .i64 x.u, .int .i64 x.l, .int .i64 x.m], .int .i64 bd]) (by simp [go_sem, Act.eval, h39, h41, h42]) ?_
        refine (HI.out ax capx wq hAX.out (HRX.out.grown hI)).mono ?_
        rintro e w2 ⟨v', rfl, ho', hb⟩
        exact ⟨_, rfl, _, rfl, R2.of ⟨by decide, by decide⟩ hb, at_one (by omega) ⟨v', rfl, OwnC.base ho' hI.size⟩⟩
      · obtain ⟨v4, q4, ho4⟩ := of_one (hpre ⟨4, .data⟩ (by simp) rfl _ rfl)
        have h43 : a.tmps.getD 43 undef = .tuple #[.agg #[v4], .agg #[.int .i64 C.a, .int .i64 C.s, .int .i64 C.e, .int .i64 C.q, .int .i64 C.h, .int .i64 C.t, .int .i64 C.u, .int .i64 C.l, .int .i64 C.m], .int .i64 HK] := by simpa using q4
        refine exec_same (v := .tuple #[.agg #[v4], .agg #[.int .i64 C.a, .int .i64 C.s, .int .i64 C.e, .int .i64 C.q, .int .i64 C.h, .int .i64 C.t, .int .i64 C.u, .int .i64 C.l, .int .i64 C.m], .int .i64 HK]) ?_ ⟨_, rfl, R2.refl ⟨by decide, by decide⟩, at_one (by omega) ⟨_, rfl, ho4⟩⟩
        simp [go_sem, Act.eval, h43]
      · obtain ⟨v5, q5, ho5⟩ := of_one (hpre ⟨5, .data⟩ (by simp) rfl _ rfl)
        have h38 : a.tmps.getD 38 undef = .tuple #[.agg #[v5], .agg #[.int .i64 C.a, .int .i64 C.s, .int .i64 C.e, .int .i64 C.q, .int .i64 C.h, .int .i64 C.t, .int .i64 C.u, .int .i64 C.l, .int .i64 C.m], .int .i64 HK] := by simpa using q5
        refine exec_same (v := .agg #[v5]) ?_ ⟨_, rfl, R2.refl ⟨by decide, by decide⟩, at_one (by omega) ⟨_, rfl, ho5⟩⟩
        simp [go_sem, Act.eval, h38]
      · obtain ⟨v5, q5, ho5⟩ := of_one (hpre ⟨5, .data⟩ (by simp) rfl _ rfl)
        have h38 : a.tmps.getD 38 undef = .tuple #[.agg #[v5], .agg #[.int .i64 C.a, .int .i64 C.s, .int .i64 C.e, .int .i64 C.q, .int .i64 C.h, .int .i64 C.t, .int .i64 C.u, .int .i64 C.l, .int .i64 C.m], .int .i64 HK] := by simpa using q5
        refine exec_same (v := .agg #[.int .i64 C.a, .int .i64 C.s, .int .i64 C.e, .int .i64 C.q, .int .i64 C.h, .int .i64 C.t, .int .i64 C.u, .int .i64 C.l, .int .i64 C.m]) ?_ ⟨_, rfl, R2.refl ⟨by decide, by decide⟩, at_one (by omega) rfl⟩
        simp [go_sem, Act.eval, h38]
      · obtain ⟨v5, q5, ho5⟩ := of_one (hpre ⟨5, .data⟩ (by simp) rfl _ rfl)
        have h38 : a.tmps.getD 38 undef = .tuple #[.agg #[v5], .agg #[.int .i64 C.a, .int .i64 C.s, .int .i64 C.e, .int .i64 C.q, .int .i64 C.h, .int .i64 C.t, .int .i64 C.u, .int .i64 C.l, .int .i64 C.m], .int .i64 HK] := by simpa using q5
        refine exec_same (v := .int .i64 HK) ?_ ⟨_, rfl, R2.refl ⟨by decide, by decide⟩, at_one (by omega) rfl⟩
        simp [go_sem, Act.eval, h38]
      · refine exec_made (v := .pointer (some ⟨wq.heap.size, 0, none⟩)) (w' := wq.alloc (.cells #[.slice none 0 0] 39)) ?_ ⟨_, rfl, R2.of ⟨by decide, by decide⟩ ((Below.refl wq.heap.size wq).alloc (Nat.le_refl _) _), at_one (by omega) ⟨wq.heap.size, rfl, hI.size, _, heap_alloc_new _ _⟩⟩
        simp [go_sem]
      · refine exec_made (v := .pointer (some ⟨wq.heap.size, 0, none⟩)) (w' := wq.alloc (.cells #[.int .i64 0, .int .i64 0, .int .i64 0, .int .i64 0, .int .i64 0, .int .i64 0, .int .i64 0, .int .i64 0, .int .i64 0] 25)) ?_ ⟨_, rfl, R2.of ⟨by decide, by decide⟩ ((Below.refl wq.heap.size wq).alloc (Nat.le_refl _) _), at_one (by omega) ⟨wq.heap.size, rfl, hI.size, _, rfl, heap_alloc_new _ _⟩⟩
        simp [go_sem]
      · obtain ⟨g, qa, hg, u, hu⟩ := of_one (hpre ⟨9, .data⟩ (by simp) rfl _ rfl)
        have ha' : a.tmps.getD 12 undef = .pointer (some ⟨g, 0, none⟩) := by simpa using qa
        obtain ⟨v6, q6, ho6⟩ := of_one (hpre ⟨6, .data⟩ (by simp) rfl _ rfl)
        have h44 : a.tmps.getD 44 undef = .agg #[v6] := by simpa using q6
        have hcg : wq.cell? ⟨g, 0, none⟩ = some u := by rw [cell_of_row wq g 0 _ _ _ hu]; rfl
        have hfg : wq.frozen? ⟨g, 0, none⟩ = false := frozen_of_row wq g 0 _ _ hu
        obtain ⟨av9, capv9, rfl⟩ := ownC_row ho6
        have hR2 : R2 w7.heap.size 11 12 11 wq (wq.setCell ⟨g, 0, none⟩ (.slice av9 HM.length capv9)) := by unfold R2; rw [if_pos rfl]; exact ⟨g, u, _, rfl, hg, hu⟩
        refine exec_skip (w' := wq.setCell ⟨g, 0, none⟩ (.slice av9 HM.length capv9)) ?_ ⟨_, rfl, hR2, ?_⟩
        · simp [go_sem, Act.eval, ha', h44, hcg, hfg]
        · exact ⟨g, _, by show [a.tmps.getD 12 undef, a.tmps.getD 44 undef] = _; rw [ha', h44], hg, (heap_setCell_same wq g 0 _ _ _ hu).trans rfl, hR2.ownC ho6⟩
      · obtain ⟨g, qa, hg, old, h9, hu⟩ := of_one (hpre ⟨10, .data⟩ (by simp) rfl _ rfl)
        have ha' : a.tmps.getD 13 undef = .pointer (some ⟨g, 0, none⟩) := by simpa using qa
        have p7 := of_one (hpre ⟨7, .data⟩ (by simp) rfl _ rfl)
        have h45 : a.tmps.getD 45 undef = .agg #[.int .i64 C.a, .int .i64 C.s, .int .i64 C.e, .int .i64 C.q, .int .i64 C.h, .int .i64 C.t, .int .i64 C.u, .int .i64 C.l, .int .i64 C.m] := by simpa using p7
        have hR2 : R2 w7.heap.size 11 12 12 wq (wq.setRow g #[.int .i64 C.a, .int .i64 C.s, .int .i64 C.e, .int .i64 C.q, .int .i64 C.h, .int .i64 C.t, .int .i64 C.u, .int .i64 C.l, .int .i64 C.m]) := by unfold R2; rw [if_neg (by decide), if_pos rfl]; exact ⟨g, old, _, rfl, hg, rfl, hu⟩
        refine exec_skip (w' := wq.setRow g #[.int .i64 C.a, .int .i64 C.s, .int .i64 C.e, .int .i64 C.q, .int .i64 C.h, .int .i64 C.t, .int .i64 C.u, .int .i64 C.l, .int .i64 C.m]) (exec_storeRow 25 (.tmp 13) (.tmp 45) rfl g #[.int .i64 C.a, .int .i64 C.s, .int .i64 C.e, .int .i64 C.q, .int .i64 C.h, .int .i64 C.t, .int .i64 C.u, .int .i64 C.l, .int .i64 C.m] ha' h45 25 old hu chanSize h9 (by simp [Value.oneCell'])) ⟨_, rfl, hR2, ?_⟩
        exact ⟨g, by show [a.tmps.getD 13 undef] = _; rw [ha'], hg, setRow_heap _ _ _ _ _ _ hu⟩
      · have p8 := of_one (hpre ⟨8, .data⟩ (by simp) rfl _ rfl)
        have h46 : a.tmps.getD 46 undef = .int .i64 HK := by simpa using p8
        refine exec_same (v := .int .i64 HK) ?_ ⟨_, rfl, R2.refl ⟨by decide, by decide⟩, at_one (by omega) rfl⟩
        simp [go_sem, Act.eval, h46]
    case fin =>
      intro zs w8 hzl hI hF
      obtain ⟨z0, z1, z2, z3, z4, z5, z6, z7, z8, z9, z10, z11, z12, z13, rfl⟩ := list14s zs hzl
      obtain ⟨gG, vg, hst, hgA_, hbox, hown⟩ := of_two (hF 11 _ rfl)
      obtain ⟨gH, hsc, hgC_, hbc⟩ := of_one (hF 12 _ rfl)
      have hint := of_one (hF 13 _ rfl)
      simp only [List.cons.injEq, and_true] at hst hint hsc
      have hs1 := last_is (i := 9) (v := z9) (n := 133) hst.1 (by kernel_rfl) rfl rfl (by omega)
      have hs2 := last_is (i := 6) (v := z6) (n := 133) hst.2 (by kernel_rfl) rfl rfl (by omega)
      have hs4 := last_is (i := 10) (v := z10) (n := 133) hsc (by kernel_rfl) rfl rfl (by omega)
      have hs3 := last_is (i := 13) (v := z13) (n := 133) hint (by kernel_rfl) rfl rfl (by omega)
      clear hst hint hsc
      subst hs1 hs2 hs3 hs4
      clear hF
      simp only [putAll, Act.put, List.setIfInBounds_toArray, List.set_cons_succ, List.set_cons_zero]
      obtain ⟨avg, capg, pcg, rfl, hAg, hown⟩ := hown
      have OG_8 := Own.made hown
      have BG_8 : Var gG (.slice avg HM.length capg) w8 := ⟨(Array.getElem?_eq_some_iff.1 hbox).1, (cell_of_row w8 gG 0 _ _ _ hbox).trans rfl⟩
      have CG_8 : ChIn gH C w8 := ChIn.of hbc
      have hneG := own_box_ne hown hbox
      have hneH : (Value.slice avg HM.length pcg).ownBlock ≠ some gH := own_boxC_ne hown hbc
      have hs78 := hI.size
      have O0_8 := O0_7.next hI
      have B0_8 := B0_7.next hI
      have C0_8 := C0_7.next hI
      have AV_8 := AV_7.next hI
      have AN_8 := AN_7.next hI
      have AI_8 := AI_7.next hI
      have OX_8 := OX_7.next hI
      have BX_8 := BX_7.next hI
      have HB8 : Hid (Below w.heap.size w w8) := HB7.out.trans (hI.mono HB7.out.size)
      clear HB7 O0_7 B0_7 C0_7 AV_7 AN_7 AI_7 OX_7 BX_7
      clear hown hbox hbc hI AVr ANr HRX hAX
      have q0 := BG_8.c
      have q1 := B0_8.c
      go_wp2_with fail
      refine (eqArena_same avg av0 capg cap0 HM w8 (by have := HPL.out; omega) OG_8.rowAt O0_8.rowAt).mono ?_
      rintro e w9 ⟨rfl, hb⟩
      have O0_9 := O0_8.next hb
      have B0_9 := B0_8.next hb
      have C0_9 := C0_8.next hb
      have AV_9 := AV_8.next hb
      have AN_9 := AN_8.next hb
      have AI_9 := AI_8.next hb
      have OX_9 := OX_8.next hb
      have BX_9 := BX_8.next hb
      have OG_9 := OG_8.next hb
      have BG_9 := BG_8.next hb
      have CG_9 := CG_8.next hb
      have HB9 : Hid (Below w.heap.size w w9) := HB8.out.trans (hb.mono HB8.out.size)
      clear HB8 O0_8 B0_8 C0_8 AV_8 AN_8 AI_8 OX_8 BX_8 OG_8 BG_8 CG_8
      clear hb q0 q1
      have y0 := CG_9.c0
      have y1 := CG_9.c1
      have y2 := CG_9.c2
      have y3 := CG_9.c3
      have y4 := CG_9.c4
      have y5 := CG_9.c5
      have y6 := CG_9.c6
      have y7 := CG_9.c7
      have y8 := CG_9.c8
      have z0 := C0_9.c0
      have z1 := C0_9.c1
      have z2 := C0_9.c2
      have z3 := C0_9.c3
      have z4 := C0_9.c4
      have z5 := C0_9.c5
      have z6 := C0_9.c6
      have z7 := C0_9.c7
      have z8 := C0_9.c8
      go_wp2_with fail
      clear y0 z0 y1 z1 y2 z2 y3 z3 y4 z4 y5 z5 y6 z6 y7 z7 y8 z8
      refine (eqChan_same C w9).mono ?_
      rintro e w10 ⟨rfl, hb⟩
      have O0_10 := O0_9.next hb
      have B0_10 := B0_9.next hb
      have C0_10 := C0_9.next hb
      have AV_10 := AV_9.next hb
      have AN_10 := AN_9.next hb
      have AI_10 := AI_9.next hb
      have OX_10 := OX_9.next hb
      have BX_10 := BX_9.next hb
      have OG_10 := OG_9.next hb
      have BG_10 := BG_9.next hb
      have CG_10 := CG_9.next hb
      have HB10 : Hid (Below w.heap.size w w10) := HB9.out.trans (hb.mono HB9.out.size)
      clear HB9 O0_9 B0_9 C0_9 AV_9 AN_9 AI_9 OX_9 BX_9 OG_9 BG_9 CG_9
      clear hb
      go_wp2_with fail
      have hd : Below w10.heap.size w10 w10.drew := (Below.refl _ _).drew
      have O0_10d := O0_10.next hd
      have B0_10d := B0_10.next hd
      have C0_10d := C0_10.next hd
      have AV_10d := AV_10.next hd
      have AN_10d := AN_10.next hd
      have AI_10d := AI_10.next hd
      have OX_10d := OX_10.next hd
      have BX_10d := BX_10.next hd
      have OG_10d := OG_10.next hd
      have BG_10d := BG_10.next hd
      have CG_10d := CG_10.next hd
      have HB10d : Hid (Below w.heap.size w w10.drew) := HB10.out.trans (hd.mono HB10.out.size)
      clear HB10 O0_10 B0_10 C0_10 AV_10 AN_10 AI_10 OX_10 BX_10 OG_10 BG_10 CG_10
      refine _root_.Go.wp_region_held (S := fun w' : World => Var w6.heap.size (.slice ax ns.length capx) w' ∧ Var w.heap.size (.slice a0 ns.length cp) w') (by kernel_rfl) ?_
      have hS : (fun w' : World => Var w6.heap.size (.slice ax ns.length capx) w' ∧ Var w.heap.size (.slice a0 ns.length cp) w') w10.drew := ⟨BX_10d, AV_10d⟩
      refine wpAnyH_take (i := 0) (v := ?_) rfl (by kernel_rfl) (by kernel_rfl) (by kernel_rfl) (fun _ _ _ h => h) (Or.inl ⟨by rfl, ?_⟩) hS ?_
      rotate_left
      · intro w hSw; obtain ⟨yA, yN⟩ := hSw; have y0 := yA.c; have y1 := yN.c; go_simp; try with_reducible rfl
      simp only [Act.put, List.getElem_toArray, List.getElem_cons_zero, List.setIfInBounds_toArray, List.set_cons_succ, List.set_cons_zero]
      refine wpAnyH_take (i := 1) (v := ?_) rfl (by kernel_rfl) (by kernel_rfl) (by kernel_rfl) (fun _ _ _ h => h) (Or.inl ⟨by rfl, ?_⟩) hS ?_
      rotate_left
      · intro w hSw; obtain ⟨yA, yN⟩ := hSw; have y0 := yA.c; have y1 := yN.c; go_simp; try with_reducible rfl
      simp only [Act.put, List.getElem_toArray, List.getElem_cons_succ, List.getElem_cons_zero, List.setIfInBounds_toArray, List.set_cons_succ, List.set_cons_zero]
      refine wpAnyH_ready (rs := [2]) (by kernel_rfl) (by simp) ?_
      refine AllReadyH.cons rfl (fun K hK => ?_) AllReadyH.nil
      go_simp
      refine (toArena_any a0 cp ns _ hl AI_10d.all).mono ?_
      rintro e w11 ⟨v9, rfl, ho9, hb⟩
      obtain ⟨a9, cap9, rfl, hA9, hr9⟩ := ho9.row
      have O0_11 := O0_10d.next hb
      have B0_11 := B0_10d.next hb
      have C0_11 := C0_10d.next hb
      have AV_11 := AV_10d.next hb
      have AN_11 := AN_10d.next hb
      have AI_11 := AI_10d.next hb
      have OX_11 := OX_10d.next hb
      have BX_11 := BX_10d.next hb
      have OG_11 := OG_10d.next hb
      have BG_11 := BG_10d.next hb
      have CG_11 := CG_10d.next hb
      have HB11 : Hid (Below w.heap.size w w11) := HB10d.out.trans (hb.mono HB10d.out.size)
      clear HB10d O0_10d B0_10d C0_10d AV_10d AN_10d AI_10d OX_10d BX_10d OG_10d BG_10d CG_10d
      clear hb
      refine hK.out _ _ ⟨BX_11, AV_11⟩ (fun hS => ?_)
      clear hK K
      refine wpAnyH_ready (rs := [3]) (by kernel_rfl) (by simp) ?_
      refine AllReadyH.cons rfl (fun K hK => ?_) AllReadyH.nil
      go_simp
      refine (eqArena_same ax a9 capx cap9 ns _ (by omega) OX_11.rowAt hr9).mono ?_
      rintro e w12 ⟨rfl, hb⟩
      have O0_12 := O0_11.next hb
      have B0_12 := B0_11.next hb
      have C0_12 := C0_11.next hb
      have AV_12 := AV_11.next hb
      have AN_12 := AN_11.next hb
      have AI_12 := AI_11.next hb
      have OX_12 := OX_11.next hb
      have BX_12 := BX_11.next hb
      have OG_12 := OG_11.next hb
      have BG_12 := BG_11.next hb
      have CG_12 := CG_11.next hb
      have HB12 : Hid (Below w.heap.size w w12) := HB11.out.trans (hb.mono HB11.out.size)
      clear HB11 O0_11 B0_11 C0_11 AV_11 AN_11 AI_11 OX_11 BX_11 OG_11 BG_11 CG_11
      clear hb
      refine hK.out _ _ ⟨BX_12, AV_12⟩ (fun hS => ?_)
      clear hK K
      refine wpAnyH_take (i := 4) (v := ?_) rfl (by kernel_rfl) (by kernel_rfl) (by kernel_rfl) (fun _ _ _ h => h) (Or.inl ⟨by rfl, ?_⟩) hS ?_
      rotate_left
      · intro w hSw; obtain ⟨yA, yN⟩ := hSw; have y0 := yA.c; have y1 := yN.c; go_simp; try with_reducible rfl
      simp only [Act.put, List.getElem_toArray, List.getElem_cons_succ, List.getElem_cons_zero, List.setIfInBounds_toArray, List.set_cons_succ, List.set_cons_zero]
      clear hS
      refine wpAnyH_done (by kernel_rfl) ?_ _
      clear ho9 hr9 hA9
      have q0 := BX_12.c
      go_wp2_with fail
      refine (markArena_any w5.heap.size 1 (.slice ax ns.length capx) ns w12 (by omega) (by omega) OX_12.own).mono ?_
      rintro e w13 ⟨rfl, hox, hgr⟩
      have hbk := OX_12.block
      have hgGl : w7.heap.size ≤ gG := hgA_
      have hgHl : w7.heap.size ≤ gH := hgC_
      have O0_13 := O0_12.mark hgr (fun g hg => by have := hbk g hg; omega)
      have B0_13 := B0_12.mark hgr (fun h => by have := hbk _ h; omega)
      have C0_13 := C0_12.mark hgr (fun h => by have := hbk _ h; omega)
      have AV_13 := AV_12.mark hgr (fun h => by have := hbk _ h; omega)
      have AN_13 := AN_12.mark hgr (fun h => by have := hbk _ h; omega)
      have AI_13 := AI_12.mark hgr (fun g hg => by have := hbk g hg; omega)
      have OG_13 := OG_12.mark hgr (fun g hg => by have := hbk g hg; omega)
      have BG_13 := BG_12.mark hgr (fun h => by have := hbk _ h; omega)
      have CG_13 := CG_12.mark hgr (fun h => by have := hbk _ h; omega)
      have HB13 : Hid (Below w.heap.size w w13) := HB12.out.grown hgr HB12.out.size (fun k hk => by have := hbk k hk; omega)
      clear hox q0
      clear hgr hbk HB12 O0_12 B0_12 C0_12 AV_12 AN_12 AI_12 OX_12 BX_12 OG_12 BG_12 CG_12
      have hk0 : ¬ (1 : Int) + 4 * (ns.length : Int) < 0 := by omega
      have q0 := BG_13.c
      have q1 := B0_13.c
      go_wp2_with fail
      refine (eqArena_same avg av0 capg cap0 HM w13 (by have := HPL.out; omega) OG_13.rowAt O0_13.rowAt).mono ?_
      rintro e w14 ⟨rfl, hb⟩
      have O0_14 := O0_13.next hb
      have B0_14 := B0_13.next hb
      have C0_14 := C0_13.next hb
      have AV_14 := AV_13.next hb
      have AN_14 := AN_13.next hb
      have AI_14 := AI_13.next hb
      have OG_14 := OG_13.next hb
      have BG_14 := BG_13.next hb
      have CG_14 := CG_13.next hb
      have HB14 : Hid (Below w.heap.size w w14) := HB13.out.trans (hb.mono HB13.out.size)
      clear HB13 O0_13 B0_13 C0_13 AV_13 AN_13 AI_13 OG_13 BG_13 CG_13
      clear hb q0 q1
      have y0 := CG_14.c0
      have y1 := CG_14.c1
      have y2 := CG_14.c2
      have y3 := CG_14.c3
      have y4 := CG_14.c4
      have y5 := CG_14.c5
      have y6 := CG_14.c6
      have y7 := CG_14.c7
      have y8 := CG_14.c8
      have z0 := C0_14.c0
      have z1 := C0_14.c1
      have z2 := C0_14.c2
      have z3 := C0_14.c3
      have z4 := C0_14.c4
      have z5 := C0_14.c5
      have z6 := C0_14.c6
      have z7 := C0_14.c7
      have z8 := C0_14.c8
      go_wp2_with fail
      clear y0 z0 y1 z1 y2 z2 y3 z3 y4 z4 y5 z5 y6 z6 y7 z7 y8 z8
      refine (eqChan_same C w14).mono ?_
      rintro e w15 ⟨rfl, hb⟩
      have O0_15 := O0_14.next hb
      have B0_15 := B0_14.next hb
      have C0_15 := C0_14.next hb
      have AV_15 := AV_14.next hb
      have AN_15 := AN_14.next hb
      have AI_15 := AI_14.next hb
      have OG_15 := OG_14.next hb
      have BG_15 := BG_14.next hb
      have CG_15 := CG_14.next hb
      have HB15 : Hid (Below w.heap.size w w15) := HB14.out.trans (hb.mono HB14.out.size)
      clear HB14 O0_14 B0_14 C0_14 AV_14 AN_14 AI_14 OG_14 BG_14 CG_14
      clear hb
      clear hk0
      have q0 := BG_15.c
      go_wp2_with fail
      refine (markArenaC_any w7.heap.size 1 avg capg pcg HM w15 (by have := HPL.out; omega) (by omega) hAg OG_15.own).mono ?_
      rintro e w16 ⟨rfl, hox, hgr⟩
      have hbk := OG_15.block
      have O0_16 := O0_15.mark hgr (fun g hg => by have := hbk g hg; omega)
      have B0_16 := B0_15.mark hgr (fun h => by have := hbk _ h; omega)
      have C0_16 := C0_15.mark hgr (fun h => by have := hbk _ h; omega)
      have AV_16 := AV_15.mark hgr (fun h => by have := hbk _ h; omega)
      have AN_16 := AN_15.mark hgr (fun h => by have := hbk _ h; omega)
      have AI_16 := AI_15.mark hgr (fun g hg => by have := hbk g hg; omega)
      have BG_16 := BG_15.mark hgr hneG
      have CG_16 := CG_15.mark hgr hneH
      have HB16 : Hid (Below w.heap.size w w16) := HB15.out.grown hgr HB15.out.size (fun k hk => by have := hbk k hk; omega)
      have OM_16 : Own w7.heap.size w8.heap.size (.slice avg HM.length pcg) (marksN 1 HM.length) w16 := ⟨hox, Nat.le_trans OG_15.le hgr.size, OG_15.lt⟩
      clear hox q0
      clear hgr hbk HB15 O0_15 B0_15 C0_15 AV_15 AN_15 AI_15 OG_15 BG_15 CG_15
      have q0 := BG_16.c
      go_wp2_with fail
      refine (heldArena_any 1 avg HM.length capg w16 (by have := HPL.out; omega) (by omega) OM_16.rowAt).mono ?_
      rintro e w17 ⟨rfl, hb⟩
      have O0_17 := O0_16.next hb
      have B0_17 := B0_16.next hb
      have C0_17 := C0_16.next hb
      have AV_17 := AV_16.next hb
      have AN_17 := AN_16.next hb
      have AI_17 := AI_16.next hb
      have BG_17 := BG_16.next hb
      have CG_17 := CG_16.next hb
      have OM_17 := OM_16.next hb
      have HB17 : Hid (Below w.heap.size w w17) := HB16.out.trans (hb.mono HB16.out.size)
      clear HB16 O0_16 B0_16 C0_16 AV_16 AN_16 AI_16 BG_16 CG_16 OM_16
      clear hb q0
      have hk0 : ¬ (1 : Int) + 4 * (HM.length : Int) < 0 := by omega
      have AVr := AV_17
      have ANr := AN_17
      have AIr := AI_17
      go_wp2_with fail
      refine wp_region_list (I := fun w' => Below w17.heap.size w17 w') (R := R2 w17.heap.size 12 13)
        (fs := #[⟨[101], fun vs _ => vs = [.agg #[.slice a0 ns.length cp]]⟩, ⟨[102], fun vs w' => ∃ v, vs = [.agg #[v]] ∧ OwnN w17.heap.size w' v ns⟩, ⟨[103], fun vs _ => vs = [.agg #[.int .i64 x.a, .int .i64 x.s, .int .i64 x.e, .int .i64 x.q, .int .i64 x.h, .int .i64 x.t, .int .i64 x.u, .int .i64 x.l, .int .i64 x.m]]⟩, ⟨[104], fun vs _ => vs = [.agg #[.int .i64 x.a, .int .i64 x.s, .int .i64 x.e, .int .i64 x.q, .int .i64 x.h, .int .i64 x.t, .int .i64 x.u, .int .i64 x.l, .int .i64 x.m]]⟩, ⟨[105], fun vs _ => vs = [.int .i64 bd]⟩, ⟨[106], fun vs w' => ∃ v, vs = [.tuple #[.agg #[v], .agg #[.int .i64 C.a, .int .i64 C.s, .int .i64 C.e, .int .i64 C.q, .int .i64 C.h, .int .i64 C.t, .int .i64 C.u, .int .i64 C.l, .int .i64 C.m], .int .i64 HK]] ∧ OwnC w17.heap.size w' v HM⟩, ⟨[100], fun vs w' => ∃ v, vs = [.tuple #[.agg #[v], .agg #[.int .i64 C.a, .int .i64 C.s, .int .i64 C.e, .int .i64 C.q, .int .i64 C.h, .int .i64 C.t, .int .i64 C.u, .int .i64 C.l, .int .i64 C.m], .int .i64 HK]] ∧ OwnC w17.heap.size w' v HM⟩, ⟨[107], fun vs w' => ∃ v, vs = [.agg #[v]] ∧ OwnC w17.heap.size w' v HM⟩, ⟨[108], fun vs _ => vs = [.agg #[.int .i64 C.a, .int .i64 C.s, .int .i64 C.e, .int .i64 C.q, .int .i64 C.h, .int .i64 C.t, .int .i64 C.u, .int .i64 C.l, .int .i64 C.m]]⟩, ⟨[109], fun vs _ => vs = [.int .i64 HK]⟩, ⟨[18], fun vs w' => ∃ g, vs = [.pointer (some ⟨g, 0, none⟩)] ∧ w17.heap.size ≤ g ∧ ∃ u, w'.heap[g]? = some (.cells #[u] 39 (0, 0))⟩, ⟨[19], fun vs w' => ∃ g, vs = [.pointer (some ⟨g, 0, none⟩)] ∧ w17.heap.size ≤ g ∧ ∃ cs : Array Value, cs.size = 9 ∧ w'.heap[g]? = some (.cells cs 25 (0, 0))⟩, ⟨[18, 107], fun vs w' => ∃ g v, vs = [.pointer (some ⟨g, 0, none⟩), .agg #[v]] ∧ w17.heap.size ≤ g ∧ w'.heap[g]? = some (.cells #[v] 39 (0, 0)) ∧ OwnC w17.heap.size w' v HM⟩, ⟨[19], fun vs w' => ∃ g, vs = [.pointer (some ⟨g, 0, none⟩)] ∧ w17.heap.size ≤ g ∧ w'.heap[g]? = some (.cells #[.int .i64 C.a, .int .i64 C.s, .int .i64 C.e, .int .i64 C.q, .int .i64 C.h, .int .i64 C.t, .int .i64 C.u, .int .i64 C.l, .int .i64 C.m] 25 (0, 0))⟩, ⟨[20], fun vs _ => vs = [.int .i64 HK]⟩])
        (by kernel_rfl) 133 rfl (by kernel_rfl) ?stab ?istab ?start ?exec ?fin
      case stab =>
        intro k i f hki hf
        have hk : k < 15 := (Array.getElem?_eq_some_iff.1 hf).1
        rcases (show k = 0 ∨ k = 1 ∨ k = 2 ∨ k = 3 ∨ k = 4 ∨ k = 5 ∨ k = 6 ∨ k = 7 ∨ k = 8 ∨ k = 9 ∨ k = 10 ∨ k = 11 ∨ k = 12 ∨ k = 13 ∨ k = 14 by omega) with rfl | rfl | rfl | rfl | rfl | rfl | rfl | rfl | rfl | rfl | rfl | rfl | rfl | rfl | rfl
        all_goals
          simp only [List.getElem?_toArray, List.getElem?_cons_succ, List.getElem?_cons_zero, Option.some.injEq] at hf
          subst hf
        · exact fun vs _ _ _ h => h
        · exact fun vs w' w'' hR ⟨v, h1, h2⟩ => ⟨v, h1, hR.own h2⟩
        · exact fun vs _ _ _ h => h
        · exact fun vs _ _ _ h => h
        · exact fun vs _ _ _ h => h
        · exact fun vs w' w'' hR ⟨v, h1, h2⟩ => ⟨v, h1, hR.ownC h2⟩
        · exact fun vs w' w'' hR ⟨v, h1, h2⟩ => ⟨v, h1, hR.ownC h2⟩
        · exact fun vs w' w'' hR ⟨v, h1, h2⟩ => ⟨v, h1, hR.ownC h2⟩
        · exact fun vs _ _ _ h => h
        · exact fun vs _ _ _ h => h
        · exact fun vs w' w'' hR ⟨g, h1, h2, h3⟩ => ⟨g, h1, h2, hR.boxA h3⟩
        · exact fun vs w' w'' hR ⟨g, h1, h2, h3⟩ => ⟨g, h1, h2, hR.boxC h3⟩
        · exact fun vs w' w'' hR ⟨g, v, h1, h2, h3, h4⟩ => ⟨g, v, h1, h2, R2.keepA (Ne.symm hki) hR h3, hR.ownC h4⟩
        · exact fun vs w' w'' hR ⟨g, h1, h2, h3⟩ => ⟨g, h1, h2, R2.keepC (Ne.symm hki) hR h3⟩
        · exact fun vs _ _ _ h => h
      case istab => exact fun i w' w'' hR h => R2.inv (Nat.le_refl _) hR h
      case start => exact (Below.refl _ _).drew
      case exec =>
        intro i o f hi hf a wq hsz hI hold hpre
        have hi11 : i < 15 := (Array.getElem?_eq_some_iff.1 hi).1
        rcases (show i = 0 ∨ i = 1 ∨ i = 2 ∨ i = 3 ∨ i = 4 ∨ i = 5 ∨ i = 6 ∨ i = 7 ∨ i = 8 ∨ i = 9 ∨ i = 10 ∨ i = 11 ∨ i = 12 ∨ i = 13 ∨ i = 14 by omega) with rfl | rfl | rfl | rfl | rfl | rfl | rfl | rfl | rfl | rfl | rfl | rfl | rfl | rfl | rfl
        all_goals
          simp only [List.getElem?_toArray, List.getElem?_cons_succ, List.getElem?_cons_zero, Option.some.injEq] at hi hf
          subst hi hf
        · have o3 : a.tmps.getD 3 undef = .pointer (some ⟨w.heap.size, 0, none⟩) := hold 3 (free_spec (by kernel_rfl))
          have hc : wq.cell? ⟨w.heap.size, 0, none⟩ = some (.slice a0 ns.length cp) := (hI.cell (p := ⟨w.heap.size, 0, none⟩) AVr.lt).trans AVr.c
          refine exec_same (v := .agg #[.slice a0 ns.length cp]) ?_ ⟨_, rfl, R2.refl ⟨by decide, by decide⟩, at_one (by omega) rfl⟩
          simp [go_sem, Act.eval, o3, hc]
        · have p0 := of_one (hpre ⟨0, .data⟩ (by simp) rfl _ rfl)
          have h101 : a.tmps.getD 101 undef = .agg #[.slice a0 ns.length cp] := by simpa using p0
          refine exec_call (f := 13) (args := #[.agg #[.slice a0 ns.length cp]]) (by simp [go_sem, Act.eval, h101]) ?_
          refine (toArena_any a0 cp ns wq hl (AIr.next hI).all).mono ?_
          rintro e w2 ⟨v, rfl, ho, hb⟩
          exact ⟨_, rfl, _, rfl, R2.of ⟨by decide, by decide⟩ hb, at_one (by omega) ⟨v, rfl, OwnN.base ho hI.size⟩⟩
        · have o4 : a.tmps.getD 4 undef = .pointer (some ⟨w.heap.size + 1, 0, none⟩) := hold 4 (free_spec (by kernel_rfl))
          have nn := ANr.next hI
          have n0 := nn.c0
          have n1 := nn.c1
          have n2 := nn.c2
          have n3 := nn.c3
          have n4 := nn.c4
          have n5 := nn.c5
          have n6 := nn.c6
          have n7 := nn.c7
          have n8 := nn.c8
          refine exec_same (v := .agg #[.int .i64 x.a, .int .i64 x.s, .int .i64 x.e, .int .i64 x.q, .int .i64 x.h, .int .i64 x.t, .int .i64 x.u, .int .i64 x.l, .int .i64 x.m]) ?_ ⟨_, rfl, R2.refl ⟨by decide, by decide⟩, at_one (by omega) rfl⟩
          simp [go_sem, Act.eval, o4, n0, n1, n2, n3, n4, n5, n6, n7, n8]
        · have p2 := of_one (hpre ⟨2, .data⟩ (by simp) rfl _ rfl)
          have h103 : a.tmps.getD 103 undef = .agg #[.int .i64 x.a, .int .i64 x.s, .int .i64 x.e, .int .i64 x.q, .int .i64 x.h, .int .i64 x.t, .int .i64 x.u, .int .i64 x.l, .int .i64 x.m] := by simpa using p2
          refine exec_call (f := 14) (args := #[.agg #[.int .i64 x.a, .int .i64 x.s, .int .i64 x.e, .int .i64 x.q, .int .i64 x.h, .int .i64 x.t, .int .i64 x.u, .int .i64 x.l, .int .i64 x.m]]) (by simp [go_sem, Act.eval, h103]) ?_
          refine (toChan_any x wq).mono ?_
          rintro e w2 ⟨rfl, hb⟩
          exact ⟨_, rfl, _, rfl, R2.of ⟨by decide, by decide⟩ hb, at_one (by omega) rfl⟩
        · have o2 : a.tmps.getD 2 undef = .int .i64 bd := hold 2 (free_spec (by kernel_rfl))
          refine exec_same (v := .int .i64 bd) ?_ ⟨_, rfl, R2.refl ⟨by decide, by decide⟩, at_one (by omega) rfl⟩
          simp [go_sem, Act.eval, o2]
        · obtain ⟨v, h28, ho⟩ := of_one (hpre ⟨1, .data⟩ (by simp) rfl _ rfl)
          have h102 : a.tmps.getD 102 undef = .agg #[v] := by simpa using h28
          obtain ⟨a2, cap2, rfl, hA2, hr2⟩ := ho.row
          have p3 := of_one (hpre ⟨3, .data⟩ (by simp) rfl _ rfl)
          have h104 : a.tmps.getD 104 undef = .agg #[.int .i64 x.a, .int .i64 x.s, .int .i64 x.e, .int .i64 x.q, .int .i64 x.h, .int .i64 x.t, .int .i64 x.u, .int .i64 x.l, .int .i64 x.m] := by simpa using p3
          have p4 := of_one (hpre ⟨4, .data⟩ (by simp) rfl _ rfl)
          have h105 : a.tmps.getD 105 undef = .int .i64 bd := by simpa using p4
          refine exec_call (f := 18) (args := #[.agg #[.slice a2 ns.length cap2], .agg #[.int .i64 x.a, .int .i64 x.s, .int .i64 x.e, .int .i64 x.q, .int .i64 x.h, .int .i64 x.t, .int .i64 x.u, .int .i64 x.l, .int .i64 x.m], .int .i64 bd]) (by simp [go_sem, Act.eval, h102, h104, h105]) ?_
          refine (HI.out a2 cap2 wq hA2 hr2).mono ?_
          rintro e w2 ⟨v', rfl, ho', hb⟩
          exact ⟨_, rfl, _, rfl, R2.of ⟨by decide, by decide⟩ hb, at_one (by omega) ⟨v', rfl, OwnC.base ho' hI.size⟩⟩
        · obtain ⟨v5, q5, ho5⟩ := of_one (hpre ⟨5, .data⟩ (by simp) rfl _ rfl)
          have h106 : a.tmps.getD 106 undef = .tuple #[.agg #[v5], .agg #[.int .i64 C.a, .int .i64 C.s, .int .i64 C.e, .int .i64 C.q, .int .i64 C.h, .int .i64 C.t, .int .i64 C.u, .int .i64 C.l, .int .i64 C.m], .int .i64 HK] := by simpa using q5
          refine exec_same (v := .tuple #[.agg #[v5], .agg #[.int .i64 C.a, .int .i64 C.s, .int .i64 C.e, .int .i64 C.q, .int .i64 C.h, .int .i64 C.t, .int .i64 C.u, .int .i64 C.l, .int .i64 C.m], .int .i64 HK]) ?_ ⟨_, rfl, R2.refl ⟨by decide, by decide⟩, at_one (by omega) ⟨_, rfl, ho5⟩⟩
          simp [go_sem, Act.eval, h106]
        · obtain ⟨v6, q6, ho6⟩ := of_one (hpre ⟨6, .data⟩ (by simp) rfl _ rfl)
          have h100 : a.tmps.getD 100 undef = .tuple #[.agg #[v6], .agg #[.int .i64 C.a, .int .i64 C.s, .int .i64 C.e, .int .i64 C.q, .int .i64 C.h, .int .i64 C.t, .int .i64 C.u, .int .i64 C.l, .int .i64 C.m], .int .i64 HK] := by simpa using q6
          refine exec_same (v := .agg #[v6]) ?_ ⟨_, rfl, R2.refl ⟨by decide, by decide⟩, at_one (by omega) ⟨_, rfl, ho6⟩⟩
          simp [go_sem, Act.eval, h100]
        · obtain ⟨v6, q6, ho6⟩ := of_one (hpre ⟨6, .data⟩ (by simp) rfl _ rfl)
          have h100 : a.tmps.getD 100 undef = .tuple #[.agg #[v6], .agg #[.int .i64 C.a, .int .i64 C.s, .int .i64 C.e, .int .i64 C.q, .int .i64 C.h, .int .i64 C.t, .int .i64 C.u, .int .i64 C.l, .int .i64 C.m], .int .i64 HK] := by simpa using q6
          refine exec_same (v := .agg #[.int .i64 C.a, .int .i64 C.s, .int .i64 C.e, .int .i64 C.q, .int .i64 C.h, .int .i64 C.t, .int .i64 C.u, .int .i64 C.l, .int .i64 C.m]) ?_ ⟨_, rfl, R2.refl ⟨by decide, by decide⟩, at_one (by omega) rfl⟩
          simp [go_sem, Act.eval, h100]
        · obtain ⟨v6, q6, ho6⟩ := of_one (hpre ⟨6, .data⟩ (by simp) rfl _ rfl)
          have h100 : a.tmps.getD 100 undef = .tuple #[.agg #[v6], .agg #[.int .i64 C.a, .int .i64 C.s, .int .i64 C.e, .int .i64 C.q, .int .i64 C.h, .int .i64 C.t, .int .i64 C.u, .int .i64 C.l, .int .i64 C.m], .int .i64 HK] := by simpa using q6
          refine exec_same (v := .int .i64 HK) ?_ ⟨_, rfl, R2.refl ⟨by decide, by decide⟩, at_one (by omega) rfl⟩
          simp [go_sem, Act.eval, h100]
        · refine exec_made (v := .pointer (some ⟨wq.heap.size, 0, none⟩)) (w' := wq.alloc (.cells #[.slice none 0 0] 39)) ?_ ⟨_, rfl, R2.of ⟨by decide, by decide⟩ ((Below.refl wq.heap.size wq).alloc (Nat.le_refl _) _), at_one (by omega) ⟨wq.heap.size, rfl, hI.size, _, heap_alloc_new _ _⟩⟩
          simp [go_sem]
        · refine exec_made (v := .pointer (some ⟨wq.heap.size, 0, none⟩)) (w' := wq.alloc (.cells #[.int .i64 0, .int .i64 0, .int .i64 0, .int .i64 0, .int .i64 0, .int .i64 0, .int .i64 0, .int .i64 0, .int .i64 0] 25)) ?_ ⟨_, rfl, R2.of ⟨by decide, by decide⟩ ((Below.refl wq.heap.size wq).alloc (Nat.le_refl _) _), at_one (by omega) ⟨wq.heap.size, rfl, hI.size, _, rfl, heap_alloc_new _ _⟩⟩
          simp [go_sem]
        · obtain ⟨g, qa, hg, u, hu⟩ := of_one (hpre ⟨10, .data⟩ (by simp) rfl _ rfl)
          have ha' : a.tmps.getD 18 undef = .pointer (some ⟨g, 0, none⟩) := by simpa using qa
          obtain ⟨v7, q7, ho7⟩ := of_one (hpre ⟨7, .data⟩ (by simp) rfl _ rfl)
          have h107 : a.tmps.getD 107 undef = .agg #[v7] := by simpa using q7
          have hcg : wq.cell? ⟨g, 0, none⟩ = some u := by rw [cell_of_row wq g 0 _ _ _ hu]; rfl
          have hfg : wq.frozen? ⟨g, 0, none⟩ = false := frozen_of_row wq g 0 _ _ hu
          obtain ⟨av9, capv9, rfl⟩ := ownC_row ho7
          have hR2 : R2 w17.heap.size 12 13 12 wq (wq.setCell ⟨g, 0, none⟩ (.slice av9 HM.length capv9)) := by unfold R2; rw [if_pos rfl]; exact ⟨g, u, _, rfl, hg, hu⟩
          refine exec_skip (w' := wq.setCell ⟨g, 0, none⟩ (.slice av9 HM.length capv9)) ?_ ⟨_, rfl, hR2, ?_⟩
          · simp [go_sem, Act.eval, ha', h107, hcg, hfg]
          · exact ⟨g, _, by show [a.tmps.getD 18 undef, a.tmps.getD 107 undef] = _; rw [ha', h107], hg, (heap_setCell_same wq g 0 _ _ _ hu).trans rfl, hR2.ownC ho7⟩
        · obtain ⟨g, qa, hg, old, h9, hu⟩ := of_one (hpre ⟨11, .data⟩ (by simp) rfl _ rfl)
          have ha' : a.tmps.getD 19 undef = .pointer (some ⟨g, 0, none⟩) := by simpa using qa
          have p8 := of_one (hpre ⟨8, .data⟩ (by simp) rfl _ rfl)
          have h108 : a.tmps.getD 108 undef = .agg #[.int .i64 C.a, .int .i64 C.s, .int .i64 C.e, .int .i64 C.q, .int .i64 C.h, .int .i64 C.t, .int .i64 C.u, .int .i64 C.l, .int .i64 C.m] := by simpa using p8
          have hR2 : R2 w17.heap.size 12 13 13 wq (wq.setRow g #[.int .i64 C.a, .int .i64 C.s, .int .i64 C.e, .int .i64 C.q, .int .i64 C.h, .int .i64 C.t, .int .i64 C.u, .int .i64 C.l, .int .i64 C.m]) := by unfold R2; rw [if_neg (by decide), if_pos rfl]; exact ⟨g, old, _, rfl, hg, rfl, hu⟩
          refine exec_skip (w' := wq.setRow g #[.int .i64 C.a, .int .i64 C.s, .int .i64 C.e, .int .i64 C.q, .int .i64 C.h, .int .i64 C.t, .int .i64 C.u, .int .i64 C.l, .int .i64 C.m]) (exec_storeRow 25 (.tmp 19) (.tmp 108) rfl g #[.int .i64 C.a, .int .i64 C.s, .int .i64 C.e, .int .i64 C.q, .int .i64 C.h, .int .i64 C.t, .int .i64 C.u, .int .i64 C.l, .int .i64 C.m] ha' h108 25 old hu chanSize h9 (by simp [Value.oneCell'])) ⟨_, rfl, hR2, ?_⟩
          exact ⟨g, by show [a.tmps.getD 19 undef] = _; rw [ha'], hg, setRow_heap _ _ _ _ _ _ hu⟩
        · have p9 := of_one (hpre ⟨9, .data⟩ (by simp) rfl _ rfl)
          have h109 : a.tmps.getD 109 undef = .int .i64 HK := by simpa using p9
          refine exec_same (v := .int .i64 HK) ?_ ⟨_, rfl, R2.refl ⟨by decide, by decide⟩, at_one (by omega) rfl⟩
          simp [go_sem, Act.eval, h109]
      case fin =>
        intro zs w18 hzl hI hF
        obtain ⟨z0, z1, z2, z3, z4, z5, z6, z7, z8, z9, z10, z11, z12, z13, z14, rfl⟩ := list15s zs hzl
        obtain ⟨gP, vh, hst, hgA_, hbox, hown⟩ := of_two (hF 12 _ rfl)
        obtain ⟨gQ, hsc, hgC_, hbc⟩ := of_one (hF 13 _ rfl)
        have hint := of_one (hF 14 _ rfl)
        simp only [List.cons.injEq, and_true] at hst hint hsc
        have hs1 := last_is (i := 10) (v := z10) (n := 133) hst.1 (by kernel_rfl) rfl rfl (by omega)
        have hs2 := last_is (i := 7) (v := z7) (n := 133) hst.2 (by kernel_rfl) rfl rfl (by omega)
        have hs4 := last_is (i := 11) (v := z11) (n := 133) hsc (by kernel_rfl) rfl rfl (by omega)
        have hs3 := last_is (i := 14) (v := z14) (n := 133) hint (by kernel_rfl) rfl rfl (by omega)
        clear hst hint hsc
        subst hs1 hs2 hs3 hs4
        clear hF
        simp only [putAll, Act.put, List.setIfInBounds_toArray, List.set_cons_succ, List.set_cons_zero]
        obtain ⟨avh, caph, pch, rfl, hAh, hown⟩ := hown
        have OH_18 := Own.made hown
        have BH_18 : Var gP (.slice avh HM.length caph) w18 := ⟨(Array.getElem?_eq_some_iff.1 hbox).1, (cell_of_row w18 gP 0 _ _ _ hbox).trans rfl⟩
        have CH_18 : ChIn gQ C w18 := ChIn.of hbc
        have O0_18 := O0_17.next hI
        have B0_18 := B0_17.next hI
        have C0_18 := C0_17.next hI
        have AV_18 := AV_17.next hI
        have AN_18 := AN_17.next hI
        have AI_18 := AI_17.next hI
        have BG_18 := BG_17.next hI
        have CG_18 := CG_17.next hI
        have OM_18 := OM_17.next hI
        have HB18 : Hid (Below w.heap.size w w18) := HB17.out.trans (hI.mono HB17.out.size)
        clear HB17 O0_17 B0_17 C0_17 AV_17 AN_17 AI_17 BG_17 CG_17 OM_17
        clear hown hbox hbc hI AVr ANr AIr
        have q0 := BH_18.c
        have q1 := B0_18.c
        go_wp2_with fail
        refine (eqArena_same avh av0 caph cap0 HM w18 (by have := HPL.out; omega) OH_18.rowAt O0_18.rowAt).mono ?_
        rintro e w19 ⟨rfl, hb⟩
        have O0_19 := O0_18.next hb
        have B0_19 := B0_18.next hb
        have C0_19 := C0_18.next hb
        have AV_19 := AV_18.next hb
        have AN_19 := AN_18.next hb
        have AI_19 := AI_18.next hb
        have BG_19 := BG_18.next hb
        have CG_19 := CG_18.next hb
        have OM_19 := OM_18.next hb
        have OH_19 := OH_18.next hb
        have BH_19 := BH_18.next hb
        have CH_19 := CH_18.next hb
        have HB19 : Hid (Below w.heap.size w w19) := HB18.out.trans (hb.mono HB18.out.size)
        clear HB18 O0_18 B0_18 C0_18 AV_18 AN_18 AI_18 BG_18 CG_18 OM_18 OH_18 BH_18 CH_18
        clear hb q0 q1
        have y0 := CH_19.c0
        have y1 := CH_19.c1
        have y2 := CH_19.c2
        have y3 := CH_19.c3
        have y4 := CH_19.c4
        have y5 := CH_19.c5
        have y6 := CH_19.c6
        have y7 := CH_19.c7
        have y8 := CH_19.c8
        have z0 := C0_19.c0
        have z1 := C0_19.c1
        have z2 := C0_19.c2
        have z3 := C0_19.c3
        have z4 := C0_19.c4
        have z5 := C0_19.c5
        have z6 := C0_19.c6
        have z7 := C0_19.c7
        have z8 := C0_19.c8
        go_wp2_with fail
        clear y0 z0 y1 z1 y2 z2 y3 z3 y4 z4 y5 z5 y6 z6 y7 z7 y8 z8
        refine (eqChan_same C w19).mono ?_
        rintro e w20 ⟨rfl, hb⟩
        have O0_20 := O0_19.next hb
        have B0_20 := B0_19.next hb
        have C0_20 := C0_19.next hb
        have AV_20 := AV_19.next hb
        have AN_20 := AN_19.next hb
        have AI_20 := AI_19.next hb
        have BG_20 := BG_19.next hb
        have CG_20 := CG_19.next hb
        have OM_20 := OM_19.next hb
        have OH_20 := OH_19.next hb
        have BH_20 := BH_19.next hb
        have CH_20 := CH_19.next hb
        have HB20 : Hid (Below w.heap.size w w20) := HB19.out.trans (hb.mono HB19.out.size)
        clear HB19 O0_19 B0_19 C0_19 AV_19 AN_19 AI_19 BG_19 CG_19 OM_19 OH_19 BH_19 CH_19
        clear hb
        have q0 := BG_20.c
        go_wp2_with fail
        refine (heldArena_any 1 avg HM.length capg w20 (by have := HPL.out; omega) (by omega) OM_20.rowAt).mono ?_
        rintro e w21 ⟨rfl, hb⟩
        have HB21 : Hid (Below w.heap.size w w21) := HB20.out.trans (hb.mono HB20.out.size)
        clear hb HB20 q0
        go_wp2
        go_ret
        exact ⟨rfl, HB21.out⟩

theorem laidOut : laidOutB Try.prog = true := by kernel_rfl
set_option maxRecDepth 100000 in
theorem lifted (os : Os) (started : os.Started) (H : Type) (enc : TypeId × Value → H) :
    ReturnsInHanded {} Try.checked os 5 .any (Rows.fnExactSayOnSpec.pre6 enc Try.prog Try.f5 Rows.fnExactSayOnRow.domain false) (Rows.fnExactSayOnSpec.post enc Try.prog Try.f5 false true false false) := by
  refine returnsInHanded_of_change (C := Try.checked) own started (by kernel_rfl) Try.func5
    (ChangeSpec.witness6 (enc := enc) (C := Try.checked) false ⟨#[], #[.agg #[.slice none 0 0], .agg #[.int .i64 0, .int .i64 0, .int .i64 0, .int .i64 0, .int .i64 0, .int .i64 0, .int .i64 0, .int .i64 0, .int .i64 0], .int .i64 0], []⟩ 8 (by kernel_rfl) (by kernel_rfl) (by kernel_rfl) (by kernel_rfl)) ?_
  intro W base args ds gs before hval0 hW hcnd _
  have hval : ∀ (j : Nat) t v, Try.f5.params[j]? = some t → args[j]? = some v → Value.okWide Try.prog W .any base t v := hval0
  have hW' := hW
  obtain ⟨p, q, hA0, hV, rfl, hfz, hnd⟩ := hW
  have hA : DataW.TrodAll enc Try.prog W 0 (fun _ => true) true Try.f5.params.toList args.toList ds p := hA0
  rw [Try.params5] at hA hval
  obtain ⟨v0, vs0, d0, ds0, p0, q0, hargs, rfl, rfl, h0, r0⟩ := trodAll_cons hA
  obtain ⟨v1, vs1, d1, ds1, p1, q1, rfl, rfl, rfl, h1, r1⟩ := trodAll_cons r0
  obtain ⟨v2, vs2, d2, ds2, p2, q2, rfl, rfl, rfl, h2, r2⟩ := trodAll_cons r1
  obtain ⟨rfl, rfl, rfl⟩ := trodAll_nil r2
  obtain rfl : args = #[v0, v1, v2] := by cases args; simp_all
  obtain ⟨rfl, rfl⟩ := trodVars_none hV
  have k0 := h0
  have lt0 : ∀ x ∈ p0, x.block < W.heap.size := by obtain ⟨m, hm⟩ := k0; exact DataW.trod_lt m _ _ _ hm
  obtain ⟨a0, c0, n0, rfl, w0, rn0, f0⟩ := arena_of (hval 0 31 v0 rfl rfl) h0
  have k1 := h1
  have lt1 : ∀ x ∈ p1, x.block < W.heap.size := by obtain ⟨m, hm⟩ := k1; exact DataW.trod_lt m _ _ _ hm
  obtain ⟨a1, rfl, w1⟩ := chan_of (hval 1 34 v1 rfl rfl) h1
  obtain ⟨a2, rfl, rfl, rfl, w2⟩ := open_int Try.underlying3 (hval 2 3 v2 rfl rfl) h2
  clear hA0 hval0
  refine (walk a0 c0 n0 a1 a2 w0 f0 w1 w2 W rn0).mono fun e W' ⟨he, bel⟩ => ?_
  subst he
  exact ⟨_, rfl, _, _, _, [], _, [], hW', trodAll_mk1 (shut_bool Try.underlying4 _), (trodAll_cons_mk (Below.trod laidOut (by kernel_rfl) (of_decide_eq_true (by kernel_rfl)) k0 bel lt0) (trodAll_cons_mk (Below.trod laidOut (by kernel_rfl) (of_decide_eq_true (by kernel_rfl)) k1 bel lt1) (trodAll_cons_mk (shut_int Try.underlying3 w2) trodAll_mk0))), rfl, bel.frame _, fun h => by cases h⟩

theorem over : Rows.fnExactSayOnRow.holds Try.pinned (OpenSpec.ofChange Rows.fnExactSayOnSpec) :=
  OpenClaim.holds_of_wide 5 Try.f5 rfl rfl rfl rfl rfl rfl rfl ⟨rfl, rfl, rfl, rfl, rfl⟩ rfl rfl rfl rfl rfl (by kernel_rfl) Try.func5 (by kernel_rfl)
    (of_decide_eq_true (by kernel_rfl)) (by unfold Func.isWrapper; first | (rw [if_pos (by decide +kernel)]; kernel_rfl) | (rw [if_neg (by decide +kernel)]; exact ⟨rfl, rfl⟩))
    (fun os started H enc _ => lifted os started H enc)
end fnExactSayOn

theorem fnExactSayOn_holds : Rows.FnExactSayOnSaid := fnExactSayOn.over
#print axioms fnExactSayOn_holds
end Go.Proofs.Ytnjihmailppjkaa
