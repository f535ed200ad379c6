/- The contract of chapter 4's DhOf, the program's. -/
import Derived.Test.YtodpfdjlhbjlgaaDhNode
import Derived.WalkKit
import Derived.WalkLawsBesides
import Derived.WalkSpells
import Derived.Laws.Rows
namespace Go.Proofs.Ytodpfdjlhbjlgaa
open Go.RowKit Go.PlainAid
set_option linter.unusedVariables false
set_option maxHeartbeats 3200000 in
set_option maxRecDepth 20000 in
theorem implDh_any (a : Option Addr) (cap : Nat) (ns : List Nd) (x pub : Int) (w : World) (hl : ns.length ≤ 1048576) (ha : AddrN a cap) (hr : RowN w.heap.size w a ns) :
    Calls Try.prog 42 #[.agg #[.slice a ns.length cap], .int .i64 x, .int .i64 pub] w fun e w' => ∃ v, e = .returned (.tuple #[.agg #[v], .int .i64 (dhK ns x pub)]) ∧ OwnN w.heap.size w' v (dhA ns x pub) ∧ Below w.heap.size w w' := by
  have hb0 : Below w.heap.size w ((w.alloc (.cells #[.slice a ns.length cap] 26)).alloc (.cells #[.slice none 0 0] 26)) := ((Below.refl _ _).alloc (Nat.le_refl _) _).alloc (by simp) _
  have hs0 : ((w.alloc (.cells #[.slice a ns.length cap] 26)).alloc (.cells #[.slice none 0 0] 26)).heap.size = w.heap.size + 2 := by simp
  have hA0 : ((w.alloc (.cells #[.slice a ns.length cap] 26)).alloc (.cells #[.slice none 0 0] 26)).heap[w.heap.size]? = some (.cells #[.slice a ns.length cap] 26 (0, 0)) := (heap_alloc_old _ _ (by simp)).trans (heap_alloc_new w _)
  have hr0 : ((w.alloc (.cells #[.slice a ns.length cap] 26)).alloc (.cells #[.slice none 0 0] 26)).heap[w.heap.size + 1]? = some (.cells #[.slice none 0 0] 26 (0, 0)) := by
    have := heap_alloc_new (w.alloc (.cells #[.slice a ns.length cap] 26)) (.cells #[.slice none 0 0] 26)
    simpa using this
  have c0 : ((w.alloc (.cells #[.slice a ns.length cap] 26)).alloc (.cells #[.slice none 0 0] 26)).cell? ⟨w.heap.size, 0, none⟩ = some (.slice a ns.length cap) := (cell_of_row _ _ 0 _ _ _ hA0).trans rfl
  rw [← (dhM_put ns x pub).1, ← (dhM_put ns x pub).2]
  have HD0 : ∀ wq, Below w.heap.size w wq → Calls Try.prog 98 #[.agg #[.slice a ns.length cap], .int .i64 x, .int .i64 pub] wq fun e w' => e = .returned (.agg #[.int .i64 (dhM ns x pub).k, .int .i64 (dhM ns x pub).n, .int .i64 (dhM ns x pub).a, .int .i64 (dhM ns x pub).b]) ∧ Below wq.heap.size wq w' := fun wq hq => dhNode_any a cap ns x pub wq hl (hr.grown hq)
  have HC0 : ∀ wq, Below w.heap.size w wq → Calls Try.prog 18 #[.agg #[.slice a ns.length cap], .agg #[.int .i64 (dhM ns x pub).k, .int .i64 (dhM ns x pub).n, .int .i64 (dhM ns x pub).a, .int .i64 (dhM ns x pub).b]] wq fun e w' => ∃ v, e = .returned (.tuple #[.agg #[v], .int .i64 (putK ns (dhM ns x pub))]) ∧ OwnN wq.heap.size w' v (putA ns (dhM ns x pub)) ∧ Below wq.heap.size wq w' := fun wq hq => implPut_any a cap ns (dhM ns x pub) wq hl ha (hr.grown hq)
  generalize dhM ns x pub = y at HD0 HC0 ⊢
  generalize putA ns y = ms at HC0 ⊢
  generalize putK ns y = kk at HC0 ⊢
  have HD : Hid _ := HD0
  have HC : Hid _ := HC0
  clear hr ha HD0 HC0
  go_enter Try.func42, Try.ntmps42
  go_wp2_with fail
  generalize (w.alloc (.cells #[.slice a ns.length cap] 26)).alloc (.cells #[.slice none 0 0] 26) = w0 at hb0 hs0 hA0 hr0 c0 ⊢
  have hI0 := hb0
  have hR0 := hr0
  have HAB : Hid (w0.heap[w.heap.size]? = some (.cells #[.slice a ns.length cap] 26 (0, 0))) := hA0
  clear c0 hr0 hA0
  refine wp_region_list (I := fun w' => Below w.heap.size w w' ∧ w'.heap[w.heap.size]? = some (.cells #[.slice a ns.length cap] 26 (0, 0)) ∧ (∃ u, w'.heap[w.heap.size + 1]? = some (.cells #[u] 26 (0, 0)))) (R := fun i w' w'' => Rst w.heap.size 8 i w' w'' ∧ (w'.heap[w.heap.size]? = some (.cells #[.slice a ns.length cap] 26 (0, 0)) → w''.heap[w.heap.size]? = some (.cells #[.slice a ns.length cap] 26 (0, 0))))
    (fs := #[⟨[8], fun vs _ => vs = [.agg #[.slice a ns.length cap]]⟩, ⟨[9], fun vs _ => vs = [.agg #[.slice a ns.length cap]]⟩, ⟨[10], fun vs _ => vs = [.int .i64 x]⟩, ⟨[11], fun vs _ => vs = [.int .i64 pub]⟩, ⟨[12], fun vs _ => vs = [.agg #[.int .i64 y.k, .int .i64 y.n, .int .i64 y.a, .int .i64 y.b]]⟩, ⟨[13], fun vs w' => ∃ v, vs = [.tuple #[.agg #[v], .int .i64 (kk)]] ∧ OwnN w.heap.size w' v (ms)⟩, ⟨[14], fun vs w' => ∃ v, vs = [.agg #[v]] ∧ OwnN w.heap.size w' v (ms)⟩, ⟨[15], fun vs _ => vs = [.int .i64 (kk)]⟩, ⟨[14], fun vs w' => ∃ v, vs = [.agg #[v]] ∧ w'.heap[w.heap.size + 1]? = some (.cells #[v] 26 (0, 0)) ∧ OwnN w.heap.size w' v (ms)⟩, ⟨[7], fun vs _ => vs = [.int .i64 (kk)]⟩])
    (by kernel_rfl) 16 rfl (by kernel_rfl) ?stab ?istab ?start ?exec ?fin
  case stab =>
    intro k i f hki hf
    have hk : k < 10 := (Array.getElem?_eq_some_iff.1 hf).1
    rcases (show k = 0 ∨ k = 1 ∨ k = 2 ∨ k = 3 ∨ k = 4 ∨ k = 5 ∨ k = 6 ∨ k = 7 ∨ k = 8 ∨ k = 9 by omega) with rfl | rfl | rfl | rfl | rfl | rfl | rfl | rfl | rfl | rfl
    all_goals
      simp only [List.getElem?_toArray, List.getElem?_cons_succ, List.getElem?_cons_zero, Option.some.injEq] at hf
      subst hf
    · exact fun vs _ _ _ h => h
    · exact fun vs _ _ _ h => h
    · exact fun vs _ _ _ h => h
    · exact fun vs _ _ _ h => h
    · exact fun vs _ _ _ h => h
    · exact fun vs w' w'' hR ⟨v, h1, h2⟩ => ⟨v, h1, hR.1.own h2⟩
    · exact fun vs w' w'' hR ⟨v, h1, h2⟩ => ⟨v, h1, hR.1.own h2⟩
    · exact fun vs _ _ _ h => h
    · exact fun vs w' w'' hR ⟨v, h1, h3, h4⟩ => ⟨v, h1, ((hR.1.other (Ne.symm hki)).block _ (Array.getElem?_eq_some_iff.1 h3).1).trans h3, hR.1.own h4⟩
    · exact fun vs _ _ _ h => h
  case istab => exact fun i w' w'' hR h => ⟨Rst.inv (Nat.le_refl _) hR.1 h.1, hR.2 h.2.1, hR.1.box h.2.2⟩
  case start => exact ⟨hI0.drew, HAB.out, ⟨_, hR0⟩⟩
  case exec =>
    intro i o f hi hf a_1 wq hsz hI hold hpre
    have hi11 : i < 10 := (Array.getElem?_eq_some_iff.1 hi).1
    rcases (show i = 0 ∨ i = 1 ∨ i = 2 ∨ i = 3 ∨ i = 4 ∨ i = 5 ∨ i = 6 ∨ i = 7 ∨ i = 8 ∨ i = 9 by omega) with rfl | rfl | rfl | rfl | rfl | rfl | rfl | rfl | rfl | rfl
    all_goals
      simp only [List.getElem?_toArray, List.getElem?_cons_succ, List.getElem?_cons_zero, Option.some.injEq] at hi hf
      subst hi hf
    · have h2 : a_1.tmps.getD 3 undef = .pointer (some ⟨w.heap.size, 0, none⟩) := hold 3 (free_spec (by kernel_rfl))
      have hc : wq.cell? ⟨w.heap.size, 0, none⟩ = some (.slice a ns.length cap) := (cell_of_row wq _ 0 _ _ _ hI.2.1).trans rfl
      refine exec_same (v := .agg #[.slice a ns.length cap]) ?_ ⟨_, rfl, ⟨Rst.refl (by decide), fun h => h⟩, at_one (by omega) rfl⟩
      simp [go_sem, Act.eval, h2, hc]
    · have h2 : a_1.tmps.getD 3 undef = .pointer (some ⟨w.heap.size, 0, none⟩) := hold 3 (free_spec (by kernel_rfl))
      have hc : wq.cell? ⟨w.heap.size, 0, none⟩ = some (.slice a ns.length cap) := (cell_of_row wq _ 0 _ _ _ hI.2.1).trans rfl
      refine exec_same (v := .agg #[.slice a ns.length cap]) ?_ ⟨_, rfl, ⟨Rst.refl (by decide), fun h => h⟩, at_one (by omega) rfl⟩
      simp [go_sem, Act.eval, h2, hc]
    · have h2 : a_1.tmps.getD 1 undef = .int .i64 x := hold 1 (free_spec (by kernel_rfl))
      refine exec_same (v := .int .i64 x) ?_ ⟨_, rfl, ⟨Rst.refl (by decide), fun h => h⟩, at_one (by omega) rfl⟩
      simp [go_sem, Act.eval, h2]
    · have h2 : a_1.tmps.getD 2 undef = .int .i64 pub := hold 2 (free_spec (by kernel_rfl))
      refine exec_same (v := .int .i64 pub) ?_ ⟨_, rfl, ⟨Rst.refl (by decide), fun h => h⟩, at_one (by omega) rfl⟩
      simp [go_sem, Act.eval, h2]
    · have g9 : a_1.tmps.getD 9 undef = .agg #[.slice a ns.length cap] := by have := of_one (hpre ⟨1, .data⟩ (by simp) rfl _ rfl); simpa using this
      have g10 : a_1.tmps.getD 10 undef = .int .i64 x := by have := of_one (hpre ⟨2, .data⟩ (by simp) rfl _ rfl); simpa using this
      have g11 : a_1.tmps.getD 11 undef = .int .i64 pub := by have := of_one (hpre ⟨3, .data⟩ (by simp) rfl _ rfl); simpa using this
      refine exec_call (f := 98) (args := #[.agg #[.slice a ns.length cap], .int .i64 x, .int .i64 pub]) (by simp [go_sem, Act.eval, g9, g10, g11]) ?_
      refine (HD.out wq hI.1).mono ?_
      rintro e w2 ⟨rfl, hb⟩
      exact ⟨_, rfl, _, rfl, ⟨Rst.of (by decide) hb, fun h => (hb.block _ (Array.getElem?_eq_some_iff.1 h).1).trans h⟩, at_one (by omega) rfl⟩
    · have g8 : a_1.tmps.getD 8 undef = .agg #[.slice a ns.length cap] := by have := of_one (hpre ⟨0, .data⟩ (by simp) rfl _ rfl); simpa using this
      have g12 : a_1.tmps.getD 12 undef = .agg #[.int .i64 y.k, .int .i64 y.n, .int .i64 y.a, .int .i64 y.b] := by have := of_one (hpre ⟨4, .data⟩ (by simp) rfl _ rfl); simpa using this
      refine exec_call (f := 18) (args := #[.agg #[.slice a ns.length cap], .agg #[.int .i64 y.k, .int .i64 y.n, .int .i64 y.a, .int .i64 y.b]]) (by simp [go_sem, Act.eval, g8, g12]) ?_
      refine (HC.out wq hI.1).mono ?_
      rintro e w2 ⟨v', rfl, ho', hb⟩
      exact ⟨_, rfl, _, rfl, ⟨Rst.of (by decide) hb, fun h => (hb.block _ (Array.getElem?_eq_some_iff.1 h).1).trans h⟩, at_one (by omega) ⟨v', rfl, OwnN.base ho' hI.1.size⟩⟩
    · obtain ⟨v, h21, ho⟩ := of_one (hpre ⟨5, .data⟩ (by simp) rfl _ rfl)
      have h21' : a_1.tmps.getD 13 undef = .tuple #[.agg #[v], .int .i64 (kk)] := by simpa using h21
      refine exec_same (v := .agg #[v]) ?_ ⟨_, rfl, ⟨Rst.refl (by decide), fun h => h⟩, at_one (by omega) ⟨v, rfl, ho⟩⟩
      simp [go_sem, Act.eval, h21']
    · obtain ⟨v, h21, ho⟩ := of_one (hpre ⟨5, .data⟩ (by simp) rfl _ rfl)
      have h21' : a_1.tmps.getD 13 undef = .tuple #[.agg #[v], .int .i64 (kk)] := by simpa using h21
      refine exec_same (v := .int .i64 (kk)) ?_ ⟨_, rfl, ⟨Rst.refl (by decide), fun h => h⟩, at_one (by omega) rfl⟩
      simp [go_sem, Act.eval, h21']
    · obtain ⟨v, h27, ho⟩ := of_one (hpre ⟨6, .data⟩ (by simp) rfl _ rfl)
      have h6' : a_1.tmps.getD 6 undef = .pointer (some ⟨w.heap.size + 1, 0, none⟩) := hold 6 (free_spec (by kernel_rfl))
      have h27' : a_1.tmps.getD 14 undef = .agg #[v] := by simpa using h27
      obtain ⟨u, hu⟩ := hI.2.2
      have hcg : wq.cell? ⟨w.heap.size + 1, 0, none⟩ = some u := by rw [cell_of_row wq _ 0 _ _ _ hu]; rfl
      have hfg : wq.frozen? ⟨w.heap.size + 1, 0, none⟩ = false := frozen_of_row wq _ 0 _ _ hu
      obtain ⟨av, capv, rfl, _, _⟩ := ho.row
      refine exec_skip (w' := wq.setCell ⟨w.heap.size + 1, 0, none⟩ (.slice av (ms).length capv)) ?_ ⟨_, rfl, ?_, ?_⟩
      · simp [go_sem, Act.eval, h6', h27', hcg, hfg]
      · refine ⟨?_, fun h => (Below.heap_setCell _ _ _ _ (by simp)).trans h⟩; unfold Rst; rw [if_pos rfl]; exact ⟨w.heap.size + 1, u, _, rfl, by omega, hu⟩
      · exact ⟨_, by show [a_1.tmps.getD 14 undef] = _; rw [h27'], (heap_setCell_same wq _ 0 _ _ _ hu).trans rfl, own_store ho hu⟩
    · have h28 : a_1.tmps.getD 15 undef = .int .i64 (kk) := by have := of_one (hpre ⟨7, .data⟩ (by simp) rfl _ rfl); simpa using this
      refine exec_same (v := .int .i64 (kk)) ?_ ⟨_, rfl, ⟨Rst.refl (by decide), fun h => h⟩, at_one (by omega) rfl⟩
      simp [go_sem, Act.eval, h28]
  case fin =>
    intro zs w5 hzl hI hF
    obtain ⟨z0, z1, z2, z3, z4, z5, z6, z7, z8, z9, rfl⟩ := list10 zs hzl
    obtain ⟨v1, hst, hbox, hown⟩ := of_one (hF 8 _ rfl)
    have hint := of_one (hF 9 _ rfl)
    simp only [List.cons.injEq, and_true] at hst hint
    have hs2 := last_is (i := 6) (v := z6) (n := 16) hst (by kernel_rfl) rfl rfl (by omega)
    have hs3 := last_is (i := 9) (v := z9) (n := 16) hint (by kernel_rfl) rfl rfl (by omega)
    clear hst hint
    subst hs2 hs3
    clear hF
    simp only [putAll, Act.put, List.setIfInBounds_toArray, List.set_cons_succ, List.set_cons_zero]
    obtain ⟨a1, cap1, rfl, _, _⟩ := hown.row
    go_wp2
    refine bodyPost_ret (res_cell2 rfl _ _ (w.heap.size + 1) 26 #[.slice a1 (ms).length cap1] (0, 0) _ rfl ?_ Try.underlying26 rfl arenaSize) rfl ?_
    · exact hbox
    · exact ⟨_, rfl, hown, hI.1⟩
end Go.Proofs.Ytodpfdjlhbjlgaa
