/- The program's first words (chapter 11), told: Hello.asTold, serverWords.asTold. -/
import Derived.Test.YtlecpjgeaigjkaaTold8
import Derived.Test.YtlecpjgeaigjkaaHello11
import Derived.Test.YtlecpjgeaigjkaaLawClip
import Derived.OpenShut
import Derived.Test.YtlecpjgeaigjkaaRegionK
import Derived.Test.YtlecpjgeaigjkaaRegionA
namespace Go.Proofs.Ytlecpjgeaigjkaa
open Go.RowKit Go.Maps
set_option linter.unusedVariables false
theorem zl10 {α : Type} (l : List α) (h : l.length = 10) : ∃ a0 a1 a2 a3 a4 a5 a6 a7 a8 a9, l = [a0, a1, a2, a3, a4, a5, a6, a7, a8, a9] := by
  match l, h with
  | [a0, a1, a2, a3, a4, a5, a6, a7, a8, a9], _ => exact ⟨a0, a1, a2, a3, a4, a5, a6, a7, a8, a9, rfl⟩
theorem zl16 {α : Type} (l : List α) (h : l.length = 16) : ∃ a0 a1 a2 a3 a4 a5 a6 a7 a8 a9 a10 a11 a12 a13 a14 a15, l = [a0, a1, a2, a3, a4, a5, a6, a7, a8, a9, a10, a11, a12, a13, a14, a15] := by
  match l, h with
  | [a0, a1, a2, a3, a4, a5, a6, a7, a8, a9, a10, a11, a12, a13, a14, a15], _ => exact ⟨a0, a1, a2, a3, a4, a5, a6, a7, a8, a9, a10, a11, a12, a13, a14, a15, rfl⟩
set_option maxHeartbeats 3200000 in
set_option maxRecDepth 20000 in
theorem svTold_any {L : Nat} (no pu : Int) (w : World) (hL : L ≤ w.heap.size)  :
    Calls Try.prog 51 #[.agg #[.int .i64 no, .int .i64 pu]] w (ToldP L (.list [.atom 62, .pl no, .pl pu]) w) := by
  have hb0 : Below w.heap.size w (w.alloc (.cells #[.int .i64 no, .int .i64 pu] 80)) := (Below.refl _ _).alloc (Nat.le_refl _) _
  have h0 := heap_alloc_new w (.cells #[.int .i64 no, .int .i64 pu] 80)
  have HI : Hid ((w.alloc (.cells #[.int .i64 no, .int .i64 pu] 80)).heap[w.heap.size]? = some (.cells #[.int .i64 no, .int .i64 pu] 80 (0, 0)) ∧ w.heap.size < (w.alloc (.cells #[.int .i64 no, .int .i64 pu] 80)).heap.size ∧ Below w.heap.size w (w.alloc (.cells #[.int .i64 no, .int .i64 pu] 80))) := ⟨h0, by simp, hb0⟩
  clear h0 hb0
  go_enter Try.func51, Try.ntmps51
  go_wp2_with fail
  generalize w.alloc (.cells #[.int .i64 no, .int .i64 pu] 80) = w1 at HI ⊢
  refine wp_region_list (I := fun w' => w'.heap[w.heap.size]? = some (.cells #[.int .i64 no, .int .i64 pu] 80 (0, 0)) ∧ w.heap.size < w'.heap.size ∧ Below w.heap.size w w') (R := fun _ w' w'' => Below w'.heap.size w' w'')
    (fs := #[⟨[3], fun vs w' => ∃ v, vs = [v] ∧ ToldIs L w'.heap.size w' (.atom 62) v⟩, ⟨[4], fun vs _ => vs = [.pointer (some ⟨w.heap.size, 0, none⟩)]⟩, ⟨[5], fun vs _ => vs = [.int .i64 no]⟩, ⟨[6], fun vs w' => ∃ v, vs = [v] ∧ ToldIs L w'.heap.size w' (.pl no) v⟩, ⟨[7], fun vs _ => vs = [.pointer (some ⟨w.heap.size, 1, none⟩)]⟩, ⟨[8], fun vs _ => vs = [.int .i64 pu]⟩, ⟨[9], fun vs w' => ∃ v, vs = [v] ∧ ToldIs L w'.heap.size w' (.pl pu) v⟩, ⟨[10], fun vs w' => ∃ h u0 u3 u6, vs = [.slice (some ⟨h, 0, none⟩) 3 3] ∧ (L ≤ h ∧ h < w'.heap.size) ∧ w'.heap[h]? = some (.cells #[u0, u3, u6] 73 (0, 0)) ∧ ToldAll L w'.heap.size w' [.atom 62, .pl no, .pl pu] [u0, u3, u6]⟩, ⟨[11], fun vs w' => ∃ v, vs = [v] ∧ ToldIs L w'.heap.size w' (.list [.atom 62, .pl no, .pl pu]) v⟩, ⟨[2], fun vs w' => ∃ v, vs = [v] ∧ ToldIs L w'.heap.size w' (.list [.atom 62, .pl no, .pl pu]) v⟩])
    (by kernel_rfl) 12 rfl (by kernel_rfl) ?stab ?istab ?start ?exec ?fin
  case stab =>
    intro k i f hki hf
    have hk : k < 10 := (Array.getElem?_eq_some_iff.1 hf).1
    rcases (show k = 0 ∨ k = 1 ∨ k = 2 ∨ k = 3 ∨ k = 4 ∨ k = 5 ∨ k = 6 ∨ k = 7 ∨ k = 8 ∨ k = 9 by omega) with rfl | rfl | rfl | rfl | rfl | rfl | rfl | rfl | rfl | rfl
    all_goals
      simp only [List.getElem?_toArray, List.getElem?_cons_succ, List.getElem?_cons_zero, Option.some.injEq] at hf
      subst hf
    · exact fun vs w' w'' hR ⟨v, h1, h2⟩ => ⟨v, h1, ToldIs.nx hR h2⟩
    · exact fun vs _ _ _ h => h
    · exact fun vs _ _ _ h => h
    · exact fun vs w' w'' hR ⟨v, h1, h2⟩ => ⟨v, h1, ToldIs.nx hR h2⟩
    · exact fun vs _ _ _ h => h
    · exact fun vs _ _ _ h => h
    · exact fun vs w' w'' hR ⟨v, h1, h2⟩ => ⟨v, h1, ToldIs.nx hR h2⟩
    · exact fun vs w' w'' hR ⟨h, u0, u3, u6, h1, h2, h3, h4⟩ => ⟨h, u0, u3, u6, h1, ⟨h2.1, by have := Below.size hR; omega⟩, (Below.block hR h h2.2).trans h3, ⟨h4.1, fun m hm => ToldIs.nx hR (h4.2 m hm)⟩⟩
    · exact fun vs w' w'' hR ⟨v, h1, h2⟩ => ⟨v, h1, ToldIs.nx hR h2⟩
    · exact fun vs w' w'' hR ⟨v, h1, h2⟩ => ⟨v, h1, ToldIs.nx hR h2⟩
  case istab => exact fun i w' w'' hR ⟨h1, h3, h4⟩ => ⟨(Below.block hR _ h3).trans h1, by have := Below.size hR; omega, h4.trans (Below.mono hR (by omega))⟩
  case start => exact ⟨HI.out.1, HI.out.2.1, HI.out.2.2.drew⟩
  case exec =>
    intro i o f hi hf act wq hsz hI hold hpre
    have hi11 : i < 10 := (Array.getElem?_eq_some_iff.1 hi).1
    rcases (show i = 0 ∨ i = 1 ∨ i = 2 ∨ i = 3 ∨ i = 4 ∨ i = 5 ∨ i = 6 ∨ i = 7 ∨ i = 8 ∨ i = 9 by omega) with rfl | rfl | rfl | rfl | rfl | rfl | rfl | rfl | rfl | rfl
    all_goals
      simp only [List.getElem?_toArray, List.getElem?_cons_succ, List.getElem?_cons_zero, Option.some.injEq] at hi hf
      subst hi hf
    · refine exec_call (f := 78) (args := #[.int .i64 62]) (by simp [go_sem, Act.eval]) ?_
      refine Calls.mono (toldAtom_any (L := L) 62 wq (by have := hI.2.1; omega)) ?_
      rintro e w2 ⟨v2, rfl, l2, hb2⟩
      exact ⟨_, rfl, _, rfl, hb2, ⟨_, by show [(act.put _ _).tmps.getD _ undef] = _; rw [put_same _ _ _ (by omega)], l2⟩⟩
    · have g1 : act.tmps.getD 1 undef = .pointer (some ⟨w.heap.size, 0, none⟩) := hold 1 (free_spec (by kernel_rfl))
      refine exec_same (v := .pointer (some ⟨w.heap.size, 0, none⟩)) ?_ ⟨_, rfl, Below.refl _ _, at_one (by omega) rfl⟩
      simp [go_sem, Act.eval, g1]
    · have g4 : act.tmps.getD 4 undef = .pointer (some ⟨w.heap.size, 0, none⟩) := by have := of_one (hpre ⟨1, .data⟩ (by simp) rfl _ rfl); simpa using this
      have hc : wq.cell? ⟨w.heap.size, 0, none⟩ = some (.int .i64 no) := (cell_of_row _ _ 0 _ _ _ hI.1).trans rfl
      refine exec_same (v := .int .i64 no) ?_ ⟨_, rfl, Below.refl _ _, at_one (by omega) rfl⟩
      simp [go_sem, Act.eval, g4, hc]
    · have g5 : act.tmps.getD 5 undef = .int .i64 no := by have := of_one (hpre ⟨2, .data⟩ (by simp) rfl _ rfl); simpa using this
      refine exec_call (f := 80) (args := #[.int .i64 no]) (by simp [go_sem, Act.eval, g5]) ?_
      refine Calls.mono (toldAt_any (L := L) no wq (by have := hI.2.1; omega)) ?_
      rintro e w2 ⟨v2, rfl, l2, hb2⟩
      exact ⟨_, rfl, _, rfl, hb2, ⟨_, by show [(act.put _ _).tmps.getD _ undef] = _; rw [put_same _ _ _ (by omega)], l2⟩⟩
    · have g1 : act.tmps.getD 1 undef = .pointer (some ⟨w.heap.size, 0, none⟩) := hold 1 (free_spec (by kernel_rfl))
      refine exec_same (v := .pointer (some ⟨w.heap.size, 1, none⟩)) ?_ ⟨_, rfl, Below.refl _ _, at_one (by omega) rfl⟩
      simp [go_sem, Act.eval, g1]
    · have g7 : act.tmps.getD 7 undef = .pointer (some ⟨w.heap.size, 1, none⟩) := by have := of_one (hpre ⟨4, .data⟩ (by simp) rfl _ rfl); simpa using this
      have hc : wq.cell? ⟨w.heap.size, 1, none⟩ = some (.int .i64 pu) := (cell_of_row _ _ 1 _ _ _ hI.1).trans rfl
      refine exec_same (v := .int .i64 pu) ?_ ⟨_, rfl, Below.refl _ _, at_one (by omega) rfl⟩
      simp [go_sem, Act.eval, g7, hc]
    · have g8 : act.tmps.getD 8 undef = .int .i64 pu := by have := of_one (hpre ⟨5, .data⟩ (by simp) rfl _ rfl); simpa using this
      refine exec_call (f := 80) (args := #[.int .i64 pu]) (by simp [go_sem, Act.eval, g8]) ?_
      refine Calls.mono (toldAt_any (L := L) pu wq (by have := hI.2.1; omega)) ?_
      rintro e w2 ⟨v2, rfl, l2, hb2⟩
      exact ⟨_, rfl, _, rfl, hb2, ⟨_, by show [(act.put _ _).tmps.getD _ undef] = _; rw [put_same _ _ _ (by omega)], l2⟩⟩
    · obtain ⟨u0, h1_u0, lu0⟩ := hpre ⟨0, .data⟩ (by simp) rfl _ rfl
      have g3 : act.tmps.getD 3 undef = u0 := by simpa using h1_u0
      have g3' : act.tmps[3]?.getD undef = u0 := by simpa using g3
      obtain ⟨u3, h1_u3, lu3⟩ := hpre ⟨3, .data⟩ (by simp) rfl _ rfl
      have g6 : act.tmps.getD 6 undef = u3 := by simpa using h1_u3
      have g6' : act.tmps[6]?.getD undef = u3 := by simpa using g6
      obtain ⟨u6, h1_u6, lu6⟩ := hpre ⟨6, .data⟩ (by simp) rfl _ rfl
      have g9 : act.tmps.getD 9 undef = u6 := by simpa using h1_u6
      have g9' : act.tmps[9]?.getD undef = u6 := by simpa using g9
      obtain ⟨Fu0, cu0, rfl⟩ := lu0.fn
      obtain ⟨Fu3, cu3, rfl⟩ := lu3.fn
      obtain ⟨Fu6, cu6, rfl⟩ := lu6.fn
      have hbN : Below wq.heap.size wq (wq.alloc (.cells #[.func (.func Fu0) #[] cu0, .func (.func Fu3) #[] cu3, .func (.func Fu6) #[] cu6] 73)) := (Below.refl _ _).alloc (Nat.le_refl _) _
      have hall : ToldAll L (wq.alloc (.cells #[.func (.func Fu0) #[] cu0, .func (.func Fu3) #[] cu3, .func (.func Fu6) #[] cu6] 73)).heap.size (wq.alloc (.cells #[.func (.func Fu0) #[] cu0, .func (.func Fu3) #[] cu3, .func (.func Fu6) #[] cu6] 73)) [.atom 62, .pl no, .pl pu] [.func (.func Fu0) #[] cu0, .func (.func Fu3) #[] cu3, .func (.func Fu6) #[] cu6] := by
        refine ⟨rfl, fun m hm => ?_⟩
        rcases (show m = 0 ∨ m = 1 ∨ m = 2 by simp at hm; omega) with rfl | rfl | rfl
        · exact ToldIs.nx hbN lu0
        · exact ToldIs.nx hbN lu3
        · exact ToldIs.nx hbN lu6
      refine exec_made (w' := wq.alloc (.cells #[.func (.func Fu0) #[] cu0, .func (.func Fu3) #[] cu3, .func (.func Fu6) #[] cu6] 73)) (v := .slice (some ⟨wq.heap.size, 0, none⟩) 3 3) ?_ ⟨_, rfl, hbN, ⟨_, _, _, _,  by show [(act.put _ _).tmps.getD _ undef] = _; rw [put_same _ _ _ (by omega)], ⟨by have := hI.2.1; omega, by simp⟩, heap_alloc_new _ _, hall⟩⟩
      simp [go_sem, Act.eval, g3', g6', g9']
    · obtain ⟨h, u0, u3, u6, h1, h2, h3, h4⟩ := hpre ⟨7, .data⟩ (by simp) rfl _ rfl
      have g10 : act.tmps.getD 10 undef = .slice (some ⟨h, 0, none⟩) 3 3 := by simpa using h1
      refine exec_call (f := 75) (args := #[.slice (some ⟨h, 0, none⟩) 3 3]) (by simp [go_sem, Act.eval, g10]) ?_
      refine Calls.mono (toldList_any _ [u0, u3, u6] wq (by have := hI.2.1; omega) h2 h3 h4) ?_
      rintro e w2 ⟨v2, rfl, l2, hb2⟩
      exact ⟨_, rfl, _, rfl, hb2, ⟨_, by show [(act.put _ _).tmps.getD _ undef] = _; rw [put_same _ _ _ (by omega)], l2⟩⟩
    · obtain ⟨ux, h1_ux, lux⟩ := hpre ⟨8, .data⟩ (by simp) rfl _ rfl
      have g11 : act.tmps.getD 11 undef = ux := by simpa using h1_ux
      have g11' : act.tmps[11]?.getD undef = ux := by simpa using g11
      refine exec_same (v := ux) ?_ ⟨_, rfl, Below.refl _ _, ⟨_, by show [(act.put _ _).tmps.getD _ undef] = _; rw [put_same _ _ _ (by omega)], lux⟩⟩
      simp [go_sem, Act.eval, g11]
  case fin =>
    intro zs w5 hzl hI hF
    obtain ⟨z0, z1, z2, z3, z4, z5, z6, z7, z8, z9, rfl⟩ := zl10 zs hzl
    obtain ⟨vr, hv, lr⟩ := of_one (hF 9 _ rfl)
    simp only [List.cons.injEq, and_true] at hv
    have hs3 := last_is (i := 9) (v := z9) (n := 12) hv (by kernel_rfl) rfl rfl (by omega)
    clear hv
    subst hs3
    obtain ⟨Fl, cl, rfl⟩ := lr.fn
    have HK : Hid (ToldP L (.list [.atom 62, .pl no, .pl pu]) w (.returned (.func (.func Fl) #[] cl)) w5) := ⟨_, rfl, lr, hI.2.2⟩
    clear hF lr hI hL
    simp only [putAll, Act.put, List.setIfInBounds_toArray, List.set_cons_succ, List.set_cons_zero]
    go_wp2
    go_ret
    exact HK.out
set_option maxHeartbeats 3200000 in
set_option maxRecDepth 20000 in
theorem hlTold_any {L : Nat} (mo na no pu : Int) (w : World) (hL : L ≤ w.heap.size)  :
    Calls Try.prog 45 #[.agg #[.int .i64 mo, .int .i64 na, .int .i64 no, .int .i64 pu]] w (ToldP L (.list [.atom 61, .atom mo, .atom na, .pl no, .pl pu]) w) := by
  have hb0 : Below w.heap.size w (w.alloc (.cells #[.int .i64 mo, .int .i64 na, .int .i64 no, .int .i64 pu] 34)) := (Below.refl _ _).alloc (Nat.le_refl _) _
  have h0 := heap_alloc_new w (.cells #[.int .i64 mo, .int .i64 na, .int .i64 no, .int .i64 pu] 34)
  have HI : Hid ((w.alloc (.cells #[.int .i64 mo, .int .i64 na, .int .i64 no, .int .i64 pu] 34)).heap[w.heap.size]? = some (.cells #[.int .i64 mo, .int .i64 na, .int .i64 no, .int .i64 pu] 34 (0, 0)) ∧ w.heap.size < (w.alloc (.cells #[.int .i64 mo, .int .i64 na, .int .i64 no, .int .i64 pu] 34)).heap.size ∧ Below w.heap.size w (w.alloc (.cells #[.int .i64 mo, .int .i64 na, .int .i64 no, .int .i64 pu] 34))) := ⟨h0, by simp, hb0⟩
  clear h0 hb0
  go_enter Try.func45, Try.ntmps45
  go_wp2_with fail
  generalize w.alloc (.cells #[.int .i64 mo, .int .i64 na, .int .i64 no, .int .i64 pu] 34) = w1 at HI ⊢
  refine wp_region_list (I := fun w' => w'.heap[w.heap.size]? = some (.cells #[.int .i64 mo, .int .i64 na, .int .i64 no, .int .i64 pu] 34 (0, 0)) ∧ w.heap.size < w'.heap.size ∧ Below w.heap.size w w') (R := fun _ w' w'' => Below w'.heap.size w' w'')
    (fs := #[⟨[3], fun vs w' => ∃ v, vs = [v] ∧ ToldIs L w'.heap.size w' (.atom 61) v⟩, ⟨[4], fun vs _ => vs = [.pointer (some ⟨w.heap.size, 0, none⟩)]⟩, ⟨[5], fun vs _ => vs = [.int .i64 mo]⟩, ⟨[6], fun vs w' => ∃ v, vs = [v] ∧ ToldIs L w'.heap.size w' (.atom mo) v⟩, ⟨[7], fun vs _ => vs = [.pointer (some ⟨w.heap.size, 1, none⟩)]⟩, ⟨[8], fun vs _ => vs = [.int .i64 na]⟩, ⟨[9], fun vs w' => ∃ v, vs = [v] ∧ ToldIs L w'.heap.size w' (.atom na) v⟩, ⟨[10], fun vs _ => vs = [.pointer (some ⟨w.heap.size, 2, none⟩)]⟩, ⟨[11], fun vs _ => vs = [.int .i64 no]⟩, ⟨[12], fun vs w' => ∃ v, vs = [v] ∧ ToldIs L w'.heap.size w' (.pl no) v⟩, ⟨[13], fun vs _ => vs = [.pointer (some ⟨w.heap.size, 3, none⟩)]⟩, ⟨[14], fun vs _ => vs = [.int .i64 pu]⟩, ⟨[15], fun vs w' => ∃ v, vs = [v] ∧ ToldIs L w'.heap.size w' (.pl pu) v⟩, ⟨[16], fun vs w' => ∃ h u0 u3 u6 u9 u12, vs = [.slice (some ⟨h, 0, none⟩) 5 5] ∧ (L ≤ h ∧ h < w'.heap.size) ∧ w'.heap[h]? = some (.cells #[u0, u3, u6, u9, u12] 73 (0, 0)) ∧ ToldAll L w'.heap.size w' [.atom 61, .atom mo, .atom na, .pl no, .pl pu] [u0, u3, u6, u9, u12]⟩, ⟨[17], fun vs w' => ∃ v, vs = [v] ∧ ToldIs L w'.heap.size w' (.list [.atom 61, .atom mo, .atom na, .pl no, .pl pu]) v⟩, ⟨[2], fun vs w' => ∃ v, vs = [v] ∧ ToldIs L w'.heap.size w' (.list [.atom 61, .atom mo, .atom na, .pl no, .pl pu]) v⟩])
    (by kernel_rfl) 18 rfl (by kernel_rfl) ?stab ?istab ?start ?exec ?fin
  case stab =>
    intro k i f hki hf
    have hk : k < 16 := (Array.getElem?_eq_some_iff.1 hf).1
    rcases (show k = 0 ∨ k = 1 ∨ k = 2 ∨ k = 3 ∨ k = 4 ∨ k = 5 ∨ k = 6 ∨ k = 7 ∨ k = 8 ∨ k = 9 ∨ k = 10 ∨ k = 11 ∨ k = 12 ∨ k = 13 ∨ k = 14 ∨ k = 15 by omega) with rfl | rfl | rfl | rfl | rfl | rfl | rfl | rfl | rfl | rfl | rfl | rfl | rfl | rfl | rfl | rfl
    all_goals
      simp only [List.getElem?_toArray, List.getElem?_cons_succ, List.getElem?_cons_zero, Option.some.injEq] at hf
      subst hf
    · exact fun vs w' w'' hR ⟨v, h1, h2⟩ => ⟨v, h1, ToldIs.nx hR h2⟩
    · exact fun vs _ _ _ h => h
    · exact fun vs _ _ _ h => h
    · exact fun vs w' w'' hR ⟨v, h1, h2⟩ => ⟨v, h1, ToldIs.nx hR h2⟩
    · exact fun vs _ _ _ h => h
    · exact fun vs _ _ _ h => h
    · exact fun vs w' w'' hR ⟨v, h1, h2⟩ => ⟨v, h1, ToldIs.nx hR h2⟩
    · exact fun vs _ _ _ h => h
    · exact fun vs _ _ _ h => h
    · exact fun vs w' w'' hR ⟨v, h1, h2⟩ => ⟨v, h1, ToldIs.nx hR h2⟩
    · exact fun vs _ _ _ h => h
    · exact fun vs _ _ _ h => h
    · exact fun vs w' w'' hR ⟨v, h1, h2⟩ => ⟨v, h1, ToldIs.nx hR h2⟩
    · exact fun vs w' w'' hR ⟨h, u0, u3, u6, u9, u12, h1, h2, h3, h4⟩ => ⟨h, u0, u3, u6, u9, u12, h1, ⟨h2.1, by have := Below.size hR; omega⟩, (Below.block hR h h2.2).trans h3, ⟨h4.1, fun m hm => ToldIs.nx hR (h4.2 m hm)⟩⟩
    · exact fun vs w' w'' hR ⟨v, h1, h2⟩ => ⟨v, h1, ToldIs.nx hR h2⟩
    · exact fun vs w' w'' hR ⟨v, h1, h2⟩ => ⟨v, h1, ToldIs.nx hR h2⟩
  case istab => exact fun i w' w'' hR ⟨h1, h3, h4⟩ => ⟨(Below.block hR _ h3).trans h1, by have := Below.size hR; omega, h4.trans (Below.mono hR (by omega))⟩
  case start => exact ⟨HI.out.1, HI.out.2.1, HI.out.2.2.drew⟩
  case exec =>
    intro i o f hi hf act wq hsz hI hold hpre
    have hi11 : i < 16 := (Array.getElem?_eq_some_iff.1 hi).1
    rcases (show i = 0 ∨ i = 1 ∨ i = 2 ∨ i = 3 ∨ i = 4 ∨ i = 5 ∨ i = 6 ∨ i = 7 ∨ i = 8 ∨ i = 9 ∨ i = 10 ∨ i = 11 ∨ i = 12 ∨ i = 13 ∨ i = 14 ∨ i = 15 by omega) with rfl | rfl | rfl | rfl | rfl | rfl | rfl | rfl | rfl | rfl | rfl | rfl | rfl | rfl | rfl | rfl
    all_goals
      simp only [List.getElem?_toArray, List.getElem?_cons_succ, List.getElem?_cons_zero, Option.some.injEq] at hi hf
      subst hi hf
    · refine exec_call (f := 78) (args := #[.int .i64 61]) (by simp [go_sem, Act.eval]) ?_
      refine Calls.mono (toldAtom_any (L := L) 61 wq (by have := hI.2.1; omega)) ?_
      rintro e w2 ⟨v2, rfl, l2, hb2⟩
      exact ⟨_, rfl, _, rfl, hb2, ⟨_, by show [(act.put _ _).tmps.getD _ undef] = _; rw [put_same _ _ _ (by omega)], l2⟩⟩
    · have g1 : act.tmps.getD 1 undef = .pointer (some ⟨w.heap.size, 0, none⟩) := hold 1 (free_spec (by kernel_rfl))
      refine exec_same (v := .pointer (some ⟨w.heap.size, 0, none⟩)) ?_ ⟨_, rfl, Below.refl _ _, at_one (by omega) rfl⟩
      simp [go_sem, Act.eval, g1]
    · have g4 : act.tmps.getD 4 undef = .pointer (some ⟨w.heap.size, 0, none⟩) := by have := of_one (hpre ⟨1, .data⟩ (by simp) rfl _ rfl); simpa using this
      have hc : wq.cell? ⟨w.heap.size, 0, none⟩ = some (.int .i64 mo) := (cell_of_row _ _ 0 _ _ _ hI.1).trans rfl
      refine exec_same (v := .int .i64 mo) ?_ ⟨_, rfl, Below.refl _ _, at_one (by omega) rfl⟩
      simp [go_sem, Act.eval, g4, hc]
    · have g5 : act.tmps.getD 5 undef = .int .i64 mo := by have := of_one (hpre ⟨2, .data⟩ (by simp) rfl _ rfl); simpa using this
      refine exec_call (f := 78) (args := #[.int .i64 mo]) (by simp [go_sem, Act.eval, g5]) ?_
      refine Calls.mono (toldAtom_any (L := L) mo wq (by have := hI.2.1; omega)) ?_
      rintro e w2 ⟨v2, rfl, l2, hb2⟩
      exact ⟨_, rfl, _, rfl, hb2, ⟨_, by show [(act.put _ _).tmps.getD _ undef] = _; rw [put_same _ _ _ (by omega)], l2⟩⟩
    · have g1 : act.tmps.getD 1 undef = .pointer (some ⟨w.heap.size, 0, none⟩) := hold 1 (free_spec (by kernel_rfl))
      refine exec_same (v := .pointer (some ⟨w.heap.size, 1, none⟩)) ?_ ⟨_, rfl, Below.refl _ _, at_one (by omega) rfl⟩
      simp [go_sem, Act.eval, g1]
    · have g7 : act.tmps.getD 7 undef = .pointer (some ⟨w.heap.size, 1, none⟩) := by have := of_one (hpre ⟨4, .data⟩ (by simp) rfl _ rfl); simpa using this
      have hc : wq.cell? ⟨w.heap.size, 1, none⟩ = some (.int .i64 na) := (cell_of_row _ _ 1 _ _ _ hI.1).trans rfl
      refine exec_same (v := .int .i64 na) ?_ ⟨_, rfl, Below.refl _ _, at_one (by omega) rfl⟩
      simp [go_sem, Act.eval, g7, hc]
    · have g8 : act.tmps.getD 8 undef = .int .i64 na := by have := of_one (hpre ⟨5, .data⟩ (by simp) rfl _ rfl); simpa using this
      refine exec_call (f := 78) (args := #[.int .i64 na]) (by simp [go_sem, Act.eval, g8]) ?_
      refine Calls.mono (toldAtom_any (L := L) na wq (by have := hI.2.1; omega)) ?_
      rintro e w2 ⟨v2, rfl, l2, hb2⟩
      exact ⟨_, rfl, _, rfl, hb2, ⟨_, by show [(act.put _ _).tmps.getD _ undef] = _; rw [put_same _ _ _ (by omega)], l2⟩⟩
    · have g1 : act.tmps.getD 1 undef = .pointer (some ⟨w.heap.size, 0, none⟩) := hold 1 (free_spec (by kernel_rfl))
      refine exec_same (v := .pointer (some ⟨w.heap.size, 2, none⟩)) ?_ ⟨_, rfl, Below.refl _ _, at_one (by omega) rfl⟩
      simp [go_sem, Act.eval, g1]
    · have g10 : act.tmps.getD 10 undef = .pointer (some ⟨w.heap.size, 2, none⟩) := by have := of_one (hpre ⟨7, .data⟩ (by simp) rfl _ rfl); simpa using this
      have hc : wq.cell? ⟨w.heap.size, 2, none⟩ = some (.int .i64 no) := (cell_of_row _ _ 2 _ _ _ hI.1).trans rfl
      refine exec_same (v := .int .i64 no) ?_ ⟨_, rfl, Below.refl _ _, at_one (by omega) rfl⟩
      simp [go_sem, Act.eval, g10, hc]
    · have g11 : act.tmps.getD 11 undef = .int .i64 no := by have := of_one (hpre ⟨8, .data⟩ (by simp) rfl _ rfl); simpa using this
      refine exec_call (f := 80) (args := #[.int .i64 no]) (by simp [go_sem, Act.eval, g11]) ?_
      refine Calls.mono (toldAt_any (L := L) no wq (by have := hI.2.1; omega)) ?_
      rintro e w2 ⟨v2, rfl, l2, hb2⟩
      exact ⟨_, rfl, _, rfl, hb2, ⟨_, by show [(act.put _ _).tmps.getD _ undef] = _; rw [put_same _ _ _ (by omega)], l2⟩⟩
    · have g1 : act.tmps.getD 1 undef = .pointer (some ⟨w.heap.size, 0, none⟩) := hold 1 (free_spec (by kernel_rfl))
      refine exec_same (v := .pointer (some ⟨w.heap.size, 3, none⟩)) ?_ ⟨_, rfl, Below.refl _ _, at_one (by omega) rfl⟩
      simp [go_sem, Act.eval, g1]
    · have g13 : act.tmps.getD 13 undef = .pointer (some ⟨w.heap.size, 3, none⟩) := by have := of_one (hpre ⟨10, .data⟩ (by simp) rfl _ rfl); simpa using this
      have hc : wq.cell? ⟨w.heap.size, 3, none⟩ = some (.int .i64 pu) := (cell_of_row _ _ 3 _ _ _ hI.1).trans rfl
      refine exec_same (v := .int .i64 pu) ?_ ⟨_, rfl, Below.refl _ _, at_one (by omega) rfl⟩
      simp [go_sem, Act.eval, g13, hc]
    · have g14 : act.tmps.getD 14 undef = .int .i64 pu := by have := of_one (hpre ⟨11, .data⟩ (by simp) rfl _ rfl); simpa using this
      refine exec_call (f := 80) (args := #[.int .i64 pu]) (by simp [go_sem, Act.eval, g14]) ?_
      refine Calls.mono (toldAt_any (L := L) pu wq (by have := hI.2.1; omega)) ?_
      rintro e w2 ⟨v2, rfl, l2, hb2⟩
      exact ⟨_, rfl, _, rfl, hb2, ⟨_, by show [(act.put _ _).tmps.getD _ undef] = _; rw [put_same _ _ _ (by omega)], l2⟩⟩
    · obtain ⟨u0, h1_u0, lu0⟩ := hpre ⟨0, .data⟩ (by simp) rfl _ rfl
      have g3 : act.tmps.getD 3 undef = u0 := by simpa using h1_u0
      have g3' : act.tmps[3]?.getD undef = u0 := by simpa using g3
      obtain ⟨u3, h1_u3, lu3⟩ := hpre ⟨3, .data⟩ (by simp) rfl _ rfl
      have g6 : act.tmps.getD 6 undef = u3 := by simpa using h1_u3
      have g6' : act.tmps[6]?.getD undef = u3 := by simpa using g6
      obtain ⟨u6, h1_u6, lu6⟩ := hpre ⟨6, .data⟩ (by simp) rfl _ rfl
      have g9 : act.tmps.getD 9 undef = u6 := by simpa using h1_u6
      have g9' : act.tmps[9]?.getD undef = u6 := by simpa using g9
      obtain ⟨u9, h1_u9, lu9⟩ := hpre ⟨9, .data⟩ (by simp) rfl _ rfl
      have g12 : act.tmps.getD 12 undef = u9 := by simpa using h1_u9
      have g12' : act.tmps[12]?.getD undef = u9 := by simpa using g12
      obtain ⟨u12, h1_u12, lu12⟩ := hpre ⟨12, .data⟩ (by simp) rfl _ rfl
      have g15 : act.tmps.getD 15 undef = u12 := by simpa using h1_u12
      have g15' : act.tmps[15]?.getD undef = u12 := by simpa using g15
      obtain ⟨Fu0, cu0, rfl⟩ := lu0.fn
      obtain ⟨Fu3, cu3, rfl⟩ := lu3.fn
      obtain ⟨Fu6, cu6, rfl⟩ := lu6.fn
      obtain ⟨Fu9, cu9, rfl⟩ := lu9.fn
      obtain ⟨Fu12, cu12, rfl⟩ := lu12.fn
      have hbN : Below wq.heap.size wq (wq.alloc (.cells #[.func (.func Fu0) #[] cu0, .func (.func Fu3) #[] cu3, .func (.func Fu6) #[] cu6, .func (.func Fu9) #[] cu9, .func (.func Fu12) #[] cu12] 73)) := (Below.refl _ _).alloc (Nat.le_refl _) _
      have hall : ToldAll L (wq.alloc (.cells #[.func (.func Fu0) #[] cu0, .func (.func Fu3) #[] cu3, .func (.func Fu6) #[] cu6, .func (.func Fu9) #[] cu9, .func (.func Fu12) #[] cu12] 73)).heap.size (wq.alloc (.cells #[.func (.func Fu0) #[] cu0, .func (.func Fu3) #[] cu3, .func (.func Fu6) #[] cu6, .func (.func Fu9) #[] cu9, .func (.func Fu12) #[] cu12] 73)) [.atom 61, .atom mo, .atom na, .pl no, .pl pu] [.func (.func Fu0) #[] cu0, .func (.func Fu3) #[] cu3, .func (.func Fu6) #[] cu6, .func (.func Fu9) #[] cu9, .func (.func Fu12) #[] cu12] := by
        refine ⟨rfl, fun m hm => ?_⟩
        rcases (show m = 0 ∨ m = 1 ∨ m = 2 ∨ m = 3 ∨ m = 4 by simp at hm; omega) with rfl | rfl | rfl | rfl | rfl
        · exact ToldIs.nx hbN lu0
        · exact ToldIs.nx hbN lu3
        · exact ToldIs.nx hbN lu6
        · exact ToldIs.nx hbN lu9
        · exact ToldIs.nx hbN lu12
      refine exec_made (w' := wq.alloc (.cells #[.func (.func Fu0) #[] cu0, .func (.func Fu3) #[] cu3, .func (.func Fu6) #[] cu6, .func (.func Fu9) #[] cu9, .func (.func Fu12) #[] cu12] 73)) (v := .slice (some ⟨wq.heap.size, 0, none⟩) 5 5) ?_ ⟨_, rfl, hbN, ⟨_, _, _, _, _, _,  by show [(act.put _ _).tmps.getD _ undef] = _; rw [put_same _ _ _ (by omega)], ⟨by have := hI.2.1; omega, by simp⟩, heap_alloc_new _ _, hall⟩⟩
      simp [go_sem, Act.eval, g3', g6', g9', g12', g15']
    · obtain ⟨h, u0, u3, u6, u9, u12, h1, h2, h3, h4⟩ := hpre ⟨13, .data⟩ (by simp) rfl _ rfl
      have g16 : act.tmps.getD 16 undef = .slice (some ⟨h, 0, none⟩) 5 5 := by simpa using h1
      refine exec_call (f := 75) (args := #[.slice (some ⟨h, 0, none⟩) 5 5]) (by simp [go_sem, Act.eval, g16]) ?_
      refine Calls.mono (toldList_any _ [u0, u3, u6, u9, u12] wq (by have := hI.2.1; omega) h2 h3 h4) ?_
      rintro e w2 ⟨v2, rfl, l2, hb2⟩
      exact ⟨_, rfl, _, rfl, hb2, ⟨_, by show [(act.put _ _).tmps.getD _ undef] = _; rw [put_same _ _ _ (by omega)], l2⟩⟩
    · obtain ⟨ux, h1_ux, lux⟩ := hpre ⟨14, .data⟩ (by simp) rfl _ rfl
      have g17 : act.tmps.getD 17 undef = ux := by simpa using h1_ux
      have g17' : act.tmps[17]?.getD undef = ux := by simpa using g17
      refine exec_same (v := ux) ?_ ⟨_, rfl, Below.refl _ _, ⟨_, by show [(act.put _ _).tmps.getD _ undef] = _; rw [put_same _ _ _ (by omega)], lux⟩⟩
      simp [go_sem, Act.eval, g17]
  case fin =>
    intro zs w5 hzl hI hF
    obtain ⟨z0, z1, z2, z3, z4, z5, z6, z7, z8, z9, z10, z11, z12, z13, z14, z15, rfl⟩ := zl16 zs hzl
    obtain ⟨vr, hv, lr⟩ := of_one (hF 15 _ rfl)
    simp only [List.cons.injEq, and_true] at hv
    have hs3 := last_is (i := 15) (v := z15) (n := 18) hv (by kernel_rfl) rfl rfl (by omega)
    clear hv
    subst hs3
    obtain ⟨Fl, cl, rfl⟩ := lr.fn
    have HK : Hid (ToldP L (.list [.atom 61, .atom mo, .atom na, .pl no, .pl pu]) w (.returned (.func (.func Fl) #[] cl)) w5) := ⟨_, rfl, lr, hI.2.2⟩
    clear hF lr hI hL
    simp only [putAll, Act.put, List.setIfInBounds_toArray, List.set_cons_succ, List.set_cons_zero]
    go_wp2
    go_ret
    exact HK.out
end Go.Proofs.Ytlecpjgeaigjkaa
