/- Chapter 12's terms of a side (the program's): what a part is sealed with, what is signed in it, its mac; who it is. -/
import Derived.Test.YtaanophnnkmkbaaGreatTold8
import Derived.Laws.EntriesVeiled
import Derived.Test.YtaanophnnkmkbaaGreatRegionK
import Derived.Test.YtaanophnnkmkbaaGreatLawKeep
namespace Go.Proofs.YtaanophnnkmkbaaGreat
open Go.RowKit Go.Maps
set_option linter.unusedVariables false
theorem zl7 {α : Type} (l : List α) (h : l.length = 7) : ∃ a0 a1 a2 a3 a4 a5 a6, l = [a0, a1, a2, a3, a4, a5, a6] := by
  match l, h with
  | [a0, a1, a2, a3, a4, a5, a6], _ => exact ⟨a0, a1, a2, a3, a4, a5, a6, rfl⟩
theorem zl9 {α : Type} (l : List α) (h : l.length = 9) : ∃ a0 a1 a2 a3 a4 a5 a6 a7 a8, l = [a0, a1, a2, a3, a4, a5, a6, a7, a8] := by
  match l, h with
  | [a0, a1, a2, a3, a4, a5, a6, a7, a8], _ => exact ⟨a0, a1, a2, a3, a4, a5, a6, a7, a8, rfl⟩
theorem zl10 {α : Type} (l : List α) (h : l.length = 10) : ∃ a0 a1 a2 a3 a4 a5 a6 a7 a8 a9, l = [a0, a1, a2, a3, a4, a5, a6, a7, a8, a9] := by
  match l, h with
  | [a0, a1, a2, a3, a4, a5, a6, a7, a8, a9], _ => exact ⟨a0, a1, a2, a3, a4, a5, a6, a7, a8, a9, rfl⟩
theorem zl11 {α : Type} (l : List α) (h : l.length = 11) : ∃ a0 a1 a2 a3 a4 a5 a6 a7 a8 a9 a10, l = [a0, a1, a2, a3, a4, a5, a6, a7, a8, a9, a10] := by
  match l, h with
  | [a0, a1, a2, a3, a4, a5, a6, a7, a8, a9, a10], _ => exact ⟨a0, a1, a2, a3, a4, a5, a6, a7, a8, a9, a10, rfl⟩
set_option maxHeartbeats 3200000 in
set_option maxRecDepth 20000 in
theorem psKey_any {L : Nat} (sd hd sa : Int) (w : World) (hL : L ≤ w.heap.size)  :
    Calls Tryz.prog 55 #[.agg #[.int .i64 sd, .int .i64 hd, .int .i64 sa]] w (ToldP L (.two 4 (.pl hd) (.atom sd)) w) := by
  have hb0 : Below w.heap.size w (w.alloc (.cells #[.int .i64 sd, .int .i64 hd, .int .i64 sa] 48)) := (Below.refl _ _).alloc (Nat.le_refl _) _
  have h0 := heap_alloc_new w (.cells #[.int .i64 sd, .int .i64 hd, .int .i64 sa] 48)
  have HI : Hid ((w.alloc (.cells #[.int .i64 sd, .int .i64 hd, .int .i64 sa] 48)).heap[w.heap.size]? = some (.cells #[.int .i64 sd, .int .i64 hd, .int .i64 sa] 48 (0, 0)) ∧ w.heap.size < (w.alloc (.cells #[.int .i64 sd, .int .i64 hd, .int .i64 sa] 48)).heap.size ∧ Below w.heap.size w (w.alloc (.cells #[.int .i64 sd, .int .i64 hd, .int .i64 sa] 48))) := ⟨h0, by simp, hb0⟩
  clear h0 hb0
  go_enter Tryz.func55, Tryz.ntmps55
  go_wp2_with fail
  generalize w.alloc (.cells #[.int .i64 sd, .int .i64 hd, .int .i64 sa] 48) = w1 at HI ⊢
  refine wp_region_list (I := fun w' => w'.heap[w.heap.size]? = some (.cells #[.int .i64 sd, .int .i64 hd, .int .i64 sa] 48 (0, 0)) ∧ w.heap.size < w'.heap.size ∧ Below w.heap.size w w') (R := fun _ w' w'' => Below w'.heap.size w' w'')
    (fs := #[⟨[3], fun vs _ => vs = [.pointer (some ⟨w.heap.size, 1, none⟩)]⟩, ⟨[4], fun vs _ => vs = [.int .i64 hd]⟩, ⟨[5], fun vs w' => ∃ v, vs = [v] ∧ ToldIs L w'.heap.size w' (.pl hd) v⟩, ⟨[6], fun vs _ => vs = [.pointer (some ⟨w.heap.size, 0, none⟩)]⟩, ⟨[7], fun vs _ => vs = [.int .i64 sd]⟩, ⟨[8], fun vs w' => ∃ v, vs = [v] ∧ ToldIs L w'.heap.size w' (.two 4 (.pl hd) (.atom sd)) v⟩, ⟨[2], fun vs w' => ∃ v, vs = [v] ∧ ToldIs L w'.heap.size w' (.two 4 (.pl hd) (.atom sd)) v⟩])
    (by kernel_rfl) 9 rfl (by kernel_rfl) ?stab ?istab ?start ?exec ?fin
  case stab =>
    intro k i f hki hf
    have hk : k < 7 := (Array.getElem?_eq_some_iff.1 hf).1
    rcases (show k = 0 ∨ k = 1 ∨ k = 2 ∨ k = 3 ∨ k = 4 ∨ k = 5 ∨ k = 6 by omega) with rfl | rfl | rfl | rfl | rfl | rfl | rfl
    all_goals
      simp only [List.getElem?_toArray, List.getElem?_cons_succ, List.getElem?_cons_zero, Option.some.injEq] at hf
      subst hf
    · exact fun vs _ _ _ h => h
    · exact fun vs _ _ _ h => h
    · exact fun vs w' w'' hR ⟨v, h1, h2⟩ => ⟨v, h1, ToldIs.nx hR h2⟩
    · exact fun vs _ _ _ h => h
    · exact fun vs _ _ _ h => h
    · exact fun vs w' w'' hR ⟨v, h1, h2⟩ => ⟨v, h1, ToldIs.nx hR h2⟩
    · exact fun vs w' w'' hR ⟨v, h1, h2⟩ => ⟨v, h1, ToldIs.nx hR h2⟩
  case istab => exact fun i w' w'' hR ⟨h1, h3, h4⟩ => ⟨(Below.block hR _ h3).trans h1, by have := Below.size hR; omega, h4.trans (Below.mono hR (by omega))⟩
  case start => exact ⟨HI.out.1, HI.out.2.1, HI.out.2.2.drew⟩
  case exec =>
    intro i o f hi hf act wq hsz hI hold hpre
    have hi11 : i < 7 := (Array.getElem?_eq_some_iff.1 hi).1
    rcases (show i = 0 ∨ i = 1 ∨ i = 2 ∨ i = 3 ∨ i = 4 ∨ i = 5 ∨ i = 6 by omega) with rfl | rfl | rfl | rfl | rfl | rfl | rfl
    all_goals
      simp only [List.getElem?_toArray, List.getElem?_cons_succ, List.getElem?_cons_zero, Option.some.injEq] at hi hf
      subst hi hf
    · have g1 : act.tmps.getD 1 undef = .pointer (some ⟨w.heap.size, 0, none⟩) := hold 1 (free_spec (by kernel_rfl))
      refine exec_same (v := .pointer (some ⟨w.heap.size, 1, none⟩)) ?_ ⟨_, rfl, Below.refl _ _, at_one (by omega) rfl⟩
      simp [go_sem, Act.eval, g1]
    · have g3 : act.tmps.getD 3 undef = .pointer (some ⟨w.heap.size, 1, none⟩) := by have := of_one (hpre ⟨0, .data⟩ (by simp) rfl _ rfl); simpa using this
      have hc : wq.cell? ⟨w.heap.size, 1, none⟩ = some (.int .i64 hd) := (cell_of_row _ _ 1 _ _ _ hI.1).trans rfl
      refine exec_same (v := .int .i64 hd) ?_ ⟨_, rfl, Below.refl _ _, at_one (by omega) rfl⟩
      simp [go_sem, Act.eval, g3, hc]
    · have g4 : act.tmps.getD 4 undef = .int .i64 hd := by have := of_one (hpre ⟨1, .data⟩ (by simp) rfl _ rfl); simpa using this
      refine exec_call (f := 34) (args := #[.int .i64 hd]) (by simp [go_sem, Act.eval, g4]) ?_
      refine Calls.mono (toldAt_any (L := L) hd wq (by have := hI.2.1; omega)) ?_
      rintro e w2 ⟨v2, rfl, l2, hb2⟩
      exact ⟨_, rfl, _, rfl, hb2, ⟨_, by show [(act.put _ _).tmps.getD _ undef] = _; rw [put_same _ _ _ (by omega)], l2⟩⟩
    · have g1 : act.tmps.getD 1 undef = .pointer (some ⟨w.heap.size, 0, none⟩) := hold 1 (free_spec (by kernel_rfl))
      refine exec_same (v := .pointer (some ⟨w.heap.size, 0, none⟩)) ?_ ⟨_, rfl, Below.refl _ _, at_one (by omega) rfl⟩
      simp [go_sem, Act.eval, g1]
    · have g6 : act.tmps.getD 6 undef = .pointer (some ⟨w.heap.size, 0, none⟩) := by have := of_one (hpre ⟨3, .data⟩ (by simp) rfl _ rfl); simpa using this
      have hc : wq.cell? ⟨w.heap.size, 0, none⟩ = some (.int .i64 sd) := (cell_of_row _ _ 0 _ _ _ hI.1).trans rfl
      refine exec_same (v := .int .i64 sd) ?_ ⟨_, rfl, Below.refl _ _, at_one (by omega) rfl⟩
      simp [go_sem, Act.eval, g6, hc]
    · obtain ⟨u2, h1_u2, lu2⟩ := hpre ⟨2, .data⟩ (by simp) rfl _ rfl
      have g5 : act.tmps.getD 5 undef = u2 := by simpa using h1_u2
      have g5' : act.tmps[5]?.getD undef = u2 := by simpa using g5
      have g7 : act.tmps.getD 7 undef = .int .i64 sd := by have := of_one (hpre ⟨4, .data⟩ (by simp) rfl _ rfl); simpa using this
      refine exec_call (f := 91) (args := #[u2, .int .i64 sd]) (by simp [go_sem, Act.eval, g5, g7]) ?_
      refine Calls.mono (toldSideKey_any (L := L) _ u2 sd wq (by have := hI.2.1; omega) lu2) ?_
      rintro e w2 ⟨v2, rfl, l2, hb2⟩
      exact ⟨_, rfl, _, rfl, hb2, ⟨_, by show [(act.put _ _).tmps.getD _ undef] = _; rw [put_same _ _ _ (by omega)], l2⟩⟩
    · obtain ⟨ux, h1_ux, lux⟩ := hpre ⟨5, .data⟩ (by simp) rfl _ rfl
      have g8 : act.tmps.getD 8 undef = ux := by simpa using h1_ux
      have g8' : act.tmps[8]?.getD undef = ux := by simpa using g8
      refine exec_same (v := ux) ?_ ⟨_, rfl, Below.refl _ _, ⟨_, by show [(act.put _ _).tmps.getD _ undef] = _; rw [put_same _ _ _ (by omega)], lux⟩⟩
      simp [go_sem, Act.eval, g8]
  case fin =>
    intro zs w5 hzl hI hF
    obtain ⟨z0, z1, z2, z3, z4, z5, z6, rfl⟩ := zl7 zs hzl
    obtain ⟨vr, hv, lr⟩ := of_one (hF 6 _ rfl)
    simp only [List.cons.injEq, and_true] at hv
    have hs3 := last_is (i := 6) (v := z6) (n := 9) hv (by kernel_rfl) rfl rfl (by omega)
    clear hv
    subst hs3
    obtain ⟨Fl, cl, rfl⟩ := lr.fn
    have HK : Hid (ToldP L (.two 4 (.pl hd) (.atom sd)) w (.returned (.func (.func Fl) #[] cl)) w5) := ⟨_, rfl, lr, hI.2.2⟩
    clear hF lr hI hL
    simp only [putAll, Act.put, List.setIfInBounds_toArray, List.set_cons_succ, List.set_cons_zero]
    go_wp2
    go_ret
    exact HK.out
set_option maxHeartbeats 3200000 in
set_option maxRecDepth 20000 in
theorem psSigned_any {L : Nat} (sd hd sa : Int) (w : World) (hL : L ≤ w.heap.size) {m : Int} (hm : IntKind.i64.wrap (80 + sd) = m) :
    Calls Tryz.prog 56 #[.agg #[.int .i64 sd, .int .i64 hd, .int .i64 sa]] w (ToldP L (.list [.atom m, .hash (.pl sa)]) w) := by
  have HM : Hid (IntKind.i64.wrap (80 + sd) = m) := hm
  clear hm
  have hb0 : Below w.heap.size w (w.alloc (.cells #[.int .i64 sd, .int .i64 hd, .int .i64 sa] 48)) := (Below.refl _ _).alloc (Nat.le_refl _) _
  have h0 := heap_alloc_new w (.cells #[.int .i64 sd, .int .i64 hd, .int .i64 sa] 48)
  have HI : Hid ((w.alloc (.cells #[.int .i64 sd, .int .i64 hd, .int .i64 sa] 48)).heap[w.heap.size]? = some (.cells #[.int .i64 sd, .int .i64 hd, .int .i64 sa] 48 (0, 0)) ∧ w.heap.size < (w.alloc (.cells #[.int .i64 sd, .int .i64 hd, .int .i64 sa] 48)).heap.size ∧ Below w.heap.size w (w.alloc (.cells #[.int .i64 sd, .int .i64 hd, .int .i64 sa] 48))) := ⟨h0, by simp, hb0⟩
  clear h0 hb0
  go_enter Tryz.func56, Tryz.ntmps56
  go_wp2_with fail
  generalize w.alloc (.cells #[.int .i64 sd, .int .i64 hd, .int .i64 sa] 48) = w1 at HI ⊢
  refine wp_region_list (I := fun w' => w'.heap[w.heap.size]? = some (.cells #[.int .i64 sd, .int .i64 hd, .int .i64 sa] 48 (0, 0)) ∧ w.heap.size < w'.heap.size ∧ Below w.heap.size w w') (R := fun _ w' w'' => Below w'.heap.size w' w'')
    (fs := #[⟨[3], fun vs _ => vs = [.pointer (some ⟨w.heap.size, 0, none⟩)]⟩, ⟨[4], fun vs _ => vs = [.int .i64 sd]⟩, ⟨[5], fun vs _ => vs = [.int .i64 m]⟩, ⟨[6], fun vs w' => ∃ v, vs = [v] ∧ ToldIs L w'.heap.size w' (.atom m) v⟩, ⟨[7], fun vs _ => vs = [.pointer (some ⟨w.heap.size, 2, none⟩)]⟩, ⟨[8], fun vs _ => vs = [.int .i64 sa]⟩, ⟨[9], fun vs w' => ∃ v, vs = [v] ∧ ToldIs L w'.heap.size w' (.pl sa) v⟩, ⟨[10], fun vs w' => ∃ v, vs = [v] ∧ ToldIs L w'.heap.size w' (.hash (.pl sa)) v⟩, ⟨[11], fun vs w' => ∃ h u3 u7, vs = [.slice (some ⟨h, 0, none⟩) 2 2] ∧ (L ≤ h ∧ h < w'.heap.size) ∧ w'.heap[h]? = some (.cells #[u3, u7] 53 (0, 0)) ∧ ToldAll L w'.heap.size w' [.atom m, .hash (.pl sa)] [u3, u7]⟩, ⟨[12], fun vs w' => ∃ v, vs = [v] ∧ ToldIs L w'.heap.size w' (.list [.atom m, .hash (.pl sa)]) v⟩, ⟨[2], fun vs w' => ∃ v, vs = [v] ∧ ToldIs L w'.heap.size w' (.list [.atom m, .hash (.pl sa)]) v⟩])
    (by kernel_rfl) 13 rfl (by kernel_rfl) ?stab ?istab ?start ?exec ?fin
  case stab =>
    intro k i f hki hf
    have hk : k < 11 := (Array.getElem?_eq_some_iff.1 hf).1
    rcases (show k = 0 ∨ k = 1 ∨ k = 2 ∨ k = 3 ∨ k = 4 ∨ k = 5 ∨ k = 6 ∨ k = 7 ∨ k = 8 ∨ k = 9 ∨ k = 10 by omega) with rfl | rfl | rfl | rfl | rfl | rfl | rfl | rfl | rfl | rfl | rfl
    all_goals
      simp only [List.getElem?_toArray, List.getElem?_cons_succ, List.getElem?_cons_zero, Option.some.injEq] at hf
      subst hf
    · exact fun vs _ _ _ h => h
    · exact fun vs _ _ _ h => h
    · exact fun vs _ _ _ h => h
    · exact fun vs w' w'' hR ⟨v, h1, h2⟩ => ⟨v, h1, ToldIs.nx hR h2⟩
    · exact fun vs _ _ _ h => h
    · exact fun vs _ _ _ h => h
    · exact fun vs w' w'' hR ⟨v, h1, h2⟩ => ⟨v, h1, ToldIs.nx hR h2⟩
    · exact fun vs w' w'' hR ⟨v, h1, h2⟩ => ⟨v, h1, ToldIs.nx hR h2⟩
    · exact fun vs w' w'' hR ⟨h, u3, u7, h1, h2, h3, h4⟩ => ⟨h, u3, u7, h1, ⟨h2.1, by have := Below.size hR; omega⟩, (Below.block hR h h2.2).trans h3, ⟨h4.1, fun m hm => ToldIs.nx hR (h4.2 m hm)⟩⟩
    · exact fun vs w' w'' hR ⟨v, h1, h2⟩ => ⟨v, h1, ToldIs.nx hR h2⟩
    · exact fun vs w' w'' hR ⟨v, h1, h2⟩ => ⟨v, h1, ToldIs.nx hR h2⟩
  case istab => exact fun i w' w'' hR ⟨h1, h3, h4⟩ => ⟨(Below.block hR _ h3).trans h1, by have := Below.size hR; omega, h4.trans (Below.mono hR (by omega))⟩
  case start => exact ⟨HI.out.1, HI.out.2.1, HI.out.2.2.drew⟩
  case exec =>
    intro i o f hi hf act wq hsz hI hold hpre
    have hi11 : i < 11 := (Array.getElem?_eq_some_iff.1 hi).1
    rcases (show i = 0 ∨ i = 1 ∨ i = 2 ∨ i = 3 ∨ i = 4 ∨ i = 5 ∨ i = 6 ∨ i = 7 ∨ i = 8 ∨ i = 9 ∨ i = 10 by omega) with rfl | rfl | rfl | rfl | rfl | rfl | rfl | rfl | rfl | rfl | rfl
    all_goals
      simp only [List.getElem?_toArray, List.getElem?_cons_succ, List.getElem?_cons_zero, Option.some.injEq] at hi hf
      subst hi hf
    · have g1 : act.tmps.getD 1 undef = .pointer (some ⟨w.heap.size, 0, none⟩) := hold 1 (free_spec (by kernel_rfl))
      refine exec_same (v := .pointer (some ⟨w.heap.size, 0, none⟩)) ?_ ⟨_, rfl, Below.refl _ _, at_one (by omega) rfl⟩
      simp [go_sem, Act.eval, g1]
    · have g3 : act.tmps.getD 3 undef = .pointer (some ⟨w.heap.size, 0, none⟩) := by have := of_one (hpre ⟨0, .data⟩ (by simp) rfl _ rfl); simpa using this
      have hc : wq.cell? ⟨w.heap.size, 0, none⟩ = some (.int .i64 sd) := (cell_of_row _ _ 0 _ _ _ hI.1).trans rfl
      refine exec_same (v := .int .i64 sd) ?_ ⟨_, rfl, Below.refl _ _, at_one (by omega) rfl⟩
      simp [go_sem, Act.eval, g3, hc]
    · have g4 : act.tmps.getD 4 undef = .int .i64 sd := by have := of_one (hpre ⟨1, .data⟩ (by simp) rfl _ rfl); simpa using this
      have hmm := HM.out
      refine exec_same (v := .int .i64 m) ?_ ⟨_, rfl, Below.refl _ _, at_one (by omega) rfl⟩
      simp [go_sem, Act.eval, g4, hmm]
    · have g5 : act.tmps.getD 5 undef = .int .i64 m := by have := of_one (hpre ⟨2, .data⟩ (by simp) rfl _ rfl); simpa using this
      refine exec_call (f := 32) (args := #[.int .i64 m]) (by simp [go_sem, Act.eval, g5]) ?_
      refine Calls.mono (toldAtom_any (L := L) m wq (by have := hI.2.1; omega)) ?_
      rintro e w2 ⟨v2, rfl, l2, hb2⟩
      exact ⟨_, rfl, _, rfl, hb2, ⟨_, by show [(act.put _ _).tmps.getD _ undef] = _; rw [put_same _ _ _ (by omega)], l2⟩⟩
    · have g1 : act.tmps.getD 1 undef = .pointer (some ⟨w.heap.size, 0, none⟩) := hold 1 (free_spec (by kernel_rfl))
      refine exec_same (v := .pointer (some ⟨w.heap.size, 2, none⟩)) ?_ ⟨_, rfl, Below.refl _ _, at_one (by omega) rfl⟩
      simp [go_sem, Act.eval, g1]
    · have g7 : act.tmps.getD 7 undef = .pointer (some ⟨w.heap.size, 2, none⟩) := by have := of_one (hpre ⟨4, .data⟩ (by simp) rfl _ rfl); simpa using this
      have hc : wq.cell? ⟨w.heap.size, 2, none⟩ = some (.int .i64 sa) := (cell_of_row _ _ 2 _ _ _ hI.1).trans rfl
      refine exec_same (v := .int .i64 sa) ?_ ⟨_, rfl, Below.refl _ _, at_one (by omega) rfl⟩
      simp [go_sem, Act.eval, g7, hc]
    · have g8 : act.tmps.getD 8 undef = .int .i64 sa := by have := of_one (hpre ⟨5, .data⟩ (by simp) rfl _ rfl); simpa using this
      refine exec_call (f := 34) (args := #[.int .i64 sa]) (by simp [go_sem, Act.eval, g8]) ?_
      refine Calls.mono (toldAt_any (L := L) sa wq (by have := hI.2.1; omega)) ?_
      rintro e w2 ⟨v2, rfl, l2, hb2⟩
      exact ⟨_, rfl, _, rfl, hb2, ⟨_, by show [(act.put _ _).tmps.getD _ undef] = _; rw [put_same _ _ _ (by omega)], l2⟩⟩
    · obtain ⟨ua, h1_ua, lua⟩ := hpre ⟨6, .data⟩ (by simp) rfl _ rfl
      have g9 : act.tmps.getD 9 undef = ua := by simpa using h1_ua
      have g9' : act.tmps[9]?.getD undef = ua := by simpa using g9
      refine exec_call (f := 33) (args := #[ua]) (by simp [go_sem, Act.eval, g9]) ?_
      refine Calls.mono (toldHash_any (L := L) _ ua wq (by have := hI.2.1; omega) lua) ?_
      rintro e w2 ⟨v2, rfl, l2, hb2⟩
      exact ⟨_, rfl, _, rfl, hb2, ⟨_, by show [(act.put _ _).tmps.getD _ undef] = _; rw [put_same _ _ _ (by omega)], l2⟩⟩
    · obtain ⟨u3, h1_u3, lu3⟩ := hpre ⟨3, .data⟩ (by simp) rfl _ rfl
      have g6 : act.tmps.getD 6 undef = u3 := by simpa using h1_u3
      have g6' : act.tmps[6]?.getD undef = u3 := by simpa using g6
      obtain ⟨u7, h1_u7, lu7⟩ := hpre ⟨7, .data⟩ (by simp) rfl _ rfl
      have g10 : act.tmps.getD 10 undef = u7 := by simpa using h1_u7
      have g10' : act.tmps[10]?.getD undef = u7 := by simpa using g10
      obtain ⟨Fu3, cu3, rfl⟩ := lu3.fn
      obtain ⟨Fu7, cu7, rfl⟩ := lu7.fn
      have hbN : Below wq.heap.size wq (wq.alloc (.cells #[.func (.func Fu3) #[] cu3, .func (.func Fu7) #[] cu7] 53)) := (Below.refl _ _).alloc (Nat.le_refl _) _
      have hall : ToldAll L (wq.alloc (.cells #[.func (.func Fu3) #[] cu3, .func (.func Fu7) #[] cu7] 53)).heap.size (wq.alloc (.cells #[.func (.func Fu3) #[] cu3, .func (.func Fu7) #[] cu7] 53)) [.atom m, .hash (.pl sa)] [.func (.func Fu3) #[] cu3, .func (.func Fu7) #[] cu7] := by
        refine ⟨rfl, fun m hm => ?_⟩
        rcases (show m = 0 ∨ m = 1 by simp at hm; omega) with rfl | rfl
        · exact ToldIs.nx hbN lu3
        · exact ToldIs.nx hbN lu7
      refine exec_made (w' := wq.alloc (.cells #[.func (.func Fu3) #[] cu3, .func (.func Fu7) #[] cu7] 53)) (v := .slice (some ⟨wq.heap.size, 0, none⟩) 2 2) ?_ ⟨_, rfl, hbN, ⟨_, _, _,  by show [(act.put _ _).tmps.getD _ undef] = _; rw [put_same _ _ _ (by omega)], ⟨by have := hI.2.1; omega, by simp⟩, heap_alloc_new _ _, hall⟩⟩
      simp [go_sem, Act.eval, g6', g10']
    · obtain ⟨h, u3, u7, h1, h2, h3, h4⟩ := hpre ⟨8, .data⟩ (by simp) rfl _ rfl
      have g11 : act.tmps.getD 11 undef = .slice (some ⟨h, 0, none⟩) 2 2 := by simpa using h1
      refine exec_call (f := 25) (args := #[.slice (some ⟨h, 0, none⟩) 2 2]) (by simp [go_sem, Act.eval, g11]) ?_
      refine Calls.mono (toldList_any _ [u3, u7] wq (by have := hI.2.1; omega) h2 h3 h4) ?_
      rintro e w2 ⟨v2, rfl, l2, hb2⟩
      exact ⟨_, rfl, _, rfl, hb2, ⟨_, by show [(act.put _ _).tmps.getD _ undef] = _; rw [put_same _ _ _ (by omega)], l2⟩⟩
    · obtain ⟨ux, h1_ux, lux⟩ := hpre ⟨9, .data⟩ (by simp) rfl _ rfl
      have g12 : act.tmps.getD 12 undef = ux := by simpa using h1_ux
      have g12' : act.tmps[12]?.getD undef = ux := by simpa using g12
      refine exec_same (v := ux) ?_ ⟨_, rfl, Below.refl _ _, ⟨_, by show [(act.put _ _).tmps.getD _ undef] = _; rw [put_same _ _ _ (by omega)], lux⟩⟩
      simp [go_sem, Act.eval, g12]
  case fin =>
    intro zs w5 hzl hI hF
    obtain ⟨z0, z1, z2, z3, z4, z5, z6, z7, z8, z9, z10, rfl⟩ := zl11 zs hzl
    obtain ⟨vr, hv, lr⟩ := of_one (hF 10 _ rfl)
    simp only [List.cons.injEq, and_true] at hv
    have hs3 := last_is (i := 10) (v := z10) (n := 13) hv (by kernel_rfl) rfl rfl (by omega)
    clear hv
    subst hs3
    obtain ⟨Fl, cl, rfl⟩ := lr.fn
    have HK : Hid (ToldP L (.list [.atom m, .hash (.pl sa)]) w (.returned (.func (.func Fl) #[] cl)) w5) := ⟨_, rfl, lr, hI.2.2⟩
    clear hF lr hI hL
    simp only [putAll, Act.put, List.setIfInBounds_toArray, List.set_cons_succ, List.set_cons_zero]
    go_wp2
    go_ret
    exact HK.out
set_option maxHeartbeats 3200000 in
set_option maxRecDepth 20000 in
theorem psDone_any {L : Nat} (sd hd sa : Int) (w : World) (hL : L ≤ w.heap.size) {m : Int} (hm : IntKind.i64.wrap (10 + sd) = m) :
    Calls Tryz.prog 57 #[.agg #[.int .i64 sd, .int .i64 hd, .int .i64 sa]] w (ToldP L (.two 9 (.two 4 (.pl hd) (.atom m)) (.hash (.pl sa))) w) := by
  have HM : Hid (IntKind.i64.wrap (10 + sd) = m) := hm
  clear hm
  have hb0 : Below w.heap.size w (w.alloc (.cells #[.int .i64 sd, .int .i64 hd, .int .i64 sa] 48)) := (Below.refl _ _).alloc (Nat.le_refl _) _
  have h0 := heap_alloc_new w (.cells #[.int .i64 sd, .int .i64 hd, .int .i64 sa] 48)
  have HI : Hid ((w.alloc (.cells #[.int .i64 sd, .int .i64 hd, .int .i64 sa] 48)).heap[w.heap.size]? = some (.cells #[.int .i64 sd, .int .i64 hd, .int .i64 sa] 48 (0, 0)) ∧ w.heap.size < (w.alloc (.cells #[.int .i64 sd, .int .i64 hd, .int .i64 sa] 48)).heap.size ∧ Below w.heap.size w (w.alloc (.cells #[.int .i64 sd, .int .i64 hd, .int .i64 sa] 48))) := ⟨h0, by simp, hb0⟩
  clear h0 hb0
  go_enter Tryz.func57, Tryz.ntmps57
  go_wp2_with fail
  generalize w.alloc (.cells #[.int .i64 sd, .int .i64 hd, .int .i64 sa] 48) = w1 at HI ⊢
  refine wp_region_list (I := fun w' => w'.heap[w.heap.size]? = some (.cells #[.int .i64 sd, .int .i64 hd, .int .i64 sa] 48 (0, 0)) ∧ w.heap.size < w'.heap.size ∧ Below w.heap.size w w') (R := fun _ w' w'' => Below w'.heap.size w' w'')
    (fs := #[⟨[3], fun vs _ => vs = [.pointer (some ⟨w.heap.size, 1, none⟩)]⟩, ⟨[4], fun vs _ => vs = [.int .i64 hd]⟩, ⟨[5], fun vs w' => ∃ v, vs = [v] ∧ ToldIs L w'.heap.size w' (.pl hd) v⟩, ⟨[6], fun vs _ => vs = [.pointer (some ⟨w.heap.size, 0, none⟩)]⟩, ⟨[7], fun vs _ => vs = [.int .i64 sd]⟩, ⟨[8], fun vs _ => vs = [.pointer (some ⟨w.heap.size, 2, none⟩)]⟩, ⟨[9], fun vs _ => vs = [.int .i64 sa]⟩, ⟨[10], fun vs w' => ∃ v, vs = [v] ∧ ToldIs L w'.heap.size w' (.pl sa) v⟩, ⟨[11], fun vs w' => ∃ v, vs = [v] ∧ ToldIs L w'.heap.size w' (.two 9 (.two 4 (.pl hd) (.atom m)) (.hash (.pl sa))) v⟩, ⟨[2], fun vs w' => ∃ v, vs = [v] ∧ ToldIs L w'.heap.size w' (.two 9 (.two 4 (.pl hd) (.atom m)) (.hash (.pl sa))) v⟩])
    (by kernel_rfl) 12 rfl (by kernel_rfl) ?stab ?istab ?start ?exec ?fin
  case stab =>
    intro k i f hki hf
    have hk : k < 10 := (Array.getElem?_eq_some_iff.1 hf).1
    rcases (show k = 0 ∨ k = 1 ∨ k = 2 ∨ k = 3 ∨ k = 4 ∨ k = 5 ∨ k = 6 ∨ k = 7 ∨ k = 8 ∨ k = 9 by omega) with rfl | rfl | rfl | rfl | rfl | rfl | rfl | rfl | rfl | rfl
    all_goals
      simp only [List.getElem?_toArray, List.getElem?_cons_succ, List.getElem?_cons_zero, Option.some.injEq] at hf
      subst hf
    · exact fun vs _ _ _ h => h
    · exact fun vs _ _ _ h => h
    · exact fun vs w' w'' hR ⟨v, h1, h2⟩ => ⟨v, h1, ToldIs.nx hR h2⟩
    · exact fun vs _ _ _ h => h
    · exact fun vs _ _ _ h => h
    · exact fun vs _ _ _ h => h
    · exact fun vs _ _ _ h => h
    · exact fun vs w' w'' hR ⟨v, h1, h2⟩ => ⟨v, h1, ToldIs.nx hR h2⟩
    · exact fun vs w' w'' hR ⟨v, h1, h2⟩ => ⟨v, h1, ToldIs.nx hR h2⟩
    · exact fun vs w' w'' hR ⟨v, h1, h2⟩ => ⟨v, h1, ToldIs.nx hR h2⟩
  case istab => exact fun i w' w'' hR ⟨h1, h3, h4⟩ => ⟨(Below.block hR _ h3).trans h1, by have := Below.size hR; omega, h4.trans (Below.mono hR (by omega))⟩
  case start => exact ⟨HI.out.1, HI.out.2.1, HI.out.2.2.drew⟩
  case exec =>
    intro i o f hi hf act wq hsz hI hold hpre
    have hi11 : i < 10 := (Array.getElem?_eq_some_iff.1 hi).1
    rcases (show i = 0 ∨ i = 1 ∨ i = 2 ∨ i = 3 ∨ i = 4 ∨ i = 5 ∨ i = 6 ∨ i = 7 ∨ i = 8 ∨ i = 9 by omega) with rfl | rfl | rfl | rfl | rfl | rfl | rfl | rfl | rfl | rfl
    all_goals
      simp only [List.getElem?_toArray, List.getElem?_cons_succ, List.getElem?_cons_zero, Option.some.injEq] at hi hf
      subst hi hf
    · have g1 : act.tmps.getD 1 undef = .pointer (some ⟨w.heap.size, 0, none⟩) := hold 1 (free_spec (by kernel_rfl))
      refine exec_same (v := .pointer (some ⟨w.heap.size, 1, none⟩)) ?_ ⟨_, rfl, Below.refl _ _, at_one (by omega) rfl⟩
      simp [go_sem, Act.eval, g1]
    · have g3 : act.tmps.getD 3 undef = .pointer (some ⟨w.heap.size, 1, none⟩) := by have := of_one (hpre ⟨0, .data⟩ (by simp) rfl _ rfl); simpa using this
      have hc : wq.cell? ⟨w.heap.size, 1, none⟩ = some (.int .i64 hd) := (cell_of_row _ _ 1 _ _ _ hI.1).trans rfl
      refine exec_same (v := .int .i64 hd) ?_ ⟨_, rfl, Below.refl _ _, at_one (by omega) rfl⟩
      simp [go_sem, Act.eval, g3, hc]
    · have g4 : act.tmps.getD 4 undef = .int .i64 hd := by have := of_one (hpre ⟨1, .data⟩ (by simp) rfl _ rfl); simpa using this
      refine exec_call (f := 34) (args := #[.int .i64 hd]) (by simp [go_sem, Act.eval, g4]) ?_
      refine Calls.mono (toldAt_any (L := L) hd wq (by have := hI.2.1; omega)) ?_
      rintro e w2 ⟨v2, rfl, l2, hb2⟩
      exact ⟨_, rfl, _, rfl, hb2, ⟨_, by show [(act.put _ _).tmps.getD _ undef] = _; rw [put_same _ _ _ (by omega)], l2⟩⟩
    · have g1 : act.tmps.getD 1 undef = .pointer (some ⟨w.heap.size, 0, none⟩) := hold 1 (free_spec (by kernel_rfl))
      refine exec_same (v := .pointer (some ⟨w.heap.size, 0, none⟩)) ?_ ⟨_, rfl, Below.refl _ _, at_one (by omega) rfl⟩
      simp [go_sem, Act.eval, g1]
    · have g6 : act.tmps.getD 6 undef = .pointer (some ⟨w.heap.size, 0, none⟩) := by have := of_one (hpre ⟨3, .data⟩ (by simp) rfl _ rfl); simpa using this
      have hc : wq.cell? ⟨w.heap.size, 0, none⟩ = some (.int .i64 sd) := (cell_of_row _ _ 0 _ _ _ hI.1).trans rfl
      refine exec_same (v := .int .i64 sd) ?_ ⟨_, rfl, Below.refl _ _, at_one (by omega) rfl⟩
      simp [go_sem, Act.eval, g6, hc]
    · have g1 : act.tmps.getD 1 undef = .pointer (some ⟨w.heap.size, 0, none⟩) := hold 1 (free_spec (by kernel_rfl))
      refine exec_same (v := .pointer (some ⟨w.heap.size, 2, none⟩)) ?_ ⟨_, rfl, Below.refl _ _, at_one (by omega) rfl⟩
      simp [go_sem, Act.eval, g1]
    · have g8 : act.tmps.getD 8 undef = .pointer (some ⟨w.heap.size, 2, none⟩) := by have := of_one (hpre ⟨5, .data⟩ (by simp) rfl _ rfl); simpa using this
      have hc : wq.cell? ⟨w.heap.size, 2, none⟩ = some (.int .i64 sa) := (cell_of_row _ _ 2 _ _ _ hI.1).trans rfl
      refine exec_same (v := .int .i64 sa) ?_ ⟨_, rfl, Below.refl _ _, at_one (by omega) rfl⟩
      simp [go_sem, Act.eval, g8, hc]
    · have g9 : act.tmps.getD 9 undef = .int .i64 sa := by have := of_one (hpre ⟨6, .data⟩ (by simp) rfl _ rfl); simpa using this
      refine exec_call (f := 34) (args := #[.int .i64 sa]) (by simp [go_sem, Act.eval, g9]) ?_
      refine Calls.mono (toldAt_any (L := L) sa wq (by have := hI.2.1; omega)) ?_
      rintro e w2 ⟨v2, rfl, l2, hb2⟩
      exact ⟨_, rfl, _, rfl, hb2, ⟨_, by show [(act.put _ _).tmps.getD _ undef] = _; rw [put_same _ _ _ (by omega)], l2⟩⟩
    · obtain ⟨u2, h1_u2, lu2⟩ := hpre ⟨2, .data⟩ (by simp) rfl _ rfl
      have g5 : act.tmps.getD 5 undef = u2 := by simpa using h1_u2
      have g5' : act.tmps[5]?.getD undef = u2 := by simpa using g5
      have g7 : act.tmps.getD 7 undef = .int .i64 sd := by have := of_one (hpre ⟨4, .data⟩ (by simp) rfl _ rfl); simpa using this
      obtain ⟨u7, h1_u7, lu7⟩ := hpre ⟨7, .data⟩ (by simp) rfl _ rfl
      have g10 : act.tmps.getD 10 undef = u7 := by simpa using h1_u7
      have g10' : act.tmps[10]?.getD undef = u7 := by simpa using g10
      refine exec_call (f := 92) (args := #[u2, .int .i64 sd, u7]) (by simp [go_sem, Act.eval, g5, g7, g10]) ?_
      refine Calls.mono (toldDone_any (L := L) _ u2 sd _ u7 wq (by have := hI.2.1; omega) lu2 lu7 HM.out) ?_
      rintro e w2 ⟨v2, rfl, l2, hb2⟩
      exact ⟨_, rfl, _, rfl, hb2, ⟨_, by show [(act.put _ _).tmps.getD _ undef] = _; rw [put_same _ _ _ (by omega)], l2⟩⟩
    · obtain ⟨ux, h1_ux, lux⟩ := hpre ⟨8, .data⟩ (by simp) rfl _ rfl
      have g11 : act.tmps.getD 11 undef = ux := by simpa using h1_ux
      have g11' : act.tmps[11]?.getD undef = ux := by simpa using g11
      refine exec_same (v := ux) ?_ ⟨_, rfl, Below.refl _ _, ⟨_, by show [(act.put _ _).tmps.getD _ undef] = _; rw [put_same _ _ _ (by omega)], lux⟩⟩
      simp [go_sem, Act.eval, g11]
  case fin =>
    intro zs w5 hzl hI hF
    obtain ⟨z0, z1, z2, z3, z4, z5, z6, z7, z8, z9, rfl⟩ := zl10 zs hzl
    obtain ⟨vr, hv, lr⟩ := of_one (hF 9 _ rfl)
    simp only [List.cons.injEq, and_true] at hv
    have hs3 := last_is (i := 9) (v := z9) (n := 12) hv (by kernel_rfl) rfl rfl (by omega)
    clear hv
    subst hs3
    obtain ⟨Fl, cl, rfl⟩ := lr.fn
    have HK : Hid (ToldP L (.two 9 (.two 4 (.pl hd) (.atom m)) (.hash (.pl sa))) w (.returned (.func (.func Fl) #[] cl)) w5) := ⟨_, rfl, lr, hI.2.2⟩
    clear hF lr hI hL
    simp only [putAll, Act.put, List.setIfInBounds_toArray, List.set_cons_succ, List.set_cons_zero]
    go_wp2
    go_ret
    exact HK.out
theorem tabSize : (Tryz.prog.info? 50).map (·.size) = some 3 := by kernel_rfl
set_option maxHeartbeats 800000 in
theorem sideTable_any (w : World) : Calls Tryz.prog 23 #[] w fun e w' => e = .returned (.agg #[.func (.func 55) #[] #[], .func (.func 56) #[] #[], .func (.func 57) #[] #[]]) ∧ Below w.heap.size w w' := by
  have HB : Hid ((w.alloc (.cells #[.func (.func 55) #[] #[], .func (.func 56) #[] #[], .func (.func 57) #[] #[]] 50)).heap[w.heap.size]? = some (.cells #[.func (.func 55) #[] #[], .func (.func 56) #[] #[], .func (.func 57) #[] #[]] 50 (0, 0)) ∧ Below w.heap.size w (w.alloc (.cells #[.func (.func 55) #[] #[], .func (.func 56) #[] #[], .func (.func 57) #[] #[]] 50))) := ⟨heap_alloc_new w _, (Below.refl _ _).alloc (Nat.le_refl _) _⟩
  go_enter Tryz.func23, Tryz.ntmps23
  go_wp2
  refine bodyPost_ret (results_cell_row rfl _ _ w.heap.size 50 #[.func (.func 55) #[] #[], .func (.func 56) #[] #[], .func (.func 57) #[] #[]] (0, 0) _ rfl ?_ Tryz.underlying50 rfl tabSize) rfl ?_
  · exact HB.out.1
  · exact ⟨rfl, HB.out.2⟩
/-- Who it is: the certificate, and what is signed; or Atom 0 twice. -/
def whoC (mo nm : Int) : Tl := if mo = 1 then certT nm else .atom 0
def whoS (mo nm : Int) (x : Tl) : Tl := if mo = 1 then .two 8 (longT nm) x else .atom 0
set_option maxHeartbeats 1600000 in
set_option maxRecDepth 20000 in
theorem toldWho_any {L : Nat} (mo nm : Int) (x : Tl) (v : Value) (w : World) (hL : L ≤ w.heap.size) (hn : (Lit.int .i64 nm).wf = true) (hx : ToldIs L w.heap.size w x v) :
    Calls Tryz.prog 24 #[.int .i64 mo, .int .i64 nm, v] w fun e w' => ∃ v1 v2, e = .returned (.tuple #[v1, v2]) ∧ ToldIs L w'.heap.size w' (whoC mo nm) v1 ∧ ToldIs L w'.heap.size w' (whoS mo nm x) v2 ∧ Below w.heap.size w w' := by
  unfold whoC whoS
  obtain ⟨F, cs, rfl⟩ := hx.fn
  have HX : Hid (ToldIs L w.heap.size w x (.func (.func F) #[] cs) ∧ L ≤ w.heap.size) := ⟨hx, hL⟩
  clear hx hL
  by_cases hm : mo = 1
  · subst hm
    rw [if_pos rfl, if_pos rfl]
    go_enter Tryz.func24, Tryz.ntmps24
    go_wp2_with fail
    refine Calls.mono (toldCert_any (L := L) nm w HX.out.2 hn) ?_
    rintro e w1 ⟨v1, rfl, t1, b1⟩
    obtain ⟨F1, c1, rfl⟩ := t1.fn
    have H1 : Hid (ToldIs L w1.heap.size w1 (certT nm) (.func (.func F1) #[] c1) ∧ ToldIs L w1.heap.size w1 x (.func (.func F) #[] cs) ∧ L ≤ w1.heap.size ∧ Below w.heap.size w w1) := ⟨t1, ToldIs.nx b1 HX.out.1, Nat.le_trans HX.out.2 b1.size, b1⟩
    clear t1 b1 HX
    go_wp2_with fail
    refine Calls.mono (toldLong_any (L := L) nm w1 H1.out.2.2.1 hn) ?_
    rintro e w2 ⟨v2, rfl, t2, b2⟩
    obtain ⟨F2, c2, rfl⟩ := t2.fn
    have H2 : Hid (ToldIs L w2.heap.size w2 (certT nm) (.func (.func F1) #[] c1) ∧ ToldIs L w2.heap.size w2 x (.func (.func F) #[] cs) ∧ L ≤ w2.heap.size ∧ Below w.heap.size w w2 ∧ ToldIs L w2.heap.size w2 (longT nm) (.func (.func F2) #[] c2)) := ⟨ToldIs.nx b2 H1.out.1, ToldIs.nx b2 H1.out.2.1, Nat.le_trans H1.out.2.2.1 b2.size, H1.out.2.2.2.trans (b2.mono H1.out.2.2.2.size), t2⟩
    clear t2 b2 H1
    go_wp2_with fail
    refine Calls.mono (toldTwo_any (L := L) 8 _ _ _ _ w2 H2.out.2.2.1 H2.out.2.2.2.2 H2.out.2.1) ?_
    rintro e w3 ⟨v3, rfl, t3, b3⟩
    obtain ⟨F3, c3, rfl⟩ := t3.fn
    have H3 : Hid (ToldIs L w3.heap.size w3 (certT nm) (.func (.func F1) #[] c1) ∧ ToldIs L w3.heap.size w3 (.two 8 (longT nm) x) (.func (.func F3) #[] c3) ∧ Below w.heap.size w w3) := ⟨ToldIs.nx b3 H2.out.1, t3, H2.out.2.2.2.1.trans (b3.mono H2.out.2.2.2.1.size)⟩
    clear t3 b3 H2
    go_wp2
    go_ret2
    exact ⟨_, _, rfl, H3.out.1, H3.out.2.1, H3.out.2.2⟩
  · rw [if_neg hm, if_neg hm]
    have hm' : (mo == 1) = false := by simp [hm]
    clear hm
    go_enter Tryz.func24, Tryz.ntmps24
    go_wp2_with fail
    refine Calls.mono (toldAtom_any (L := L) 0 w HX.out.2) ?_
    rintro e w1 ⟨v1, rfl, t1, b1⟩
    obtain ⟨F1, c1, rfl⟩ := t1.fn
    have H1 : Hid (ToldIs L w1.heap.size w1 (.atom 0) (.func (.func F1) #[] c1) ∧ L ≤ w1.heap.size ∧ Below w.heap.size w w1) := ⟨t1, Nat.le_trans HX.out.2 b1.size, b1⟩
    clear t1 b1 HX
    go_wp2_with fail
    refine Calls.mono (toldAtom_any (L := L) 0 w1 H1.out.2.1) ?_
    rintro e w2 ⟨v2, rfl, t2, b2⟩
    obtain ⟨F2, c2, rfl⟩ := t2.fn
    have H2 : Hid (ToldIs L w2.heap.size w2 (.atom 0) (.func (.func F1) #[] c1) ∧ ToldIs L w2.heap.size w2 (.atom 0) (.func (.func F2) #[] c2) ∧ Below w.heap.size w w2) := ⟨ToldIs.nx b2 H1.out.1, t2, H1.out.2.2.trans (b2.mono H1.out.2.2.size)⟩
    clear t2 b2 H1
    go_wp2
    go_ret2
    exact ⟨_, _, rfl, H2.out.1, H2.out.2.1, H2.out.2.2⟩
end Go.Proofs.YtaanophnnkmkbaaGreat
