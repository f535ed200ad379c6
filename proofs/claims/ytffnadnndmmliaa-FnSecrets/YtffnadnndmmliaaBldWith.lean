/- The program's arena in the making (chapter 3): arenaWith. -/
import Derived.Test.YtffnadnndmmliaaBldOf
import Derived.WalkKit
import Derived.WalkLawsBesides
import Derived.WalkSpells
import Derived.Laws.Rows
namespace Go.Proofs.Ytffnadnndmmliaa
open Go.RowKit Go.Maps
set_option linter.unusedVariables false
theorem OwnC.later {B : Nat} {w w' : World} {v : Value} {ns : List Nd} (h : OwnC B w v ns) (hb : Below w.heap.size w w') : OwnC B w' v ns := by
  obtain ⟨a, cap, cp, e, ha, ho⟩ := h
  exact ⟨a, cap, cp, e, ha, ho.later hb⟩
theorem OwnC.base {B B' : Nat} {w : World} {v : Value} {ns : List Nd} (h : OwnC B w v ns) (hb : B' ≤ B) : OwnC B' w v ns := by
  obtain ⟨a, cap, cp, e, ha, ho⟩ := h
  exact ⟨a, cap, cp, e, ha, OwnN.base ho hb⟩
theorem OwnC.row {B : Nat} {w : World} {v : Value} {ns : List Nd} (h : OwnC B w v ns) : ∃ a cap, v = .slice a ns.length cap ∧ AddrN a cap ∧ RowN w.heap.size w a ns := by
  obtain ⟨a, cap, cp, rfl, ha, ho⟩ := h
  obtain ⟨a', cap', e, _, hr⟩ := ho.row
  cases e
  exact ⟨a, cap, rfl, ha, hr⟩
theorem aw_istab {w w' w'' : World} {i : Nat} (hR : if i = 11 then ∃ u, w'' = w'.setCell ⟨w.heap.size, 0, none⟩ u else w'' = w') (h : Below w.heap.size w w' ∧ ∃ u, w'.heap[w.heap.size]? = some (.cells #[u] 28 (0, 0))) : Below w.heap.size w w'' ∧ ∃ u, w''.heap[w.heap.size]? = some (.cells #[u] 28 (0, 0)) := by
  by_cases e : i = 11
  · rw [if_pos e] at hR
    obtain ⟨u, rfl⟩ := hR
    obtain ⟨u', hu'⟩ := h.2
    exact ⟨h.1.setCell (Nat.le_refl _) _, u, (heap_setCell_same w' _ 0 _ _ _ hu').trans rfl⟩
  · rw [if_neg e] at hR
    rw [hR]; exact h
set_option maxHeartbeats 1600000 in
set_option maxRecDepth 20000 in
theorem aWith_no (B gb gm n f : Nat) (ns : List Nd) (v : Value) (k : Int) (w : World) (hl : ns.length ≤ 1048576) (hf : f ≤ ns.length) (hk : k < 0) (h : BldAt B gb gm n f ns v w) :
    Calls Try.prog 82 #[.pointer (some ⟨gb, 0, none⟩), .int .i64 k] w fun e w' => ∃ v', e = .returned (.tuple #[.agg #[v'], .int .i64 (-1)]) ∧ OwnC B w' v' (ns.take f) ∧ Below w.heap.size w w' := by
  obtain ⟨D, h1, h2, _⟩ := h
  have hgb : gb < w.heap.size := (Array.getElem?_eq_some_iff.1 h1).1
  obtain ⟨av, cv, rfl, hav, -⟩ := h2.row
  have hcl : f ≤ cv ∧ cv ≤ maxLen ∧ (av = none → f = 0) := by
    rcases h2.2 with ⟨e, h0⟩ | ⟨g, cap, cur, e, _, _, h3, h4, _⟩
    · obtain ⟨rfl, h5, rfl⟩ : av = none ∧ ns.length = 0 ∧ cv = 0 := by simpa using e
      exact ⟨by omega, by unfold maxLen; omega, fun _ => by omega⟩
    · obtain ⟨rfl, rfl⟩ : av = some ⟨g, 0, none⟩ ∧ cv = cap := by simpa using e
      exact ⟨by omega, h4, fun e => by cases e⟩
  have hlt : (ns.take f).length = f := by rw [List.length_take]; omega
  have HC0 : Hid (w.cell? ⟨gb, 0, none⟩ = some (.slice av ns.length cv)) := (cell_of_row w _ 0 _ _ _ h1).trans rfl
  have HC2 : Hid (w.cell? ⟨gb, 2, none⟩ = some (.int .i64 (f : Int))) := (cell_of_row w _ 2 _ _ _ h1).trans rfl
  have HAV : Hid (AddrN av cv) := hav
  have HM : Hid (cv ≤ maxLen) := hcl.2.1
  have HZ : Hid (av = none → f = 0) := hcl.2.2
  have hfc := hcl.1
  have HOC : Hid (∀ w', Below w.heap.size w w' → OwnC B w' (.slice av f f) (ns.take f)) := fun w' hb => by
    refine OwnC.later ?_ hb
    refine ⟨av, f, cv, by rw [hlt], ?_, OwnN.take h2 hf⟩
    rcases hav with ⟨rfl, _⟩ | hh
    · exact .inl ⟨rfl, hcl.2.2 rfl⟩
    · exact .inr hh
  have HSL : Hid (∀ wq : World, (Instr.slice 26 (.slice av ns.length cv) none (some (.int .i64 (f : Int))) none).run Try.prog wq = .ok (.slice av f cv) wq) := fun wq => by
    rcases hav with ⟨rfl, rfl⟩ | ⟨b, off, rfl⟩
    · obtain rfl := hcl.2.2 rfl
      simp [go_sem, Try.underlying26]
    · have h1 : (0 : Int) ≤ (f : Int) := by omega
      have h2 : (f : Int) ≤ (cv : Int) := by omega
      simp [go_sem, Try.underlying26, h1, h2]
  clear hcl hav h1 h2 hlt
  have hb0 : Below w.heap.size w (w.alloc (.cells #[.slice none 0 0] 28)) := (Below.refl _ _).alloc (Nat.le_refl _) _
  have hR0 := heap_alloc_new w (.cells #[.slice none 0 0] 28)
  go_enter Try.func82, Try.ntmps82
  go_wp2_with fail
  generalize w.alloc (.cells #[.slice none 0 0] 28) = w0 at hb0 hR0 ⊢
  refine wp_region_list (I := fun w' => Below w.heap.size w w' ∧ ∃ u, w'.heap[w.heap.size]? = some (.cells #[u] 28 (0, 0))) (R := fun i w' w'' => if i = 11 then ∃ u, w'' = w'.setCell ⟨w.heap.size, 0, none⟩ u else w'' = w')
    (fs := #[⟨[8], fun vs _ => vs = [.pointer (some ⟨gb, 0, none⟩)]⟩, ⟨[9], fun vs _ => vs = [.pointer (some ⟨gb, 0, none⟩)]⟩, ⟨[10], fun vs _ => vs = [.pointer (some ⟨gb, 0, none⟩)]⟩, ⟨[11], fun vs _ => vs = [.slice av ns.length cv]⟩, ⟨[12], fun vs _ => vs = [.pointer (some ⟨gb, 0, none⟩)]⟩, ⟨[13], fun vs _ => vs = [.pointer (some ⟨gb, 0, none⟩)]⟩, ⟨[14], fun vs _ => vs = [.pointer (some ⟨gb, 2, none⟩)]⟩, ⟨[15], fun vs _ => vs = [.int .i64 (f : Int)]⟩, ⟨[16], fun vs _ => vs = [.slice av f cv]⟩, ⟨[17], fun vs _ => vs = [.slice av f f]⟩, ⟨[18], fun vs _ => vs = [.agg #[.slice av f f]]⟩, ⟨[18], fun vs w' => vs = [.agg #[.slice av f f]] ∧ w'.heap[w.heap.size]? = some (.cells #[.slice av f f] 28 (0, 0))⟩, ⟨[5], fun vs _ => vs = [.int .i64 (-1)]⟩])
    (by kernel_rfl) 25 rfl (by kernel_rfl) ?stab ?istab ?start ?exec ?fin
  case stab =>
    intro k i f hki hf
    have hk : k < 13 := (Array.getElem?_eq_some_iff.1 hf).1
    rcases (show k = 0 ∨ k = 1 ∨ k = 2 ∨ k = 3 ∨ k = 4 ∨ k = 5 ∨ k = 6 ∨ k = 7 ∨ k = 8 ∨ k = 9 ∨ k = 10 ∨ k = 11 ∨ k = 12 by omega) with rfl | rfl | rfl | rfl | rfl | rfl | rfl | rfl | rfl | rfl | rfl | rfl | rfl
    all_goals
      simp only [List.getElem?_toArray, List.getElem?_cons_succ, List.getElem?_cons_zero, Option.some.injEq] at hf
      subst hf
    · exact fun vs _ _ _ h => h
    · exact fun vs _ _ _ h => h
    · exact fun vs _ _ _ h => h
    · exact fun vs _ _ _ h => h
    · exact fun vs _ _ _ h => h
    · exact fun vs _ _ _ h => h
    · exact fun vs _ _ _ h => h
    · exact fun vs _ _ _ h => h
    · exact fun vs _ _ _ h => h
    · exact fun vs _ _ _ h => h
    · exact fun vs _ _ _ h => h
    · exact fun vs w' w'' hR ⟨h1, h2⟩ => ⟨h1, by rw [if_neg (Ne.symm hki)] at hR; rw [hR]; exact h2⟩
    · exact fun vs _ _ _ h => h
  case istab => exact fun i w' w'' hR h => aw_istab hR h
  case start => exact ⟨hb0.drew, _, hR0⟩
  case exec =>
    intro i o f hi hf a_1 wq hsz hI hold hpre
    have hi11 : i < 13 := (Array.getElem?_eq_some_iff.1 hi).1
    rcases (show i = 0 ∨ i = 1 ∨ i = 2 ∨ i = 3 ∨ i = 4 ∨ i = 5 ∨ i = 6 ∨ i = 7 ∨ i = 8 ∨ i = 9 ∨ i = 10 ∨ i = 11 ∨ i = 12 by omega) with rfl | rfl | rfl | rfl | rfl | rfl | rfl | rfl | rfl | rfl | rfl | rfl | rfl
    all_goals
      simp only [List.getElem?_toArray, List.getElem?_cons_succ, List.getElem?_cons_zero, Option.some.injEq] at hi hf
      subst hi hf
    · have g0 : a_1.tmps.getD 0 undef = .pointer (some ⟨gb, 0, none⟩) := hold 0 (free_spec (by kernel_rfl))
      refine exec_same (v := .pointer (some ⟨gb, 0, none⟩)) ?_ ⟨_, rfl, (by show (if _ then _ else _); rw [if_neg (by decide)]), at_one (by omega) rfl⟩
      simp [go_sem, Act.eval, g0]
    · have g8 : a_1.tmps.getD 8 undef = .pointer (some ⟨gb, 0, none⟩) := by have := of_one (hpre ⟨0, .data⟩ (by simp) rfl _ rfl); simpa using this
      refine exec_same (v := .pointer (some ⟨gb, 0, none⟩)) ?_ ⟨_, rfl, (by show (if _ then _ else _); rw [if_neg (by decide)]), at_one (by omega) rfl⟩
      simp [go_sem, Act.eval, g8]
    · have g9 : a_1.tmps.getD 9 undef = .pointer (some ⟨gb, 0, none⟩) := by have := of_one (hpre ⟨1, .data⟩ (by simp) rfl _ rfl); simpa using this
      refine exec_same (v := .pointer (some ⟨gb, 0, none⟩)) ?_ ⟨_, rfl, (by show (if _ then _ else _); rw [if_neg (by decide)]), at_one (by omega) rfl⟩
      simp [go_sem, Act.eval, g9]
    · have g10 : a_1.tmps.getD 10 undef = .pointer (some ⟨gb, 0, none⟩) := by have := of_one (hpre ⟨2, .data⟩ (by simp) rfl _ rfl); simpa using this
      have hc : wq.cell? ⟨gb, 0, none⟩ = some (.slice av ns.length cv) := (hI.1.cell (p := ⟨gb, 0, none⟩) hgb).trans HC0.out
      refine exec_same (v := .slice av ns.length cv) ?_ ⟨_, rfl, (by show (if _ then _ else _); rw [if_neg (by decide)]), at_one (by omega) rfl⟩
      simp [go_sem, Act.eval, g10, hc]
    · have g0 : a_1.tmps.getD 0 undef = .pointer (some ⟨gb, 0, none⟩) := hold 0 (free_spec (by kernel_rfl))
      refine exec_same (v := .pointer (some ⟨gb, 0, none⟩)) ?_ ⟨_, rfl, (by show (if _ then _ else _); rw [if_neg (by decide)]), at_one (by omega) rfl⟩
      simp [go_sem, Act.eval, g0]
    · have g12 : a_1.tmps.getD 12 undef = .pointer (some ⟨gb, 0, none⟩) := by have := of_one (hpre ⟨4, .data⟩ (by simp) rfl _ rfl); simpa using this
      refine exec_same (v := .pointer (some ⟨gb, 0, none⟩)) ?_ ⟨_, rfl, (by show (if _ then _ else _); rw [if_neg (by decide)]), at_one (by omega) rfl⟩
      simp [go_sem, Act.eval, g12]
    · have g13 : a_1.tmps.getD 13 undef = .pointer (some ⟨gb, 0, none⟩) := by have := of_one (hpre ⟨5, .data⟩ (by simp) rfl _ rfl); simpa using this
      refine exec_same (v := .pointer (some ⟨gb, 2, none⟩)) ?_ ⟨_, rfl, (by show (if _ then _ else _); rw [if_neg (by decide)]), at_one (by omega) rfl⟩
      simp [go_sem, Act.eval, g13]
    · have g14 : a_1.tmps.getD 14 undef = .pointer (some ⟨gb, 2, none⟩) := by have := of_one (hpre ⟨6, .data⟩ (by simp) rfl _ rfl); simpa using this
      have hc : wq.cell? ⟨gb, 2, none⟩ = some (.int .i64 (f : Int)) := (hI.1.cell (p := ⟨gb, 2, none⟩) hgb).trans HC2.out
      refine exec_same (v := .int .i64 (f : Int)) ?_ ⟨_, rfl, (by show (if _ then _ else _); rw [if_neg (by decide)]), at_one (by omega) rfl⟩
      simp [go_sem, Act.eval, g14, hc]
    · have g11 : a_1.tmps.getD 11 undef = .slice av ns.length cv := by have := of_one (hpre ⟨3, .data⟩ (by simp) rfl _ rfl); simpa using this
      have g15 : a_1.tmps.getD 15 undef = .int .i64 (f : Int) := by have := of_one (hpre ⟨7, .data⟩ (by simp) rfl _ rfl); simpa using this
      have hsl := HSL.out wq
      refine exec_same (v := .slice av f cv) ?_ ⟨_, rfl, (by show (if _ then _ else _); rw [if_neg (by decide)]), at_one (by omega) rfl⟩
      simp [go_sem, Act.eval, g11, g15, hsl]
    · have g16 : a_1.tmps.getD 16 undef = .slice av f cv := by have := of_one (hpre ⟨8, .data⟩ (by simp) rfl _ rfl); simpa using this
      refine exec_call (f := 153) (args := #[.slice av f cv]) (by simp [go_sem, Act.eval, g16]) ?_
      refine (clip_any av f cv wq HAV.out (by omega) HM.out HZ.out).mono ?_
      rintro e w2 ⟨rfl, rfl⟩
      exact ⟨_, rfl, _, rfl, (by show (if _ then _ else _); rw [if_neg (by decide)]), at_one (by omega) rfl⟩
    · have g17 : a_1.tmps.getD 17 undef = .slice av f f := by have := of_one (hpre ⟨9, .data⟩ (by simp) rfl _ rfl); simpa using this
      have e17 : a_1.tmps[17]?.getD undef = .slice av f f := by simpa using g17
      refine exec_same (v := .agg #[.slice av f f]) ?_ ⟨_, rfl, (by show (if _ then _ else _); rw [if_neg (by decide)]), at_one (by omega) rfl⟩
      simp [go_sem, e17]
    · have g18 : a_1.tmps.getD 18 undef = .agg #[.slice av f f] := by have := of_one (hpre ⟨10, .data⟩ (by simp) rfl _ rfl); simpa using this
      have g4 : a_1.tmps.getD 4 undef = .pointer (some ⟨w.heap.size, 0, none⟩) := hold 4 (free_spec (by kernel_rfl))
      obtain ⟨u, hu⟩ := hI.2
      have hcg : wq.cell? ⟨w.heap.size, 0, none⟩ = some u := by rw [cell_of_row wq _ 0 _ _ _ hu]; rfl
      have hfg : wq.frozen? ⟨w.heap.size, 0, none⟩ = false := frozen_of_row wq _ 0 _ _ hu
      refine exec_skip (w' := wq.setCell ⟨w.heap.size, 0, none⟩ (.slice av f f)) ?_ ⟨_, rfl, ?_, ?_⟩
      · simp [go_sem, Act.eval, g4, g18, hcg, hfg]
      · show (if _ then _ else _); rw [if_pos rfl]; exact ⟨_, rfl⟩
      · exact ⟨by show [a_1.tmps.getD 18 undef] = _; rw [g18], (heap_setCell_same wq _ 0 _ _ _ hu).trans rfl⟩
    · refine exec_same (v := .int .i64 (-1)) ?_ ⟨_, rfl, (by show (if _ then _ else _); rw [if_neg (by decide)]), at_one (by omega) rfl⟩
      simp [go_sem, Act.eval]
  case fin =>
    intro zs w5 hzl hI hF
    obtain ⟨z0, z1, z2, z3, z4, z5, z6, z7, z8, z9, z10, z11, z12, rfl⟩ := list13 zs hzl
    obtain ⟨-, hbox⟩ := of_one (hF 11 _ rfl)
    have hint := of_one (hF 12 _ rfl)
    simp only [List.cons.injEq, and_true] at hint
    have hs3 := last_is (i := 12) (v := z12) (n := 25) hint (by kernel_rfl) rfl rfl (by omega)
    clear hint
    subst hs3
    clear hF
    simp only [putAll, Act.put, List.setIfInBounds_toArray, List.set_cons_succ, List.set_cons_zero]
    have HE : Hid _ := And.intro hbox hI.1
    clear hbox hI
    go_wp2
    refine bodyPost_ret (res_cell2 rfl _ _ w.heap.size 28 #[.slice av f f] (0, 0) _ rfl ?_ Try.underlying28 rfl arenaSize) rfl ?_
    · exact HE.out.1
    · exact ⟨_, rfl, HOC.out w5 HE.out.2, HE.out.2⟩

set_option maxHeartbeats 800000 in
theorem aWith_yes (B gb gm n f : Nat) (ns : List Nd) (v : Value) (k : Int) (w : World) (hl : ns.length ≤ 1048576) (hk : ¬ k < 0) (h : BldAt B gb gm n f ns v w) :
    Calls Try.prog 82 #[.pointer (some ⟨gb, 0, none⟩), .int .i64 k] w fun e w' => ∃ v', e = .returned (.tuple #[.agg #[v'], .int .i64 k]) ∧ OwnC B w' v' ns ∧ Below w.heap.size w w' := by
  obtain ⟨D, h1, h2, _⟩ := h
  have hgb : gb < w.heap.size := (Array.getElem?_eq_some_iff.1 h1).1
  obtain ⟨av, cv, rfl, hav, -⟩ := h2.row
  have hb0 : Below w.heap.size w (w.alloc (.cells #[.slice none 0 0] 28)) := (Below.refl _ _).alloc (Nat.le_refl _) _
  have c0 : (w.alloc (.cells #[.slice none 0 0] 28)).cell? ⟨gb, 0, none⟩ = some (.slice av ns.length cv) := (hb0.cell (p := ⟨gb, 0, none⟩) hgb).trans ((cell_of_row w _ 0 _ _ _ h1).trans rfl)
  have HBL : Hid ((w.alloc (.cells #[.slice av ns.length cv] 28)).heap[w.heap.size]? = some (.cells #[.slice av ns.length cv] 28 (0, 0))) := heap_alloc_new w _
  have HB : Hid (Below w.heap.size w (w.alloc (.cells #[.slice av ns.length cv] 28))) := (Below.refl _ _).alloc (Nat.le_refl _) _
  have HO : Hid (OwnC B (w.alloc (.cells #[.slice av ns.length cv] 28)) (.slice av ns.length cv) ns) := (OwnN.clip h2).later HB.out
  clear h1 h2 hav hb0
  go_enter Try.func82, Try.ntmps82
  go_wp2
  refine bodyPost_ret (res_cell2 rfl _ _ w.heap.size 28 #[.slice av ns.length cv] (0, 0) _ rfl ?_ Try.underlying28 rfl arenaSize) rfl ?_
  · exact HBL.out
  · exact ⟨_, rfl, HO.out, HB.out⟩
end Go.Proofs.Ytffnadnndmmliaa
