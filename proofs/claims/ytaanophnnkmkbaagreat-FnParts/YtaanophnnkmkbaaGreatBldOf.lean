/- The program's arena in the making (chapter 3): builderOf, arenaWith, and the library's Clip over nodes. -/
import Derived.Test.YtaanophnnkmkbaaGreatBldPut2
import Derived.Test.YtaanophnnkmkbaaGreatMakeA
import Derived.Test.YtaanophnnkmkbaaGreatCert10
import Derived.Test.YtaanophnnkmkbaaGreatLawKeep
import Derived.Test.YtaanophnnkmkbaaGreatPlainText
import Derived.WalkKit
import Derived.WalkLawsBesides
import Derived.WalkSpells
import Derived.Laws.Rows
namespace Go.Proofs.YtaanophnnkmkbaaGreat
open Go.RowKit Go.Maps
set_option linter.unusedVariables false
theorem own_map_ne {B gm n : Nat} {w : World} {v : Value} {ns : List Nd} {D : DataW Unit} (h : OwnN B w v ns) (hm : w.ownsMap Tryz.prog 86 (plainElem Tryz.prog 3) gm n D) : v.ownBlock ≠ some gm := by
  intro e
  obtain ⟨es, clock, hg, _⟩ := hm
  rcases h.2 with ⟨rfl, _⟩ | ⟨gv, cap, cur, rfl, hb, hh, _⟩
  · cases e
  · simp [Value.ownBlock] at e
    rw [e, hg] at hh
    simp at hh
set_option maxHeartbeats 1600000 in
set_option maxRecDepth 20000 in
theorem builderOf_any (a : Option Addr) (cap : Nat) (ns : List Nd) (w : World) (hl : ns.length ≤ 1048576) (hf : ∀ y ∈ ns, y.Fits) (ha : AddrN a cap) (hr : RowN w.heap.size w a ns) :
    Calls Tryz.prog 65 #[.agg #[.slice a ns.length cap]] w fun e w' => ∃ gb gm v, e = .returned (.pointer (some ⟨gb, 0, none⟩)) ∧ BldAt w.heap.size gb gm ns.length ns.length ns v w' ∧ Below w.heap.size w w' := by
  have HR : Hid (RowN w.heap.size w a ns) := hr
  have HA : Hid (AddrN a cap) := ha
  have HF : Hid (∀ y ∈ ns, y.Fits) := hf
  clear hr ha hf
  have hb0 : Below w.heap.size w (w.alloc (.cells #[.slice a ns.length cap] 26)) := (Below.refl _ _).alloc (Nat.le_refl _) _
  have hA0 := heap_alloc_new w (.cells #[.slice a ns.length cap] 26)
  go_enter Tryz.func65, Tryz.ntmps65
  go_wp2_with fail
  generalize w.alloc (.cells #[.slice a ns.length cap] 26) = w0 at hb0 hA0 ⊢
  refine wp_region_list (I := fun w' => Below w.heap.size w w' ∧ w'.heap[w.heap.size]? = some (.cells #[.slice a ns.length cap] 26 (0, 0))) (R := fun _ w' w'' => Below w'.heap.size w' w'')
    (fs := #[⟨[3], fun vs _ => vs = [.pointer (some ⟨w.heap.size, 0, none⟩)]⟩, ⟨[4], fun vs _ => vs = [.slice a ns.length cap]⟩, ⟨[5], fun vs w' => ∃ v, vs = [v] ∧ OwnN w.heap.size w' v ns⟩, ⟨[6], fun vs _ => vs = [.pointer (some ⟨w.heap.size, 0, none⟩)]⟩, ⟨[7], fun vs _ => vs = [.slice a ns.length cap]⟩, ⟨[8], fun vs w' => ∃ gm D, vs = [.map (some gm)] ∧ w.heap.size ≤ gm ∧ w'.ownsMap Tryz.prog 86 (plainElem Tryz.prog 3) gm ns.length D ∧ PlacesD ns D⟩, ⟨[9], fun vs _ => vs = [.pointer (some ⟨w.heap.size, 0, none⟩)]⟩, ⟨[10], fun vs _ => vs = [.slice a ns.length cap]⟩, ⟨[11], fun vs _ => vs = [.int .i64 (ns.length : Int)]⟩, ⟨[12], fun vs w' => ∃ v gm D, vs = [.agg #[v, .map (some gm), .int .i64 (ns.length : Int), .int .i64 3000]] ∧ OwnN w.heap.size w' v ns ∧ w.heap.size ≤ gm ∧ w'.ownsMap Tryz.prog 86 (plainElem Tryz.prog 3) gm ns.length D ∧ PlacesD ns D⟩, ⟨[13], fun vs w' => ∃ gb gm v, vs = [.pointer (some ⟨gb, 0, none⟩)] ∧ BldAt w.heap.size gb gm ns.length ns.length ns v w'⟩, ⟨[2], fun vs w' => ∃ gb gm v, vs = [.pointer (some ⟨gb, 0, none⟩)] ∧ BldAt w.heap.size gb gm ns.length ns.length ns v w'⟩])
    (by kernel_rfl) 14 rfl (by kernel_rfl) ?stab ?istab ?start ?exec ?fin
  case stab =>
    intro k i f hki hf
    have hk : k < 12 := (Array.getElem?_eq_some_iff.1 hf).1
    rcases (show k = 0 ∨ k = 1 ∨ k = 2 ∨ k = 3 ∨ k = 4 ∨ k = 5 ∨ k = 6 ∨ k = 7 ∨ k = 8 ∨ k = 9 ∨ k = 10 ∨ k = 11 by omega) with rfl | rfl | rfl | rfl | rfl | rfl | rfl | rfl | rfl | rfl | rfl | rfl
    all_goals
      simp only [List.getElem?_toArray, List.getElem?_cons_succ, List.getElem?_cons_zero, Option.some.injEq] at hf
      subst hf
    · exact fun vs _ _ _ h => h
    · exact fun vs _ _ _ h => h
    · exact fun vs w' w'' hR ⟨v, h1, h2⟩ => ⟨v, h1, h2.later hR⟩
    · exact fun vs _ _ _ h => h
    · exact fun vs _ _ _ h => h
    · exact fun vs w' w'' hR ⟨gm, D, h1, h2, h3, h4⟩ => ⟨gm, D, h1, h2, h3.kept (grown_ofB hR) (by simp), h4⟩
    · exact fun vs _ _ _ h => h
    · exact fun vs _ _ _ h => h
    · exact fun vs _ _ _ h => h
    · exact fun vs w' w'' hR ⟨v, gm, D, h1, h2, h3, h4, h5⟩ => ⟨v, gm, D, h1, h2.later hR, h3, h4.kept (grown_ofB hR) (by simp), h5⟩
    · exact fun vs w' w'' hR ⟨gb, gm, v, h1, h2⟩ => ⟨gb, gm, v, h1, h2.later hR⟩
    · exact fun vs w' w'' hR ⟨gb, gm, v, h1, h2⟩ => ⟨gb, gm, v, h1, h2.later hR⟩
  case istab => exact fun i w' w'' hR h => ⟨h.1.trans (hR.mono h.1.size), (hR.block _ (Array.getElem?_eq_some_iff.1 h.2).1).trans h.2⟩
  case start => exact ⟨hb0.drew, hA0⟩
  case exec =>
    intro i o f hi hf a_1 wq hsz hI hold hpre
    have hi11 : i < 12 := (Array.getElem?_eq_some_iff.1 hi).1
    rcases (show i = 0 ∨ i = 1 ∨ i = 2 ∨ i = 3 ∨ i = 4 ∨ i = 5 ∨ i = 6 ∨ i = 7 ∨ i = 8 ∨ i = 9 ∨ i = 10 ∨ i = 11 by omega) with rfl | rfl | rfl | rfl | rfl | rfl | rfl | rfl | rfl | rfl | rfl | rfl
    all_goals
      simp only [List.getElem?_toArray, List.getElem?_cons_succ, List.getElem?_cons_zero, Option.some.injEq] at hi hf
      subst hi hf
    · have g1 : a_1.tmps.getD 1 undef = .pointer (some ⟨w.heap.size, 0, none⟩) := hold 1 (free_spec (by kernel_rfl))
      refine exec_same (v := .pointer (some ⟨w.heap.size, 0, none⟩)) ?_ ⟨_, rfl, (Below.refl _ _), at_one (by omega) rfl⟩
      simp [go_sem, Act.eval, g1]
    · have g3 : a_1.tmps.getD 3 undef = .pointer (some ⟨w.heap.size, 0, none⟩) := by have := of_one (hpre ⟨0, .data⟩ (by simp) rfl _ rfl); simpa using this
      have hc : wq.cell? ⟨w.heap.size, 0, none⟩ = some (.slice a ns.length cap) := (cell_of_row wq _ 0 _ _ _ hI.2).trans rfl
      refine exec_same (v := .slice a ns.length cap) ?_ ⟨_, rfl, (Below.refl _ _), at_one (by omega) rfl⟩
      simp [go_sem, Act.eval, g3, hc]
    · have g4 : a_1.tmps.getD 4 undef = .slice a ns.length cap := by have := of_one (hpre ⟨1, .data⟩ (by simp) rfl _ rfl); simpa using this
      refine exec_call (f := 97) (args := #[.slice a ns.length cap]) (by simp [go_sem, Act.eval, g4]) ?_
      refine (clone_any a cap ns wq hl HA.out (HR.out.grown hI.1)).mono ?_
      rintro e w2 ⟨v', rfl, ho, hb⟩
      exact ⟨_, rfl, _, rfl, hb, at_one (by omega) ⟨v', rfl, OwnN.base ho hI.1.size⟩⟩
    · have g1 : a_1.tmps.getD 1 undef = .pointer (some ⟨w.heap.size, 0, none⟩) := hold 1 (free_spec (by kernel_rfl))
      refine exec_same (v := .pointer (some ⟨w.heap.size, 0, none⟩)) ?_ ⟨_, rfl, (Below.refl _ _), at_one (by omega) rfl⟩
      simp [go_sem, Act.eval, g1]
    · have g6 : a_1.tmps.getD 6 undef = .pointer (some ⟨w.heap.size, 0, none⟩) := by have := of_one (hpre ⟨3, .data⟩ (by simp) rfl _ rfl); simpa using this
      have hc : wq.cell? ⟨w.heap.size, 0, none⟩ = some (.slice a ns.length cap) := (cell_of_row wq _ 0 _ _ _ hI.2).trans rfl
      refine exec_same (v := .slice a ns.length cap) ?_ ⟨_, rfl, (Below.refl _ _), at_one (by omega) rfl⟩
      simp [go_sem, Act.eval, g6, hc]
    · have g7 : a_1.tmps.getD 7 undef = .slice a ns.length cap := by have := of_one (hpre ⟨4, .data⟩ (by simp) rfl _ rfl); simpa using this
      refine exec_call (f := 98) (args := #[.slice a ns.length cap]) (by simp [go_sem, Act.eval, g7]) ?_
      refine (placesOf_any a cap ns wq hl HF.out (HR.out.grown hI.1)).mono ?_
      rintro e w2 ⟨D, rfl, hm, hpd, hb⟩
      exact ⟨_, rfl, _, rfl, hb, at_one (by omega) ⟨_, D, rfl, hI.1.size, hm, hpd⟩⟩
    · have g1 : a_1.tmps.getD 1 undef = .pointer (some ⟨w.heap.size, 0, none⟩) := hold 1 (free_spec (by kernel_rfl))
      refine exec_same (v := .pointer (some ⟨w.heap.size, 0, none⟩)) ?_ ⟨_, rfl, (Below.refl _ _), at_one (by omega) rfl⟩
      simp [go_sem, Act.eval, g1]
    · have g9 : a_1.tmps.getD 9 undef = .pointer (some ⟨w.heap.size, 0, none⟩) := by have := of_one (hpre ⟨6, .data⟩ (by simp) rfl _ rfl); simpa using this
      have hc : wq.cell? ⟨w.heap.size, 0, none⟩ = some (.slice a ns.length cap) := (cell_of_row wq _ 0 _ _ _ hI.2).trans rfl
      refine exec_same (v := .slice a ns.length cap) ?_ ⟨_, rfl, (Below.refl _ _), at_one (by omega) rfl⟩
      simp [go_sem, Act.eval, g9, hc]
    · have g10 : a_1.tmps.getD 10 undef = .slice a ns.length cap := by have := of_one (hpre ⟨7, .data⟩ (by simp) rfl _ rfl); simpa using this
      refine exec_same (v := .int .i64 (ns.length : Int)) ?_ ⟨_, rfl, (Below.refl _ _), at_one (by omega) rfl⟩
      simp [go_sem, Act.eval, g10]
    · obtain ⟨v, h5, ho⟩ := of_one (hpre ⟨2, .data⟩ (by simp) rfl _ rfl)
      obtain ⟨gm, D, h8, hgm, hm, hpd⟩ := of_one (hpre ⟨5, .data⟩ (by simp) rfl _ rfl)
      have g5 : a_1.tmps.getD 5 undef = v := by simpa using h5
      have g8 : a_1.tmps.getD 8 undef = .map (some gm) := by simpa using h8
      have g11 : a_1.tmps.getD 11 undef = .int .i64 (ns.length : Int) := by have := of_one (hpre ⟨8, .data⟩ (by simp) rfl _ rfl); simpa using this
      obtain ⟨av, cv, rfl, -, -⟩ := ho.row
      have e5 : a_1.tmps[5]?.getD undef = .slice av ns.length cv := by simpa using g5
      have e8 : a_1.tmps[8]?.getD undef = .map (some gm) := by simpa using g8
      have e11 : a_1.tmps[11]?.getD undef = .int .i64 (ns.length : Int) := by simpa using g11
      refine exec_same (v := .agg #[.slice av ns.length cv, .map (some gm), .int .i64 (ns.length : Int), .int .i64 3000]) ?_ ⟨_, rfl, (Below.refl _ _), at_one (by omega) ⟨_, gm, D, rfl, ho, hgm, hm, hpd⟩⟩
      simp [go_sem, e5, e8, e11]
    · obtain ⟨v, gm, D, h12, ho, hgm, hm, hpd⟩ := of_one (hpre ⟨9, .data⟩ (by simp) rfl _ rfl)
      have g12 : a_1.tmps.getD 12 undef = .agg #[v, .map (some gm), .int .i64 (ns.length : Int), .int .i64 3000] := by simpa using h12
      have hbx : Below wq.heap.size wq (wq.alloc (.cells #[v, .map (some gm), .int .i64 (ns.length : Int), .int .i64 3000] 108)) := (Below.refl _ _).alloc (Nat.le_refl _) _
      have hmlt := hm.lt
      have hws := hI.1.size
      refine exec_made (v := .pointer (some ⟨wq.heap.size, 0, none⟩)) (w' := wq.alloc (.cells #[v, .map (some gm), .int .i64 (ns.length : Int), .int .i64 3000] 108)) ?_ ⟨_, rfl, hbx, at_one (by omega) ⟨wq.heap.size, gm, v, rfl, D, heap_alloc_new wq _, ho.later hbx, hm.kept (grown_ofB hbx) (by simp), hpd, hws, hgm, by omega, fun e => by have := (ho.lt _ e).2; omega, own_map_ne ho hm⟩⟩
      obtain ⟨av, cv, rfl, -, -⟩ := ho.row
      simp [go_sem, Act.eval, g12]
    · obtain ⟨gb, gm, v, h13, hbld⟩ := of_one (hpre ⟨10, .data⟩ (by simp) rfl _ rfl)
      have g13 : a_1.tmps.getD 13 undef = .pointer (some ⟨gb, 0, none⟩) := by simpa using h13
      refine exec_same (v := .pointer (some ⟨gb, 0, none⟩)) ?_ ⟨_, rfl, (Below.refl _ _), at_one (by omega) ⟨gb, gm, v, rfl, hbld⟩⟩
      simp [go_sem, Act.eval, g13]
  case fin =>
    intro zs w5 hzl hI hF
    obtain ⟨z0, z1, z2, z3, z4, z5, z6, z7, z8, z9, z10, z11, rfl⟩ := list12 zs hzl
    obtain ⟨gb, gm, v, hst, hbld⟩ := of_one (hF 11 _ rfl)
    simp only [List.cons.injEq, and_true] at hst
    have hs2 := last_is (i := 11) (v := z11) (n := 14) hst (by kernel_rfl) rfl rfl (by omega)
    clear hst
    subst hs2
    clear hF
    simp only [putAll, Act.put, List.setIfInBounds_toArray, List.set_cons_succ, List.set_cons_zero]
    have HE : Hid _ := And.intro hbld hI.1
    clear hbld hI
    go_wp2
    go_ret
    exact ⟨gb, gm, v, rfl, HE.out.1, HE.out.2⟩

theorem OwnN.take {B : Nat} {w : World} {a : Option Addr} {cp : Nat} {ns : List Nd} {f : Nat} (h : OwnN B w (.slice a ns.length cp) ns) (hf : f ≤ ns.length) : OwnN B w (.slice a (ns.take f).length cp) (ns.take f) := by
  have hl : (ns.take f).length = f := by rw [List.length_take]; omega
  have hc : cellsN (ns.take f) = (cellsN ns).take (f * 4) := by
    have e : ns = ns.take f ++ ns.drop f := (List.take_append_drop f ns).symm
    have hh : (cellsN (ns.take f)).length = f * 4 := by rw [cellsN_len, hl]
    conv => rhs; rw [e, cellsN_append]
    rw [List.take_append_of_le_length (by omega), ← hh, List.take_length]
  unfold OwnN
  rw [hl]
  refine ⟨by rw [cellsN_len, hl], ?_⟩
  rcases h.2 with ⟨e, h0⟩ | ⟨g, cap, cur, e, hg, hh, h1, h2, h3, h4⟩
  · left
    obtain ⟨rfl, h5, rfl⟩ : a = none ∧ ns.length = 0 ∧ cp = 0 := by simpa using e
    exact ⟨by rw [show f = 0 by omega], by omega⟩
  · right
    obtain ⟨rfl, rfl⟩ : a = some ⟨g, 0, none⟩ ∧ cp = cap := by simpa using e
    refine ⟨g, cp, cur, rfl, hg, hh, by omega, h2, h3, ?_⟩
    rw [hc, ← h4, List.take_take, Nat.min_eq_left (by omega)]

theorem clip_any (a : Option Addr) (n cap : Nat) (w : World) (ha : AddrN a cap) (hn : n ≤ cap) (hm : cap ≤ maxLen) (h0 : a = none → n = 0) :
    Calls Tryz.prog 99 #[.slice a n cap] w fun e w' => e = .returned (.slice a n n) ∧ w = w' := by
  rcases ha with ⟨rfl, rfl⟩ | ⟨b, off, rfl⟩
  · obtain rfl := h0 rfl
    go_enter Tryz.func99, Tryz.ntmps99
    go_wp2
    go_ret
    exact ⟨rfl, rfl⟩
  · go_enter Tryz.func99, Tryz.ntmps99
    go_wp2
    go_ret
    exact ⟨rfl, rfl⟩
end Go.Proofs.YtaanophnnkmkbaaGreat

namespace Go.Proofs.YtaanophnnkmkbaaGreat
open Go.RowKit Go.Maps
set_option linter.unusedVariables false
theorem OwnC.later {B : Nat} {w w' : World} {v : Value} {ns : List Nd} (h : OwnC B w v ns) (hb : Below w.heap.size w w') : OwnC B w' v ns := by
  obtain ⟨a, cap, cp, e, ha, ho⟩ := h
  exact ⟨a, cap, cp, e, ha, ho.later hb⟩
theorem OwnC.base {B B' : Nat} {w : World} {v : Value} {ns : List Nd} (h : OwnC B w v ns) (hb : B' ≤ B) : OwnC B' w v ns := by
  obtain ⟨a, cap, cp, e, ha, ho⟩ := h
  exact ⟨a, cap, cp, e, ha, OwnN.base ho hb⟩
theorem OwnC.row {B : Nat} {w : World} {v : Value} {ns : List Nd} (h : OwnC B w v ns) : ∃ a cap, v = .slice a ns.length cap ∧ AddrN a cap ∧ RowN w.heap.size w a ns := by
  obtain ⟨a, cap, cp, rfl, ha, ho⟩ := h
  obtain ⟨a', cap', e, _, hr⟩ := ho.row
  cases e
  exact ⟨a, cap, rfl, ha, hr⟩
theorem aw_istab {w w' w'' : World} {i : Nat} (hR : if i = 11 then ∃ u, w'' = w'.setCell ⟨w.heap.size, 0, none⟩ u else w'' = w') (h : Below w.heap.size w w' ∧ ∃ u, w'.heap[w.heap.size]? = some (.cells #[u] 26 (0, 0))) : Below w.heap.size w w'' ∧ ∃ u, w''.heap[w.heap.size]? = some (.cells #[u] 26 (0, 0)) := by
  by_cases e : i = 11
  · rw [if_pos e] at hR
    obtain ⟨u, rfl⟩ := hR
    obtain ⟨u', hu'⟩ := h.2
    exact ⟨h.1.setCell (Nat.le_refl _) _, u, (heap_setCell_same w' _ 0 _ _ _ hu').trans rfl⟩
  · rw [if_neg e] at hR
    rw [hR]; exact h
set_option maxHeartbeats 1600000 in
set_option maxRecDepth 20000 in
theorem aWith_no (B gb gm n f : Nat) (ns : List Nd) (v : Value) (k : Int) (w : World) (hl : ns.length ≤ 1048576) (hf : f ≤ ns.length) (hk : k < 0) (h : BldAt B gb gm n f ns v w) :
    Calls Tryz.prog 66 #[.pointer (some ⟨gb, 0, none⟩), .int .i64 k] w fun e w' => ∃ v', e = .returned (.tuple #[.agg #[v'], .int .i64 (-1)]) ∧ OwnC B w' v' (ns.take f) ∧ Below w.heap.size w w' := by
  obtain ⟨D, h1, h2, _⟩ := h
  have hgb : gb < w.heap.size := (Array.getElem?_eq_some_iff.1 h1).1
  obtain ⟨av, cv, rfl, hav, -⟩ := h2.row
  have hcl : f ≤ cv ∧ cv ≤ maxLen ∧ (av = none → f = 0) := by
    rcases h2.2 with ⟨e, h0⟩ | ⟨g, cap, cur, e, _, _, h3, h4, _⟩
    · obtain ⟨rfl, h5, rfl⟩ : av = none ∧ ns.length = 0 ∧ cv = 0 := by simpa using e
      exact ⟨by omega, by unfold maxLen; omega, fun _ => by omega⟩
    · obtain ⟨rfl, rfl⟩ : av = some ⟨g, 0, none⟩ ∧ cv = cap := by simpa using e
      exact ⟨by omega, h4, fun e => by cases e⟩
  have hlt : (ns.take f).length = f := by rw [List.length_take]; omega
  have HC0 : Hid (w.cell? ⟨gb, 0, none⟩ = some (.slice av ns.length cv)) := (cell_of_row w _ 0 _ _ _ h1).trans rfl
  have HC2 : Hid (w.cell? ⟨gb, 2, none⟩ = some (.int .i64 (f : Int))) := (cell_of_row w _ 2 _ _ _ h1).trans rfl
  have HAV : Hid (AddrN av cv) := hav
  have HM : Hid (cv ≤ maxLen) := hcl.2.1
  have HZ : Hid (av = none → f = 0) := hcl.2.2
  have hfc := hcl.1
  have HOC : Hid (∀ w', Below w.heap.size w w' → OwnC B w' (.slice av f f) (ns.take f)) := fun w' hb => by
    refine OwnC.later ?_ hb
    refine ⟨av, f, cv, by rw [hlt], ?_, OwnN.take h2 hf⟩
    rcases hav with ⟨rfl, _⟩ | hh
    · exact .inl ⟨rfl, hcl.2.2 rfl⟩
    · exact .inr hh
  have HSL : Hid (∀ wq : World, (Instr.slice 24 (.slice av ns.length cv) none (some (.int .i64 (f : Int))) none).run Tryz.prog wq = .ok (.slice av f cv) wq) := fun wq => by
    rcases hav with ⟨rfl, rfl⟩ | ⟨b, off, rfl⟩
    · obtain rfl := hcl.2.2 rfl
      simp [go_sem, Tryz.underlying24]
    · have h1 : (0 : Int) ≤ (f : Int) := by omega
      have h2 : (f : Int) ≤ (cv : Int) := by omega
      simp [go_sem, Tryz.underlying24, h1, h2]
  clear hcl hav h1 h2 hlt
  have hb0 : Below w.heap.size w (w.alloc (.cells #[.slice none 0 0] 26)) := (Below.refl _ _).alloc (Nat.le_refl _) _
  have hR0 := heap_alloc_new w (.cells #[.slice none 0 0] 26)
  go_enter Tryz.func66, Tryz.ntmps66
  go_wp2_with fail
  generalize w.alloc (.cells #[.slice none 0 0] 26) = w0 at hb0 hR0 ⊢
  refine wp_region_list (I := fun w' => Below w.heap.size w w' ∧ ∃ u, w'.heap[w.heap.size]? = some (.cells #[u] 26 (0, 0))) (R := fun i w' w'' => if i = 11 then ∃ u, w'' = w'.setCell ⟨w.heap.size, 0, none⟩ u else w'' = w')
    (fs := #[⟨[8], fun vs _ => vs = [.pointer (some ⟨gb, 0, none⟩)]⟩, ⟨[9], fun vs _ => vs = [.pointer (some ⟨gb, 0, none⟩)]⟩, ⟨[10], fun vs _ => vs = [.pointer (some ⟨gb, 0, none⟩)]⟩, ⟨[11], fun vs _ => vs = [.slice av ns.length cv]⟩, ⟨[12], fun vs _ => vs = [.pointer (some ⟨gb, 0, none⟩)]⟩, ⟨[13], fun vs _ => vs = [.pointer (some ⟨gb, 0, none⟩)]⟩, ⟨[14], fun vs _ => vs = [.pointer (some ⟨gb, 2, none⟩)]⟩, ⟨[15], fun vs _ => vs = [.int .i64 (f : Int)]⟩, ⟨[16], fun vs _ => vs = [.slice av f cv]⟩, ⟨[17], fun vs _ => vs = [.slice av f f]⟩, ⟨[18], fun vs _ => vs = [.agg #[.slice av f f]]⟩, ⟨[18], fun vs w' => vs = [.agg #[.slice av f f]] ∧ w'.heap[w.heap.size]? = some (.cells #[.slice av f f] 26 (0, 0))⟩, ⟨[5], fun vs _ => vs = [.int .i64 (-1)]⟩])
    (by kernel_rfl) 25 rfl (by kernel_rfl) ?stab ?istab ?start ?exec ?fin
  case stab =>
    intro k i f hki hf
    have hk : k < 13 := (Array.getElem?_eq_some_iff.1 hf).1
    rcases (show k = 0 ∨ k = 1 ∨ k = 2 ∨ k = 3 ∨ k = 4 ∨ k = 5 ∨ k = 6 ∨ k = 7 ∨ k = 8 ∨ k = 9 ∨ k = 10 ∨ k = 11 ∨ k = 12 by omega) with rfl | rfl | rfl | rfl | rfl | rfl | rfl | rfl | rfl | rfl | rfl | rfl | rfl
    all_goals
      simp only [List.getElem?_toArray, List.getElem?_cons_succ, List.getElem?_cons_zero, Option.some.injEq] at hf
      subst hf
    · exact fun vs _ _ _ h => h
    · exact fun vs _ _ _ h => h
    · exact fun vs _ _ _ h => h
    · exact fun vs _ _ _ h => h
    · exact fun vs _ _ _ h => h
    · exact fun vs _ _ _ h => h
    · exact fun vs _ _ _ h => h
    · exact fun vs _ _ _ h => h
    · exact fun vs _ _ _ h => h
    · exact fun vs _ _ _ h => h
    · exact fun vs _ _ _ h => h
    · exact fun vs w' w'' hR ⟨h1, h2⟩ => ⟨h1, by rw [if_neg (Ne.symm hki)] at hR; rw [hR]; exact h2⟩
    · exact fun vs _ _ _ h => h
  case istab => exact fun i w' w'' hR h => aw_istab hR h
  case start => exact ⟨hb0.drew, _, hR0⟩
  case exec =>
    intro i o f hi hf a_1 wq hsz hI hold hpre
    have hi11 : i < 13 := (Array.getElem?_eq_some_iff.1 hi).1
    rcases (show i = 0 ∨ i = 1 ∨ i = 2 ∨ i = 3 ∨ i = 4 ∨ i = 5 ∨ i = 6 ∨ i = 7 ∨ i = 8 ∨ i = 9 ∨ i = 10 ∨ i = 11 ∨ i = 12 by omega) with rfl | rfl | rfl | rfl | rfl | rfl | rfl | rfl | rfl | rfl | rfl | rfl | rfl
    all_goals
      simp only [List.getElem?_toArray, List.getElem?_cons_succ, List.getElem?_cons_zero, Option.some.injEq] at hi hf
      subst hi hf
    · have g0 : a_1.tmps.getD 0 undef = .pointer (some ⟨gb, 0, none⟩) := hold 0 (free_spec (by kernel_rfl))
      refine exec_same (v := .pointer (some ⟨gb, 0, none⟩)) ?_ ⟨_, rfl, (by show (if _ then _ else _); rw [if_neg (by decide)]), at_one (by omega) rfl⟩
      simp [go_sem, Act.eval, g0]
    · have g8 : a_1.tmps.getD 8 undef = .pointer (some ⟨gb, 0, none⟩) := by have := of_one (hpre ⟨0, .data⟩ (by simp) rfl _ rfl); simpa using this
      refine exec_same (v := .pointer (some ⟨gb, 0, none⟩)) ?_ ⟨_, rfl, (by show (if _ then _ else _); rw [if_neg (by decide)]), at_one (by omega) rfl⟩
      simp [go_sem, Act.eval, g8]
    · have g9 : a_1.tmps.getD 9 undef = .pointer (some ⟨gb, 0, none⟩) := by have := of_one (hpre ⟨1, .data⟩ (by simp) rfl _ rfl); simpa using this
      refine exec_same (v := .pointer (some ⟨gb, 0, none⟩)) ?_ ⟨_, rfl, (by show (if _ then _ else _); rw [if_neg (by decide)]), at_one (by omega) rfl⟩
      simp [go_sem, Act.eval, g9]
    · have g10 : a_1.tmps.getD 10 undef = .pointer (some ⟨gb, 0, none⟩) := by have := of_one (hpre ⟨2, .data⟩ (by simp) rfl _ rfl); simpa using this
      have hc : wq.cell? ⟨gb, 0, none⟩ = some (.slice av ns.length cv) := (hI.1.cell (p := ⟨gb, 0, none⟩) hgb).trans HC0.out
      refine exec_same (v := .slice av ns.length cv) ?_ ⟨_, rfl, (by show (if _ then _ else _); rw [if_neg (by decide)]), at_one (by omega) rfl⟩
      simp [go_sem, Act.eval, g10, hc]
    · have g0 : a_1.tmps.getD 0 undef = .pointer (some ⟨gb, 0, none⟩) := hold 0 (free_spec (by kernel_rfl))
      refine exec_same (v := .pointer (some ⟨gb, 0, none⟩)) ?_ ⟨_, rfl, (by show (if _ then _ else _); rw [if_neg (by decide)]), at_one (by omega) rfl⟩
      simp [go_sem, Act.eval, g0]
    · have g12 : a_1.tmps.getD 12 undef = .pointer (some ⟨gb, 0, none⟩) := by have := of_one (hpre ⟨4, .data⟩ (by simp) rfl _ rfl); simpa using this
      refine exec_same (v := .pointer (some ⟨gb, 0, none⟩)) ?_ ⟨_, rfl, (by show (if _ then _ else _); rw [if_neg (by decide)]), at_one (by omega) rfl⟩
      simp [go_sem, Act.eval, g12]
    · have g13 : a_1.tmps.getD 13 undef = .pointer (some ⟨gb, 0, none⟩) := by have := of_one (hpre ⟨5, .data⟩ (by simp) rfl _ rfl); simpa using this
      refine exec_same (v := .pointer (some ⟨gb, 2, none⟩)) ?_ ⟨_, rfl, (by show (if _ then _ else _); rw [if_neg (by decide)]), at_one (by omega) rfl⟩
      simp [go_sem, Act.eval, g13]
    · have g14 : a_1.tmps.getD 14 undef = .pointer (some ⟨gb, 2, none⟩) := by have := of_one (hpre ⟨6, .data⟩ (by simp) rfl _ rfl); simpa using this
      have hc : wq.cell? ⟨gb, 2, none⟩ = some (.int .i64 (f : Int)) := (hI.1.cell (p := ⟨gb, 2, none⟩) hgb).trans HC2.out
      refine exec_same (v := .int .i64 (f : Int)) ?_ ⟨_, rfl, (by show (if _ then _ else _); rw [if_neg (by decide)]), at_one (by omega) rfl⟩
      simp [go_sem, Act.eval, g14, hc]
    · have g11 : a_1.tmps.getD 11 undef = .slice av ns.length cv := by have := of_one (hpre ⟨3, .data⟩ (by simp) rfl _ rfl); simpa using this
      have g15 : a_1.tmps.getD 15 undef = .int .i64 (f : Int) := by have := of_one (hpre ⟨7, .data⟩ (by simp) rfl _ rfl); simpa using this
      have hsl := HSL.out wq
      refine exec_same (v := .slice av f cv) ?_ ⟨_, rfl, (by show (if _ then _ else _); rw [if_neg (by decide)]), at_one (by omega) rfl⟩
      simp [go_sem, Act.eval, g11, g15, hsl]
    · have g16 : a_1.tmps.getD 16 undef = .slice av f cv := by have := of_one (hpre ⟨8, .data⟩ (by simp) rfl _ rfl); simpa using this
      refine exec_call (f := 99) (args := #[.slice av f cv]) (by simp [go_sem, Act.eval, g16]) ?_
      refine (clip_any av f cv wq HAV.out (by omega) HM.out HZ.out).mono ?_
      rintro e w2 ⟨rfl, rfl⟩
      exact ⟨_, rfl, _, rfl, (by show (if _ then _ else _); rw [if_neg (by decide)]), at_one (by omega) rfl⟩
    · have g17 : a_1.tmps.getD 17 undef = .slice av f f := by have := of_one (hpre ⟨9, .data⟩ (by simp) rfl _ rfl); simpa using this
      have e17 : a_1.tmps[17]?.getD undef = .slice av f f := by simpa using g17
      refine exec_same (v := .agg #[.slice av f f]) ?_ ⟨_, rfl, (by show (if _ then _ else _); rw [if_neg (by decide)]), at_one (by omega) rfl⟩
      simp [go_sem, e17]
    · have g18 : a_1.tmps.getD 18 undef = .agg #[.slice av f f] := by have := of_one (hpre ⟨10, .data⟩ (by simp) rfl _ rfl); simpa using this
      have g4 : a_1.tmps.getD 4 undef = .pointer (some ⟨w.heap.size, 0, none⟩) := hold 4 (free_spec (by kernel_rfl))
      obtain ⟨u, hu⟩ := hI.2
      have hcg : wq.cell? ⟨w.heap.size, 0, none⟩ = some u := by rw [cell_of_row wq _ 0 _ _ _ hu]; rfl
      have hfg : wq.frozen? ⟨w.heap.size, 0, none⟩ = false := frozen_of_row wq _ 0 _ _ hu
      refine exec_skip (w' := wq.setCell ⟨w.heap.size, 0, none⟩ (.slice av f f)) ?_ ⟨_, rfl, ?_, ?_⟩
      · simp [go_sem, Act.eval, g4, g18, hcg, hfg]
      · show (if _ then _ else _); rw [if_pos rfl]; exact ⟨_, rfl⟩
      · exact ⟨by show [a_1.tmps.getD 18 undef] = _; rw [g18], (heap_setCell_same wq _ 0 _ _ _ hu).trans rfl⟩
    · refine exec_same (v := .int .i64 (-1)) ?_ ⟨_, rfl, (by show (if _ then _ else _); rw [if_neg (by decide)]), at_one (by omega) rfl⟩
      simp [go_sem, Act.eval]
  case fin =>
    intro zs w5 hzl hI hF
    obtain ⟨z0, z1, z2, z3, z4, z5, z6, z7, z8, z9, z10, z11, z12, rfl⟩ := list13 zs hzl
    obtain ⟨-, hbox⟩ := of_one (hF 11 _ rfl)
    have hint := of_one (hF 12 _ rfl)
    simp only [List.cons.injEq, and_true] at hint
    have hs3 := last_is (i := 12) (v := z12) (n := 25) hint (by kernel_rfl) rfl rfl (by omega)
    clear hint
    subst hs3
    clear hF
    simp only [putAll, Act.put, List.setIfInBounds_toArray, List.set_cons_succ, List.set_cons_zero]
    have HE : Hid _ := And.intro hbox hI.1
    clear hbox hI
    go_wp2
    refine bodyPost_ret (res_cell2 rfl _ _ w.heap.size 26 #[.slice av f f] (0, 0) _ rfl ?_ Tryz.underlying26 rfl arenaSize) rfl ?_
    · exact HE.out.1
    · exact ⟨_, rfl, HOC.out w5 HE.out.2, HE.out.2⟩

set_option maxHeartbeats 800000 in
theorem aWith_yes (B gb gm n f : Nat) (ns : List Nd) (v : Value) (k : Int) (w : World) (hl : ns.length ≤ 1048576) (hk : ¬ k < 0) (h : BldAt B gb gm n f ns v w) :
    Calls Tryz.prog 66 #[.pointer (some ⟨gb, 0, none⟩), .int .i64 k] w fun e w' => ∃ v', e = .returned (.tuple #[.agg #[v'], .int .i64 k]) ∧ OwnC B w' v' ns ∧ Below w.heap.size w w' := by
  obtain ⟨D, h1, h2, _⟩ := h
  have hgb : gb < w.heap.size := (Array.getElem?_eq_some_iff.1 h1).1
  obtain ⟨av, cv, rfl, hav, -⟩ := h2.row
  have hb0 : Below w.heap.size w (w.alloc (.cells #[.slice none 0 0] 26)) := (Below.refl _ _).alloc (Nat.le_refl _) _
  have c0 : (w.alloc (.cells #[.slice none 0 0] 26)).cell? ⟨gb, 0, none⟩ = some (.slice av ns.length cv) := (hb0.cell (p := ⟨gb, 0, none⟩) hgb).trans ((cell_of_row w _ 0 _ _ _ h1).trans rfl)
  have HBL : Hid ((w.alloc (.cells #[.slice av ns.length cv] 26)).heap[w.heap.size]? = some (.cells #[.slice av ns.length cv] 26 (0, 0))) := heap_alloc_new w _
  have HB : Hid (Below w.heap.size w (w.alloc (.cells #[.slice av ns.length cv] 26))) := (Below.refl _ _).alloc (Nat.le_refl _) _
  have HO : Hid (OwnC B (w.alloc (.cells #[.slice av ns.length cv] 26)) (.slice av ns.length cv) ns) := (OwnN.clip h2).later HB.out
  clear h1 h2 hav hb0
  go_enter Tryz.func66, Tryz.ntmps66
  go_wp2
  refine bodyPost_ret (res_cell2 rfl _ _ w.heap.size 26 #[.slice av ns.length cv] (0, 0) _ rfl ?_ Tryz.underlying26 rfl arenaSize) rfl ?_
  · exact HBL.out
  · exact ⟨_, rfl, HO.out, HB.out⟩
end Go.Proofs.YtaanophnnkmkbaaGreat
