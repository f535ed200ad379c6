/- The program's arena in the making (chapter 3): builderOf, arenaWith, and the library's Clip over nodes. -/
import Derived.Test.YtffnadnndmmliaaRdAt
import Derived.Test.YtffnadnndmmliaaMakeI
import Derived.Test.YtffnadnndmmliaaLawKeep
import Derived.Test.YtffnadnndmmliaaPlacesW
import Derived.WalkKit
import Derived.WalkLawsBesides
import Derived.WalkSpells
import Derived.Laws.Rows
namespace Go.Proofs.Ytffnadnndmmliaa
open Go.RowKit Go.Maps
set_option linter.unusedVariables false
theorem own_map_ne {B gm n : Nat} {w : World} {v : Value} {ns : List Nd} {D : DataW Unit} (h : OwnN B w v ns) (hm : w.ownsMap Try.prog 45 (plainElem Try.prog 3) gm n D) : v.ownBlock ≠ some gm := by
  intro e
  obtain ⟨es, clock, hg, _⟩ := hm
  rcases h.2 with ⟨rfl, _⟩ | ⟨gv, cap, cur, rfl, hb, hh, _⟩
  · cases e
  · simp [Value.ownBlock] at e
    rw [e, hg] at hh
    simp at hh
set_option maxHeartbeats 1600000 in
set_option maxRecDepth 20000 in
theorem builderOf_any (a : Option Addr) (cap : Nat) (ns : List Nd) (w : World) (hl : ns.length ≤ 1048576) (hf : ∀ y ∈ ns, y.Fits) (ha : AddrN a cap) (hr : RowN w.heap.size w a ns) :
    Calls Try.prog 79 #[.agg #[.slice a ns.length cap]] w fun e w' => ∃ gb gm v, e = .returned (.pointer (some ⟨gb, 0, none⟩)) ∧ BldAt w.heap.size gb gm ns.length ns.length ns v w' ∧ Below w.heap.size w w' := by
  have HR : Hid (RowN w.heap.size w a ns) := hr
  have HA : Hid (AddrN a cap) := ha
  have HF : Hid (∀ y ∈ ns, y.Fits) := hf
  clear hr ha hf
  have hb0 : Below w.heap.size w (w.alloc (.cells #[.slice a ns.length cap] 28)) := (Below.refl _ _).alloc (Nat.le_refl _) _
  have hA0 := heap_alloc_new w (.cells #[.slice a ns.length cap] 28)
  go_enter Try.func79, Try.ntmps79
  go_wp2_with fail
  generalize w.alloc (.cells #[.slice a ns.length cap] 28) = w0 at hb0 hA0 ⊢
  refine wp_region_list (I := fun w' => Below w.heap.size w w' ∧ w'.heap[w.heap.size]? = some (.cells #[.slice a ns.length cap] 28 (0, 0))) (R := fun _ w' w'' => Below w'.heap.size w' w'')
    (fs := #[⟨[3], fun vs _ => vs = [.pointer (some ⟨w.heap.size, 0, none⟩)]⟩, ⟨[4], fun vs _ => vs = [.slice a ns.length cap]⟩, ⟨[5], fun vs w' => ∃ v, vs = [v] ∧ OwnN w.heap.size w' v ns⟩, ⟨[6], fun vs _ => vs = [.pointer (some ⟨w.heap.size, 0, none⟩)]⟩, ⟨[7], fun vs _ => vs = [.slice a ns.length cap]⟩, ⟨[8], fun vs w' => ∃ gm D, vs = [.map (some gm)] ∧ w.heap.size ≤ gm ∧ w'.ownsMap Try.prog 45 (plainElem Try.prog 3) gm ns.length D ∧ PlacesD ns D⟩, ⟨[9], fun vs _ => vs = [.pointer (some ⟨w.heap.size, 0, none⟩)]⟩, ⟨[10], fun vs _ => vs = [.slice a ns.length cap]⟩, ⟨[11], fun vs _ => vs = [.int .i64 (ns.length : Int)]⟩, ⟨[12], fun vs w' => ∃ v gm D, vs = [.agg #[v, .map (some gm), .int .i64 (ns.length : Int), .int .i64 3000]] ∧ OwnN w.heap.size w' v ns ∧ w.heap.size ≤ gm ∧ w'.ownsMap Try.prog 45 (plainElem Try.prog 3) gm ns.length D ∧ PlacesD ns D⟩, ⟨[13], fun vs w' => ∃ gb gm v, vs = [.pointer (some ⟨gb, 0, none⟩)] ∧ BldAt w.heap.size gb gm ns.length ns.length ns v w'⟩, ⟨[2], fun vs w' => ∃ gb gm v, vs = [.pointer (some ⟨gb, 0, none⟩)] ∧ BldAt w.heap.size gb gm ns.length ns.length ns v w'⟩])
    (by kernel_rfl) 14 rfl (by kernel_rfl) ?stab ?istab ?start ?exec ?fin
  case stab =>
    intro k i f hki hf
    have hk : k < 12 := (Array.getElem?_eq_some_iff.1 hf).1
    rcases (show k = 0 ∨ k = 1 ∨ k = 2 ∨ k = 3 ∨ k = 4 ∨ k = 5 ∨ k = 6 ∨ k = 7 ∨ k = 8 ∨ k = 9 ∨ k = 10 ∨ k = 11 by omega) with rfl | rfl | rfl | rfl | rfl | rfl | rfl | rfl | rfl | rfl | rfl | rfl
    all_goals
      simp only [List.getElem?_toArray, List.getElem?_cons_succ, List.getElem?_cons_zero, Option.some.injEq] at hf
      subst hf
    · exact fun vs _ _ _ h => h
    · exact fun vs _ _ _ h => h
    · exact fun vs w' w'' hR ⟨v, h1, h2⟩ => ⟨v, h1, h2.later hR⟩
    · exact fun vs _ _ _ h => h
    · exact fun vs _ _ _ h => h
    · exact fun vs w' w'' hR ⟨gm, D, h1, h2, h3, h4⟩ => ⟨gm, D, h1, h2, h3.kept (grown_ofB hR) (by simp), h4⟩
    · exact fun vs _ _ _ h => h
    · exact fun vs _ _ _ h => h
    · exact fun vs _ _ _ h => h
    · exact fun vs w' w'' hR ⟨v, gm, D, h1, h2, h3, h4, h5⟩ => ⟨v, gm, D, h1, h2.later hR, h3, h4.kept (grown_ofB hR) (by simp), h5⟩
    · exact fun vs w' w'' hR ⟨gb, gm, v, h1, h2⟩ => ⟨gb, gm, v, h1, h2.later hR⟩
    · exact fun vs w' w'' hR ⟨gb, gm, v, h1, h2⟩ => ⟨gb, gm, v, h1, h2.later hR⟩
  case istab => exact fun i w' w'' hR h => ⟨h.1.trans (hR.mono h.1.size), (hR.block _ (Array.getElem?_eq_some_iff.1 h.2).1).trans h.2⟩
  case start => exact ⟨hb0.drew, hA0⟩
  case exec =>
    intro i o f hi hf a_1 wq hsz hI hold hpre
    have hi11 : i < 12 := (Array.getElem?_eq_some_iff.1 hi).1
    rcases (show i = 0 ∨ i = 1 ∨ i = 2 ∨ i = 3 ∨ i = 4 ∨ i = 5 ∨ i = 6 ∨ i = 7 ∨ i = 8 ∨ i = 9 ∨ i = 10 ∨ i = 11 by omega) with rfl | rfl | rfl | rfl | rfl | rfl | rfl | rfl | rfl | rfl | rfl | rfl
    all_goals
      simp only [List.getElem?_toArray, List.getElem?_cons_succ, List.getElem?_cons_zero, Option.some.injEq] at hi hf
      subst hi hf
    · have g1 : a_1.tmps.getD 1 undef = .pointer (some ⟨w.heap.size, 0, none⟩) := hold 1 (free_spec (by kernel_rfl))
      refine exec_same (v := .pointer (some ⟨w.heap.size, 0, none⟩)) ?_ ⟨_, rfl, (Below.refl _ _), at_one (by omega) rfl⟩
      simp [go_sem, Act.eval, g1]
    · have g3 : a_1.tmps.getD 3 undef = .pointer (some ⟨w.heap.size, 0, none⟩) := by have := of_one (hpre ⟨0, .data⟩ (by simp) rfl _ rfl); simpa using this
      have hc : wq.cell? ⟨w.heap.size, 0, none⟩ = some (.slice a ns.length cap) := (cell_of_row wq _ 0 _ _ _ hI.2).trans rfl
      refine exec_same (v := .slice a ns.length cap) ?_ ⟨_, rfl, (Below.refl _ _), at_one (by omega) rfl⟩
      simp [go_sem, Act.eval, g3, hc]
    · have g4 : a_1.tmps.getD 4 undef = .slice a ns.length cap := by have := of_one (hpre ⟨1, .data⟩ (by simp) rfl _ rfl); simpa using this
      refine exec_call (f := 149) (args := #[.slice a ns.length cap]) (by simp [go_sem, Act.eval, g4]) ?_
      refine (clone_any a cap ns wq hl HA.out (HR.out.grown hI.1)).mono ?_
      rintro e w2 ⟨v', rfl, ho, hb⟩
      exact ⟨_, rfl, _, rfl, hb, at_one (by omega) ⟨v', rfl, OwnN.base ho hI.1.size⟩⟩
    · have g1 : a_1.tmps.getD 1 undef = .pointer (some ⟨w.heap.size, 0, none⟩) := hold 1 (free_spec (by kernel_rfl))
      refine exec_same (v := .pointer (some ⟨w.heap.size, 0, none⟩)) ?_ ⟨_, rfl, (Below.refl _ _), at_one (by omega) rfl⟩
      simp [go_sem, Act.eval, g1]
    · have g6 : a_1.tmps.getD 6 undef = .pointer (some ⟨w.heap.size, 0, none⟩) := by have := of_one (hpre ⟨3, .data⟩ (by simp) rfl _ rfl); simpa using this
      have hc : wq.cell? ⟨w.heap.size, 0, none⟩ = some (.slice a ns.length cap) := (cell_of_row wq _ 0 _ _ _ hI.2).trans rfl
      refine exec_same (v := .slice a ns.length cap) ?_ ⟨_, rfl, (Below.refl _ _), at_one (by omega) rfl⟩
      simp [go_sem, Act.eval, g6, hc]
    · have g7 : a_1.tmps.getD 7 undef = .slice a ns.length cap := by have := of_one (hpre ⟨4, .data⟩ (by simp) rfl _ rfl); simpa using this
      refine exec_call (f := 97) (args := #[.slice a ns.length cap]) (by simp [go_sem, Act.eval, g7]) ?_
      refine (placesOf_any a cap ns wq hl HF.out (HR.out.grown hI.1)).mono ?_
      rintro e w2 ⟨D, rfl, hm, hpd, hb⟩
      exact ⟨_, rfl, _, rfl, hb, at_one (by omega) ⟨_, D, rfl, hI.1.size, hm, hpd⟩⟩
    · have g1 : a_1.tmps.getD 1 undef = .pointer (some ⟨w.heap.size, 0, none⟩) := hold 1 (free_spec (by kernel_rfl))
      refine exec_same (v := .pointer (some ⟨w.heap.size, 0, none⟩)) ?_ ⟨_, rfl, (Below.refl _ _), at_one (by omega) rfl⟩
      simp [go_sem, Act.eval, g1]
    · have g9 : a_1.tmps.getD 9 undef = .pointer (some ⟨w.heap.size, 0, none⟩) := by have := of_one (hpre ⟨6, .data⟩ (by simp) rfl _ rfl); simpa using this
      have hc : wq.cell? ⟨w.heap.size, 0, none⟩ = some (.slice a ns.length cap) := (cell_of_row wq _ 0 _ _ _ hI.2).trans rfl
      refine exec_same (v := .slice a ns.length cap) ?_ ⟨_, rfl, (Below.refl _ _), at_one (by omega) rfl⟩
      simp [go_sem, Act.eval, g9, hc]
    · have g10 : a_1.tmps.getD 10 undef = .slice a ns.length cap := by have := of_one (hpre ⟨7, .data⟩ (by simp) rfl _ rfl); simpa using this
      refine exec_same (v := .int .i64 (ns.length : Int)) ?_ ⟨_, rfl, (Below.refl _ _), at_one (by omega) rfl⟩
      simp [go_sem, Act.eval, g10]
    · obtain ⟨v, h5, ho⟩ := of_one (hpre ⟨2, .data⟩ (by simp) rfl _ rfl)
      obtain ⟨gm, D, h8, hgm, hm, hpd⟩ := of_one (hpre ⟨5, .data⟩ (by simp) rfl _ rfl)
      have g5 : a_1.tmps.getD 5 undef = v := by simpa using h5
      have g8 : a_1.tmps.getD 8 undef = .map (some gm) := by simpa using h8
      have g11 : a_1.tmps.getD 11 undef = .int .i64 (ns.length : Int) := by have := of_one (hpre ⟨8, .data⟩ (by simp) rfl _ rfl); simpa using this
      obtain ⟨av, cv, rfl, -, -⟩ := ho.row
      have e5 : a_1.tmps[5]?.getD undef = .slice av ns.length cv := by simpa using g5
      have e8 : a_1.tmps[8]?.getD undef = .map (some gm) := by simpa using g8
      have e11 : a_1.tmps[11]?.getD undef = .int .i64 (ns.length : Int) := by simpa using g11
      refine exec_same (v := .agg #[.slice av ns.length cv, .map (some gm), .int .i64 (ns.length : Int), .int .i64 3000]) ?_ ⟨_, rfl, (Below.refl _ _), at_one (by omega) ⟨_, gm, D, rfl, ho, hgm, hm, hpd⟩⟩
      simp [go_sem, e5, e8, e11]
    · obtain ⟨v, gm, D, h12, ho, hgm, hm, hpd⟩ := of_one (hpre ⟨9, .data⟩ (by simp) rfl _ rfl)
      have g12 : a_1.tmps.getD 12 undef = .agg #[v, .map (some gm), .int .i64 (ns.length : Int), .int .i64 3000] := by simpa using h12
      have hbx : Below wq.heap.size wq (wq.alloc (.cells #[v, .map (some gm), .int .i64 (ns.length : Int), .int .i64 3000] 150)) := (Below.refl _ _).alloc (Nat.le_refl _) _
      have hmlt := hm.lt
      have hws := hI.1.size
      refine exec_made (v := .pointer (some ⟨wq.heap.size, 0, none⟩)) (w' := wq.alloc (.cells #[v, .map (some gm), .int .i64 (ns.length : Int), .int .i64 3000] 150)) ?_ ⟨_, rfl, hbx, at_one (by omega) ⟨wq.heap.size, gm, v, rfl, D, heap_alloc_new wq _, ho.later hbx, hm.kept (grown_ofB hbx) (by simp), hpd, hws, hgm, by omega, fun e => by have := (ho.lt _ e).2; omega, own_map_ne ho hm⟩⟩
      obtain ⟨av, cv, rfl, -, -⟩ := ho.row
      simp [go_sem, Act.eval, g12]
    · obtain ⟨gb, gm, v, h13, hbld⟩ := of_one (hpre ⟨10, .data⟩ (by simp) rfl _ rfl)
      have g13 : a_1.tmps.getD 13 undef = .pointer (some ⟨gb, 0, none⟩) := by simpa using h13
      refine exec_same (v := .pointer (some ⟨gb, 0, none⟩)) ?_ ⟨_, rfl, (Below.refl _ _), at_one (by omega) ⟨gb, gm, v, rfl, hbld⟩⟩
      simp [go_sem, Act.eval, g13]
  case fin =>
    intro zs w5 hzl hI hF
    obtain ⟨z0, z1, z2, z3, z4, z5, z6, z7, z8, z9, z10, z11, rfl⟩ := list12 zs hzl
    obtain ⟨gb, gm, v, hst, hbld⟩ := of_one (hF 11 _ rfl)
    simp only [List.cons.injEq, and_true] at hst
    have hs2 := last_is (i := 11) (v := z11) (n := 14) hst (by kernel_rfl) rfl rfl (by omega)
    clear hst
    subst hs2
    clear hF
    simp only [putAll, Act.put, List.setIfInBounds_toArray, List.set_cons_succ, List.set_cons_zero]
    have HE : Hid _ := And.intro hbld hI.1
    clear hbld hI
    go_wp2
    go_ret
    exact ⟨gb, gm, v, rfl, HE.out.1, HE.out.2⟩

theorem OwnN.take {B : Nat} {w : World} {a : Option Addr} {cp : Nat} {ns : List Nd} {f : Nat} (h : OwnN B w (.slice a ns.length cp) ns) (hf : f ≤ ns.length) : OwnN B w (.slice a (ns.take f).length cp) (ns.take f) := by
  have hl : (ns.take f).length = f := by rw [List.length_take]; omega
  have hc : cellsN (ns.take f) = (cellsN ns).take (f * 4) := by
    have e : ns = ns.take f ++ ns.drop f := (List.take_append_drop f ns).symm
    have hh : (cellsN (ns.take f)).length = f * 4 := by rw [cellsN_len, hl]
    conv => rhs; rw [e, cellsN_append]
    rw [List.take_append_of_le_length (by omega), ← hh, List.take_length]
  unfold OwnN
  rw [hl]
  refine ⟨by rw [cellsN_len, hl], ?_⟩
  rcases h.2 with ⟨e, h0⟩ | ⟨g, cap, cur, e, hg, hh, h1, h2, h3, h4⟩
  · left
    obtain ⟨rfl, h5, rfl⟩ : a = none ∧ ns.length = 0 ∧ cp = 0 := by simpa using e
    exact ⟨by rw [show f = 0 by omega], by omega⟩
  · right
    obtain ⟨rfl, rfl⟩ : a = some ⟨g, 0, none⟩ ∧ cp = cap := by simpa using e
    refine ⟨g, cp, cur, rfl, hg, hh, by omega, h2, h3, ?_⟩
    rw [hc, ← h4, List.take_take, Nat.min_eq_left (by omega)]

theorem clip_any (a : Option Addr) (n cap : Nat) (w : World) (ha : AddrN a cap) (hn : n ≤ cap) (hm : cap ≤ maxLen) (h0 : a = none → n = 0) :
    Calls Try.prog 153 #[.slice a n cap] w fun e w' => e = .returned (.slice a n n) ∧ w = w' := by
  rcases ha with ⟨rfl, rfl⟩ | ⟨b, off, rfl⟩
  · obtain rfl := h0 rfl
    go_enter Try.func153, Try.ntmps153
    go_wp2
    go_ret
    exact ⟨rfl, rfl⟩
  · go_enter Try.func153, Try.ntmps153
    go_wp2
    go_ret
    exact ⟨rfl, rfl⟩
end Go.Proofs.Ytffnadnndmmliaa
