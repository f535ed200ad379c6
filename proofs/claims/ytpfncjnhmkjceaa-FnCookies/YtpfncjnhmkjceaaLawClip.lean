/- The laws' marks on an arena whose slice shows less room than its block has (slices.Clip). -/
import Derived.Test.YtpfncjnhmkjceaaLawArena2
import Derived.Test.YtpfncjnhmkjceaaLawKeep
import Derived.WalkKit
import Derived.WalkLawsBesides
import Derived.OwnWalk
import Derived.Laws.Rows
import Derived.Test.YtpfncjnhmkjceaaHead8
import Derived.Test.YtpfncjnhmkjceaaRdAt
import Derived.Test.YtpfncjnhmkjceaaMakeI
import Derived.Test.YtpfncjnhmkjceaaPlainPlaces
import Derived.WalkSpells
namespace Go.Proofs.Ytpfncjnhmkjceaa
open Go.RowKit
/-- A row of nodes that the call owns, shown with whatever room. -/
def OwnC (base : Nat) (w : World) (v : Value) (ns : List Nd) : Prop := ∃ a cap cp, v = .slice a ns.length cap ∧ AddrN a cap ∧ OwnN base w (.slice a ns.length cp) ns
theorem OwnN.clip {base : Nat} {w : World} {v : Value} {ns : List Nd} (h : OwnN base w v ns) : OwnC base w v ns := by
  obtain ⟨a, cap, rfl, ha, _⟩ := h.row
  exact ⟨a, cap, cap, rfl, ha, h⟩
set_option maxHeartbeats 1600000 in
theorem markNodeSC_any (base g cap cp n k0 : Nat) (xs0 : List Value) (w : World) (hn : n ≤ 2097152) (hk : k0 ≤ 1000) (hown : w.ownsRow base 72 4 (.slice (some ⟨g, 0, none⟩) n cp) n xs0) :
    Calls Try.prog 108 #[.slice (some ⟨g, 0, none⟩) n cap, .int .i64 (k0 : Int)] w fun e w' => e = .returned (.int .i64 ((k0 : Int) + 4 * (n : Int))) ∧ OwnN base w' (.slice (some ⟨g, 0, none⟩) n cp) (marksN k0 n) ∧ w.grownBy w' (some g) := by
  go_enter Try.func108, Try.ntmps108
  go_wp2
  go_loopw [1, 5] (fun kk i wr => ∃ (j : Nat) (xs : List Value), j ≤ n ∧ i = .int .i64 (j : Int) ∧ kk = .int .i64 ((k0 : Int) + 4 * (j : Int)) ∧ wr.ownsRow base 72 4 (.slice (some ⟨g, 0, none⟩) n cp) n xs ∧ Hid (xs.take (j * 4) = cellsN (marksN k0 j)) ∧ Hid (w.grownBy wr (some g)))
    (fun _ i _ => n - (intOf i).toNat)
  case atStart => exact ⟨0, _, Nat.zero_le _, rfl, by simp, hown, (by show _ = _; simp [cellsN, marksN]), gb_refl _ _⟩
  case round =>
    obtain ⟨j, xs, hj, rfl, rfl, ho, HT, HG⟩ := hrel
    have hxl : xs.length = n * 4 := ho.1
    by_cases hlt : j < n
    · have hi0 : (0 : Int) ≤ (j : Int) := by omega
      have hi1 : (j : Int) < (n : Int) := by omega
      obtain ⟨u0, e0⟩ : ∃ u, wr.cell? ⟨g, j * 4, none⟩ = some u := by rw [ho.cellAt (j * 4) (by omega)]; exact ⟨_, List.getElem?_eq_getElem (by omega)⟩
      obtain ⟨u1, e1⟩ : ∃ u, wr.cell? ⟨g, j * 4 + 1, none⟩ = some u := by rw [ho.cellAt (j * 4 + 1) (by omega)]; exact ⟨_, List.getElem?_eq_getElem (by omega)⟩
      obtain ⟨u2, e2⟩ : ∃ u, wr.cell? ⟨g, j * 4 + 2, none⟩ = some u := by rw [ho.cellAt (j * 4 + 2) (by omega)]; exact ⟨_, List.getElem?_eq_getElem (by omega)⟩
      obtain ⟨u3, e3⟩ : ∃ u, wr.cell? ⟨g, j * 4 + 3, none⟩ = some u := by rw [ho.cellAt (j * 4 + 3) (by omega)]; exact ⟨_, List.getElem?_eq_getElem (by omega)⟩
      have f0 := ho.frozenAt (j * 4)
      have f1 := ho.frozenAt (j * 4 + 1)
      have f2 := ho.frozenAt (j * 4 + 2)
      have f3 := ho.frozenAt (j * 4 + 3)
      have HS : Hid _ := ((((ho.stored (j * 4) (.int .i64 ((k0 : Int) + 4 * (j : Int)))).1.stored (j * 4 + 1) (.int .i64 ((k0 : Int) + 4 * (j : Int) + 1))).1.stored (j * 4 + 2) (.int .i64 ((k0 : Int) + 4 * (j : Int) + 1 + 1))).1.stored (j * 4 + 3) (.int .i64 ((k0 : Int) + 4 * (j : Int) + 1 + 1 + 1))).1
      have HG4 : Hid _ := gb_set (gb_set (gb_set (gb_set HG.out (j * 4) (.int .i64 ((k0 : Int) + 4 * (j : Int)))) (j * 4 + 1) (.int .i64 ((k0 : Int) + 4 * (j : Int) + 1))) (j * 4 + 2) (.int .i64 ((k0 : Int) + 4 * (j : Int) + 1 + 1))) (j * 4 + 3) (.int .i64 ((k0 : Int) + 4 * (j : Int) + 1 + 1 + 1))
      have HT4 : Hid (((((xs.set (j * 4) (.int .i64 ((k0 : Int) + 4 * (j : Int)))).set (j * 4 + 1) (.int .i64 ((k0 : Int) + 4 * (j : Int) + 1))).set (j * 4 + 2) (.int .i64 ((k0 : Int) + 4 * (j : Int) + 1 + 1))).set (j * 4 + 3) (.int .i64 ((k0 : Int) + 4 * (j : Int) + 1 + 1 + 1))).take ((j + 1) * 4) = cellsN (marksN k0 (j + 1))) := by
        show _ = _
        rw [show (j + 1) * 4 = j * 4 + 4 by omega, set4_take xs (j * 4) _ _ _ _ (by omega), HT.out, marksN, cellsN_append]; rfl
      clear ho HT HG
      go_wp2
      go_roundw
      case rel => exact ⟨j + 1, _, by omega, by go_num, by go_num, HS.out, HT4, HG4⟩
      case measure => simp [intOf]; omega
    · obtain rfl : j = n := by omega
      have HE : Hid (xs = cellsN (marksN k0 j)) := by
        show _ = _
        have := HT.out
        rw [List.take_of_length_le (by omega)] at this
        exact this
      clear HT
      go_wp2
      go_ret
      exact ⟨rfl, by unfold OwnN; rw [← HE.out, marksN_len]; exact ho, HG.out⟩
/-- markArena on an arena that the call owns, whatever room it shows. -/
theorem markArenaC_any (base k0 : Nat) (a : Option Addr) (cap cp : Nat) (ns : List Nd) (w : World) (hn : ns.length ≤ 2097152) (hk : k0 ≤ 1000) (ha : AddrN a cap) (hown : OwnN base w (.slice a ns.length cp) ns) :
    Calls Try.prog 58 #[.agg #[.slice a ns.length cap], .int .i64 (k0 : Int)] w fun e w' => e = .returned (.int .i64 ((k0 : Int) + 4 * (ns.length : Int))) ∧ OwnN base w' (.slice a ns.length cp) (marksN k0 ns.length) ∧ w.grownBy w' (Value.slice a ns.length cp).ownBlock := by
  rcases hown.2 with ⟨e, h0⟩ | ⟨g, cp', cur, e, hg, hh, _⟩
  · obtain ⟨rfl, h1, rfl⟩ : a = none ∧ ns.length = 0 ∧ cp = 0 := by simpa using e
    rcases ha with ⟨_, rfl⟩ | ⟨b, off, e⟩
    · have := markArena_any base k0 (.slice none ns.length 0) ns w hn hk hown
      exact this
    · cases e
  · obtain ⟨rfl, rfl⟩ : a = some ⟨g, 0, none⟩ ∧ cp = cp' := by simpa using e
    have HM : Hid _ := markNodeSC_any base g cap cp ns.length k0 (cellsN ns) (w.alloc (.cells #[.slice (some ⟨g, 0, none⟩) ns.length cap] 26)) hn hk (hown.alloc _)
    clear hown hh ha
    go_enter Try.func58, Try.ntmps58
    go_wp2_with fail
    refine Calls.mono HM.out ?_
    rintro e w1 ⟨rfl, ho, hgr⟩
    have hgb : w.grownBy w1 (Value.slice (some ⟨g, 0, none⟩) ns.length cp).ownBlock := gb_alloc hgr
    clear HM hgr
    go_wp2
    go_ret
    exact ⟨rfl, ho, hgb⟩
end Go.Proofs.Ytpfncjnhmkjceaa

namespace Go.Proofs.Ytpfncjnhmkjceaa
open Go.RowKit

/-- A variable of an arena in memory. -/
structure Box (g : Nat) (v : Value) (w : World) : Prop where
  row : w.heap[g]? = some (.cells #[v] 26 (0, 0))
theorem Box.lt {g : Nat} {v : Value} {w : World} (h : Box g v w) : g < w.heap.size := (Array.getElem?_eq_some_iff.1 h.row).1
theorem Box.c {g : Nat} {v : Value} {w : World} (h : Box g v w) : w.cell? ⟨g, 0, none⟩ = some v := (cell_of_row _ _ 0 _ _ _ h.row).trans rfl
theorem Box.fr {g : Nat} {v : Value} {w : World} (h : Box g v w) : w.frozen? ⟨g, 0, none⟩ = false := frozen_of_row _ _ 0 _ _ h.row
theorem Box.next {g : Nat} {v : Value} {w w' : World} (h : Box g v w) (hb : Below w.heap.size w w') : Box g v w' := ⟨(hb.block g h.lt).trans h.row⟩
theorem Box.set {g : Nat} {v : Value} {w : World} (h : Box g v w) (u : Value) : Box g u (w.setCell ⟨g, 0, none⟩ u) := ⟨(heap_setCell_same _ _ 0 _ _ _ h.row).trans rfl⟩
theorem Box.made {w : World} {v : Value} : Box w.heap.size v (w.alloc (.cells #[v] 26)) := ⟨heap_alloc_new w _⟩
theorem Own.set {lo hi g : Nat} {v u : Value} {ns : List Nd} {w : World} (h : Own lo hi v ns w) (hg : g < lo) : Own lo hi v ns (w.setCell ⟨g, 0, none⟩ u) := ⟨ownsRow_setCell_below h.own hg _, by simpa using h.le, h.lt⟩
theorem OwnZ.set {lo hi g : Nat} {v u : Value} {xs : List Int} {w : World} (h : OwnZ lo hi v xs w) (hg : g < lo) : OwnZ lo hi v xs (w.setCell ⟨g, 0, none⟩ u) := ⟨ownsRow_setCell_below h.own hg _, by simpa using h.le, h.lt⟩
/-- The first three places that were drawn. -/
structure Pl (g : Nat) (p0 p1 p2 : Nat) (w : World) : Prop where
  lt : g < w.heap.size
  c0 : w.cell? ⟨g, 0, none⟩ = some (.int .i64 (p0 : Int))
  c1 : w.cell? ⟨g, 1, none⟩ = some (.int .i64 (p1 : Int))
  c2 : w.cell? ⟨g, 2, none⟩ = some (.int .i64 (p2 : Int))
theorem Pl.next {g p0 p1 p2 : Nat} {w w' : World} (h : Pl g p0 p1 p2 w) (hb : Below w.heap.size w w') : Pl g p0 p1 p2 w' := ⟨Nat.lt_of_lt_of_le h.lt hb.size, (hb.cell (p := ⟨g, 0, none⟩) h.lt).trans h.c0, (hb.cell (p := ⟨g, 1, none⟩) h.lt).trans h.c1, (hb.cell (p := ⟨g, 2, none⟩) h.lt).trans h.c2⟩
theorem Pl.set {g p0 p1 p2 b : Nat} {u : Value} {w : World} (h : Pl g p0 p1 p2 w) (hb : g ≠ b) : Pl g p0 p1 p2 (w.setCell ⟨b, 0, none⟩ u) := by
  have e : ∀ i, (w.setCell ⟨b, 0, none⟩ u).cell? ⟨g, i, none⟩ = w.cell? ⟨g, i, none⟩ := fun i => World.cell?_of_block (Below.heap_setCell _ _ _ _ hb)
  exact ⟨by simpa using h.lt, (e 0).trans h.c0, (e 1).trans h.c1, (e 2).trans h.c2⟩
end Go.Proofs.Ytpfncjnhmkjceaa

namespace Go.Proofs.Ytpfncjnhmkjceaa
open Go.RowKit
set_option linter.unusedVariables false
/-- The first four places that were drawn. -/
structure Pl4 (g : Nat) (p0 p1 p2 p3 : Nat) (w : World) : Prop where
  lt : g < w.heap.size
  c0 : w.cell? ⟨g, 0, none⟩ = some (.int .i64 (p0 : Int))
  c1 : w.cell? ⟨g, 1, none⟩ = some (.int .i64 (p1 : Int))
  c2 : w.cell? ⟨g, 2, none⟩ = some (.int .i64 (p2 : Int))
  c3 : w.cell? ⟨g, 3, none⟩ = some (.int .i64 (p3 : Int))
theorem Pl4.next {g p0 p1 p2 p3 : Nat} {w w' : World} (h : Pl4 g p0 p1 p2 p3 w) (hb : Below w.heap.size w w') : Pl4 g p0 p1 p2 p3 w' := ⟨Nat.lt_of_lt_of_le h.lt hb.size, (hb.cell (p := ⟨g, 0, none⟩) h.lt).trans h.c0, (hb.cell (p := ⟨g, 1, none⟩) h.lt).trans h.c1, (hb.cell (p := ⟨g, 2, none⟩) h.lt).trans h.c2, (hb.cell (p := ⟨g, 3, none⟩) h.lt).trans h.c3⟩
theorem Pl4.set {g p0 p1 p2 p3 b : Nat} {u : Value} {w : World} (h : Pl4 g p0 p1 p2 p3 w) (hb : g ≠ b) : Pl4 g p0 p1 p2 p3 (w.setCell ⟨b, 0, none⟩ u) := by
  have e : ∀ i, (w.setCell ⟨b, 0, none⟩ u).cell? ⟨g, i, none⟩ = w.cell? ⟨g, i, none⟩ := fun i => World.cell?_of_block (Below.heap_setCell _ _ _ _ hb)
  exact ⟨by simpa using h.lt, (e 0).trans h.c0, (e 1).trans h.c1, (e 2).trans h.c2, (e 3).trans h.c3⟩
end Go.Proofs.Ytpfncjnhmkjceaa

namespace Go.Proofs.Ytpfncjnhmkjceaa
open Go.RowKit Go.Maps
set_option linter.unusedVariables false
theorem own_map_ne {B gm n : Nat} {w : World} {v : Value} {ns : List Nd} {D : DataW Unit} (h : OwnN B w v ns) (hm : w.ownsMap Try.prog 72 (plainElem Try.prog 3) gm n D) : v.ownBlock ≠ some gm := by
  intro e
  obtain ⟨es, clock, hg, _⟩ := hm
  rcases h.2 with ⟨rfl, _⟩ | ⟨gv, cap, cur, rfl, hb, hh, _⟩
  · cases e
  · simp [Value.ownBlock] at e
    rw [e, hg] at hh
    simp at hh
set_option maxHeartbeats 1600000 in
set_option maxRecDepth 20000 in
theorem builderOf_any (a : Option Addr) (cap : Nat) (ns : List Nd) (w : World) (hl : ns.length ≤ 1048576) (hf : ∀ y ∈ ns, y.Fits) (ha : AddrN a cap) (hr : RowN w.heap.size w a ns) :
    Calls Try.prog 72 #[.agg #[.slice a ns.length cap]] w fun e w' => ∃ gb gm v, e = .returned (.pointer (some ⟨gb, 0, none⟩)) ∧ BldAt w.heap.size gb gm ns.length ns.length ns v w' ∧ Below w.heap.size w w' := by
  have HR : Hid (RowN w.heap.size w a ns) := hr
  have HA : Hid (AddrN a cap) := ha
  have HF : Hid (∀ y ∈ ns, y.Fits) := hf
  clear hr ha hf
  have hb0 : Below w.heap.size w (w.alloc (.cells #[.slice a ns.length cap] 26)) := (Below.refl _ _).alloc (Nat.le_refl _) _
  have hA0 := heap_alloc_new w (.cells #[.slice a ns.length cap] 26)
  go_enter Try.func72, Try.ntmps72
  go_wp2_with fail
  generalize w.alloc (.cells #[.slice a ns.length cap] 26) = w0 at hb0 hA0 ⊢
  refine wp_region_list (I := fun w' => Below w.heap.size w w' ∧ w'.heap[w.heap.size]? = some (.cells #[.slice a ns.length cap] 26 (0, 0))) (R := fun _ w' w'' => Below w'.heap.size w' w'')
    (fs := #[⟨[3], fun vs _ => vs = [.pointer (some ⟨w.heap.size, 0, none⟩)]⟩, ⟨[4], fun vs _ => vs = [.slice a ns.length cap]⟩, ⟨[5], fun vs w' => ∃ v, vs = [v] ∧ OwnN w.heap.size w' v ns⟩, ⟨[6], fun vs _ => vs = [.pointer (some ⟨w.heap.size, 0, none⟩)]⟩, ⟨[7], fun vs _ => vs = [.slice a ns.length cap]⟩, ⟨[8], fun vs w' => ∃ gm D, vs = [.map (some gm)] ∧ w.heap.size ≤ gm ∧ w'.ownsMap Try.prog 72 (plainElem Try.prog 3) gm ns.length D ∧ PlacesD ns D⟩, ⟨[9], fun vs _ => vs = [.pointer (some ⟨w.heap.size, 0, none⟩)]⟩, ⟨[10], fun vs _ => vs = [.slice a ns.length cap]⟩, ⟨[11], fun vs _ => vs = [.int .i64 (ns.length : Int)]⟩, ⟨[12], fun vs w' => ∃ v gm D, vs = [.agg #[v, .map (some gm), .int .i64 (ns.length : Int)]] ∧ OwnN w.heap.size w' v ns ∧ w.heap.size ≤ gm ∧ w'.ownsMap Try.prog 72 (plainElem Try.prog 3) gm ns.length D ∧ PlacesD ns D⟩, ⟨[13], fun vs w' => ∃ gb gm v, vs = [.pointer (some ⟨gb, 0, none⟩)] ∧ BldAt w.heap.size gb gm ns.length ns.length ns v w'⟩, ⟨[2], fun vs w' => ∃ gb gm v, vs = [.pointer (some ⟨gb, 0, none⟩)] ∧ BldAt w.heap.size gb gm ns.length ns.length ns v w'⟩])
    (by kernel_rfl) 14 rfl (by kernel_rfl) ?stab ?istab ?start ?exec ?fin
  case stab =>
    intro k i f hki hf
    have hk : k < 12 := (Array.getElem?_eq_some_iff.1 hf).1
    rcases (show k = 0 ∨ k = 1 ∨ k = 2 ∨ k = 3 ∨ k = 4 ∨ k = 5 ∨ k = 6 ∨ k = 7 ∨ k = 8 ∨ k = 9 ∨ k = 10 ∨ k = 11 by omega) with rfl | rfl | rfl | rfl | rfl | rfl | rfl | rfl | rfl | rfl | rfl | rfl
    all_goals
      simp only [List.getElem?_toArray, List.getElem?_cons_succ, List.getElem?_cons_zero, Option.some.injEq] at hf
      subst hf
    · exact fun vs _ _ _ h => h
    · exact fun vs _ _ _ h => h
    · exact fun vs w' w'' hR ⟨v, h1, h2⟩ => ⟨v, h1, h2.later hR⟩
    · exact fun vs _ _ _ h => h
    · exact fun vs _ _ _ h => h
    · exact fun vs w' w'' hR ⟨gm, D, h1, h2, h3, h4⟩ => ⟨gm, D, h1, h2, h3.kept (grown_ofB hR) (by simp), h4⟩
    · exact fun vs _ _ _ h => h
    · exact fun vs _ _ _ h => h
    · exact fun vs _ _ _ h => h
    · exact fun vs w' w'' hR ⟨v, gm, D, h1, h2, h3, h4, h5⟩ => ⟨v, gm, D, h1, h2.later hR, h3, h4.kept (grown_ofB hR) (by simp), h5⟩
    · exact fun vs w' w'' hR ⟨gb, gm, v, h1, h2⟩ => ⟨gb, gm, v, h1, h2.later hR⟩
    · exact fun vs w' w'' hR ⟨gb, gm, v, h1, h2⟩ => ⟨gb, gm, v, h1, h2.later hR⟩
  case istab => exact fun i w' w'' hR h => ⟨h.1.trans (hR.mono h.1.size), (hR.block _ (Array.getElem?_eq_some_iff.1 h.2).1).trans h.2⟩
  case start => exact ⟨hb0.drew, hA0⟩
  case exec =>
    intro i o f hi hf a_1 wq hsz hI hold hpre
    have hi11 : i < 12 := (Array.getElem?_eq_some_iff.1 hi).1
    rcases (show i = 0 ∨ i = 1 ∨ i = 2 ∨ i = 3 ∨ i = 4 ∨ i = 5 ∨ i = 6 ∨ i = 7 ∨ i = 8 ∨ i = 9 ∨ i = 10 ∨ i = 11 by omega) with rfl | rfl | rfl | rfl | rfl | rfl | rfl | rfl | rfl | rfl | rfl | rfl
    all_goals
      simp only [List.getElem?_toArray, List.getElem?_cons_succ, List.getElem?_cons_zero, Option.some.injEq] at hi hf
      subst hi hf
    · have g1 : a_1.tmps.getD 1 undef = .pointer (some ⟨w.heap.size, 0, none⟩) := hold 1 (free_spec (by kernel_rfl))
      refine exec_same (v := .pointer (some ⟨w.heap.size, 0, none⟩)) ?_ ⟨_, rfl, (Below.refl _ _), at_one (by omega) rfl⟩
      simp [go_sem, Act.eval, g1]
    · have g3 : a_1.tmps.getD 3 undef = .pointer (some ⟨w.heap.size, 0, none⟩) := by have := of_one (hpre ⟨0, .data⟩ (by simp) rfl _ rfl); simpa using this
      have hc : wq.cell? ⟨w.heap.size, 0, none⟩ = some (.slice a ns.length cap) := (cell_of_row wq _ 0 _ _ _ hI.2).trans rfl
      refine exec_same (v := .slice a ns.length cap) ?_ ⟨_, rfl, (Below.refl _ _), at_one (by omega) rfl⟩
      simp [go_sem, Act.eval, g3, hc]
    · have g4 : a_1.tmps.getD 4 undef = .slice a ns.length cap := by have := of_one (hpre ⟨1, .data⟩ (by simp) rfl _ rfl); simpa using this
      refine exec_call (f := 111) (args := #[.slice a ns.length cap]) (by simp [go_sem, Act.eval, g4]) ?_
      refine (clone_any a cap ns wq hl HA.out (HR.out.grown hI.1)).mono ?_
      rintro e w2 ⟨v', rfl, ho, hb⟩
      exact ⟨_, rfl, _, rfl, hb, at_one (by omega) ⟨v', rfl, OwnN.base ho hI.1.size⟩⟩
    · have g1 : a_1.tmps.getD 1 undef = .pointer (some ⟨w.heap.size, 0, none⟩) := hold 1 (free_spec (by kernel_rfl))
      refine exec_same (v := .pointer (some ⟨w.heap.size, 0, none⟩)) ?_ ⟨_, rfl, (Below.refl _ _), at_one (by omega) rfl⟩
      simp [go_sem, Act.eval, g1]
    · have g6 : a_1.tmps.getD 6 undef = .pointer (some ⟨w.heap.size, 0, none⟩) := by have := of_one (hpre ⟨3, .data⟩ (by simp) rfl _ rfl); simpa using this
      have hc : wq.cell? ⟨w.heap.size, 0, none⟩ = some (.slice a ns.length cap) := (cell_of_row wq _ 0 _ _ _ hI.2).trans rfl
      refine exec_same (v := .slice a ns.length cap) ?_ ⟨_, rfl, (Below.refl _ _), at_one (by omega) rfl⟩
      simp [go_sem, Act.eval, g6, hc]
    · have g7 : a_1.tmps.getD 7 undef = .slice a ns.length cap := by have := of_one (hpre ⟨4, .data⟩ (by simp) rfl _ rfl); simpa using this
      refine exec_call (f := 120) (args := #[.slice a ns.length cap]) (by simp [go_sem, Act.eval, g7]) ?_
      refine (placesOf_any a cap ns wq hl HF.out (HR.out.grown hI.1)).mono ?_
      rintro e w2 ⟨D, rfl, hm, hpd, hb⟩
      exact ⟨_, rfl, _, rfl, hb, at_one (by omega) ⟨_, D, rfl, hI.1.size, hm, hpd⟩⟩
    · have g1 : a_1.tmps.getD 1 undef = .pointer (some ⟨w.heap.size, 0, none⟩) := hold 1 (free_spec (by kernel_rfl))
      refine exec_same (v := .pointer (some ⟨w.heap.size, 0, none⟩)) ?_ ⟨_, rfl, (Below.refl _ _), at_one (by omega) rfl⟩
      simp [go_sem, Act.eval, g1]
    · have g9 : a_1.tmps.getD 9 undef = .pointer (some ⟨w.heap.size, 0, none⟩) := by have := of_one (hpre ⟨6, .data⟩ (by simp) rfl _ rfl); simpa using this
      have hc : wq.cell? ⟨w.heap.size, 0, none⟩ = some (.slice a ns.length cap) := (cell_of_row wq _ 0 _ _ _ hI.2).trans rfl
      refine exec_same (v := .slice a ns.length cap) ?_ ⟨_, rfl, (Below.refl _ _), at_one (by omega) rfl⟩
      simp [go_sem, Act.eval, g9, hc]
    · have g10 : a_1.tmps.getD 10 undef = .slice a ns.length cap := by have := of_one (hpre ⟨7, .data⟩ (by simp) rfl _ rfl); simpa using this
      refine exec_same (v := .int .i64 (ns.length : Int)) ?_ ⟨_, rfl, (Below.refl _ _), at_one (by omega) rfl⟩
      simp [go_sem, Act.eval, g10]
    · obtain ⟨v, h5, ho⟩ := of_one (hpre ⟨2, .data⟩ (by simp) rfl _ rfl)
      obtain ⟨gm, D, h8, hgm, hm, hpd⟩ := of_one (hpre ⟨5, .data⟩ (by simp) rfl _ rfl)
      have g5 : a_1.tmps.getD 5 undef = v := by simpa using h5
      have g8 : a_1.tmps.getD 8 undef = .map (some gm) := by simpa using h8
      have g11 : a_1.tmps.getD 11 undef = .int .i64 (ns.length : Int) := by have := of_one (hpre ⟨8, .data⟩ (by simp) rfl _ rfl); simpa using this
      obtain ⟨av, cv, rfl, -, -⟩ := ho.row
      have e5 : a_1.tmps[5]?.getD undef = .slice av ns.length cv := by simpa using g5
      have e8 : a_1.tmps[8]?.getD undef = .map (some gm) := by simpa using g8
      have e11 : a_1.tmps[11]?.getD undef = .int .i64 (ns.length : Int) := by simpa using g11
      refine exec_same (v := .agg #[.slice av ns.length cv, .map (some gm), .int .i64 (ns.length : Int)]) ?_ ⟨_, rfl, (Below.refl _ _), at_one (by omega) ⟨_, gm, D, rfl, ho, hgm, hm, hpd⟩⟩
      simp [go_sem, e5, e8, e11]
    · obtain ⟨v, gm, D, h12, ho, hgm, hm, hpd⟩ := of_one (hpre ⟨9, .data⟩ (by simp) rfl _ rfl)
      have g12 : a_1.tmps.getD 12 undef = .agg #[v, .map (some gm), .int .i64 (ns.length : Int)] := by simpa using h12
      have hbx : Below wq.heap.size wq (wq.alloc (.cells #[v, .map (some gm), .int .i64 (ns.length : Int)] 133)) := (Below.refl _ _).alloc (Nat.le_refl _) _
      have hmlt := hm.lt
      have hws := hI.1.size
      refine exec_made (v := .pointer (some ⟨wq.heap.size, 0, none⟩)) (w' := wq.alloc (.cells #[v, .map (some gm), .int .i64 (ns.length : Int)] 133)) ?_ ⟨_, rfl, hbx, at_one (by omega) ⟨wq.heap.size, gm, v, rfl, D, heap_alloc_new wq _, ho.later hbx, hm.kept (grown_ofB hbx) (by simp), hpd, hws, hgm, by omega, fun e => by have := (ho.lt _ e).2; omega, own_map_ne ho hm⟩⟩
      obtain ⟨av, cv, rfl, -, -⟩ := ho.row
      simp [go_sem, Act.eval, g12]
    · obtain ⟨gb, gm, v, h13, hbld⟩ := of_one (hpre ⟨10, .data⟩ (by simp) rfl _ rfl)
      have g13 : a_1.tmps.getD 13 undef = .pointer (some ⟨gb, 0, none⟩) := by simpa using h13
      refine exec_same (v := .pointer (some ⟨gb, 0, none⟩)) ?_ ⟨_, rfl, (Below.refl _ _), at_one (by omega) ⟨gb, gm, v, rfl, hbld⟩⟩
      simp [go_sem, Act.eval, g13]
  case fin =>
    intro zs w5 hzl hI hF
    obtain ⟨z0, z1, z2, z3, z4, z5, z6, z7, z8, z9, z10, z11, rfl⟩ := list12 zs hzl
    obtain ⟨gb, gm, v, hst, hbld⟩ := of_one (hF 11 _ rfl)
    simp only [List.cons.injEq, and_true] at hst
    have hs2 := last_is (i := 11) (v := z11) (n := 14) hst (by kernel_rfl) rfl rfl (by omega)
    clear hst
    subst hs2
    clear hF
    simp only [putAll, Act.put, List.setIfInBounds_toArray, List.set_cons_succ, List.set_cons_zero]
    have HE : Hid _ := And.intro hbld hI.1
    clear hbld hI
    go_wp2
    go_ret
    exact ⟨gb, gm, v, rfl, HE.out.1, HE.out.2⟩

theorem OwnN.take {B : Nat} {w : World} {a : Option Addr} {cp : Nat} {ns : List Nd} {f : Nat} (h : OwnN B w (.slice a ns.length cp) ns) (hf : f ≤ ns.length) : OwnN B w (.slice a (ns.take f).length cp) (ns.take f) := by
  have hl : (ns.take f).length = f := by rw [List.length_take]; omega
  have hc : cellsN (ns.take f) = (cellsN ns).take (f * 4) := by
    have e : ns = ns.take f ++ ns.drop f := (List.take_append_drop f ns).symm
    have hh : (cellsN (ns.take f)).length = f * 4 := by rw [cellsN_len, hl]
    conv => rhs; rw [e, cellsN_append]
    rw [List.take_append_of_le_length (by omega), ← hh, List.take_length]
  unfold OwnN
  rw [hl]
  refine ⟨by rw [cellsN_len, hl], ?_⟩
  rcases h.2 with ⟨e, h0⟩ | ⟨g, cap, cur, e, hg, hh, h1, h2, h3, h4⟩
  · left
    obtain ⟨rfl, h5, rfl⟩ : a = none ∧ ns.length = 0 ∧ cp = 0 := by simpa using e
    exact ⟨by rw [show f = 0 by omega], by omega⟩
  · right
    obtain ⟨rfl, rfl⟩ : a = some ⟨g, 0, none⟩ ∧ cp = cap := by simpa using e
    refine ⟨g, cp, cur, rfl, hg, hh, by omega, h2, h3, ?_⟩
    rw [hc, ← h4, List.take_take, Nat.min_eq_left (by omega)]

theorem clip_any (a : Option Addr) (n cap : Nat) (w : World) (ha : AddrN a cap) (hn : n ≤ cap) (hm : cap ≤ maxLen) (h0 : a = none → n = 0) :
    Calls Try.prog 121 #[.slice a n cap] w fun e w' => e = .returned (.slice a n n) ∧ w = w' := by
  rcases ha with ⟨rfl, rfl⟩ | ⟨b, off, rfl⟩
  · obtain rfl := h0 rfl
    go_enter Try.func121, Try.ntmps121
    go_wp2
    go_ret
    exact ⟨rfl, rfl⟩
  · go_enter Try.func121, Try.ntmps121
    go_wp2
    go_ret
    exact ⟨rfl, rfl⟩
end Go.Proofs.Ytpfncjnhmkjceaa
