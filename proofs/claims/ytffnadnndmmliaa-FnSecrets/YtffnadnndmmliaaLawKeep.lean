/- What a law over arenas keeps from step to step: its arguments' blocks, its variables' blocks, rows that were made in between. -/
import Derived.Test.YtffnadnndmmliaaLawArena3
import Derived.WalkKit
import Derived.WalkLawsBesides
import Derived.Test.YtffnadnndmmliaaRegionK
import Derived.Test.YtffnadnndmmliaaTermPut2
import Derived.OwnWalk
namespace Go.Proofs.Ytffnadnndmmliaa
open Go.RowKit

/-- A one-cell variable in memory. -/
structure Var (b : Nat) (v : Value) (w : World) : Prop where
  lt : b < w.heap.size
  c : w.cell? ⟨b, 0, none⟩ = some v
theorem Var.next {b : Nat} {v : Value} {w w' : World} (h : Var b v w) (hb : Below w.heap.size w w') : Var b v w' := ⟨Nat.lt_of_lt_of_le h.lt hb.size, (hb.cell (p := ⟨b, 0, none⟩) h.lt).trans h.c⟩
theorem cell_grown {w w' : World} {r : Option Nat} {b j : Nat} {u : Value} (hg : w.grownBy w' r) (hb : b < w.heap.size) (hne : r ≠ some b) (h : w.cell? ⟨b, j, none⟩ = some u) : w'.cell? ⟨b, j, none⟩ = some u := by
  rw [World.cell?_of_block (w := w) (hg.block b hb (fun e => hne e.symm))]; exact h
theorem Var.mark {b : Nat} {v : Value} {w w' : World} {r : Option Nat} (h : Var b v w) (hg : w.grownBy w' r) (hne : r ≠ some b) : Var b v w' := ⟨Nat.lt_of_lt_of_le h.lt hg.size, cell_grown hg h.lt hne h.c⟩
theorem Var.made {w : World} {v : Value} {t : TypeId} : Var w.heap.size v (w.alloc (.cells #[v] t)) := ⟨by simp, by rw [cell_of_row _ w.heap.size 0 _ _ _ (heap_alloc_new w _)]; rfl⟩
/-- A row of nodes that came in, below p. -/
structure In (p : Nat) (a : Option Addr) (ns : List Nd) (w : World) : Prop where
  le : p ≤ w.heap.size
  row : RowN p w a ns
theorem In.next {p : Nat} {a : Option Addr} {ns : List Nd} {w w' : World} (h : In p a ns w) (hb : Below w.heap.size w w') : In p a ns w' := ⟨Nat.le_trans h.le hb.size, h.row.later (hb.mono h.le)⟩
theorem In.mark {p : Nat} {a : Option Addr} {ns : List Nd} {w w' : World} {r : Option Nat} (h : In p a ns w) (hg : w.grownBy w' r) (hne : ∀ g, r = some g → p ≤ g) : In p a ns w' := by
  refine ⟨Nat.le_trans h.le hg.size, ?_⟩
  rcases h.row with h0 | ⟨b, off, e, hlt, hc⟩
  · exact .inl h0
  · refine .inr ⟨b, off, e, hlt, fun i hi => ?_⟩
    have hn : r ≠ some b := fun e => by have := hne b e; omega
    have hb : b < w.heap.size := Nat.lt_of_lt_of_le hlt h.le
    obtain ⟨c0, c1, c2, c3⟩ := hc i hi
    exact ⟨cell_grown hg hb hn c0, cell_grown hg hb hn c1, cell_grown hg hb hn c2, cell_grown hg hb hn c3⟩
theorem In.all {p : Nat} {a : Option Addr} {ns : List Nd} {w : World} (h : In p a ns w) : RowN w.heap.size w a ns := h.row.wide h.le
/-- A row of nodes that the law owns, its block from lo on, below hi. -/
structure Own (lo hi : Nat) (v : Value) (ns : List Nd) (w : World) : Prop where
  own : OwnN lo w v ns
  le : hi ≤ w.heap.size
  lt : ∀ k, v.ownBlock = some k → k < hi
theorem Own.made {lo : Nat} {v : Value} {ns : List Nd} {w : World} (h : OwnN lo w v ns) : Own lo w.heap.size v ns w := ⟨h, Nat.le_refl _, fun k hk => (h.lt k hk).2⟩
theorem Own.next {lo hi : Nat} {v : Value} {ns : List Nd} {w w' : World} (h : Own lo hi v ns w) (hb : Below w.heap.size w w') : Own lo hi v ns w' := by
  refine ⟨⟨h.own.1, ?_⟩, Nat.le_trans h.le hb.size, h.lt⟩
  rcases h.own.2 with h0 | ⟨g, cap, cur, e, hg, hh, rest⟩
  · exact .inl h0
  · exact .inr ⟨g, cap, cur, e, hg, (hb.block g (Array.getElem?_eq_some_iff.1 hh).1).trans hh, rest⟩
theorem Own.mark {lo hi : Nat} {v : Value} {ns : List Nd} {w w' : World} {r : Option Nat} (h : Own lo hi v ns w) (hg : w.grownBy w' r) (hne : ∀ g, r = some g → g < lo ∨ hi ≤ g) : Own lo hi v ns w' := by
  refine ⟨h.own.kept hg ?_, Nat.le_trans h.le hg.size, h.lt⟩
  cases hv : v.ownBlock with
  | none => exact .inl rfl
  | some k =>
    right
    intro e
    have h1 := h.own.lt k hv
    have h2 := h.lt k hv
    have h3 := hne k e.symm
    omega
theorem Own.row {lo hi : Nat} {v : Value} {ns : List Nd} {w : World} (h : Own lo hi v ns w) : ∃ a cap, v = .slice a ns.length cap ∧ AddrN a cap ∧ RowN w.heap.size w a ns := h.own.row
theorem Own.rowAt {lo hi : Nat} {a : Option Addr} {n cap : Nat} {ns : List Nd} {w : World} (h : Own lo hi (.slice a n cap) ns w) : RowN w.heap.size w a ns := by
  obtain ⟨a', cap', e, _, hr⟩ := h.own.row
  cases e
  exact hr
theorem Own.block {lo hi : Nat} {v : Value} {ns : List Nd} {w : World} (h : Own lo hi v ns w) : ∀ g, v.ownBlock = some g → lo ≤ g ∧ g < hi := fun g hg => ⟨(h.own.lt g hg).1, h.lt g hg⟩
theorem Own.rowIs {lo hi : Nat} {a : Option Addr} {n cap : Nat} {ns : List Nd} {w : World} (h : Own lo hi (.slice a n cap) ns w) : AddrN a cap := by
  obtain ⟨a', cap', e, ha, _⟩ := h.own.row
  cases e
  exact ha
/-- A node of the law's own type in memory. -/
structure NodeIn (b : Nat) (x : Nd) (w : World) : Prop where
  lt : b < w.heap.size
  c0 : w.cell? ⟨b, 0, none⟩ = some (.int .i64 x.k)
  c1 : w.cell? ⟨b, 1, none⟩ = some (.int .i64 x.n)
  c2 : w.cell? ⟨b, 2, none⟩ = some (.int .i64 x.a)
  c3 : w.cell? ⟨b, 3, none⟩ = some (.int .i64 x.b)
theorem NodeIn.next {b : Nat} {x : Nd} {w w' : World} (h : NodeIn b x w) (hb : Below w.heap.size w w') : NodeIn b x w' := ⟨Nat.lt_of_lt_of_le h.lt hb.size, (hb.cell (p := ⟨b, 0, none⟩) h.lt).trans h.c0, (hb.cell (p := ⟨b, 1, none⟩) h.lt).trans h.c1, (hb.cell (p := ⟨b, 2, none⟩) h.lt).trans h.c2, (hb.cell (p := ⟨b, 3, none⟩) h.lt).trans h.c3⟩
theorem NodeIn.mark {b : Nat} {x : Nd} {w w' : World} {r : Option Nat} (h : NodeIn b x w) (hg : w.grownBy w' r) (hne : r ≠ some b) : NodeIn b x w' := ⟨Nat.lt_of_lt_of_le h.lt hg.size, cell_grown hg h.lt hne h.c0, cell_grown hg h.lt hne h.c1, cell_grown hg h.lt hne h.c2, cell_grown hg h.lt hne h.c3⟩
theorem NodeIn.made {w : World} {x : Nd} {t : TypeId} : NodeIn w.heap.size x (w.alloc (.cells #[.int .i64 x.k, .int .i64 x.n, .int .i64 x.a, .int .i64 x.b] t)) := by
  have hn := heap_alloc_new w (.cells #[.int .i64 x.k, .int .i64 x.n, .int .i64 x.a, .int .i64 x.b] t)
  exact ⟨by simp, (cell_of_row _ w.heap.size 0 _ _ _ hn).trans rfl, (cell_of_row _ w.heap.size 1 _ _ _ hn).trans rfl, (cell_of_row _ w.heap.size 2 _ _ _ hn).trans rfl, (cell_of_row _ w.heap.size 3 _ _ _ hn).trans rfl⟩
end Go.Proofs.Ytffnadnndmmliaa

namespace Go.Proofs.Ytffnadnndmmliaa
open Go.RowKit

/-- What operation i does to the world: number s stores into a box of an arena that was made from B on; all others make memory at most. -/
def Rst (B s : Nat) (i : Nat) (w w' : World) : Prop := if i = s then ∃ g u v, w' = w.setCell ⟨g, 0, none⟩ v ∧ B ≤ g ∧ w.heap[g]? = some (.cells #[u] 28 (0, 0)) else Below w.heap.size w w'
theorem Rst.of {B s i : Nat} {w w' : World} (h : i ≠ s) (hb : Below w.heap.size w w') : Rst B s i w w' := by unfold Rst; rw [if_neg h]; exact hb
theorem Rst.refl {B s i : Nat} {w : World} (h : i ≠ s) : Rst B s i w w := Rst.of h (Below.refl _ _)
theorem Rst.other {B s i : Nat} {w w' : World} (h : i ≠ s) (hr : Rst B s i w w') : Below w.heap.size w w' := by unfold Rst at hr; rw [if_neg h] at hr; exact hr
theorem own_store {B g : Nat} {w : World} {v u : Value} {cs : Array Value} {ns : List Nd} (h : OwnN B w v ns) (hg : w.heap[g]? = some (.cells cs 28 (0, 0))) : OwnN B (w.setCell ⟨g, 0, none⟩ u) v ns := by
  refine ⟨h.1, ?_⟩
  rcases h.2 with h0 | ⟨gv, cap, cur, e, hb, hh, rest⟩
  · exact .inl h0
  · refine .inr ⟨gv, cap, cur, e, hb, ?_, rest⟩
    rw [Below.heap_setCell _ _ _ _ (fun e => ?_)]
    · exact hh
    · have e' : gv = g := e
      rw [e', hg] at hh
      simp at hh
theorem Rst.own {B s i : Nat} {w w' : World} {v : Value} {ns : List Nd} (hr : Rst B s i w w') (h : OwnN B w v ns) : OwnN B w' v ns := by
  unfold Rst at hr
  split at hr
  · obtain ⟨g, u, x, rfl, _, hu⟩ := hr
    exact own_store h hu
  · exact h.later hr
theorem Rst.inv {B s i : Nat} {wb w w' : World} (hs : B ≤ wb.heap.size) (hr : Rst B s i w w') (h : Below B wb w) : Below B wb w' := by
  unfold Rst at hr
  split at hr
  · obtain ⟨g, u, x, rfl, hg, _⟩ := hr
    exact h.setCell hg _
  · exact h.trans (hr.mono (Nat.le_trans hs h.size))
theorem Rst.box {B s i g : Nat} {w w' : World} (hr : Rst B s i w w') (h : ∃ u, w.heap[g]? = some (.cells #[u] 28 (0, 0))) : ∃ u, w'.heap[g]? = some (.cells #[u] 28 (0, 0)) := by
  obtain ⟨u, hu⟩ := h
  unfold Rst at hr
  split at hr
  · obtain ⟨g', u', x, rfl, hg, hu'⟩ := hr
    by_cases e : g = g'
    · subst e
      exact ⟨x, (heap_setCell_same w g 0 _ _ _ hu).trans rfl⟩
    · exact ⟨u, (Below.heap_setCell _ _ _ _ e).trans hu⟩
  · exact ⟨u, (hr.block g (Array.getElem?_eq_some_iff.1 hu).1).trans hu⟩
/-- An owned row and a box of an arena are two blocks. -/
theorem own_box_ne {B g : Nat} {w : World} {v : Value} {cs : Array Value} {ns : List Nd} (h : OwnN B w v ns) (hg : w.heap[g]? = some (.cells cs 28 (0, 0))) : v.ownBlock ≠ some g := by
  intro e
  rcases h.2 with ⟨rfl, _⟩ | ⟨gv, cap, cur, rfl, hb, hh, _⟩
  · cases e
  · simp [Value.ownBlock] at e
    rw [e, hg] at hh
    simp at hh
theorem putA_len {ns : List Nd} {x : Nd} (h : ns.length ≤ 1048576) : (putA ns x).length ≤ 1048577 := by
  unfold putA
  split
  · simp; omega
  · omega
end Go.Proofs.Ytffnadnndmmliaa

namespace Go.Proofs.Ytffnadnndmmliaa
open Go.RowKit
/-- A row of nodes that the call owns, shown with whatever room. -/
def OwnC (base : Nat) (w : World) (v : Value) (ns : List Nd) : Prop := ∃ a cap cp, v = .slice a ns.length cap ∧ AddrN a cap ∧ OwnN base w (.slice a ns.length cp) ns
theorem OwnN.clip {base : Nat} {w : World} {v : Value} {ns : List Nd} (h : OwnN base w v ns) : OwnC base w v ns := by
  obtain ⟨a, cap, rfl, ha, _⟩ := h.row
  exact ⟨a, cap, cap, rfl, ha, h⟩
set_option maxHeartbeats 1600000 in
theorem markNodeSC_any (base g cap cp n k0 : Nat) (xs0 : List Value) (w : World) (hn : n ≤ 2097152) (hk : k0 ≤ 1000) (hown : w.ownsRow base 45 4 (.slice (some ⟨g, 0, none⟩) n cp) n xs0) :
    Calls Try.prog 84 #[.slice (some ⟨g, 0, none⟩) n cap, .int .i64 (k0 : Int)] w fun e w' => e = .returned (.int .i64 ((k0 : Int) + 4 * (n : Int))) ∧ OwnN base w' (.slice (some ⟨g, 0, none⟩) n cp) (marksN k0 n) ∧ w.grownBy w' (some g) := by
  go_enter Try.func84, Try.ntmps84
  go_wp2
  go_loopw [1, 5] (fun kk i wr => ∃ (j : Nat) (xs : List Value), j ≤ n ∧ i = .int .i64 (j : Int) ∧ kk = .int .i64 ((k0 : Int) + 4 * (j : Int)) ∧ wr.ownsRow base 45 4 (.slice (some ⟨g, 0, none⟩) n cp) n xs ∧ Hid (xs.take (j * 4) = cellsN (marksN k0 j)) ∧ Hid (w.grownBy wr (some g)))
    (fun _ i _ => n - (intOf i).toNat)
  case atStart => exact ⟨0, _, Nat.zero_le _, rfl, by simp, hown, (by show _ = _; simp [cellsN, marksN]), gb_refl _ _⟩
  case round =>
    obtain ⟨j, xs, hj, rfl, rfl, ho, HT, HG⟩ := hrel
    have hxl : xs.length = n * 4 := ho.1
    by_cases hlt : j < n
    · have hi0 : (0 : Int) ≤ (j : Int) := by omega
      have hi1 : (j : Int) < (n : Int) := by omega
      obtain ⟨u0, e0⟩ : ∃ u, wr.cell? ⟨g, j * 4, none⟩ = some u := by rw [ho.cellAt (j * 4) (by omega)]; exact ⟨_, List.getElem?_eq_getElem (by omega)⟩
      obtain ⟨u1, e1⟩ : ∃ u, wr.cell? ⟨g, j * 4 + 1, none⟩ = some u := by rw [ho.cellAt (j * 4 + 1) (by omega)]; exact ⟨_, List.getElem?_eq_getElem (by omega)⟩
      obtain ⟨u2, e2⟩ : ∃ u, wr.cell? ⟨g, j * 4 + 2, none⟩ = some u := by rw [ho.cellAt (j * 4 + 2) (by omega)]; exact ⟨_, List.getElem?_eq_getElem (by omega)⟩
      obtain ⟨u3, e3⟩ : ∃ u, wr.cell? ⟨g, j * 4 + 3, none⟩ = some u := by rw [ho.cellAt (j * 4 + 3) (by omega)]; exact ⟨_, List.getElem?_eq_getElem (by omega)⟩
      have f0 := ho.frozenAt (j * 4)
      have f1 := ho.frozenAt (j * 4 + 1)
      have f2 := ho.frozenAt (j * 4 + 2)
      have f3 := ho.frozenAt (j * 4 + 3)
      have HS : Hid _ := ((((ho.stored (j * 4) (.int .i64 ((k0 : Int) + 4 * (j : Int)))).1.stored (j * 4 + 1) (.int .i64 ((k0 : Int) + 4 * (j : Int) + 1))).1.stored (j * 4 + 2) (.int .i64 ((k0 : Int) + 4 * (j : Int) + 1 + 1))).1.stored (j * 4 + 3) (.int .i64 ((k0 : Int) + 4 * (j : Int) + 1 + 1 + 1))).1
      have HG4 : Hid _ := gb_set (gb_set (gb_set (gb_set HG.out (j * 4) (.int .i64 ((k0 : Int) + 4 * (j : Int)))) (j * 4 + 1) (.int .i64 ((k0 : Int) + 4 * (j : Int) + 1))) (j * 4 + 2) (.int .i64 ((k0 : Int) + 4 * (j : Int) + 1 + 1))) (j * 4 + 3) (.int .i64 ((k0 : Int) + 4 * (j : Int) + 1 + 1 + 1))
      have HT4 : Hid (((((xs.set (j * 4) (.int .i64 ((k0 : Int) + 4 * (j : Int)))).set (j * 4 + 1) (.int .i64 ((k0 : Int) + 4 * (j : Int) + 1))).set (j * 4 + 2) (.int .i64 ((k0 : Int) + 4 * (j : Int) + 1 + 1))).set (j * 4 + 3) (.int .i64 ((k0 : Int) + 4 * (j : Int) + 1 + 1 + 1))).take ((j + 1) * 4) = cellsN (marksN k0 (j + 1))) := by
        show _ = _
        rw [show (j + 1) * 4 = j * 4 + 4 by omega, set4_take xs (j * 4) _ _ _ _ (by omega), HT.out, marksN, cellsN_append]; rfl
      clear ho HT HG
      go_wp2
      go_roundw
      case rel => exact ⟨j + 1, _, by omega, by go_num, by go_num, HS.out, HT4, HG4⟩
      case measure => simp [intOf]; omega
    · obtain rfl : j = n := by omega
      have HE : Hid (xs = cellsN (marksN k0 j)) := by
        show _ = _
        have := HT.out
        rw [List.take_of_length_le (by omega)] at this
        exact this
      clear HT
      go_wp2
      go_ret
      exact ⟨rfl, by unfold OwnN; rw [← HE.out, marksN_len]; exact ho, HG.out⟩
/-- markArena on an arena that the call owns, whatever room it shows. -/
theorem markArenaC_any (base k0 : Nat) (a : Option Addr) (cap cp : Nat) (ns : List Nd) (w : World) (hn : ns.length ≤ 2097152) (hk : k0 ≤ 1000) (ha : AddrN a cap) (hown : OwnN base w (.slice a ns.length cp) ns) :
    Calls Try.prog 20 #[.agg #[.slice a ns.length cap], .int .i64 (k0 : Int)] w fun e w' => e = .returned (.int .i64 ((k0 : Int) + 4 * (ns.length : Int))) ∧ OwnN base w' (.slice a ns.length cp) (marksN k0 ns.length) ∧ w.grownBy w' (Value.slice a ns.length cp).ownBlock := by
  rcases hown.2 with ⟨e, h0⟩ | ⟨g, cp', cur, e, hg, hh, _⟩
  · obtain ⟨rfl, h1, rfl⟩ : a = none ∧ ns.length = 0 ∧ cp = 0 := by simpa using e
    rcases ha with ⟨_, rfl⟩ | ⟨b, off, e⟩
    · have := markArena_any base k0 (.slice none ns.length 0) ns w hn hk hown
      exact this
    · cases e
  · obtain ⟨rfl, rfl⟩ : a = some ⟨g, 0, none⟩ ∧ cp = cp' := by simpa using e
    have HM : Hid _ := markNodeSC_any base g cap cp ns.length k0 (cellsN ns) (w.alloc (.cells #[.slice (some ⟨g, 0, none⟩) ns.length cap] 28)) hn hk (hown.alloc _)
    clear hown hh ha
    go_enter Try.func20, Try.ntmps20
    go_wp2_with fail
    refine Calls.mono HM.out ?_
    rintro e w1 ⟨rfl, ho, hgr⟩
    have hgb : w.grownBy w1 (Value.slice (some ⟨g, 0, none⟩) ns.length cp).ownBlock := gb_alloc hgr
    clear HM hgr
    go_wp2
    go_ret
    exact ⟨rfl, ho, hgb⟩
end Go.Proofs.Ytffnadnndmmliaa
