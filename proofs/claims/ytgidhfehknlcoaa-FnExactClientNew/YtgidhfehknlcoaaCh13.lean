/- A channel, in plain words: nine whole numbers; the laws' own helpers over it: toChan, eqChan; what an argument of that type holds. -/
import Derived.Test.YtgidhfehknlcoaaLawWin
import Derived.WalkKit
import Derived.WalkLawsBesides
import Derived.WalkSpells
import Derived.Laws.OwnMore
import Derived.Laws.Rows
import Derived.Laws.ResultCell
import Derived.Lib.SmallJoins
import Derived.OpenShut
import Derived.ProofKit
namespace Go.Proofs.Ytgidhfehknlcoaa
open Go.ChangeShapes Go.WideShapes Go.ChangeAt Go.RowKit Go.Joins Go.Deep
set_option linter.unusedVariables false
set_option linter.unusedSimpArgs false
structure Ch where
  a : Int
  s : Int
  e : Int
  q : Int
  h : Int
  t : Int
  u : Int
  l : Int
  m : Int
  deriving DecidableEq, Inhabited
def Ch.Fits (x : Ch) : Prop := (-9223372036854775808 ≤ x.a ∧ x.a ≤ 9223372036854775807) ∧ (-9223372036854775808 ≤ x.s ∧ x.s ≤ 9223372036854775807) ∧ (-9223372036854775808 ≤ x.e ∧ x.e ≤ 9223372036854775807) ∧ (-9223372036854775808 ≤ x.q ∧ x.q ≤ 9223372036854775807) ∧ (-9223372036854775808 ≤ x.h ∧ x.h ≤ 9223372036854775807) ∧ (-9223372036854775808 ≤ x.t ∧ x.t ≤ 9223372036854775807) ∧ (-9223372036854775808 ≤ x.u ∧ x.u ≤ 9223372036854775807) ∧ (-9223372036854775808 ≤ x.l ∧ x.l ≤ 9223372036854775807) ∧ (-9223372036854775808 ≤ x.m ∧ x.m ≤ 9223372036854775807)
theorem chanSize : (Try.prog.info? 25).map (·.size) = some 9 := by kernel_rfl
set_option maxHeartbeats 1600000 in
/-- All cells of a box are written anew. -/
theorem store9 {w : World} {g : Nat} {t : TypeId} {u0 u1 u2 u3 u4 u5 u6 u7 u8 : Value} (h : w.heap[g]? = some (.cells #[u0, u1, u2, u3, u4, u5, u6, u7, u8] t (0, 0))) (v0 v1 v2 v3 v4 v5 v6 v7 v8 : Value) :
    (((((((((w.setCell ⟨g, 0, none⟩ (v0)).setCell ⟨g, 1, none⟩ (v1)).setCell ⟨g, 2, none⟩ (v2)).setCell ⟨g, 3, none⟩ (v3)).setCell ⟨g, 4, none⟩ (v4)).setCell ⟨g, 5, none⟩ (v5)).setCell ⟨g, 6, none⟩ (v6)).setCell ⟨g, 7, none⟩ (v7)).setCell ⟨g, 8, none⟩ (v8)).heap[g]? = some (.cells #[v0, v1, v2, v3, v4, v5, v6, v7, v8] t (0, 0)) := by
  have h0 : (w.setCell ⟨g, 0, none⟩ (v0)).heap[g]? = some (.cells #[v0, u1, u2, u3, u4, u5, u6, u7, u8] t (0, 0)) := (heap_setCell_same _ g 0 _ _ v0 h).trans rfl
  have h1 : ((w.setCell ⟨g, 0, none⟩ (v0)).setCell ⟨g, 1, none⟩ (v1)).heap[g]? = some (.cells #[v0, v1, u2, u3, u4, u5, u6, u7, u8] t (0, 0)) := (heap_setCell_same _ g 1 _ _ v1 h0).trans rfl
  have h2 : (((w.setCell ⟨g, 0, none⟩ (v0)).setCell ⟨g, 1, none⟩ (v1)).setCell ⟨g, 2, none⟩ (v2)).heap[g]? = some (.cells #[v0, v1, v2, u3, u4, u5, u6, u7, u8] t (0, 0)) := (heap_setCell_same _ g 2 _ _ v2 h1).trans rfl
  have h3 : ((((w.setCell ⟨g, 0, none⟩ (v0)).setCell ⟨g, 1, none⟩ (v1)).setCell ⟨g, 2, none⟩ (v2)).setCell ⟨g, 3, none⟩ (v3)).heap[g]? = some (.cells #[v0, v1, v2, v3, u4, u5, u6, u7, u8] t (0, 0)) := (heap_setCell_same _ g 3 _ _ v3 h2).trans rfl
  have h4 : (((((w.setCell ⟨g, 0, none⟩ (v0)).setCell ⟨g, 1, none⟩ (v1)).setCell ⟨g, 2, none⟩ (v2)).setCell ⟨g, 3, none⟩ (v3)).setCell ⟨g, 4, none⟩ (v4)).heap[g]? = some (.cells #[v0, v1, v2, v3, v4, u5, u6, u7, u8] t (0, 0)) := (heap_setCell_same _ g 4 _ _ v4 h3).trans rfl
  have h5 : ((((((w.setCell ⟨g, 0, none⟩ (v0)).setCell ⟨g, 1, none⟩ (v1)).setCell ⟨g, 2, none⟩ (v2)).setCell ⟨g, 3, none⟩ (v3)).setCell ⟨g, 4, none⟩ (v4)).setCell ⟨g, 5, none⟩ (v5)).heap[g]? = some (.cells #[v0, v1, v2, v3, v4, v5, u6, u7, u8] t (0, 0)) := (heap_setCell_same _ g 5 _ _ v5 h4).trans rfl
  have h6 : (((((((w.setCell ⟨g, 0, none⟩ (v0)).setCell ⟨g, 1, none⟩ (v1)).setCell ⟨g, 2, none⟩ (v2)).setCell ⟨g, 3, none⟩ (v3)).setCell ⟨g, 4, none⟩ (v4)).setCell ⟨g, 5, none⟩ (v5)).setCell ⟨g, 6, none⟩ (v6)).heap[g]? = some (.cells #[v0, v1, v2, v3, v4, v5, v6, u7, u8] t (0, 0)) := (heap_setCell_same _ g 6 _ _ v6 h5).trans rfl
  have h7 : ((((((((w.setCell ⟨g, 0, none⟩ (v0)).setCell ⟨g, 1, none⟩ (v1)).setCell ⟨g, 2, none⟩ (v2)).setCell ⟨g, 3, none⟩ (v3)).setCell ⟨g, 4, none⟩ (v4)).setCell ⟨g, 5, none⟩ (v5)).setCell ⟨g, 6, none⟩ (v6)).setCell ⟨g, 7, none⟩ (v7)).heap[g]? = some (.cells #[v0, v1, v2, v3, v4, v5, v6, v7, u8] t (0, 0)) := (heap_setCell_same _ g 7 _ _ v7 h6).trans rfl
  have h8 : (((((((((w.setCell ⟨g, 0, none⟩ (v0)).setCell ⟨g, 1, none⟩ (v1)).setCell ⟨g, 2, none⟩ (v2)).setCell ⟨g, 3, none⟩ (v3)).setCell ⟨g, 4, none⟩ (v4)).setCell ⟨g, 5, none⟩ (v5)).setCell ⟨g, 6, none⟩ (v6)).setCell ⟨g, 7, none⟩ (v7)).setCell ⟨g, 8, none⟩ (v8)).heap[g]? = some (.cells #[v0, v1, v2, v3, v4, v5, v6, v7, v8] t (0, 0)) := (heap_setCell_same _ g 8 _ _ v8 h7).trans rfl
  exact h8
set_option maxHeartbeats 1600000 in
theorem below9 {B g : Nat} {w w' : World} (h : Below B w w') (hg : B ≤ g) (v0 v1 v2 v3 v4 v5 v6 v7 v8 : Value) : Below B w (((((((((w'.setCell ⟨g, 0, none⟩ (v0)).setCell ⟨g, 1, none⟩ (v1)).setCell ⟨g, 2, none⟩ (v2)).setCell ⟨g, 3, none⟩ (v3)).setCell ⟨g, 4, none⟩ (v4)).setCell ⟨g, 5, none⟩ (v5)).setCell ⟨g, 6, none⟩ (v6)).setCell ⟨g, 7, none⟩ (v7)).setCell ⟨g, 8, none⟩ (v8)) :=
  (((((((((h.setCell (show B ≤ g from hg) _).setCell (show B ≤ g from hg) _).setCell (show B ≤ g from hg) _).setCell (show B ≤ g from hg) _).setCell (show B ≤ g from hg) _).setCell (show B ≤ g from hg) _).setCell (show B ≤ g from hg) _).setCell (show B ≤ g from hg) _).setCell (show B ≤ g from hg) _)
/-- A channel in a box. -/
structure ChIn (b : Nat) (x : Ch) (w : World) : Prop where
  lt : b < w.heap.size
  c0 : w.cell? ⟨b, 0, none⟩ = some (.int .i64 x.a)
  c1 : w.cell? ⟨b, 1, none⟩ = some (.int .i64 x.s)
  c2 : w.cell? ⟨b, 2, none⟩ = some (.int .i64 x.e)
  c3 : w.cell? ⟨b, 3, none⟩ = some (.int .i64 x.q)
  c4 : w.cell? ⟨b, 4, none⟩ = some (.int .i64 x.h)
  c5 : w.cell? ⟨b, 5, none⟩ = some (.int .i64 x.t)
  c6 : w.cell? ⟨b, 6, none⟩ = some (.int .i64 x.u)
  c7 : w.cell? ⟨b, 7, none⟩ = some (.int .i64 x.l)
  c8 : w.cell? ⟨b, 8, none⟩ = some (.int .i64 x.m)
theorem ChIn.next {b : Nat} {x : Ch} {w w' : World} (h : ChIn b x w) (hb : Below w.heap.size w w') : ChIn b x w' := ⟨Nat.lt_of_lt_of_le h.lt hb.size, (hb.cell (p := ⟨b, 0, none⟩) h.lt).trans h.c0, (hb.cell (p := ⟨b, 1, none⟩) h.lt).trans h.c1, (hb.cell (p := ⟨b, 2, none⟩) h.lt).trans h.c2, (hb.cell (p := ⟨b, 3, none⟩) h.lt).trans h.c3, (hb.cell (p := ⟨b, 4, none⟩) h.lt).trans h.c4, (hb.cell (p := ⟨b, 5, none⟩) h.lt).trans h.c5, (hb.cell (p := ⟨b, 6, none⟩) h.lt).trans h.c6, (hb.cell (p := ⟨b, 7, none⟩) h.lt).trans h.c7, (hb.cell (p := ⟨b, 8, none⟩) h.lt).trans h.c8⟩
theorem ChIn.of {b : Nat} {x : Ch} {w : World} {t : TypeId} (hn : w.heap[b]? = some (.cells #[.int .i64 x.a, .int .i64 x.s, .int .i64 x.e, .int .i64 x.q, .int .i64 x.h, .int .i64 x.t, .int .i64 x.u, .int .i64 x.l, .int .i64 x.m] t (0, 0))) : ChIn b x w :=
  ⟨(Array.getElem?_eq_some_iff.1 hn).1, (cell_of_row _ _ 0 _ _ _ hn).trans rfl, (cell_of_row _ _ 1 _ _ _ hn).trans rfl, (cell_of_row _ _ 2 _ _ _ hn).trans rfl, (cell_of_row _ _ 3 _ _ _ hn).trans rfl, (cell_of_row _ _ 4 _ _ _ hn).trans rfl, (cell_of_row _ _ 5 _ _ _ hn).trans rfl, (cell_of_row _ _ 6 _ _ _ hn).trans rfl, (cell_of_row _ _ 7 _ _ _ hn).trans rfl, (cell_of_row _ _ 8 _ _ _ hn).trans rfl⟩
theorem ChIn.made {w : World} {x : Ch} {t : TypeId} : ChIn w.heap.size x (w.alloc (.cells #[.int .i64 x.a, .int .i64 x.s, .int .i64 x.e, .int .i64 x.q, .int .i64 x.h, .int .i64 x.t, .int .i64 x.u, .int .i64 x.l, .int .i64 x.m] t)) := ChIn.of (heap_alloc_new w _)
set_option maxHeartbeats 1600000 in
set_option maxRecDepth 20000 in
theorem eqChan_same (x : Ch) (w : World) :
    Calls Try.prog 7 #[.agg #[.int .i64 x.a, .int .i64 x.s, .int .i64 x.e, .int .i64 x.q, .int .i64 x.h, .int .i64 x.t, .int .i64 x.u, .int .i64 x.l, .int .i64 x.m], .agg #[.int .i64 x.a, .int .i64 x.s, .int .i64 x.e, .int .i64 x.q, .int .i64 x.h, .int .i64 x.t, .int .i64 x.u, .int .i64 x.l, .int .i64 x.m]] w fun e w' => e = .returned (.bool true) ∧ Below w.heap.size w w' := by
  have HB0 : Hid (Below w.heap.size w ((w.alloc (.cells #[.int .i64 x.a, .int .i64 x.s, .int .i64 x.e, .int .i64 x.q, .int .i64 x.h, .int .i64 x.t, .int .i64 x.u, .int .i64 x.l, .int .i64 x.m] 25)).alloc (.cells #[.int .i64 x.a, .int .i64 x.s, .int .i64 x.e, .int .i64 x.q, .int .i64 x.h, .int .i64 x.t, .int .i64 x.u, .int .i64 x.l, .int .i64 x.m] 25))) := ((Below.refl _ _).alloc (Nat.le_refl _) _).alloc (by simp) _
  have HA0 : Hid (((w.alloc (.cells #[.int .i64 x.a, .int .i64 x.s, .int .i64 x.e, .int .i64 x.q, .int .i64 x.h, .int .i64 x.t, .int .i64 x.u, .int .i64 x.l, .int .i64 x.m] 25)).alloc (.cells #[.int .i64 x.a, .int .i64 x.s, .int .i64 x.e, .int .i64 x.q, .int .i64 x.h, .int .i64 x.t, .int .i64 x.u, .int .i64 x.l, .int .i64 x.m] 25)).heap[w.heap.size]? = some (.cells #[.int .i64 x.a, .int .i64 x.s, .int .i64 x.e, .int .i64 x.q, .int .i64 x.h, .int .i64 x.t, .int .i64 x.u, .int .i64 x.l, .int .i64 x.m] 25 (0, 0))) := (heap_alloc_old _ _ (by simp)).trans (heap_alloc_new w _)
  have HA1 : Hid (((w.alloc (.cells #[.int .i64 x.a, .int .i64 x.s, .int .i64 x.e, .int .i64 x.q, .int .i64 x.h, .int .i64 x.t, .int .i64 x.u, .int .i64 x.l, .int .i64 x.m] 25)).alloc (.cells #[.int .i64 x.a, .int .i64 x.s, .int .i64 x.e, .int .i64 x.q, .int .i64 x.h, .int .i64 x.t, .int .i64 x.u, .int .i64 x.l, .int .i64 x.m] 25)).heap[w.heap.size + 1]? = some (.cells #[.int .i64 x.a, .int .i64 x.s, .int .i64 x.e, .int .i64 x.q, .int .i64 x.h, .int .i64 x.t, .int .i64 x.u, .int .i64 x.l, .int .i64 x.m] 25 (0, 0))) := by have := heap_alloc_new (w.alloc (.cells #[.int .i64 x.a, .int .i64 x.s, .int .i64 x.e, .int .i64 x.q, .int .i64 x.h, .int .i64 x.t, .int .i64 x.u, .int .i64 x.l, .int .i64 x.m] 25)) (.cells #[.int .i64 x.a, .int .i64 x.s, .int .i64 x.e, .int .i64 x.q, .int .i64 x.h, .int .i64 x.t, .int .i64 x.u, .int .i64 x.l, .int .i64 x.m] 25); rw [show (w.alloc (.cells #[.int .i64 x.a, .int .i64 x.s, .int .i64 x.e, .int .i64 x.q, .int .i64 x.h, .int .i64 x.t, .int .i64 x.u, .int .i64 x.l, .int .i64 x.m] 25)).heap.size = w.heap.size + 1 by simp] at this; exact this
  go_enter Try.func7, Try.ntmps7
  go_wp2_with fail
  generalize (w.alloc (.cells #[.int .i64 x.a, .int .i64 x.s, .int .i64 x.e, .int .i64 x.q, .int .i64 x.h, .int .i64 x.t, .int .i64 x.u, .int .i64 x.l, .int .i64 x.m] 25)).alloc (.cells #[.int .i64 x.a, .int .i64 x.s, .int .i64 x.e, .int .i64 x.q, .int .i64 x.h, .int .i64 x.t, .int .i64 x.u, .int .i64 x.l, .int .i64 x.m] 25) = w0 at HB0 HA0 HA1 ⊢
  refine (eqWin_same x.t x.u _).mono ?_
  rintro e w1 ⟨rfl, hb⟩
  have HB1 : Hid (Below w.heap.size w w1) := HB0.out.trans (hb.mono HB0.out.size)
  have h0 := (hb.block _ (Array.getElem?_eq_some_iff.1 HA0.out).1).trans HA0.out
  have h1 := (hb.block _ (Array.getElem?_eq_some_iff.1 HA1.out).1).trans HA1.out
  have a7 : w1.cell? ⟨w.heap.size, 7, none⟩ = some (.int .i64 x.l) := (cell_of_row _ _ 7 _ _ _ h0).trans rfl
  have a8 : w1.cell? ⟨w.heap.size, 8, none⟩ = some (.int .i64 x.m) := (cell_of_row _ _ 8 _ _ _ h0).trans rfl
  have b7 : w1.cell? ⟨w.heap.size + 1, 7, none⟩ = some (.int .i64 x.l) := (cell_of_row _ _ 7 _ _ _ h1).trans rfl
  have b8 : w1.cell? ⟨w.heap.size + 1, 8, none⟩ = some (.int .i64 x.m) := (cell_of_row _ _ 8 _ _ _ h1).trans rfl
  clear hb HB0 HA0 HA1 h0 h1
  go_wp2_with fail
  refine (eqWin_same x.l x.m _).mono ?_
  rintro e w2 ⟨rfl, hb⟩
  have HB2 : Hid (Below w.heap.size w w2) := HB1.out.trans (hb.mono HB1.out.size)
  clear hb HB1 a7 a8 b7 b8
  go_wp2
  go_ret
  exact ⟨rfl, HB2.out⟩
end Go.Proofs.Ytgidhfehknlcoaa
