/- A channel, in plain words: nine whole numbers; the laws' own helpers over it: toChan, eqChan; what an argument of that type holds. -/
import Derived.Test.YtnjihmailppjkaaWin7
import Derived.WalkKit
import Derived.WalkLawsBesides
import Derived.WalkSpells
import Derived.Laws.OwnMore
import Derived.Laws.Rows
import Derived.Laws.ResultCell
import Derived.Lib.SmallJoins
import Derived.OpenShut
import Derived.ProofKit
namespace Go.Proofs.Ytnjihmailppjkaa
open Go.ChangeShapes Go.WideShapes Go.ChangeAt Go.RowKit Go.Joins Go.Deep
set_option linter.unusedVariables false
set_option linter.unusedSimpArgs false
structure Ch where
  a : Int
  s : Int
  e : Int
  q : Int
  h : Int
  t : Int
  u : Int
  l : Int
  m : Int
  deriving DecidableEq, Inhabited
def Ch.Fits (x : Ch) : Prop := (-9223372036854775808 ≤ x.a ∧ x.a ≤ 9223372036854775807) ∧ (-9223372036854775808 ≤ x.s ∧ x.s ≤ 9223372036854775807) ∧ (-9223372036854775808 ≤ x.e ∧ x.e ≤ 9223372036854775807) ∧ (-9223372036854775808 ≤ x.q ∧ x.q ≤ 9223372036854775807) ∧ (-9223372036854775808 ≤ x.h ∧ x.h ≤ 9223372036854775807) ∧ (-9223372036854775808 ≤ x.t ∧ x.t ≤ 9223372036854775807) ∧ (-9223372036854775808 ≤ x.u ∧ x.u ≤ 9223372036854775807) ∧ (-9223372036854775808 ≤ x.l ∧ x.l ≤ 9223372036854775807) ∧ (-9223372036854775808 ≤ x.m ∧ x.m ≤ 9223372036854775807)
theorem chanSize : (Try.prog.info? 25).map (·.size) = some 9 := by kernel_rfl
set_option maxHeartbeats 1600000 in
/-- All cells of a box are written anew. -/
theorem store9 {w : World} {g : Nat} {t : TypeId} {u0 u1 u2 u3 u4 u5 u6 u7 u8 : Value} (h : w.heap[g]? = some (.cells #[u0, u1, u2, u3, u4, u5, u6, u7, u8] t (0, 0))) (v0 v1 v2 v3 v4 v5 v6 v7 v8 : Value) :
    (((((((((w.setCell ⟨g, 0, none⟩ (v0)).setCell ⟨g, 1, none⟩ (v1)).setCell ⟨g, 2, none⟩ (v2)).setCell ⟨g, 3, none⟩ (v3)).setCell ⟨g, 4, none⟩ (v4)).setCell ⟨g, 5, none⟩ (v5)).setCell ⟨g, 6, none⟩ (v6)).setCell ⟨g, 7, none⟩ (v7)).setCell ⟨g, 8, none⟩ (v8)).heap[g]? = some (.cells #[v0, v1, v2, v3, v4, v5, v6, v7, v8] t (0, 0)) := by
  have h0 : (w.setCell ⟨g, 0, none⟩ (v0)).heap[g]? = some (.cells #[v0, u1, u2, u3, u4, u5, u6, u7, u8] t (0, 0)) := (heap_setCell_same _ g 0 _ _ v0 h).trans rfl
  have h1 : ((w.setCell ⟨g, 0, none⟩ (v0)).setCell ⟨g, 1, none⟩ (v1)).heap[g]? = some (.cells #[v0, v1, u2, u3, u4, u5, u6, u7, u8] t (0, 0)) := (heap_setCell_same _ g 1 _ _ v1 h0).trans rfl
  have h2 : (((w.setCell ⟨g, 0, none⟩ (v0)).setCell ⟨g, 1, none⟩ (v1)).setCell ⟨g, 2, none⟩ (v2)).heap[g]? = some (.cells #[v0, v1, v2, u3, u4, u5, u6, u7, u8] t (0, 0)) := (heap_setCell_same _ g 2 _ _ v2 h1).trans rfl
  have h3 : ((((w.setCell ⟨g, 0, none⟩ (v0)).setCell ⟨g, 1, none⟩ (v1)).setCell ⟨g, 2, none⟩ (v2)).setCell ⟨g, 3, none⟩ (v3)).heap[g]? = some (.cells #[v0, v1, v2, v3, u4, u5, u6, u7, u8] t (0, 0)) := (heap_setCell_same _ g 3 _ _ v3 h2).trans rfl
  have h4 : (((((w.setCell ⟨g, 0, none⟩ (v0)).setCell ⟨g, 1, none⟩ (v1)).setCell ⟨g, 2, none⟩ (v2)).setCell ⟨g, 3, none⟩ (v3)).setCell ⟨g, 4, none⟩ (v4)).heap[g]? = some (.cells #[v0, v1, v2, v3, v4, u5, u6, u7, u8] t (0, 0)) := (heap_setCell_same _ g 4 _ _ v4 h3).trans rfl
  have h5 : ((((((w.setCell ⟨g, 0, none⟩ (v0)).setCell ⟨g, 1, none⟩ (v1)).setCell ⟨g, 2, none⟩ (v2)).setCell ⟨g, 3, none⟩ (v3)).setCell ⟨g, 4, none⟩ (v4)).setCell ⟨g, 5, none⟩ (v5)).heap[g]? = some (.cells #[v0, v1, v2, v3, v4, v5, u6, u7, u8] t (0, 0)) := (heap_setCell_same _ g 5 _ _ v5 h4).trans rfl
  have h6 : (((((((w.setCell ⟨g, 0, none⟩ (v0)).setCell ⟨g, 1, none⟩ (v1)).setCell ⟨g, 2, none⟩ (v2)).setCell ⟨g, 3, none⟩ (v3)).setCell ⟨g, 4, none⟩ (v4)).setCell ⟨g, 5, none⟩ (v5)).setCell ⟨g, 6, none⟩ (v6)).heap[g]? = some (.cells #[v0, v1, v2, v3, v4, v5, v6, u7, u8] t (0, 0)) := (heap_setCell_same _ g 6 _ _ v6 h5).trans rfl
  have h7 : ((((((((w.setCell ⟨g, 0, none⟩ (v0)).setCell ⟨g, 1, none⟩ (v1)).setCell ⟨g, 2, none⟩ (v2)).setCell ⟨g, 3, none⟩ (v3)).setCell ⟨g, 4, none⟩ (v4)).setCell ⟨g, 5, none⟩ (v5)).setCell ⟨g, 6, none⟩ (v6)).setCell ⟨g, 7, none⟩ (v7)).heap[g]? = some (.cells #[v0, v1, v2, v3, v4, v5, v6, v7, u8] t (0, 0)) := (heap_setCell_same _ g 7 _ _ v7 h6).trans rfl
  have h8 : (((((((((w.setCell ⟨g, 0, none⟩ (v0)).setCell ⟨g, 1, none⟩ (v1)).setCell ⟨g, 2, none⟩ (v2)).setCell ⟨g, 3, none⟩ (v3)).setCell ⟨g, 4, none⟩ (v4)).setCell ⟨g, 5, none⟩ (v5)).setCell ⟨g, 6, none⟩ (v6)).setCell ⟨g, 7, none⟩ (v7)).setCell ⟨g, 8, none⟩ (v8)).heap[g]? = some (.cells #[v0, v1, v2, v3, v4, v5, v6, v7, v8] t (0, 0)) := (heap_setCell_same _ g 8 _ _ v8 h7).trans rfl
  exact h8
set_option maxHeartbeats 1600000 in
theorem below9 {B g : Nat} {w w' : World} (h : Below B w w') (hg : B ≤ g) (v0 v1 v2 v3 v4 v5 v6 v7 v8 : Value) : Below B w (((((((((w'.setCell ⟨g, 0, none⟩ (v0)).setCell ⟨g, 1, none⟩ (v1)).setCell ⟨g, 2, none⟩ (v2)).setCell ⟨g, 3, none⟩ (v3)).setCell ⟨g, 4, none⟩ (v4)).setCell ⟨g, 5, none⟩ (v5)).setCell ⟨g, 6, none⟩ (v6)).setCell ⟨g, 7, none⟩ (v7)).setCell ⟨g, 8, none⟩ (v8)) :=
  (((((((((h.setCell (show B ≤ g from hg) _).setCell (show B ≤ g from hg) _).setCell (show B ≤ g from hg) _).setCell (show B ≤ g from hg) _).setCell (show B ≤ g from hg) _).setCell (show B ≤ g from hg) _).setCell (show B ≤ g from hg) _).setCell (show B ≤ g from hg) _).setCell (show B ≤ g from hg) _)
/-- A channel in a box. -/
structure ChIn (b : Nat) (x : Ch) (w : World) : Prop where
  lt : b < w.heap.size
  c0 : w.cell? ⟨b, 0, none⟩ = some (.int .i64 x.a)
  c1 : w.cell? ⟨b, 1, none⟩ = some (.int .i64 x.s)
  c2 : w.cell? ⟨b, 2, none⟩ = some (.int .i64 x.e)
  c3 : w.cell? ⟨b, 3, none⟩ = some (.int .i64 x.q)
  c4 : w.cell? ⟨b, 4, none⟩ = some (.int .i64 x.h)
  c5 : w.cell? ⟨b, 5, none⟩ = some (.int .i64 x.t)
  c6 : w.cell? ⟨b, 6, none⟩ = some (.int .i64 x.u)
  c7 : w.cell? ⟨b, 7, none⟩ = some (.int .i64 x.l)
  c8 : w.cell? ⟨b, 8, none⟩ = some (.int .i64 x.m)
theorem ChIn.next {b : Nat} {x : Ch} {w w' : World} (h : ChIn b x w) (hb : Below w.heap.size w w') : ChIn b x w' := ⟨Nat.lt_of_lt_of_le h.lt hb.size, (hb.cell (p := ⟨b, 0, none⟩) h.lt).trans h.c0, (hb.cell (p := ⟨b, 1, none⟩) h.lt).trans h.c1, (hb.cell (p := ⟨b, 2, none⟩) h.lt).trans h.c2, (hb.cell (p := ⟨b, 3, none⟩) h.lt).trans h.c3, (hb.cell (p := ⟨b, 4, none⟩) h.lt).trans h.c4, (hb.cell (p := ⟨b, 5, none⟩) h.lt).trans h.c5, (hb.cell (p := ⟨b, 6, none⟩) h.lt).trans h.c6, (hb.cell (p := ⟨b, 7, none⟩) h.lt).trans h.c7, (hb.cell (p := ⟨b, 8, none⟩) h.lt).trans h.c8⟩
theorem ChIn.of {b : Nat} {x : Ch} {w : World} {t : TypeId} (hn : w.heap[b]? = some (.cells #[.int .i64 x.a, .int .i64 x.s, .int .i64 x.e, .int .i64 x.q, .int .i64 x.h, .int .i64 x.t, .int .i64 x.u, .int .i64 x.l, .int .i64 x.m] t (0, 0))) : ChIn b x w :=
  ⟨(Array.getElem?_eq_some_iff.1 hn).1, (cell_of_row _ _ 0 _ _ _ hn).trans rfl, (cell_of_row _ _ 1 _ _ _ hn).trans rfl, (cell_of_row _ _ 2 _ _ _ hn).trans rfl, (cell_of_row _ _ 3 _ _ _ hn).trans rfl, (cell_of_row _ _ 4 _ _ _ hn).trans rfl, (cell_of_row _ _ 5 _ _ _ hn).trans rfl, (cell_of_row _ _ 6 _ _ _ hn).trans rfl, (cell_of_row _ _ 7 _ _ _ hn).trans rfl, (cell_of_row _ _ 8 _ _ _ hn).trans rfl⟩
theorem ChIn.made {w : World} {x : Ch} {t : TypeId} : ChIn w.heap.size x (w.alloc (.cells #[.int .i64 x.a, .int .i64 x.s, .int .i64 x.e, .int .i64 x.q, .int .i64 x.h, .int .i64 x.t, .int .i64 x.u, .int .i64 x.l, .int .i64 x.m] t)) := ChIn.of (heap_alloc_new w _)
set_option maxHeartbeats 3200000 in
set_option maxRecDepth 20000 in
theorem toChan_any (x : Ch) (w : World) :
    Calls Try.prog 14 #[.agg #[.int .i64 x.a, .int .i64 x.s, .int .i64 x.e, .int .i64 x.q, .int .i64 x.h, .int .i64 x.t, .int .i64 x.u, .int .i64 x.l, .int .i64 x.m]] w fun e w' => e = .returned (.agg #[.int .i64 x.a, .int .i64 x.s, .int .i64 x.e, .int .i64 x.q, .int .i64 x.h, .int .i64 x.t, .int .i64 x.u, .int .i64 x.l, .int .i64 x.m]) ∧ Below w.heap.size w w' := by
  go_enter Try.func14, Try.ntmps14
  have HB0 : Hid (Below w.heap.size w (((w.alloc (.cells #[.int .i64 x.a, .int .i64 x.s, .int .i64 x.e, .int .i64 x.q, .int .i64 x.h, .int .i64 x.t, .int .i64 x.u, .int .i64 x.l, .int .i64 x.m] 34)).alloc (.cells #[.int .i64 0, .int .i64 0, .int .i64 0, .int .i64 0, .int .i64 0, .int .i64 0, .int .i64 0, .int .i64 0, .int .i64 0] 25)).alloc (.cells #[.int .i64 x.a, .int .i64 x.s, .int .i64 x.e, .int .i64 x.q, .int .i64 x.h, .int .i64 0, .int .i64 0, .int .i64 0, .int .i64 0] 25))) := (((Below.refl _ _).alloc (Nat.le_refl _) _).alloc (by simp) _).alloc (by simp; omega) _
  have HL0 : Hid ((((w.alloc (.cells #[.int .i64 x.a, .int .i64 x.s, .int .i64 x.e, .int .i64 x.q, .int .i64 x.h, .int .i64 x.t, .int .i64 x.u, .int .i64 x.l, .int .i64 x.m] 34)).alloc (.cells #[.int .i64 0, .int .i64 0, .int .i64 0, .int .i64 0, .int .i64 0, .int .i64 0, .int .i64 0, .int .i64 0, .int .i64 0] 25)).alloc (.cells #[.int .i64 x.a, .int .i64 x.s, .int .i64 x.e, .int .i64 x.q, .int .i64 x.h, .int .i64 0, .int .i64 0, .int .i64 0, .int .i64 0] 25)).heap[w.heap.size]? = some (.cells #[.int .i64 x.a, .int .i64 x.s, .int .i64 x.e, .int .i64 x.q, .int .i64 x.h, .int .i64 x.t, .int .i64 x.u, .int .i64 x.l, .int .i64 x.m] 34 (0, 0))) := (heap_alloc_old _ _ (by simp; omega)).trans ((heap_alloc_old _ _ (by simp)).trans (heap_alloc_new w _))
  have HR0 : Hid ((((w.alloc (.cells #[.int .i64 x.a, .int .i64 x.s, .int .i64 x.e, .int .i64 x.q, .int .i64 x.h, .int .i64 x.t, .int .i64 x.u, .int .i64 x.l, .int .i64 x.m] 34)).alloc (.cells #[.int .i64 0, .int .i64 0, .int .i64 0, .int .i64 0, .int .i64 0, .int .i64 0, .int .i64 0, .int .i64 0, .int .i64 0] 25)).alloc (.cells #[.int .i64 x.a, .int .i64 x.s, .int .i64 x.e, .int .i64 x.q, .int .i64 x.h, .int .i64 0, .int .i64 0, .int .i64 0, .int .i64 0] 25)).heap[w.heap.size + 1]? = some (.cells #[.int .i64 0, .int .i64 0, .int .i64 0, .int .i64 0, .int .i64 0, .int .i64 0, .int .i64 0, .int .i64 0, .int .i64 0] 25 (0, 0))) := (heap_alloc_old _ _ (by simp)).trans (by have := heap_alloc_new (w.alloc (.cells #[.int .i64 x.a, .int .i64 x.s, .int .i64 x.e, .int .i64 x.q, .int .i64 x.h, .int .i64 x.t, .int .i64 x.u, .int .i64 x.l, .int .i64 x.m] 34)) (.cells #[.int .i64 0, .int .i64 0, .int .i64 0, .int .i64 0, .int .i64 0, .int .i64 0, .int .i64 0, .int .i64 0, .int .i64 0] 25); simpa using this)
  have HV0 : Hid ((((w.alloc (.cells #[.int .i64 x.a, .int .i64 x.s, .int .i64 x.e, .int .i64 x.q, .int .i64 x.h, .int .i64 x.t, .int .i64 x.u, .int .i64 x.l, .int .i64 x.m] 34)).alloc (.cells #[.int .i64 0, .int .i64 0, .int .i64 0, .int .i64 0, .int .i64 0, .int .i64 0, .int .i64 0, .int .i64 0, .int .i64 0] 25)).alloc (.cells #[.int .i64 x.a, .int .i64 x.s, .int .i64 x.e, .int .i64 x.q, .int .i64 x.h, .int .i64 0, .int .i64 0, .int .i64 0, .int .i64 0] 25)).heap[w.heap.size + 1 + 1]? = some (.cells #[.int .i64 x.a, .int .i64 x.s, .int .i64 x.e, .int .i64 x.q, .int .i64 x.h, .int .i64 0, .int .i64 0, .int .i64 0, .int .i64 0] 25 (0, 0))) := by have := heap_alloc_new ((w.alloc (.cells #[.int .i64 x.a, .int .i64 x.s, .int .i64 x.e, .int .i64 x.q, .int .i64 x.h, .int .i64 x.t, .int .i64 x.u, .int .i64 x.l, .int .i64 x.m] 34)).alloc (.cells #[.int .i64 0, .int .i64 0, .int .i64 0, .int .i64 0, .int .i64 0, .int .i64 0, .int .i64 0, .int .i64 0, .int .i64 0] 25)) (.cells #[.int .i64 x.a, .int .i64 x.s, .int .i64 x.e, .int .i64 x.q, .int .i64 x.h, .int .i64 0, .int .i64 0, .int .i64 0, .int .i64 0] 25); rw [show ((w.alloc (.cells #[.int .i64 x.a, .int .i64 x.s, .int .i64 x.e, .int .i64 x.q, .int .i64 x.h, .int .i64 x.t, .int .i64 x.u, .int .i64 x.l, .int .i64 x.m] 34)).alloc (.cells #[.int .i64 0, .int .i64 0, .int .i64 0, .int .i64 0, .int .i64 0, .int .i64 0, .int .i64 0, .int .i64 0, .int .i64 0] 25)).heap.size = w.heap.size + 1 + 1 by simp] at this; exact this
  have hs0 : (((w.alloc (.cells #[.int .i64 x.a, .int .i64 x.s, .int .i64 x.e, .int .i64 x.q, .int .i64 x.h, .int .i64 x.t, .int .i64 x.u, .int .i64 x.l, .int .i64 x.m] 34)).alloc (.cells #[.int .i64 0, .int .i64 0, .int .i64 0, .int .i64 0, .int .i64 0, .int .i64 0, .int .i64 0, .int .i64 0, .int .i64 0] 25)).alloc (.cells #[.int .i64 x.a, .int .i64 x.s, .int .i64 x.e, .int .i64 x.q, .int .i64 x.h, .int .i64 0, .int .i64 0, .int .i64 0, .int .i64 0] 25)).heap.size = w.heap.size + 3 := by simp
  go_wp2_with fail
  generalize ((w.alloc (.cells #[.int .i64 x.a, .int .i64 x.s, .int .i64 x.e, .int .i64 x.q, .int .i64 x.h, .int .i64 x.t, .int .i64 x.u, .int .i64 x.l, .int .i64 x.m] 34)).alloc (.cells #[.int .i64 0, .int .i64 0, .int .i64 0, .int .i64 0, .int .i64 0, .int .i64 0, .int .i64 0, .int .i64 0, .int .i64 0] 25)).alloc (.cells #[.int .i64 x.a, .int .i64 x.s, .int .i64 x.e, .int .i64 x.q, .int .i64 x.h, .int .i64 0, .int .i64 0, .int .i64 0, .int .i64 0] 25) = w0 at HB0 HL0 HR0 HV0 hs0 ⊢
  refine (toWin_any x.t x.u _).mono ?_
  rintro e w1 ⟨rfl, hb⟩
  have HB1 : Hid (Below w.heap.size w w1) := HB0.out.trans (hb.mono HB0.out.size)
  have HL1 : Hid _ := (hb.block _ (show w.heap.size < w0.heap.size by omega)).trans HL0.out
  have HR1 : Hid _ := (hb.block _ (show w.heap.size + 1 < w0.heap.size by omega)).trans HR0.out
  have HV1 : Hid _ := (hb.block _ (show w.heap.size + 1 + 1 < w0.heap.size by omega)).trans HV0.out
  have hs1 : w.heap.size + 3 ≤ w1.heap.size := by have := hb.size; omega
  clear hb HB0 HL0 HR0 HV0 hs0
  have a5 : w1.cell? ⟨w.heap.size + 1 + 1, 5, none⟩ = some (.int .i64 0) := (cell_of_row _ _ 5 _ _ _ HV1.out).trans rfl
  have a6 : w1.cell? ⟨w.heap.size + 1 + 1, 6, none⟩ = some (.int .i64 0) := (cell_of_row _ _ 6 _ _ _ HV1.out).trans rfl
  have f5 : w1.frozen? ⟨w.heap.size + 1 + 1, 5, none⟩ = false := frozen_of_row _ _ 5 _ _ HV1.out
  have f6 : w1.frozen? ⟨w.heap.size + 1 + 1, 6, none⟩ = false := frozen_of_row _ _ 6 _ _ HV1.out
  have l7 : w1.cell? ⟨w.heap.size, 7, none⟩ = some (.int .i64 x.l) := (cell_of_row _ _ 7 _ _ _ HL1.out).trans rfl
  have l8 : w1.cell? ⟨w.heap.size, 8, none⟩ = some (.int .i64 x.m) := (cell_of_row _ _ 8 _ _ _ HL1.out).trans rfl
  have HV2 : Hid (((w1.setCell ⟨w.heap.size + 1 + 1, 5, none⟩ (.int .i64 x.t)).setCell ⟨w.heap.size + 1 + 1, 6, none⟩ (.int .i64 x.u)).heap[w.heap.size + 1 + 1]? = some (.cells #[.int .i64 x.a, .int .i64 x.s, .int .i64 x.e, .int .i64 x.q, .int .i64 x.h, .int .i64 x.t, .int .i64 x.u, .int .i64 0, .int .i64 0] 25 (0, 0))) := (heap_setCell_same _ _ 6 _ _ _ (heap_setCell_same _ _ 5 _ _ _ HV1.out)).trans rfl
  have HB2 : Hid (Below w.heap.size w ((w1.setCell ⟨w.heap.size + 1 + 1, 5, none⟩ (.int .i64 x.t)).setCell ⟨w.heap.size + 1 + 1, 6, none⟩ (.int .i64 x.u))) := (HB1.out.setCell (show w.heap.size ≤ w.heap.size + 1 + 1 by omega) _).setCell (show w.heap.size ≤ w.heap.size + 1 + 1 by omega) _
  have HR2 : Hid (((w1.setCell ⟨w.heap.size + 1 + 1, 5, none⟩ (.int .i64 x.t)).setCell ⟨w.heap.size + 1 + 1, 6, none⟩ (.int .i64 x.u)).heap[w.heap.size + 1]? = some (.cells #[.int .i64 0, .int .i64 0, .int .i64 0, .int .i64 0, .int .i64 0, .int .i64 0, .int .i64 0, .int .i64 0, .int .i64 0] 25 (0, 0))) := (Below.heap_setCell _ _ _ _ (show w.heap.size + 1 ≠ w.heap.size + 1 + 1 by omega)).trans ((Below.heap_setCell _ _ _ _ (show w.heap.size + 1 ≠ w.heap.size + 1 + 1 by omega)).trans HR1.out)
  have hs2 : w.heap.size + 3 ≤ ((w1.setCell ⟨w.heap.size + 1 + 1, 5, none⟩ (.int .i64 x.t)).setCell ⟨w.heap.size + 1 + 1, 6, none⟩ (.int .i64 x.u)).heap.size := by simpa using hs1
  clear HV1 HB1 HR1 HL1
  go_wp2_with fail
  clear a5 a6 f5 f6 l7 l8
  generalize (w1.setCell ⟨w.heap.size + 1 + 1, 5, none⟩ (.int .i64 x.t)).setCell ⟨w.heap.size + 1 + 1, 6, none⟩ (.int .i64 x.u) = w2 at HV2 HB2 HR2 hs2 ⊢
  refine (toWin_any x.l x.m _).mono ?_
  rintro e w3 ⟨rfl, hb⟩
  have HB3 : Hid (Below w.heap.size w w3) := HB2.out.trans (hb.mono HB2.out.size)
  have HR3 : Hid _ := (hb.block _ (show w.heap.size + 1 < w2.heap.size by omega)).trans HR2.out
  have HV3 : Hid _ := (hb.block _ (show w.heap.size + 1 + 1 < w2.heap.size by omega)).trans HV2.out
  clear hb HB2 HR2 HV2 hs2 hs1
  have a0 : w3.cell? ⟨w.heap.size + 1 + 1, 0, none⟩ = some (.int .i64 x.a) := (cell_of_row _ _ 0 _ _ _ HV3.out).trans rfl
  have r0 : w3.cell? ⟨w.heap.size + 1, 0, none⟩ = some (.int .i64 0) := (cell_of_row _ _ 0 _ _ _ HR3.out).trans rfl
  have y0 : w3.frozen? ⟨w.heap.size + 1, 0, none⟩ = false := frozen_of_row _ _ 0 _ _ HR3.out
  have a1 : w3.cell? ⟨w.heap.size + 1 + 1, 1, none⟩ = some (.int .i64 x.s) := (cell_of_row _ _ 1 _ _ _ HV3.out).trans rfl
  have r1 : w3.cell? ⟨w.heap.size + 1, 1, none⟩ = some (.int .i64 0) := (cell_of_row _ _ 1 _ _ _ HR3.out).trans rfl
  have y1 : w3.frozen? ⟨w.heap.size + 1, 1, none⟩ = false := frozen_of_row _ _ 1 _ _ HR3.out
  have a2 : w3.cell? ⟨w.heap.size + 1 + 1, 2, none⟩ = some (.int .i64 x.e) := (cell_of_row _ _ 2 _ _ _ HV3.out).trans rfl
  have r2 : w3.cell? ⟨w.heap.size + 1, 2, none⟩ = some (.int .i64 0) := (cell_of_row _ _ 2 _ _ _ HR3.out).trans rfl
  have y2 : w3.frozen? ⟨w.heap.size + 1, 2, none⟩ = false := frozen_of_row _ _ 2 _ _ HR3.out
  have a3 : w3.cell? ⟨w.heap.size + 1 + 1, 3, none⟩ = some (.int .i64 x.q) := (cell_of_row _ _ 3 _ _ _ HV3.out).trans rfl
  have r3 : w3.cell? ⟨w.heap.size + 1, 3, none⟩ = some (.int .i64 0) := (cell_of_row _ _ 3 _ _ _ HR3.out).trans rfl
  have y3 : w3.frozen? ⟨w.heap.size + 1, 3, none⟩ = false := frozen_of_row _ _ 3 _ _ HR3.out
  have a4 : w3.cell? ⟨w.heap.size + 1 + 1, 4, none⟩ = some (.int .i64 x.h) := (cell_of_row _ _ 4 _ _ _ HV3.out).trans rfl
  have r4 : w3.cell? ⟨w.heap.size + 1, 4, none⟩ = some (.int .i64 0) := (cell_of_row _ _ 4 _ _ _ HR3.out).trans rfl
  have y4 : w3.frozen? ⟨w.heap.size + 1, 4, none⟩ = false := frozen_of_row _ _ 4 _ _ HR3.out
  have a5 : w3.cell? ⟨w.heap.size + 1 + 1, 5, none⟩ = some (.int .i64 x.t) := (cell_of_row _ _ 5 _ _ _ HV3.out).trans rfl
  have r5 : w3.cell? ⟨w.heap.size + 1, 5, none⟩ = some (.int .i64 0) := (cell_of_row _ _ 5 _ _ _ HR3.out).trans rfl
  have y5 : w3.frozen? ⟨w.heap.size + 1, 5, none⟩ = false := frozen_of_row _ _ 5 _ _ HR3.out
  have a6 : w3.cell? ⟨w.heap.size + 1 + 1, 6, none⟩ = some (.int .i64 x.u) := (cell_of_row _ _ 6 _ _ _ HV3.out).trans rfl
  have r6 : w3.cell? ⟨w.heap.size + 1, 6, none⟩ = some (.int .i64 0) := (cell_of_row _ _ 6 _ _ _ HR3.out).trans rfl
  have y6 : w3.frozen? ⟨w.heap.size + 1, 6, none⟩ = false := frozen_of_row _ _ 6 _ _ HR3.out
  have a7 : w3.cell? ⟨w.heap.size + 1 + 1, 7, none⟩ = some (.int .i64 0) := (cell_of_row _ _ 7 _ _ _ HV3.out).trans rfl
  have r7 : w3.cell? ⟨w.heap.size + 1, 7, none⟩ = some (.int .i64 0) := (cell_of_row _ _ 7 _ _ _ HR3.out).trans rfl
  have y7 : w3.frozen? ⟨w.heap.size + 1, 7, none⟩ = false := frozen_of_row _ _ 7 _ _ HR3.out
  have a8 : w3.cell? ⟨w.heap.size + 1 + 1, 8, none⟩ = some (.int .i64 0) := (cell_of_row _ _ 8 _ _ _ HV3.out).trans rfl
  have r8 : w3.cell? ⟨w.heap.size + 1, 8, none⟩ = some (.int .i64 0) := (cell_of_row _ _ 8 _ _ _ HR3.out).trans rfl
  have y8 : w3.frozen? ⟨w.heap.size + 1, 8, none⟩ = false := frozen_of_row _ _ 8 _ _ HR3.out
  have f7 : w3.frozen? ⟨w.heap.size + 1 + 1, 7, none⟩ = false := frozen_of_row _ _ 7 _ _ HV3.out
  have f8 : w3.frozen? ⟨w.heap.size + 1 + 1, 8, none⟩ = false := frozen_of_row _ _ 8 _ _ HV3.out
  have HR4 : Hid (((w3.setCell ⟨w.heap.size + 1 + 1, 7, none⟩ (.int .i64 x.l)).setCell ⟨w.heap.size + 1 + 1, 8, none⟩ (.int .i64 x.m)).heap[w.heap.size + 1]? = some (.cells #[.int .i64 0, .int .i64 0, .int .i64 0, .int .i64 0, .int .i64 0, .int .i64 0, .int .i64 0, .int .i64 0, .int .i64 0] 25 (0, 0))) := (Below.heap_setCell _ _ _ _ (show w.heap.size + 1 ≠ w.heap.size + 1 + 1 by omega)).trans ((Below.heap_setCell _ _ _ _ (show w.heap.size + 1 ≠ w.heap.size + 1 + 1 by omega)).trans HR3.out)
  have HB4 : Hid (Below w.heap.size w ((w3.setCell ⟨w.heap.size + 1 + 1, 7, none⟩ (.int .i64 x.l)).setCell ⟨w.heap.size + 1 + 1, 8, none⟩ (.int .i64 x.m))) := (HB3.out.setCell (show w.heap.size ≤ w.heap.size + 1 + 1 by omega) _).setCell (show w.heap.size ≤ w.heap.size + 1 + 1 by omega) _
  have HST : Hid _ := store9 HR4.out (.int .i64 x.a) (.int .i64 x.s) (.int .i64 x.e) (.int .i64 x.q) (.int .i64 x.h) (.int .i64 x.t) (.int .i64 x.u) (.int .i64 x.l) (.int .i64 x.m)
  have HBE : Hid _ := below9 (g := w.heap.size + 1) HB4.out (by omega) (.int .i64 x.a) (.int .i64 x.s) (.int .i64 x.e) (.int .i64 x.q) (.int .i64 x.h) (.int .i64 x.t) (.int .i64 x.u) (.int .i64 x.l) (.int .i64 x.m)
  clear HB3 HR3 HV3 HR4 HB4
  go_wp2
  refine bodyPost_ret (results_cell_row rfl _ _ (w.heap.size + 1) 25 #[.int .i64 x.a, .int .i64 x.s, .int .i64 x.e, .int .i64 x.q, .int .i64 x.h, .int .i64 x.t, .int .i64 x.u, .int .i64 x.l, .int .i64 x.m] (0, 0) _ rfl ?_ Try.underlying25 rfl chanSize) rfl ?_
  · exact HST.out
  · exact ⟨rfl, HBE.out⟩
theorem cellsLChan : Try.prog.cellsOf 34 = 9 := by kernel_rfl
set_option maxRecDepth 100000 in
theorem chan_of {H : Type} {enc : TypeId × Value → H} {W : World} {base b0 : Nat} {sp : Nat → Bool} {held : Bool} {r : Reach} {v : Value} {d : DataW H} {p : List MemPlace} (hv : Value.okWide Try.prog W r b0 34 v) (h : DataW.Trod enc Try.prog W base sp held 34 v d p) :
    ∃ x : Ch, v = .agg #[.int .i64 x.a, .int .i64 x.s, .int .i64 x.e, .int .i64 x.q, .int .i64 x.h, .int .i64 x.t, .int .i64 x.u, .int .i64 x.l, .int .i64 x.m] ∧ x.Fits := by
  obtain ⟨cs, rfl, hsz⟩ := okWide_struct Try.underlying34 hv
  obtain ⟨fuel, hf⟩ := h
  obtain ⟨xs, n, _, _, hl, hlen, hff⟩ := DataW.trod_struct Try.underlying34 hf
  rw [cellsLChan] at hl hsz
  obtain ⟨c0, c1, c2, c3, c4, c5, c6, c7, c8, hc⟩ : ∃ c0 c1 c2 c3 c4 c5 c6 c7 c8, cs.toList = [c0, c1, c2, c3, c4, c5, c6, c7, c8] := by
    match hcs : cs.toList, (show cs.toList.length = 9 by simpa using hsz) with
    | [a0, a1, a2, a3, a4, a5, a6, a7, a8], _ => exact ⟨a0, a1, a2, a3, a4, a5, a6, a7, a8, rfl⟩
  have hcs : cs = #[c0, c1, c2, c3, c4, c5, c6, c7, c8] := by apply Array.ext'; exact hc
  subst hcs
  match xs, hlen with
  | [x0, x1, x2, x3, x4, x5, x6], _ =>
    have h0 : DataW.trod enc Try.prog W base sp held n 3 [c0] = some x0 := by simpa [cellsLIntW, cellsLWin, Value.cells] using hff 0 _ rfl
    have h1 : DataW.trod enc Try.prog W base sp held n 3 [c1] = some x1 := by simpa [cellsLIntW, cellsLWin, Value.cells] using hff 1 _ rfl
    have h2 : DataW.trod enc Try.prog W base sp held n 3 [c2] = some x2 := by simpa [cellsLIntW, cellsLWin, Value.cells] using hff 2 _ rfl
    have h3 : DataW.trod enc Try.prog W base sp held n 3 [c3] = some x3 := by simpa [cellsLIntW, cellsLWin, Value.cells] using hff 3 _ rfl
    have h4 : DataW.trod enc Try.prog W base sp held n 3 [c4] = some x4 := by simpa [cellsLIntW, cellsLWin, Value.cells] using hff 4 _ rfl
    have h5 : DataW.trod enc Try.prog W base sp held n 32 [c5, c6] = some x5 := by simpa [cellsLIntW, cellsLWin, Value.cells] using hff 5 _ rfl
    have h6 : DataW.trod enc Try.prog W base sp held n 32 [c7, c8] = some x6 := by simpa [cellsLIntW, cellsLWin, Value.cells] using hff 6 _ rfl
    obtain ⟨p5, q5, n5, _, _, g5, g6⟩ := trod_struct2 Try.underlying32 h5
    obtain ⟨p6, q6, n6, _, _, g7, g8⟩ := trod_struct2 Try.underlying32 h6
    simp only [cellsLIntW, List.drop_zero, List.drop_succ_cons, List.take_succ_cons, List.take_zero] at g5 g6 g7 g8
    obtain ⟨z0, e0, _, w0⟩ := DataW.trod_int Try.underlying3 h0
    obtain ⟨z1, e1, _, w1⟩ := DataW.trod_int Try.underlying3 h1
    obtain ⟨z2, e2, _, w2⟩ := DataW.trod_int Try.underlying3 h2
    obtain ⟨z3, e3, _, w3⟩ := DataW.trod_int Try.underlying3 h3
    obtain ⟨z4, e4, _, w4⟩ := DataW.trod_int Try.underlying3 h4
    obtain ⟨z5, e5, _, w5⟩ := DataW.trod_int Try.underlying3 g5
    obtain ⟨z6, e6, _, w6⟩ := DataW.trod_int Try.underlying3 g6
    obtain ⟨z7, e7, _, w7⟩ := DataW.trod_int Try.underlying3 g7
    obtain ⟨z8, e8, _, w8⟩ := DataW.trod_int Try.underlying3 g8
    simp only [List.cons.injEq, and_true] at e0 e1 e2 e3 e4 e5 e6 e7 e8
    subst e0 e1 e2 e3 e4 e5 e6 e7 e8
    exact ⟨⟨z0, z1, z2, z3, z4, z5, z6, z7, z8⟩, rfl, bounds_i64 w0, bounds_i64 w1, bounds_i64 w2, bounds_i64 w3, bounds_i64 w4, bounds_i64 w5, bounds_i64 w6, bounds_i64 w7, bounds_i64 w8⟩
set_option maxHeartbeats 1600000 in
set_option maxRecDepth 20000 in
theorem eqChan_same (x : Ch) (w : World) :
    Calls Try.prog 10 #[.agg #[.int .i64 x.a, .int .i64 x.s, .int .i64 x.e, .int .i64 x.q, .int .i64 x.h, .int .i64 x.t, .int .i64 x.u, .int .i64 x.l, .int .i64 x.m], .agg #[.int .i64 x.a, .int .i64 x.s, .int .i64 x.e, .int .i64 x.q, .int .i64 x.h, .int .i64 x.t, .int .i64 x.u, .int .i64 x.l, .int .i64 x.m]] w fun e w' => e = .returned (.bool true) ∧ Below w.heap.size w w' := by
  have HB0 : Hid (Below w.heap.size w ((w.alloc (.cells #[.int .i64 x.a, .int .i64 x.s, .int .i64 x.e, .int .i64 x.q, .int .i64 x.h, .int .i64 x.t, .int .i64 x.u, .int .i64 x.l, .int .i64 x.m] 25)).alloc (.cells #[.int .i64 x.a, .int .i64 x.s, .int .i64 x.e, .int .i64 x.q, .int .i64 x.h, .int .i64 x.t, .int .i64 x.u, .int .i64 x.l, .int .i64 x.m] 25))) := ((Below.refl _ _).alloc (Nat.le_refl _) _).alloc (by simp) _
  have HA0 : Hid (((w.alloc (.cells #[.int .i64 x.a, .int .i64 x.s, .int .i64 x.e, .int .i64 x.q, .int .i64 x.h, .int .i64 x.t, .int .i64 x.u, .int .i64 x.l, .int .i64 x.m] 25)).alloc (.cells #[.int .i64 x.a, .int .i64 x.s, .int .i64 x.e, .int .i64 x.q, .int .i64 x.h, .int .i64 x.t, .int .i64 x.u, .int .i64 x.l, .int .i64 x.m] 25)).heap[w.heap.size]? = some (.cells #[.int .i64 x.a, .int .i64 x.s, .int .i64 x.e, .int .i64 x.q, .int .i64 x.h, .int .i64 x.t, .int .i64 x.u, .int .i64 x.l, .int .i64 x.m] 25 (0, 0))) := (heap_alloc_old _ _ (by simp)).trans (heap_alloc_new w _)
  have HA1 : Hid (((w.alloc (.cells #[.int .i64 x.a, .int .i64 x.s, .int .i64 x.e, .int .i64 x.q, .int .i64 x.h, .int .i64 x.t, .int .i64 x.u, .int .i64 x.l, .int .i64 x.m] 25)).alloc (.cells #[.int .i64 x.a, .int .i64 x.s, .int .i64 x.e, .int .i64 x.q, .int .i64 x.h, .int .i64 x.t, .int .i64 x.u, .int .i64 x.l, .int .i64 x.m] 25)).heap[w.heap.size + 1]? = some (.cells #[.int .i64 x.a, .int .i64 x.s, .int .i64 x.e, .int .i64 x.q, .int .i64 x.h, .int .i64 x.t, .int .i64 x.u, .int .i64 x.l, .int .i64 x.m] 25 (0, 0))) := by have := heap_alloc_new (w.alloc (.cells #[.int .i64 x.a, .int .i64 x.s, .int .i64 x.e, .int .i64 x.q, .int .i64 x.h, .int .i64 x.t, .int .i64 x.u, .int .i64 x.l, .int .i64 x.m] 25)) (.cells #[.int .i64 x.a, .int .i64 x.s, .int .i64 x.e, .int .i64 x.q, .int .i64 x.h, .int .i64 x.t, .int .i64 x.u, .int .i64 x.l, .int .i64 x.m] 25); rw [show (w.alloc (.cells #[.int .i64 x.a, .int .i64 x.s, .int .i64 x.e, .int .i64 x.q, .int .i64 x.h, .int .i64 x.t, .int .i64 x.u, .int .i64 x.l, .int .i64 x.m] 25)).heap.size = w.heap.size + 1 by simp] at this; exact this
  go_enter Try.func10, Try.ntmps10
  go_wp2_with fail
  generalize (w.alloc (.cells #[.int .i64 x.a, .int .i64 x.s, .int .i64 x.e, .int .i64 x.q, .int .i64 x.h, .int .i64 x.t, .int .i64 x.u, .int .i64 x.l, .int .i64 x.m] 25)).alloc (.cells #[.int .i64 x.a, .int .i64 x.s, .int .i64 x.e, .int .i64 x.q, .int .i64 x.h, .int .i64 x.t, .int .i64 x.u, .int .i64 x.l, .int .i64 x.m] 25) = w0 at HB0 HA0 HA1 ⊢
  refine (eqWin_same x.t x.u _).mono ?_
  rintro e w1 ⟨rfl, hb⟩
  have HB1 : Hid (Below w.heap.size w w1) := HB0.out.trans (hb.mono HB0.out.size)
  have h0 := (hb.block _ (Array.getElem?_eq_some_iff.1 HA0.out).1).trans HA0.out
  have h1 := (hb.block _ (Array.getElem?_eq_some_iff.1 HA1.out).1).trans HA1.out
  have a7 : w1.cell? ⟨w.heap.size, 7, none⟩ = some (.int .i64 x.l) := (cell_of_row _ _ 7 _ _ _ h0).trans rfl
  have a8 : w1.cell? ⟨w.heap.size, 8, none⟩ = some (.int .i64 x.m) := (cell_of_row _ _ 8 _ _ _ h0).trans rfl
  have b7 : w1.cell? ⟨w.heap.size + 1, 7, none⟩ = some (.int .i64 x.l) := (cell_of_row _ _ 7 _ _ _ h1).trans rfl
  have b8 : w1.cell? ⟨w.heap.size + 1, 8, none⟩ = some (.int .i64 x.m) := (cell_of_row _ _ 8 _ _ _ h1).trans rfl
  clear hb HB0 HA0 HA1 h0 h1
  go_wp2_with fail
  refine (eqWin_same x.l x.m _).mono ?_
  rintro e w2 ⟨rfl, hb⟩
  have HB2 : Hid (Below w.heap.size w w2) := HB1.out.trans (hb.mono HB1.out.size)
  clear hb HB1 a7 a8 b7 b8
  go_wp2
  go_ret
  exact ⟨rfl, HB2.out⟩
end Go.Proofs.Ytnjihmailppjkaa
