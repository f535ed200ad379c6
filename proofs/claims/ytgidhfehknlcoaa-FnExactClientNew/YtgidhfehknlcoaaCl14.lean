/- A client, in plain words: 23 cells; the laws' own eqClient over it. -/
import Derived.Test.YtgidhfehknlcoaaCh13
import Derived.WalkKit
import Derived.WalkLawsBesides
import Derived.WalkSpells
import Derived.Laws.OwnMore
import Derived.Laws.Rows
import Derived.Laws.ResultCell
import Derived.Lib.SmallJoins
import Derived.OpenShut
import Derived.ProofKit
namespace Go.Proofs.Ytgidhfehknlcoaa
open Go.ChangeShapes Go.WideShapes Go.ChangeAt Go.RowKit Go.Joins Go.Deep
set_option linter.unusedVariables false
set_option linter.unusedSimpArgs false
structure Cl where
  n : Int
  g : Int
  m : Int
  st : Int
  d : Int
  ck : Bool
  he : Int
  sa : Int
  ha : Int
  la : Int
  le : Int
  c : Ch
  du : Int
  wa : Int
  tr : Int
  deriving DecidableEq, Inhabited
def Cl.Fits (x : Cl) : Prop := (-9223372036854775808 ≤ x.n ∧ x.n ≤ 9223372036854775807) ∧ (-9223372036854775808 ≤ x.g ∧ x.g ≤ 9223372036854775807) ∧ (-9223372036854775808 ≤ x.m ∧ x.m ≤ 9223372036854775807) ∧ (-9223372036854775808 ≤ x.st ∧ x.st ≤ 9223372036854775807) ∧ (-9223372036854775808 ≤ x.d ∧ x.d ≤ 9223372036854775807) ∧ (-9223372036854775808 ≤ x.he ∧ x.he ≤ 9223372036854775807) ∧ (-9223372036854775808 ≤ x.sa ∧ x.sa ≤ 9223372036854775807) ∧ (-9223372036854775808 ≤ x.ha ∧ x.ha ≤ 9223372036854775807) ∧ (-9223372036854775808 ≤ x.la ∧ x.la ≤ 9223372036854775807) ∧ (-9223372036854775808 ≤ x.le ∧ x.le ≤ 9223372036854775807) ∧ (-9223372036854775808 ≤ x.du ∧ x.du ≤ 9223372036854775807) ∧ (-9223372036854775808 ≤ x.wa ∧ x.wa ≤ 9223372036854775807) ∧ (-9223372036854775808 ≤ x.tr ∧ x.tr ≤ 9223372036854775807) ∧ x.c.Fits
theorem clSize : (Try.prog.info? 27).map (·.size) = some 23 := by kernel_rfl
/-- A client in a box. -/
structure ClIn (b : Nat) (x : Cl) (w : World) : Prop where
  lt : b < w.heap.size
  c0 : w.cell? ⟨b, 0, none⟩ = some (.int .i64 x.n)
  c1 : w.cell? ⟨b, 1, none⟩ = some (.int .i64 x.g)
  c2 : w.cell? ⟨b, 2, none⟩ = some (.int .i64 x.m)
  c3 : w.cell? ⟨b, 3, none⟩ = some (.int .i64 x.st)
  c4 : w.cell? ⟨b, 4, none⟩ = some (.int .i64 x.d)
  c5 : w.cell? ⟨b, 5, none⟩ = some (.bool x.ck)
  c6 : w.cell? ⟨b, 6, none⟩ = some (.int .i64 x.he)
  c7 : w.cell? ⟨b, 7, none⟩ = some (.int .i64 x.sa)
  c8 : w.cell? ⟨b, 8, none⟩ = some (.int .i64 x.ha)
  c9 : w.cell? ⟨b, 9, none⟩ = some (.int .i64 x.la)
  c10 : w.cell? ⟨b, 10, none⟩ = some (.int .i64 x.le)
  c11 : w.cell? ⟨b, 11, none⟩ = some (.int .i64 x.c.a)
  c12 : w.cell? ⟨b, 12, none⟩ = some (.int .i64 x.c.s)
  c13 : w.cell? ⟨b, 13, none⟩ = some (.int .i64 x.c.e)
  c14 : w.cell? ⟨b, 14, none⟩ = some (.int .i64 x.c.q)
  c15 : w.cell? ⟨b, 15, none⟩ = some (.int .i64 x.c.h)
  c16 : w.cell? ⟨b, 16, none⟩ = some (.int .i64 x.c.t)
  c17 : w.cell? ⟨b, 17, none⟩ = some (.int .i64 x.c.u)
  c18 : w.cell? ⟨b, 18, none⟩ = some (.int .i64 x.c.l)
  c19 : w.cell? ⟨b, 19, none⟩ = some (.int .i64 x.c.m)
  c20 : w.cell? ⟨b, 20, none⟩ = some (.int .i64 x.du)
  c21 : w.cell? ⟨b, 21, none⟩ = some (.int .i64 x.wa)
  c22 : w.cell? ⟨b, 22, none⟩ = some (.int .i64 x.tr)
theorem ClIn.next {b : Nat} {x : Cl} {w w' : World} (h : ClIn b x w) (hb : Below w.heap.size w w') : ClIn b x w' := ⟨Nat.lt_of_lt_of_le h.lt hb.size, (hb.cell (p := ⟨b, 0, none⟩) h.lt).trans h.c0, (hb.cell (p := ⟨b, 1, none⟩) h.lt).trans h.c1, (hb.cell (p := ⟨b, 2, none⟩) h.lt).trans h.c2, (hb.cell (p := ⟨b, 3, none⟩) h.lt).trans h.c3, (hb.cell (p := ⟨b, 4, none⟩) h.lt).trans h.c4, (hb.cell (p := ⟨b, 5, none⟩) h.lt).trans h.c5, (hb.cell (p := ⟨b, 6, none⟩) h.lt).trans h.c6, (hb.cell (p := ⟨b, 7, none⟩) h.lt).trans h.c7, (hb.cell (p := ⟨b, 8, none⟩) h.lt).trans h.c8, (hb.cell (p := ⟨b, 9, none⟩) h.lt).trans h.c9, (hb.cell (p := ⟨b, 10, none⟩) h.lt).trans h.c10, (hb.cell (p := ⟨b, 11, none⟩) h.lt).trans h.c11, (hb.cell (p := ⟨b, 12, none⟩) h.lt).trans h.c12, (hb.cell (p := ⟨b, 13, none⟩) h.lt).trans h.c13, (hb.cell (p := ⟨b, 14, none⟩) h.lt).trans h.c14, (hb.cell (p := ⟨b, 15, none⟩) h.lt).trans h.c15, (hb.cell (p := ⟨b, 16, none⟩) h.lt).trans h.c16, (hb.cell (p := ⟨b, 17, none⟩) h.lt).trans h.c17, (hb.cell (p := ⟨b, 18, none⟩) h.lt).trans h.c18, (hb.cell (p := ⟨b, 19, none⟩) h.lt).trans h.c19, (hb.cell (p := ⟨b, 20, none⟩) h.lt).trans h.c20, (hb.cell (p := ⟨b, 21, none⟩) h.lt).trans h.c21, (hb.cell (p := ⟨b, 22, none⟩) h.lt).trans h.c22⟩
theorem ClIn.of {b : Nat} {x : Cl} {w : World} {t : TypeId} (hn : w.heap[b]? = some (.cells #[.int .i64 x.n, .int .i64 x.g, .int .i64 x.m, .int .i64 x.st, .int .i64 x.d, .bool x.ck, .int .i64 x.he, .int .i64 x.sa, .int .i64 x.ha, .int .i64 x.la, .int .i64 x.le, .int .i64 x.c.a, .int .i64 x.c.s, .int .i64 x.c.e, .int .i64 x.c.q, .int .i64 x.c.h, .int .i64 x.c.t, .int .i64 x.c.u, .int .i64 x.c.l, .int .i64 x.c.m, .int .i64 x.du, .int .i64 x.wa, .int .i64 x.tr] t (0, 0))) : ClIn b x w :=
  ⟨(Array.getElem?_eq_some_iff.1 hn).1, (cell_of_row _ _ 0 _ _ _ hn).trans rfl, (cell_of_row _ _ 1 _ _ _ hn).trans rfl, (cell_of_row _ _ 2 _ _ _ hn).trans rfl, (cell_of_row _ _ 3 _ _ _ hn).trans rfl, (cell_of_row _ _ 4 _ _ _ hn).trans rfl, (cell_of_row _ _ 5 _ _ _ hn).trans rfl, (cell_of_row _ _ 6 _ _ _ hn).trans rfl, (cell_of_row _ _ 7 _ _ _ hn).trans rfl, (cell_of_row _ _ 8 _ _ _ hn).trans rfl, (cell_of_row _ _ 9 _ _ _ hn).trans rfl, (cell_of_row _ _ 10 _ _ _ hn).trans rfl, (cell_of_row _ _ 11 _ _ _ hn).trans rfl, (cell_of_row _ _ 12 _ _ _ hn).trans rfl, (cell_of_row _ _ 13 _ _ _ hn).trans rfl, (cell_of_row _ _ 14 _ _ _ hn).trans rfl, (cell_of_row _ _ 15 _ _ _ hn).trans rfl, (cell_of_row _ _ 16 _ _ _ hn).trans rfl, (cell_of_row _ _ 17 _ _ _ hn).trans rfl, (cell_of_row _ _ 18 _ _ _ hn).trans rfl, (cell_of_row _ _ 19 _ _ _ hn).trans rfl, (cell_of_row _ _ 20 _ _ _ hn).trans rfl, (cell_of_row _ _ 21 _ _ _ hn).trans rfl, (cell_of_row _ _ 22 _ _ _ hn).trans rfl⟩
theorem ClIn.made {w : World} {x : Cl} {t : TypeId} : ClIn w.heap.size x (w.alloc (.cells #[.int .i64 x.n, .int .i64 x.g, .int .i64 x.m, .int .i64 x.st, .int .i64 x.d, .bool x.ck, .int .i64 x.he, .int .i64 x.sa, .int .i64 x.ha, .int .i64 x.la, .int .i64 x.le, .int .i64 x.c.a, .int .i64 x.c.s, .int .i64 x.c.e, .int .i64 x.c.q, .int .i64 x.c.h, .int .i64 x.c.t, .int .i64 x.c.u, .int .i64 x.c.l, .int .i64 x.c.m, .int .i64 x.du, .int .i64 x.wa, .int .i64 x.tr] t)) := ClIn.of (heap_alloc_new w _)
set_option maxHeartbeats 3200000 in
set_option maxRecDepth 20000 in
theorem eqClient_same (x : Cl) (w : World) :
    Calls Try.prog 6 #[.agg #[.int .i64 x.n, .int .i64 x.g, .int .i64 x.m, .int .i64 x.st, .int .i64 x.d, .bool x.ck, .int .i64 x.he, .int .i64 x.sa, .int .i64 x.ha, .int .i64 x.la, .int .i64 x.le, .int .i64 x.c.a, .int .i64 x.c.s, .int .i64 x.c.e, .int .i64 x.c.q, .int .i64 x.c.h, .int .i64 x.c.t, .int .i64 x.c.u, .int .i64 x.c.l, .int .i64 x.c.m, .int .i64 x.du, .int .i64 x.wa, .int .i64 x.tr], .agg #[.int .i64 x.n, .int .i64 x.g, .int .i64 x.m, .int .i64 x.st, .int .i64 x.d, .bool x.ck, .int .i64 x.he, .int .i64 x.sa, .int .i64 x.ha, .int .i64 x.la, .int .i64 x.le, .int .i64 x.c.a, .int .i64 x.c.s, .int .i64 x.c.e, .int .i64 x.c.q, .int .i64 x.c.h, .int .i64 x.c.t, .int .i64 x.c.u, .int .i64 x.c.l, .int .i64 x.c.m, .int .i64 x.du, .int .i64 x.wa, .int .i64 x.tr]] w fun e w' => e = .returned (.bool true) ∧ Below w.heap.size w w' := by
  have HB0 : Hid (Below w.heap.size w ((w.alloc (.cells #[.int .i64 x.n, .int .i64 x.g, .int .i64 x.m, .int .i64 x.st, .int .i64 x.d, .bool x.ck, .int .i64 x.he, .int .i64 x.sa, .int .i64 x.ha, .int .i64 x.la, .int .i64 x.le, .int .i64 x.c.a, .int .i64 x.c.s, .int .i64 x.c.e, .int .i64 x.c.q, .int .i64 x.c.h, .int .i64 x.c.t, .int .i64 x.c.u, .int .i64 x.c.l, .int .i64 x.c.m, .int .i64 x.du, .int .i64 x.wa, .int .i64 x.tr] 27)).alloc (.cells #[.int .i64 x.n, .int .i64 x.g, .int .i64 x.m, .int .i64 x.st, .int .i64 x.d, .bool x.ck, .int .i64 x.he, .int .i64 x.sa, .int .i64 x.ha, .int .i64 x.la, .int .i64 x.le, .int .i64 x.c.a, .int .i64 x.c.s, .int .i64 x.c.e, .int .i64 x.c.q, .int .i64 x.c.h, .int .i64 x.c.t, .int .i64 x.c.u, .int .i64 x.c.l, .int .i64 x.c.m, .int .i64 x.du, .int .i64 x.wa, .int .i64 x.tr] 27))) := ((Below.refl _ _).alloc (Nat.le_refl _) _).alloc (by simp) _
  have r0 : (x.n != x.n) = false := by simp
  have r1 : (x.g != x.g) = false := by simp
  have r2 : (x.m != x.m) = false := by simp
  have r3 : (x.st != x.st) = false := by simp
  have r4 : (x.d != x.d) = false := by simp
  have r5 : (x.ck != x.ck) = false := by simp
  have r6 : (x.he != x.he) = false := by simp
  have r7 : (x.sa != x.sa) = false := by simp
  have r8 : (x.ha != x.ha) = false := by simp
  have r9 : (x.la != x.la) = false := by simp
  have r10 : (x.le != x.le) = false := by simp
  have r20 : (x.du != x.du) = false := by simp
  have r21 : (x.wa != x.wa) = false := by simp
  have r22 : (x.tr != x.tr) = false := by simp
  go_enter Try.func6, Try.ntmps6
  go_wp2_with fail
  refine (eqChan_same x.c _).mono ?_
  rintro e w1 ⟨rfl, hb⟩
  have hY1 : ClIn w.heap.size x ((w.alloc (.cells #[.int .i64 x.n, .int .i64 x.g, .int .i64 x.m, .int .i64 x.st, .int .i64 x.d, .bool x.ck, .int .i64 x.he, .int .i64 x.sa, .int .i64 x.ha, .int .i64 x.la, .int .i64 x.le, .int .i64 x.c.a, .int .i64 x.c.s, .int .i64 x.c.e, .int .i64 x.c.q, .int .i64 x.c.h, .int .i64 x.c.t, .int .i64 x.c.u, .int .i64 x.c.l, .int .i64 x.c.m, .int .i64 x.du, .int .i64 x.wa, .int .i64 x.tr] 27)).alloc (.cells #[.int .i64 x.n, .int .i64 x.g, .int .i64 x.m, .int .i64 x.st, .int .i64 x.d, .bool x.ck, .int .i64 x.he, .int .i64 x.sa, .int .i64 x.ha, .int .i64 x.la, .int .i64 x.le, .int .i64 x.c.a, .int .i64 x.c.s, .int .i64 x.c.e, .int .i64 x.c.q, .int .i64 x.c.h, .int .i64 x.c.t, .int .i64 x.c.u, .int .i64 x.c.l, .int .i64 x.c.m, .int .i64 x.du, .int .i64 x.wa, .int .i64 x.tr] 27)) := ClIn.made.next ((Below.refl _ _).alloc (Nat.le_refl _) _)
  have hZ1 : ClIn (w.heap.size + 1) x ((w.alloc (.cells #[.int .i64 x.n, .int .i64 x.g, .int .i64 x.m, .int .i64 x.st, .int .i64 x.d, .bool x.ck, .int .i64 x.he, .int .i64 x.sa, .int .i64 x.ha, .int .i64 x.la, .int .i64 x.le, .int .i64 x.c.a, .int .i64 x.c.s, .int .i64 x.c.e, .int .i64 x.c.q, .int .i64 x.c.h, .int .i64 x.c.t, .int .i64 x.c.u, .int .i64 x.c.l, .int .i64 x.c.m, .int .i64 x.du, .int .i64 x.wa, .int .i64 x.tr] 27)).alloc (.cells #[.int .i64 x.n, .int .i64 x.g, .int .i64 x.m, .int .i64 x.st, .int .i64 x.d, .bool x.ck, .int .i64 x.he, .int .i64 x.sa, .int .i64 x.ha, .int .i64 x.la, .int .i64 x.le, .int .i64 x.c.a, .int .i64 x.c.s, .int .i64 x.c.e, .int .i64 x.c.q, .int .i64 x.c.h, .int .i64 x.c.t, .int .i64 x.c.u, .int .i64 x.c.l, .int .i64 x.c.m, .int .i64 x.du, .int .i64 x.wa, .int .i64 x.tr] 27)) := by
    have := ClIn.made (w := w.alloc (.cells #[.int .i64 x.n, .int .i64 x.g, .int .i64 x.m, .int .i64 x.st, .int .i64 x.d, .bool x.ck, .int .i64 x.he, .int .i64 x.sa, .int .i64 x.ha, .int .i64 x.la, .int .i64 x.le, .int .i64 x.c.a, .int .i64 x.c.s, .int .i64 x.c.e, .int .i64 x.c.q, .int .i64 x.c.h, .int .i64 x.c.t, .int .i64 x.c.u, .int .i64 x.c.l, .int .i64 x.c.m, .int .i64 x.du, .int .i64 x.wa, .int .i64 x.tr] 27)) (x := x) (t := 27)
    simpa using this
  have hY2 := hY1.next hb
  have hZ2 := hZ1.next hb
  have HB1 : Hid (Below w.heap.size w w1) := HB0.out.trans (hb.mono HB0.out.size)
  clear hb hY1 hZ1 HB0
  have y20 := hY2.c20
  have y21 := hY2.c21
  have y22 := hY2.c22
  have z20 := hZ2.c20
  have z21 := hZ2.c21
  have z22 := hZ2.c22
  clear hY2 hZ2
  go_wp2
  go_ret
  exact ⟨rfl, HB1.out⟩
end Go.Proofs.Ytgidhfehknlcoaa
