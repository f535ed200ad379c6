/- The contracts of chapter 4's l04Is, NumOf, Open and Signed, the specification's, and of at, NumOf, Open and Signed, the program's. -/
import Derived.Test.YtffnadnndmmliaaHeldQ
import Derived.Test.YtffnadnndmmliaaImplR
import Derived.Test.YtffnadnndmmliaaTermPut
import Derived.WalkKit
import Derived.WalkLawsBesides
import Derived.WalkSpells
import Derived.Laws.Rows
import Derived.Laws.ResultCell
namespace Go.Proofs.Ytffnadnndmmliaa
open Go.RowKit
set_option linter.unusedVariables false

/-- The node at a place. -/
def ndAt (ns : List Nd) (k : Int) : Nd := ns.getD k.toNat Nd.zero
/-- Is a term a right node of a kind? -/
def isK (ns : List Nd) (k kind : Int) : Bool := okAt ns k && decide ((ndAt ns k).k = kind)
theorem okAt_in {ns : List Nd} {k : Int} (h : okAt ns k = true) : ∃ i : Nat, k = (i : Int) ∧ i < ns.length := by
  unfold okAt inB at h
  simp at h
  exact ⟨k.toNat, by omega, by omega⟩
theorem isK_ok {ns : List Nd} {k kind : Int} (h : isK ns k kind = true) : okAt ns k = true ∧ (ndAt ns k).k = kind := by
  unfold isK at h
  simpa using h
theorem isK_false {ns : List Nd} {k kind : Int} (h : okAt ns k = false) : isK ns k kind = false := by unfold isK; rw [h]; rfl
theorem ndAt_nat (ns : List Nd) (i : Nat) : ndAt ns (i : Int) = ns.getD i Nd.zero := by unfold ndAt; simp

set_option maxHeartbeats 400000 in
theorem specIs_any (a : Option Addr) (cap : Nat) (ns : List Nd) (k kind : Int) (w : World) (hl : ns.length ≤ 1048576) (hr : RowN w.heap.size w a ns) :
    Calls Try.prog 139 #[.agg #[.slice a ns.length cap], .int .i64 k, .int .i64 kind] w fun e w' => e = .returned (.bool (isK ns k kind)) ∧ Below w.heap.size w w' := by
  have hb0 : Below w.heap.size w (w.alloc (.cells #[.slice a ns.length cap] 28)) := (Below.refl _ _).alloc (Nat.le_refl _) _
  have hA0 := heap_alloc_new w (.cells #[.slice a ns.length cap] 28)
  have hs0 : (w.alloc (.cells #[.slice a ns.length cap] 28)).heap.size = w.heap.size + 1 := by simp
  have HR0 : Hid _ := hr.grown hb0
  cases h : okAt ns k with
  | false =>
    rw [isK_false h]
    have H : Hid _ := specOk_any a cap ns k _ hl HR0.out
    rw [h] at H
    clear hr HR0
    go_enter Try.func139, Try.ntmps139
    go_wp2_with fail
    refine Calls.mono H.out ?_
    rintro e w1 ⟨rfl, hb1⟩
    have HB : Hid (Below w.heap.size w w1) := hb0.trans (hb1.mono (by omega))
    clear hb1 H hA0 hb0
    go_wp2
    go_ret
    exact ⟨rfl, HB.out⟩
  | true =>
    have H : Hid _ := specOk_any a cap ns k _ hl HR0.out
    rw [h] at H
    have HI : Hid (isK ns k kind = decide ((ndAt ns k).k = kind)) := by show _ = _; unfold isK; rw [h]; rfl
    obtain ⟨i, rfl, hi⟩ := okAt_in h
    obtain ⟨b, off, rfl⟩ := hr.addr hi
    obtain ⟨hb, c0, c1, c2, c3⟩ := hr.at (Below.refl _ _) hi
    have hi0 : (0 : Int) ≤ (i : Int) := by omega
    have hi1 : (i : Int) < (ns.length : Int) := by omega
    rw [ndAt_nat] at HI
    generalize ns.getD i Nd.zero = y at c0 c1 c2 c3 HI
    rw [HI.out]
    clear hr h HR0 HI
    go_enter Try.func139, Try.ntmps139
    go_wp2_with fail
    refine Calls.mono H.out ?_
    rintro e w1 ⟨rfl, hb1⟩
    have HB : Hid (Below w.heap.size w w1) := hb0.trans (hb1.mono (by omega))
    have q0 : w1.cell? ⟨w.heap.size, 0, none⟩ = some (.slice (some ⟨b, off, none⟩) ns.length cap) := (hb1.cell (p := ⟨w.heap.size, 0, none⟩) (by simp)).trans ((cell_of_row _ w.heap.size 0 _ _ _ hA0).trans rfl)
    have q1 := (HB.out.cell hb).trans c0
    clear hb1 H hA0 hb0 c0 c1 c2 c3
    go_wp2
    go_ret
    exact ⟨by rw [show decide (y.k = kind) = (y.k == kind) from Bool.eq_iff_iff.2 (by simp)]; rfl, HB.out⟩

def numV (ns : List Nd) (k : Int) : Int := if isK ns k 1 = true then (ndAt ns k).n else 0
def openB (ns : List Nd) (key k : Int) : Bool := isK ns k 5 && decide ((ndAt ns k).a = key)
def openV (ns : List Nd) (key k : Int) : Int := if openB ns key k = true then (ndAt ns k).b else -1
def signB (ns : List Nd) (pub k : Int) : Bool := isK ns pub 6 && (isK ns k 8 && decide ((ndAt ns k).a = (ndAt ns pub).a))
def signV (ns : List Nd) (pub k : Int) : Int := if signB ns pub k = true then (ndAt ns k).b else -1

set_option maxHeartbeats 400000 in
theorem specNum_any (a : Option Addr) (cap : Nat) (ns : List Nd) (k : Int) (w : World) (hl : ns.length ≤ 1048576) (hr : RowN w.heap.size w a ns) :
    Calls Try.prog 142 #[.agg #[.slice a ns.length cap], .int .i64 k] w fun e w' => e = .returned (.tuple #[.int .i64 (numV ns k), .bool (isK ns k 1)]) ∧ Below w.heap.size w w' := by
  have hb0 : Below w.heap.size w (w.alloc (.cells #[.slice a ns.length cap] 28)) := (Below.refl _ _).alloc (Nat.le_refl _) _
  have hA0 := heap_alloc_new w (.cells #[.slice a ns.length cap] 28)
  have hs0 : (w.alloc (.cells #[.slice a ns.length cap] 28)).heap.size = w.heap.size + 1 := by simp
  have H : Hid _ := specIs_any a cap ns k 1 _ hl (hr.grown hb0)
  unfold numV
  cases h : isK ns k 1 with
  | false =>
    rw [h] at H
    rw [if_neg (by simp)]
    clear hr
    go_enter Try.func142, Try.ntmps142
    go_wp2_with fail
    refine Calls.mono H.out ?_
    rintro e w1 ⟨rfl, hb1⟩
    have HB : Hid (Below w.heap.size w w1) := hb0.trans (hb1.mono (by omega))
    clear hb1 H hA0 hb0
    go_wp2
    go_ret2
    exact ⟨rfl, HB.out⟩
  | true =>
    rw [h] at H
    rw [if_pos rfl]
    obtain ⟨i, rfl, hi⟩ := okAt_in (isK_ok h).1
    obtain ⟨b, off, rfl⟩ := hr.addr hi
    obtain ⟨hb, c0, c1, c2, c3⟩ := hr.at (Below.refl _ _) hi
    have hi0 : (0 : Int) ≤ (i : Int) := by omega
    have hi1 : (i : Int) < (ns.length : Int) := by omega
    rw [ndAt_nat]
    generalize ns.getD i Nd.zero = y at c0 c1 c2 c3 ⊢
    clear hr h
    go_enter Try.func142, Try.ntmps142
    go_wp2_with fail
    refine Calls.mono H.out ?_
    rintro e w1 ⟨rfl, hb1⟩
    have HB : Hid (Below w.heap.size w w1) := hb0.trans (hb1.mono (by omega))
    have q0 : w1.cell? ⟨w.heap.size, 0, none⟩ = some (.slice (some ⟨b, off, none⟩) ns.length cap) := (hb1.cell (p := ⟨w.heap.size, 0, none⟩) (by simp)).trans ((cell_of_row _ w.heap.size 0 _ _ _ hA0).trans rfl)
    have q1 := (HB.out.cell hb).trans c1
    clear hb1 H hA0 hb0 c0 c1 c2 c3
    go_wp2
    go_ret2
    exact ⟨rfl, HB.out⟩

/-- A node in a block, written whole. -/
theorem store4 {w : World} {g : Nat} {t : TypeId} {u0 u1 u2 u3 : Value} (h : w.heap[g]? = some (.cells #[u0, u1, u2, u3] t (0, 0))) (v0 v1 v2 v3 : Value) :
    ((((w.setCell ⟨g, 0, none⟩ v0).setCell ⟨g, 1, none⟩ v1).setCell ⟨g, 2, none⟩ v2).setCell ⟨g, 3, none⟩ v3).heap[g]? = some (.cells #[v0, v1, v2, v3] t (0, 0)) := by
  have h0 := (heap_setCell_same w g 0 _ _ v0 h).trans rfl
  have h1 := (heap_setCell_same _ g 1 _ _ v1 h0).trans rfl
  have h2 := (heap_setCell_same _ g 2 _ _ v2 h1).trans rfl
  exact (heap_setCell_same _ g 3 _ _ v3 h2).trans rfl
theorem below4 {B : Nat} {w w1 : World} {g : Nat} (h : Below B w w1) (hg : B ≤ g) (v0 v1 v2 v3 : Value) :
    Below B w ((((w1.setCell ⟨g, 0, none⟩ v0).setCell ⟨g, 1, none⟩ v1).setCell ⟨g, 2, none⟩ v2).setCell ⟨g, 3, none⟩ v3) :=
  (((h.setCell hg _).setCell hg _).setCell hg _).setCell hg _
theorem nodeSizeMk : (Try.prog.info? 45).map (·.size) = some 4 := by kernel_rfl
/-- at, the program's: the node of a kind. -/
theorem implAt_no (kind : Int) (a : Option Addr) (cap : Nat) (ns : List Nd) (k : Int) (w : World) (hl : ns.length ≤ 1048576) (hr : RowN w.heap.size w a ns) (hn : isK ns k kind = false) :
    Calls Try.prog 172 #[.int .i64 kind, .agg #[.slice a ns.length cap], .int .i64 k] w fun e w' => e = .returned (.tuple #[.agg #[.int .i64 0, .int .i64 0, .int .i64 0, .int .i64 0], .bool false]) ∧ Below w.heap.size w w' := by
  have hb0 : Below w.heap.size w ((w.alloc (.cells #[.slice a ns.length cap] 28)).alloc (.cells #[.int .i64 0, .int .i64 0, .int .i64 0, .int .i64 0] 45)) := ((Below.refl _ _).alloc (Nat.le_refl _) _).alloc (by simp) _
  have hA0 : ((w.alloc (.cells #[.slice a ns.length cap] 28)).alloc (.cells #[.int .i64 0, .int .i64 0, .int .i64 0, .int .i64 0] 45)).heap[w.heap.size]? = some (.cells #[.slice a ns.length cap] 28 (0, 0)) := (heap_alloc_old _ _ (by simp)).trans (heap_alloc_new w _)
  have hN0 : ((w.alloc (.cells #[.slice a ns.length cap] 28)).alloc (.cells #[.int .i64 0, .int .i64 0, .int .i64 0, .int .i64 0] 45)).heap[w.heap.size + 1]? = some (.cells #[.int .i64 0, .int .i64 0, .int .i64 0, .int .i64 0] 45 (0, 0)) := by
    have := heap_alloc_new (w.alloc (.cells #[.slice a ns.length cap] 28)) (.cells #[.int .i64 0, .int .i64 0, .int .i64 0, .int .i64 0] 45)
    simpa using this
  have hs0 : ((w.alloc (.cells #[.slice a ns.length cap] 28)).alloc (.cells #[.int .i64 0, .int .i64 0, .int .i64 0, .int .i64 0] 45)).heap.size = w.heap.size + 2 := by simp
  have H : Hid _ := implOk_any a cap ns k _ hl (hr.grown hb0)
  cases h : okAt ns k with
  | false =>
    rw [h] at H
    clear hr hn
    go_enter Try.func172, Try.ntmps172
    go_wp2_with fail
    refine Calls.mono H.out ?_
    rintro e w1 ⟨rfl, hb1⟩
    have hB : Below w.heap.size w w1 := hb0.trans (hb1.mono (by omega))
    have hN1 := (hb1.block (w.heap.size + 1) (by omega)).trans hN0
    have n0 : w1.cell? ⟨w.heap.size + 1, 0, none⟩ = some (.int .i64 0) := (cell_of_row w1 _ 0 _ _ _ hN1).trans rfl
    have n1 : w1.cell? ⟨w.heap.size + 1, 1, none⟩ = some (.int .i64 0) := (cell_of_row w1 _ 1 _ _ _ hN1).trans rfl
    have n2 : w1.cell? ⟨w.heap.size + 1, 2, none⟩ = some (.int .i64 0) := (cell_of_row w1 _ 2 _ _ _ hN1).trans rfl
    have n3 : w1.cell? ⟨w.heap.size + 1, 3, none⟩ = some (.int .i64 0) := (cell_of_row w1 _ 3 _ _ _ hN1).trans rfl
    have m0 : w1.frozen? ⟨w.heap.size + 1, 0, none⟩ = false := frozen_of_row w1 _ 0 _ _ hN1
    have m1 : w1.frozen? ⟨w.heap.size + 1, 1, none⟩ = false := frozen_of_row w1 _ 1 _ _ hN1
    have m2 : w1.frozen? ⟨w.heap.size + 1, 2, none⟩ = false := frozen_of_row w1 _ 2 _ _ hN1
    have m3 : w1.frozen? ⟨w.heap.size + 1, 3, none⟩ = false := frozen_of_row w1 _ 3 _ _ hN1
    have HBL : Hid _ := store4 hN1 (.int .i64 0) (.int .i64 0) (.int .i64 0) (.int .i64 0)
    have HB : Hid _ := below4 (g := w.heap.size + 1) hB (by omega) (.int .i64 0) (.int .i64 0) (.int .i64 0) (.int .i64 0)
    clear H hA0 hN0 hb0 hB hb1 hN1
    go_wp2
    refine bodyPost_ret (res_cell2 rfl _ _ (w.heap.size + 1) 45 #[.int .i64 0, .int .i64 0, .int .i64 0, .int .i64 0] (0, 0) _ rfl ?_ Try.underlying45 rfl nodeSizeMk) rfl ?_
    · exact HBL.out
    · exact ⟨rfl, HB.out⟩
  | true =>
    rw [h] at H
    have hk : (ndAt ns k).k ≠ kind := fun e => by unfold isK at hn; rw [h, decide_eq_true e] at hn; simp at hn
    obtain ⟨i, rfl, hi⟩ := okAt_in h
    obtain ⟨b, off, rfl⟩ := hr.addr hi
    obtain ⟨hb, c0, c1, c2, c3⟩ := hr.at (Below.refl _ _) hi
    have hi0 : (0 : Int) ≤ (i : Int) := by omega
    have hi1 : (i : Int) < (ns.length : Int) := by omega
    rw [ndAt_nat] at hk
    generalize ns.getD i Nd.zero = y at c0 c1 c2 c3 hk
    have hk' : (y.k == kind) = false := by simp [hk]
    clear hr hn h hk
    go_enter Try.func172, Try.ntmps172
    go_wp2_with fail
    refine Calls.mono H.out ?_
    rintro e w1 ⟨rfl, hb1⟩
    have hB : Below w.heap.size w w1 := hb0.trans (hb1.mono (by omega))
    have hN1 := (hb1.block (w.heap.size + 1) (by omega)).trans hN0
    have q : w1.cell? ⟨w.heap.size, 0, none⟩ = some (.slice (some ⟨b, off, none⟩) ns.length cap) := (hb1.cell (p := ⟨w.heap.size, 0, none⟩) (by simp; omega)).trans ((cell_of_row _ w.heap.size 0 _ _ _ hA0).trans rfl)
    have q0 := (hB.cell hb).trans c0
    have n0 : w1.cell? ⟨w.heap.size + 1, 0, none⟩ = some (.int .i64 0) := (cell_of_row w1 _ 0 _ _ _ hN1).trans rfl
    have n1 : w1.cell? ⟨w.heap.size + 1, 1, none⟩ = some (.int .i64 0) := (cell_of_row w1 _ 1 _ _ _ hN1).trans rfl
    have n2 : w1.cell? ⟨w.heap.size + 1, 2, none⟩ = some (.int .i64 0) := (cell_of_row w1 _ 2 _ _ _ hN1).trans rfl
    have n3 : w1.cell? ⟨w.heap.size + 1, 3, none⟩ = some (.int .i64 0) := (cell_of_row w1 _ 3 _ _ _ hN1).trans rfl
    have m0 : w1.frozen? ⟨w.heap.size + 1, 0, none⟩ = false := frozen_of_row w1 _ 0 _ _ hN1
    have m1 : w1.frozen? ⟨w.heap.size + 1, 1, none⟩ = false := frozen_of_row w1 _ 1 _ _ hN1
    have m2 : w1.frozen? ⟨w.heap.size + 1, 2, none⟩ = false := frozen_of_row w1 _ 2 _ _ hN1
    have m3 : w1.frozen? ⟨w.heap.size + 1, 3, none⟩ = false := frozen_of_row w1 _ 3 _ _ hN1
    clear c0 c1 c2 c3
    have HBL : Hid _ := store4 hN1 (.int .i64 0) (.int .i64 0) (.int .i64 0) (.int .i64 0)
    have HB : Hid _ := below4 (g := w.heap.size + 1) hB (by omega) (.int .i64 0) (.int .i64 0) (.int .i64 0) (.int .i64 0)
    clear H hA0 hN0 hb0 hB hb1 hN1
    go_wp2
    refine bodyPost_ret (res_cell2 rfl _ _ (w.heap.size + 1) 45 #[.int .i64 0, .int .i64 0, .int .i64 0, .int .i64 0] (0, 0) _ rfl ?_ Try.underlying45 rfl nodeSizeMk) rfl ?_
    · exact HBL.out
    · exact ⟨rfl, HB.out⟩
theorem implAt_yes (kind : Int) (a : Option Addr) (cap : Nat) (ns : List Nd) (k : Int) (w : World) (hl : ns.length ≤ 1048576) (hr : RowN w.heap.size w a ns) (hn : isK ns k kind = true) :
    Calls Try.prog 172 #[.int .i64 kind, .agg #[.slice a ns.length cap], .int .i64 k] w fun e w' => e = .returned (.tuple #[.agg #[.int .i64 (ndAt ns k).k, .int .i64 (ndAt ns k).n, .int .i64 (ndAt ns k).a, .int .i64 (ndAt ns k).b], .bool true]) ∧ Below w.heap.size w w' := by
  have hb0 : Below w.heap.size w ((w.alloc (.cells #[.slice a ns.length cap] 28)).alloc (.cells #[.int .i64 0, .int .i64 0, .int .i64 0, .int .i64 0] 45)) := ((Below.refl _ _).alloc (Nat.le_refl _) _).alloc (by simp) _
  have hA0 : ((w.alloc (.cells #[.slice a ns.length cap] 28)).alloc (.cells #[.int .i64 0, .int .i64 0, .int .i64 0, .int .i64 0] 45)).heap[w.heap.size]? = some (.cells #[.slice a ns.length cap] 28 (0, 0)) := (heap_alloc_old _ _ (by simp)).trans (heap_alloc_new w _)
  have hN0 : ((w.alloc (.cells #[.slice a ns.length cap] 28)).alloc (.cells #[.int .i64 0, .int .i64 0, .int .i64 0, .int .i64 0] 45)).heap[w.heap.size + 1]? = some (.cells #[.int .i64 0, .int .i64 0, .int .i64 0, .int .i64 0] 45 (0, 0)) := by
    have := heap_alloc_new (w.alloc (.cells #[.slice a ns.length cap] 28)) (.cells #[.int .i64 0, .int .i64 0, .int .i64 0, .int .i64 0] 45)
    simpa using this
  have hs0 : ((w.alloc (.cells #[.slice a ns.length cap] 28)).alloc (.cells #[.int .i64 0, .int .i64 0, .int .i64 0, .int .i64 0] 45)).heap.size = w.heap.size + 2 := by simp
  have H : Hid _ := implOk_any a cap ns k _ hl (hr.grown hb0)
  obtain ⟨h, hk⟩ := isK_ok hn
  rw [h] at H
  obtain ⟨i, rfl, hi⟩ := okAt_in h
  obtain ⟨b, off, rfl⟩ := hr.addr hi
  obtain ⟨hb, c0, c1, c2, c3⟩ := hr.at (Below.refl _ _) hi
  have hi0 : (0 : Int) ≤ (i : Int) := by omega
  have hi1 : (i : Int) < (ns.length : Int) := by omega
  rw [ndAt_nat] at hk ⊢
  generalize ns.getD i Nd.zero = y at c0 c1 c2 c3 hk ⊢
  have hk' : (y.k == kind) = true := by simp [hk]
  clear hr hn h hk
  go_enter Try.func172, Try.ntmps172
  go_wp2_with fail
  refine Calls.mono H.out ?_
  rintro e w1 ⟨rfl, hb1⟩
  have hB : Below w.heap.size w w1 := hb0.trans (hb1.mono (by omega))
  have hN1 := (hb1.block (w.heap.size + 1) (by omega)).trans hN0
  have q : w1.cell? ⟨w.heap.size, 0, none⟩ = some (.slice (some ⟨b, off, none⟩) ns.length cap) := (hb1.cell (p := ⟨w.heap.size, 0, none⟩) (by simp; omega)).trans ((cell_of_row _ w.heap.size 0 _ _ _ hA0).trans rfl)
  have q0 := (hB.cell hb).trans c0
  have q1 := (hB.cell hb).trans c1
  have q2 := (hB.cell hb).trans c2
  have q3 := (hB.cell hb).trans c3
  have n0 : w1.cell? ⟨w.heap.size + 1, 0, none⟩ = some (.int .i64 0) := (cell_of_row w1 _ 0 _ _ _ hN1).trans rfl
  have n1 : w1.cell? ⟨w.heap.size + 1, 1, none⟩ = some (.int .i64 0) := (cell_of_row w1 _ 1 _ _ _ hN1).trans rfl
  have n2 : w1.cell? ⟨w.heap.size + 1, 2, none⟩ = some (.int .i64 0) := (cell_of_row w1 _ 2 _ _ _ hN1).trans rfl
  have n3 : w1.cell? ⟨w.heap.size + 1, 3, none⟩ = some (.int .i64 0) := (cell_of_row w1 _ 3 _ _ _ hN1).trans rfl
  have m0 : w1.frozen? ⟨w.heap.size + 1, 0, none⟩ = false := frozen_of_row w1 _ 0 _ _ hN1
  have m1 : w1.frozen? ⟨w.heap.size + 1, 1, none⟩ = false := frozen_of_row w1 _ 1 _ _ hN1
  have m2 : w1.frozen? ⟨w.heap.size + 1, 2, none⟩ = false := frozen_of_row w1 _ 2 _ _ hN1
  have m3 : w1.frozen? ⟨w.heap.size + 1, 3, none⟩ = false := frozen_of_row w1 _ 3 _ _ hN1
  clear c0 c1 c2 c3
  have HBL : Hid _ := store4 hN1 (.int .i64 y.k) (.int .i64 y.n) (.int .i64 y.a) (.int .i64 y.b)
  have HB : Hid _ := below4 (g := w.heap.size + 1) hB (by omega) (.int .i64 y.k) (.int .i64 y.n) (.int .i64 y.a) (.int .i64 y.b)
  clear H hA0 hN0 hb0 hB hb1 hN1
  go_wp2
  refine bodyPost_ret (res_cell2 rfl _ _ (w.heap.size + 1) 45 #[.int .i64 y.k, .int .i64 y.n, .int .i64 y.a, .int .i64 y.b] (0, 0) _ rfl ?_ Try.underlying45 rfl nodeSizeMk) rfl ?_
  · exact HBL.out
  · exact ⟨rfl, HB.out⟩

set_option maxHeartbeats 400000 in
theorem implNum_any (a : Option Addr) (cap : Nat) (ns : List Nd) (k : Int) (w : World) (hl : ns.length ≤ 1048576) (hr : RowN w.heap.size w a ns) :
    Calls Try.prog 175 #[.agg #[.slice a ns.length cap], .int .i64 k] w fun e w' => e = .returned (.tuple #[.int .i64 (numV ns k), .bool (isK ns k 1)]) ∧ Below w.heap.size w w' := by
  have hb0 : Below w.heap.size w (w.alloc (.cells #[.slice a ns.length cap] 28)) := (Below.refl _ _).alloc (Nat.le_refl _) _
  have hA0 := heap_alloc_new w (.cells #[.slice a ns.length cap] 28)
  have hs0 : (w.alloc (.cells #[.slice a ns.length cap] 28)).heap.size = w.heap.size + 1 := by simp
  unfold numV
  cases h : isK ns k 1 with
  | false =>
    have H : Hid _ := implAt_no 1 a cap ns k _ hl (hr.grown hb0) h
    rw [if_neg (by simp)]
    clear hr h
    go_enter Try.func175, Try.ntmps175
    go_wp2_with fail
    refine Calls.mono H.out ?_
    rintro e w1 ⟨rfl, hb1⟩
    have HB : Hid (Below w.heap.size w (w1.alloc (.cells #[.int .i64 0, .int .i64 0, .int .i64 0, .int .i64 0] 45))) := (hb0.trans (hb1.mono (by omega))).alloc (by have := hb1.size; omega) _
    clear hb1 H hA0 hb0
    go_wp2
    go_ret2
    exact ⟨rfl, HB.out⟩
  | true =>
    have H : Hid _ := implAt_yes 1 a cap ns k _ hl (hr.grown hb0) h
    rw [if_pos rfl]
    generalize ndAt ns k = y at H ⊢
    clear hr h
    go_enter Try.func175, Try.ntmps175
    go_wp2_with fail
    refine Calls.mono H.out ?_
    rintro e w1 ⟨rfl, hb1⟩
    have HB : Hid (Below w.heap.size w (w1.alloc (.cells #[.int .i64 y.k, .int .i64 y.n, .int .i64 y.a, .int .i64 y.b] 45))) := (hb0.trans (hb1.mono (by omega))).alloc (by have := hb1.size; omega) _
    clear hb1 H hA0 hb0
    go_wp2
    go_ret2
    exact ⟨rfl, HB.out⟩

end Go.Proofs.Ytffnadnndmmliaa
