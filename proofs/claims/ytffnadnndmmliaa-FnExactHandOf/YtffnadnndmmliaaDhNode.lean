/- Chapter 4's dhNode, the program's: the node of a Dh, or none. -/
import Derived.Test.YtffnadnndmmliaaMakeOrd
import Derived.WalkKit
import Derived.WalkLawsBesides
import Derived.WalkSpells
import Derived.Laws.Rows
namespace Go.Proofs.Ytffnadnndmmliaa
open Go.RowKit Go.PlainAid
set_option linter.unusedVariables false
/-- What is put for a Dh: the zero node, which is right nowhere, where there is none. -/
def dhM (ns : List Nd) (x pub : Int) : Nd := if dhB ns x pub = true then dhN ns x pub else ⟨0, 0, 0, 0⟩
theorem zero_bad (e : Int) : nodeB ⟨0, 0, 0, 0⟩ e = false := by
  unfold nodeB; simp [inB]
theorem dhM_put (ns : List Nd) (x pub : Int) : putA ns (dhM ns x pub) = dhA ns x pub ∧ putK ns (dhM ns x pub) = dhK ns x pub := by
  unfold dhM dhA dhK
  by_cases h : dhB ns x pub = true
  · rw [if_pos h, if_pos h, if_pos h]; exact ⟨rfl, rfl⟩
  · rw [if_neg h, if_neg h, if_neg h]
    unfold putA putK
    rw [zero_bad]
    exact ⟨rfl, rfl⟩
set_option maxHeartbeats 800000 in
theorem dhNode_no (a : Option Addr) (cap : Nat) (ns : List Nd) (x pub : Int) (w : World) (hl : ns.length ≤ 1048576) (hr : RowN w.heap.size w a ns) (hd : dhB ns x pub = false) :
    Calls Try.prog 181 #[.agg #[.slice a ns.length cap], .int .i64 x, .int .i64 pub] w fun e w' => e = .returned (.agg #[.int .i64 0, .int .i64 0, .int .i64 0, .int .i64 0]) ∧ Below w.heap.size w w' := by
  have hb0 : Below w.heap.size w ((w.alloc (.cells #[.slice a ns.length cap] 28)).alloc (.cells #[.int .i64 0, .int .i64 0, .int .i64 0, .int .i64 0] 45)) := ((Below.refl _ _).alloc (Nat.le_refl _) _).alloc (by simp) _
  have hs0 : ((w.alloc (.cells #[.slice a ns.length cap] 28)).alloc (.cells #[.int .i64 0, .int .i64 0, .int .i64 0, .int .i64 0] 45)).heap.size = w.heap.size + 2 := by simp
  have hA0 : ((w.alloc (.cells #[.slice a ns.length cap] 28)).alloc (.cells #[.int .i64 0, .int .i64 0, .int .i64 0, .int .i64 0] 45)).heap[w.heap.size]? = some (.cells #[.slice a ns.length cap] 28 (0, 0)) := (heap_alloc_old _ _ (by simp)).trans (heap_alloc_new w _)
  have hN0 : ((w.alloc (.cells #[.slice a ns.length cap] 28)).alloc (.cells #[.int .i64 0, .int .i64 0, .int .i64 0, .int .i64 0] 45)).heap[w.heap.size + 1]? = some (.cells #[.int .i64 0, .int .i64 0, .int .i64 0, .int .i64 0] 45 (0, 0)) := by
    have := heap_alloc_new (w.alloc (.cells #[.slice a ns.length cap] 28)) (.cells #[.int .i64 0, .int .i64 0, .int .i64 0, .int .i64 0] 45)
    simpa using this
  have c0 : ((w.alloc (.cells #[.slice a ns.length cap] 28)).alloc (.cells #[.int .i64 0, .int .i64 0, .int .i64 0, .int .i64 0] 45)).cell? ⟨w.heap.size, 0, none⟩ = some (.slice a ns.length cap) := (cell_of_row _ _ 0 _ _ _ hA0).trans rfl
  have HR : Hid (RowN w.heap.size w a ns) := hr
  cases h6 : isK ns pub 6 with
  | false =>
    have HAT : Hid _ := implAt_no 6 a cap ns pub _ hl (hr.grown hb0) h6
    clear hr hd h6
    go_enter Try.func181, Try.ntmps181
    go_wp2_with fail
    generalize (w.alloc (.cells #[.slice a ns.length cap] 28)).alloc (.cells #[.int .i64 0, .int .i64 0, .int .i64 0, .int .i64 0] 45) = w0 at hb0 hs0 hA0 hN0 c0 HAT ⊢
    refine Calls.mono HAT.out ?_
    rintro e w1 ⟨rfl, hb1⟩
    have hs1 := hb1.size
    have hbq : Below w1.heap.size w1 (w1.alloc (.cells #[.int .i64 0, .int .i64 0, .int .i64 0, .int .i64 0] 45)) := (Below.refl _ _).alloc (Nat.le_refl _) _
    have hB0 : Below w0.heap.size w0 (w1.alloc (.cells #[.int .i64 0, .int .i64 0, .int .i64 0, .int .i64 0] 45)) := hb1.trans (hbq.mono hs1)
    have hBz : Below w.heap.size w (w1.alloc (.cells #[.int .i64 0, .int .i64 0, .int .i64 0, .int .i64 0] 45)) := hb0.trans (hB0.mono (by omega))
    have hNz : (w1.alloc (.cells #[.int .i64 0, .int .i64 0, .int .i64 0, .int .i64 0] 45)).heap[w.heap.size + 1]? = some (.cells #[.int .i64 0, .int .i64 0, .int .i64 0, .int .i64 0] 45 (0, 0)) := (hB0.block _ (by omega)).trans hN0
    have hAz : (w1.alloc (.cells #[.int .i64 0, .int .i64 0, .int .i64 0, .int .i64 0] 45)).heap[w.heap.size]? = some (.cells #[.slice a ns.length cap] 28 (0, 0)) := (hB0.block _ (by omega)).trans hA0
    have hQz := heap_alloc_new w1 (.cells #[.int .i64 0, .int .i64 0, .int .i64 0, .int .i64 0] 45)
    have cz : (w1.alloc (.cells #[.int .i64 0, .int .i64 0, .int .i64 0, .int .i64 0] 45)).cell? ⟨w.heap.size, 0, none⟩ = some (.slice a ns.length cap) := (cell_of_row _ _ 0 _ _ _ hAz).trans rfl
    have hsz : w1.heap.size < (w1.alloc (.cells #[.int .i64 0, .int .i64 0, .int .i64 0, .int .i64 0] 45)).heap.size := by simp
    have n0 : (w1.alloc (.cells #[.int .i64 0, .int .i64 0, .int .i64 0, .int .i64 0] 45)).cell? ⟨w.heap.size + 1, 0, none⟩ = some (.int .i64 0) := (cell_of_row (w1.alloc (.cells #[.int .i64 0, .int .i64 0, .int .i64 0, .int .i64 0] 45)) _ 0 _ _ _ hNz).trans rfl
    have n1 : (w1.alloc (.cells #[.int .i64 0, .int .i64 0, .int .i64 0, .int .i64 0] 45)).cell? ⟨w.heap.size + 1, 1, none⟩ = some (.int .i64 0) := (cell_of_row (w1.alloc (.cells #[.int .i64 0, .int .i64 0, .int .i64 0, .int .i64 0] 45)) _ 1 _ _ _ hNz).trans rfl
    have n2 : (w1.alloc (.cells #[.int .i64 0, .int .i64 0, .int .i64 0, .int .i64 0] 45)).cell? ⟨w.heap.size + 1, 2, none⟩ = some (.int .i64 0) := (cell_of_row (w1.alloc (.cells #[.int .i64 0, .int .i64 0, .int .i64 0, .int .i64 0] 45)) _ 2 _ _ _ hNz).trans rfl
    have n3 : (w1.alloc (.cells #[.int .i64 0, .int .i64 0, .int .i64 0, .int .i64 0] 45)).cell? ⟨w.heap.size + 1, 3, none⟩ = some (.int .i64 0) := (cell_of_row (w1.alloc (.cells #[.int .i64 0, .int .i64 0, .int .i64 0, .int .i64 0] 45)) _ 3 _ _ _ hNz).trans rfl
    have m0 : (w1.alloc (.cells #[.int .i64 0, .int .i64 0, .int .i64 0, .int .i64 0] 45)).frozen? ⟨w.heap.size + 1, 0, none⟩ = false := frozen_of_row (w1.alloc (.cells #[.int .i64 0, .int .i64 0, .int .i64 0, .int .i64 0] 45)) _ 0 _ _ hNz
    have m1 : (w1.alloc (.cells #[.int .i64 0, .int .i64 0, .int .i64 0, .int .i64 0] 45)).frozen? ⟨w.heap.size + 1, 1, none⟩ = false := frozen_of_row (w1.alloc (.cells #[.int .i64 0, .int .i64 0, .int .i64 0, .int .i64 0] 45)) _ 1 _ _ hNz
    have m2 : (w1.alloc (.cells #[.int .i64 0, .int .i64 0, .int .i64 0, .int .i64 0] 45)).frozen? ⟨w.heap.size + 1, 2, none⟩ = false := frozen_of_row (w1.alloc (.cells #[.int .i64 0, .int .i64 0, .int .i64 0, .int .i64 0] 45)) _ 2 _ _ hNz
    have m3 : (w1.alloc (.cells #[.int .i64 0, .int .i64 0, .int .i64 0, .int .i64 0] 45)).frozen? ⟨w.heap.size + 1, 3, none⟩ = false := frozen_of_row (w1.alloc (.cells #[.int .i64 0, .int .i64 0, .int .i64 0, .int .i64 0] 45)) _ 3 _ _ hNz
    have HBL : Hid _ := store4 hNz (.int .i64 0) (.int .i64 0) (.int .i64 0) (.int .i64 0)
    have HB : Hid _ := below4 (g := w.heap.size + 1) hBz (by omega) (.int .i64 0) (.int .i64 0) (.int .i64 0) (.int .i64 0)
    clear hb1 hbq hB0 hb0 hA0 hN0 c0 HAT hBz hNz hAz hQz HR
    go_wp2
    refine bodyPost_ret (results_cell_row rfl _ _ (w.heap.size + 1) 45 #[.int .i64 0, .int .i64 0, .int .i64 0, .int .i64 0] (0, 0) _ rfl ?_ Try.underlying45 rfl nodeSizeMk) rfl ?_
    · exact HBL.out
    · exact ⟨rfl, HB.out⟩
  | true =>
    have ho : okAt ns x = false := by unfold dhB at hd; rw [h6] at hd; simpa using hd
    have HAT : Hid _ := implAt_yes 6 a cap ns pub _ hl (hr.grown hb0) h6
    generalize ndAt ns pub = z at HAT
    clear hr hd h6
    go_enter Try.func181, Try.ntmps181
    go_wp2_with fail
    generalize (w.alloc (.cells #[.slice a ns.length cap] 28)).alloc (.cells #[.int .i64 0, .int .i64 0, .int .i64 0, .int .i64 0] 45) = w0 at hb0 hs0 hA0 hN0 c0 HAT ⊢
    refine Calls.mono HAT.out ?_
    rintro e w1 ⟨rfl, hb1⟩
    have hs1 := hb1.size
    have hbq : Below w1.heap.size w1 (w1.alloc (.cells #[.int .i64 z.k, .int .i64 z.n, .int .i64 z.a, .int .i64 z.b] 45)) := (Below.refl _ _).alloc (Nat.le_refl _) _
    have hB0 : Below w0.heap.size w0 (w1.alloc (.cells #[.int .i64 z.k, .int .i64 z.n, .int .i64 z.a, .int .i64 z.b] 45)) := hb1.trans (hbq.mono hs1)
    have hBz : Below w.heap.size w (w1.alloc (.cells #[.int .i64 z.k, .int .i64 z.n, .int .i64 z.a, .int .i64 z.b] 45)) := hb0.trans (hB0.mono (by omega))
    have hNz : (w1.alloc (.cells #[.int .i64 z.k, .int .i64 z.n, .int .i64 z.a, .int .i64 z.b] 45)).heap[w.heap.size + 1]? = some (.cells #[.int .i64 0, .int .i64 0, .int .i64 0, .int .i64 0] 45 (0, 0)) := (hB0.block _ (by omega)).trans hN0
    have hAz : (w1.alloc (.cells #[.int .i64 z.k, .int .i64 z.n, .int .i64 z.a, .int .i64 z.b] 45)).heap[w.heap.size]? = some (.cells #[.slice a ns.length cap] 28 (0, 0)) := (hB0.block _ (by omega)).trans hA0
    have hQz := heap_alloc_new w1 (.cells #[.int .i64 z.k, .int .i64 z.n, .int .i64 z.a, .int .i64 z.b] 45)
    have cz : (w1.alloc (.cells #[.int .i64 z.k, .int .i64 z.n, .int .i64 z.a, .int .i64 z.b] 45)).cell? ⟨w.heap.size, 0, none⟩ = some (.slice a ns.length cap) := (cell_of_row _ _ 0 _ _ _ hAz).trans rfl
    have hsz : w1.heap.size < (w1.alloc (.cells #[.int .i64 z.k, .int .i64 z.n, .int .i64 z.a, .int .i64 z.b] 45)).heap.size := by simp
    clear hb1 hbq hB0 hb0 hA0 hN0 c0 HAT
    go_wp2_with fail
    generalize w1.alloc (.cells #[.int .i64 z.k, .int .i64 z.n, .int .i64 z.a, .int .i64 z.b] 45) = wz at hBz hNz hAz hQz cz hsz ⊢
    have H2 : Hid _ := implOk_any a cap ns x wz hl (HR.out.grown hBz)
    rw [ho] at H2
    refine Calls.mono H2.out ?_
    rintro e w3 ⟨rfl, hb3⟩
    have hB3 : Below w.heap.size w w3 := hBz.trans (hb3.mono hBz.size)
    have hN3 := (hb3.block (w.heap.size + 1) (by omega)).trans hNz
    have n0 : w3.cell? ⟨w.heap.size + 1, 0, none⟩ = some (.int .i64 0) := (cell_of_row w3 _ 0 _ _ _ hN3).trans rfl
    have n1 : w3.cell? ⟨w.heap.size + 1, 1, none⟩ = some (.int .i64 0) := (cell_of_row w3 _ 1 _ _ _ hN3).trans rfl
    have n2 : w3.cell? ⟨w.heap.size + 1, 2, none⟩ = some (.int .i64 0) := (cell_of_row w3 _ 2 _ _ _ hN3).trans rfl
    have n3 : w3.cell? ⟨w.heap.size + 1, 3, none⟩ = some (.int .i64 0) := (cell_of_row w3 _ 3 _ _ _ hN3).trans rfl
    have m0 : w3.frozen? ⟨w.heap.size + 1, 0, none⟩ = false := frozen_of_row w3 _ 0 _ _ hN3
    have m1 : w3.frozen? ⟨w.heap.size + 1, 1, none⟩ = false := frozen_of_row w3 _ 1 _ _ hN3
    have m2 : w3.frozen? ⟨w.heap.size + 1, 2, none⟩ = false := frozen_of_row w3 _ 2 _ _ hN3
    have m3 : w3.frozen? ⟨w.heap.size + 1, 3, none⟩ = false := frozen_of_row w3 _ 3 _ _ hN3
    have HBL : Hid _ := store4 hN3 (.int .i64 0) (.int .i64 0) (.int .i64 0) (.int .i64 0)
    have HB : Hid _ := below4 (g := w.heap.size + 1) hB3 (by omega) (.int .i64 0) (.int .i64 0) (.int .i64 0) (.int .i64 0)
    clear hBz hNz hb3 H2 hAz hQz cz hB3 hN3 HR ho
    go_wp2
    refine bodyPost_ret (results_cell_row rfl _ _ (w.heap.size + 1) 45 #[.int .i64 0, .int .i64 0, .int .i64 0, .int .i64 0] (0, 0) _ rfl ?_ Try.underlying45 rfl nodeSizeMk) rfl ?_
    · exact HBL.out
    · exact ⟨rfl, HB.out⟩
set_option maxHeartbeats 1600000 in
set_option maxRecDepth 20000 in
theorem dhNode_yes (a : Option Addr) (cap : Nat) (ns : List Nd) (x pub : Int) (w : World) (hl : ns.length ≤ 1048576) (hr : RowN w.heap.size w a ns) (hd : dhB ns x pub = true) :
    Calls Try.prog 181 #[.agg #[.slice a ns.length cap], .int .i64 x, .int .i64 pub] w fun e w' => e = .returned (.agg #[.int .i64 (dhN ns x pub).k, .int .i64 (dhN ns x pub).n, .int .i64 (dhN ns x pub).a, .int .i64 (dhN ns x pub).b]) ∧ Below w.heap.size w w' := by
  have hb0 : Below w.heap.size w ((w.alloc (.cells #[.slice a ns.length cap] 28)).alloc (.cells #[.int .i64 0, .int .i64 0, .int .i64 0, .int .i64 0] 45)) := ((Below.refl _ _).alloc (Nat.le_refl _) _).alloc (by simp) _
  have hs0 : ((w.alloc (.cells #[.slice a ns.length cap] 28)).alloc (.cells #[.int .i64 0, .int .i64 0, .int .i64 0, .int .i64 0] 45)).heap.size = w.heap.size + 2 := by simp
  have hA0 : ((w.alloc (.cells #[.slice a ns.length cap] 28)).alloc (.cells #[.int .i64 0, .int .i64 0, .int .i64 0, .int .i64 0] 45)).heap[w.heap.size]? = some (.cells #[.slice a ns.length cap] 28 (0, 0)) := (heap_alloc_old _ _ (by simp)).trans (heap_alloc_new w _)
  have hN0 : ((w.alloc (.cells #[.slice a ns.length cap] 28)).alloc (.cells #[.int .i64 0, .int .i64 0, .int .i64 0, .int .i64 0] 45)).heap[w.heap.size + 1]? = some (.cells #[.int .i64 0, .int .i64 0, .int .i64 0, .int .i64 0] 45 (0, 0)) := by
    have := heap_alloc_new (w.alloc (.cells #[.slice a ns.length cap] 28)) (.cells #[.int .i64 0, .int .i64 0, .int .i64 0, .int .i64 0] 45)
    simpa using this
  have c0 : ((w.alloc (.cells #[.slice a ns.length cap] 28)).alloc (.cells #[.int .i64 0, .int .i64 0, .int .i64 0, .int .i64 0] 45)).cell? ⟨w.heap.size, 0, none⟩ = some (.slice a ns.length cap) := (cell_of_row _ _ 0 _ _ _ hA0).trans rfl
  have HR : Hid (RowN w.heap.size w a ns) := hr
  have h6 : isK ns pub 6 = true ∧ okAt ns x = true := by unfold dhB at hd; simpa using hd
  have HAT : Hid _ := implAt_yes 6 a cap ns pub _ hl (hr.grown hb0) h6.1
  have H2 : Hid (∀ wz, Below w.heap.size w wz → Calls Try.prog 37 #[.agg #[.slice a ns.length cap], .int .i64 x] wz fun e w' => e = .returned (.bool true) ∧ Below wz.heap.size wz w') := fun wz hz => by have := implOk_any a cap ns x wz hl (hr.grown hz); rw [h6.2] at this; exact this
  have HOR0 : ∀ wq, Below w.heap.size w wq → Calls Try.prog 193 #[.agg #[.slice a ns.length cap], .int .i64 x, .int .i64 (ndAt ns pub).a] wq fun e w' => e = .returned (.tuple #[.int .i64 (dhN ns x pub).a, .int .i64 (dhN ns x pub).b]) ∧ Below wq.heap.size wq w' := fun wq hq => inOrder_any a cap ns x (ndAt ns pub).a wq hl (hr.grown hq)
  have HN0 : ∀ wq, Calls Try.prog 185 #[.int .i64 7, .int .i64 (dhN ns x pub).a, .int .i64 (dhN ns x pub).b] wq fun e w' => e = .returned (.agg #[.int .i64 (dhN ns x pub).k, .int .i64 (dhN ns x pub).n, .int .i64 (dhN ns x pub).a, .int .i64 (dhN ns x pub).b]) ∧ Below wq.heap.size wq w' := fun wq => nodeOf_any 7 (dhN ns x pub).a (dhN ns x pub).b wq
  generalize dhN ns x pub = y at HOR0 HN0 ⊢
  generalize ndAt ns pub = z at HAT HOR0
  obtain ⟨o1, ho1⟩ : ∃ o, y.a = o := ⟨_, rfl⟩
  obtain ⟨o2, ho2⟩ : ∃ o, y.b = o := ⟨_, rfl⟩
  have HOR : Hid (∀ wq, Below w.heap.size w wq → Calls Try.prog 193 #[.agg #[.slice a ns.length cap], .int .i64 x, .int .i64 z.a] wq fun e w' => e = .returned (.tuple #[.int .i64 o1, .int .i64 o2]) ∧ Below wq.heap.size wq w') := by rw [← ho1, ← ho2]; exact HOR0
  have HN : Hid (∀ wq, Calls Try.prog 185 #[.int .i64 7, .int .i64 o1, .int .i64 o2] wq fun e w' => e = .returned (.agg #[.int .i64 y.k, .int .i64 y.n, .int .i64 y.a, .int .i64 y.b]) ∧ Below wq.heap.size wq w') := by rw [← ho1, ← ho2]; exact HN0
  clear hr hd h6 HOR0 HN0 ho1 ho2 HR
  go_enter Try.func181, Try.ntmps181
  go_wp2_with fail
  generalize (w.alloc (.cells #[.slice a ns.length cap] 28)).alloc (.cells #[.int .i64 0, .int .i64 0, .int .i64 0, .int .i64 0] 45) = w0 at hb0 hs0 hA0 hN0 c0 HAT ⊢
  refine Calls.mono HAT.out ?_
  rintro e w1 ⟨rfl, hb1⟩
  have hs1 := hb1.size
  have hbq : Below w1.heap.size w1 (w1.alloc (.cells #[.int .i64 z.k, .int .i64 z.n, .int .i64 z.a, .int .i64 z.b] 45)) := (Below.refl _ _).alloc (Nat.le_refl _) _
  have hB0 : Below w0.heap.size w0 (w1.alloc (.cells #[.int .i64 z.k, .int .i64 z.n, .int .i64 z.a, .int .i64 z.b] 45)) := hb1.trans (hbq.mono hs1)
  have hBz : Below w.heap.size w (w1.alloc (.cells #[.int .i64 z.k, .int .i64 z.n, .int .i64 z.a, .int .i64 z.b] 45)) := hb0.trans (hB0.mono (by omega))
  have hNz : (w1.alloc (.cells #[.int .i64 z.k, .int .i64 z.n, .int .i64 z.a, .int .i64 z.b] 45)).heap[w.heap.size + 1]? = some (.cells #[.int .i64 0, .int .i64 0, .int .i64 0, .int .i64 0] 45 (0, 0)) := (hB0.block _ (by omega)).trans hN0
  have hAz : (w1.alloc (.cells #[.int .i64 z.k, .int .i64 z.n, .int .i64 z.a, .int .i64 z.b] 45)).heap[w.heap.size]? = some (.cells #[.slice a ns.length cap] 28 (0, 0)) := (hB0.block _ (by omega)).trans hA0
  have hQz := heap_alloc_new w1 (.cells #[.int .i64 z.k, .int .i64 z.n, .int .i64 z.a, .int .i64 z.b] 45)
  have cz : (w1.alloc (.cells #[.int .i64 z.k, .int .i64 z.n, .int .i64 z.a, .int .i64 z.b] 45)).cell? ⟨w.heap.size, 0, none⟩ = some (.slice a ns.length cap) := (cell_of_row _ _ 0 _ _ _ hAz).trans rfl
  have hsz : w1.heap.size < (w1.alloc (.cells #[.int .i64 z.k, .int .i64 z.n, .int .i64 z.a, .int .i64 z.b] 45)).heap.size := by simp
  clear hb1 hbq hB0 hb0 hA0 hN0 c0 HAT
  go_wp2_with fail
  generalize w1.alloc (.cells #[.int .i64 z.k, .int .i64 z.n, .int .i64 z.a, .int .i64 z.b] 45) = wz at hBz hNz hAz hQz cz hsz ⊢
  refine (H2.out wz hBz).mono ?_
  rintro e w3 ⟨rfl, hb3⟩
  have hB3 : Below w.heap.size w w3 := hBz.trans (hb3.mono hBz.size)
  have hN3 := (hb3.block (w.heap.size + 1) (by omega)).trans hNz
  have cA : w3.cell? ⟨w.heap.size, 0, none⟩ = some (.slice a ns.length cap) := (hb3.cell (p := ⟨w.heap.size, 0, none⟩) (show w.heap.size < wz.heap.size by omega)).trans cz
  have cQ : w3.cell? ⟨w1.heap.size, 2, none⟩ = some (.int .i64 z.a) := (cell_of_row _ _ 2 _ _ _ ((hb3.block w1.heap.size hsz).trans hQz)).trans rfl
  have hs3 := hb3.size
  have HX : Hid (Below w.heap.size w w3 ∧ w3.heap[w.heap.size + 1]? = some (.cells #[.int .i64 0, .int .i64 0, .int .i64 0, .int .i64 0] 45 (0, 0)) ∧ w.heap.size + 1 < w3.heap.size) := ⟨hB3, hN3, by omega⟩
  clear hBz hNz hb3 H2 hAz hQz cz hN3
  go_wp2_with fail
  refine (HOR.out w3 hB3).mono ?_
  rintro e w4 ⟨rfl, hb4⟩
  have HX4 : Hid (Below w.heap.size w w4 ∧ w4.heap[w.heap.size + 1]? = some (.cells #[.int .i64 0, .int .i64 0, .int .i64 0, .int .i64 0] 45 (0, 0)) ∧ w.heap.size + 1 < w4.heap.size) := ⟨HX.out.1.trans (hb4.mono HX.out.1.size), (hb4.block _ HX.out.2.2).trans HX.out.2.1, by have := hb4.size; have := HX.out.2.2; omega⟩
  clear hB3 cA cQ HX hb4 HOR
  go_wp2_with fail
  refine (HN.out w4).mono ?_
  rintro e w5 ⟨rfl, hb5⟩
  have hB5 : Below w.heap.size w w5 := HX4.out.1.trans (hb5.mono HX4.out.1.size)
  have hN5 := (hb5.block _ HX4.out.2.2).trans HX4.out.2.1
  have n0 : w5.cell? ⟨w.heap.size + 1, 0, none⟩ = some (.int .i64 0) := (cell_of_row w5 _ 0 _ _ _ hN5).trans rfl
  have n1 : w5.cell? ⟨w.heap.size + 1, 1, none⟩ = some (.int .i64 0) := (cell_of_row w5 _ 1 _ _ _ hN5).trans rfl
  have n2 : w5.cell? ⟨w.heap.size + 1, 2, none⟩ = some (.int .i64 0) := (cell_of_row w5 _ 2 _ _ _ hN5).trans rfl
  have n3 : w5.cell? ⟨w.heap.size + 1, 3, none⟩ = some (.int .i64 0) := (cell_of_row w5 _ 3 _ _ _ hN5).trans rfl
  have m0 : w5.frozen? ⟨w.heap.size + 1, 0, none⟩ = false := frozen_of_row w5 _ 0 _ _ hN5
  have m1 : w5.frozen? ⟨w.heap.size + 1, 1, none⟩ = false := frozen_of_row w5 _ 1 _ _ hN5
  have m2 : w5.frozen? ⟨w.heap.size + 1, 2, none⟩ = false := frozen_of_row w5 _ 2 _ _ hN5
  have m3 : w5.frozen? ⟨w.heap.size + 1, 3, none⟩ = false := frozen_of_row w5 _ 3 _ _ hN5
  have HBL : Hid _ := store4 hN5 (.int .i64 y.k) (.int .i64 y.n) (.int .i64 y.a) (.int .i64 y.b)
  have HB : Hid _ := below4 (g := w.heap.size + 1) hB5 (by omega) (.int .i64 y.k) (.int .i64 y.n) (.int .i64 y.a) (.int .i64 y.b)
  clear hb5 HX4 hB5 hN5 HN
  go_wp2
  refine bodyPost_ret (results_cell_row rfl _ _ (w.heap.size + 1) 45 #[.int .i64 y.k, .int .i64 y.n, .int .i64 y.a, .int .i64 y.b] (0, 0) _ rfl ?_ Try.underlying45 rfl nodeSizeMk) rfl ?_
  · exact HBL.out
  · exact ⟨rfl, HB.out⟩
theorem dhNode_any (a : Option Addr) (cap : Nat) (ns : List Nd) (x pub : Int) (w : World) (hl : ns.length ≤ 1048576) (hr : RowN w.heap.size w a ns) :
    Calls Try.prog 181 #[.agg #[.slice a ns.length cap], .int .i64 x, .int .i64 pub] w fun e w' => e = .returned (.agg #[.int .i64 (dhM ns x pub).k, .int .i64 (dhM ns x pub).n, .int .i64 (dhM ns x pub).a, .int .i64 (dhM ns x pub).b]) ∧ Below w.heap.size w w' := by
  unfold dhM
  cases hd : dhB ns x pub with
  | false => rw [if_neg (by decide)]; exact dhNode_no a cap ns x pub w hl hr hd
  | true => rw [if_pos rfl]; exact dhNode_yes a cap ns x pub w hl hr hd
end Go.Proofs.Ytffnadnndmmliaa
