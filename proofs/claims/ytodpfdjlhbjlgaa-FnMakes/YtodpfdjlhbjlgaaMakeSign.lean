/- The contracts of chapter 4's Signed, the specification's and the program's. -/
import Derived.Test.YtodpfdjlhbjlgaaMakeIs
import Derived.Test.YtodpfdjlhbjlgaaLawArena2
import Derived.Test.YtodpfdjlhbjlgaaHeldQ
import Derived.WalkKit
import Derived.WalkLawsBesides
import Derived.WalkSpells
import Derived.Laws.Rows
import Derived.Deep.QuietTactic
import Derived.BigQuiet
namespace Go.Proofs.Ytodpfdjlhbjlgaa
open Go.RowKit
set_option linter.unusedVariables false

set_option maxHeartbeats 800000 in
theorem implSigned_any (a : Option Addr) (cap : Nat) (ns : List Nd) (pub k : Int) (w : World) (hl : ns.length ≤ 1048576) (hr : RowN w.heap.size w a ns) :
    Calls Try.prog 41 #[.agg #[.slice a ns.length cap], .int .i64 pub, .int .i64 k] w fun e w' => e = .returned (.tuple #[.int .i64 (signV ns pub k), .bool (signB ns pub k)]) ∧ Below w.heap.size w w' := by
  have hb0 : Below w.heap.size w (w.alloc (.cells #[.slice a ns.length cap] 26)) := (Below.refl _ _).alloc (Nat.le_refl _) _
  have hA0 := heap_alloc_new w (.cells #[.slice a ns.length cap] 26)
  have hs0 : (w.alloc (.cells #[.slice a ns.length cap] 26)).heap.size = w.heap.size + 1 := by simp
  have HR : Hid (RowN w.heap.size w a ns) := hr
  clear hr
  cases h6 : isK ns pub 6 with
  | false =>
    have e1 : signB ns pub k = false := by unfold signB; rw [h6]; rfl
    have e2 : signV ns pub k = -1 := by unfold signV; rw [e1]; rfl
    rw [e1, e2]
    have H6 : Hid _ := implAt_no 6 a cap ns pub _ hl (HR.out.grown hb0) h6
    clear e1 e2 h6
    cases h8 : isK ns k 8 with
    | false =>
      go_enter Try.func41, Try.ntmps41
      go_wp2_with fail
      refine Calls.mono H6.out ?_
      rintro e w1 ⟨rfl, hb1⟩
      have hB1 : Below w.heap.size w (w1.alloc (.cells #[.int .i64 0, .int .i64 0, .int .i64 0, .int .i64 0] 37)) := (hb0.trans (hb1.mono (by omega))).alloc (by have := hb1.size; omega) _
      have hs1 := hb1.size
      have hA1 : (w1.alloc (.cells #[.int .i64 0, .int .i64 0, .int .i64 0, .int .i64 0] 37)).cell? ⟨w.heap.size, 0, none⟩ = some (.slice a ns.length cap) := (((Below.refl w1.heap.size w1).alloc (Nat.le_refl _) _).cell (p := ⟨w.heap.size, 0, none⟩) (show w.heap.size < w1.heap.size by omega)).trans ((hb1.cell (p := ⟨w.heap.size, 0, none⟩) (by simp)).trans ((cell_of_row _ w.heap.size 0 _ _ _ hA0).trans rfl))
      have hP1 : (w1.alloc (.cells #[.int .i64 0, .int .i64 0, .int .i64 0, .int .i64 0] 37)).heap[w1.heap.size]? = some (.cells #[.int .i64 0, .int .i64 0, .int .i64 0, .int .i64 0] 37 (0, 0)) := heap_alloc_new w1 _
      have H8 : Hid _ := implAt_no 8 a cap ns k (w1.alloc (.cells #[.int .i64 0, .int .i64 0, .int .i64 0, .int .i64 0] 37)) hl (HR.out.grown hB1) h8
      clear H6 hb1
      go_wp2_with fail
      generalize w1.alloc (.cells #[.int .i64 0, .int .i64 0, .int .i64 0, .int .i64 0] 37) = w2 at hB1 hA1 hP1 H8 ⊢
      refine Calls.mono H8.out ?_
      rintro e w3 ⟨rfl, hb3⟩
      have hs2 : w1.heap.size < w2.heap.size := (Array.getElem?_eq_some_iff.1 hP1).1
      have hP3 := (hb3.block _ hs2).trans hP1
      have p2 : w3.cell? ⟨w1.heap.size, 2, none⟩ = some (.int .i64 0) := (cell_of_row _ _ 2 _ _ _ hP3).trans rfl
      have p2' : (w3.alloc (.cells #[.int .i64 0, .int .i64 0, .int .i64 0, .int .i64 0] 37)).cell? ⟨w1.heap.size, 2, none⟩ = some (.int .i64 0) := (((Below.refl w3.heap.size w3).alloc (Nat.le_refl _) _).cell (p := ⟨w1.heap.size, 2, none⟩) (show w1.heap.size < w3.heap.size by have := hb3.size; omega)).trans p2
      have HB : Hid (Below w.heap.size w (w3.alloc (.cells #[.int .i64 0, .int .i64 0, .int .i64 0, .int .i64 0] 37))) := (hB1.trans (hb3.mono (by have := hB1.size; omega))).alloc (by have := hb3.size; have := hB1.size; omega) _
      clear H8 hA0 hb0 hB1 hA1 hP1 hb3 hP3 p2
      go_wp2
      go_ret2
      exact ⟨rfl, HB.out⟩
    | true =>
      obtain ⟨y, hy⟩ : ∃ y, ndAt ns k = y := ⟨_, rfl⟩
      go_enter Try.func41, Try.ntmps41
      go_wp2_with fail
      refine Calls.mono H6.out ?_
      rintro e w1 ⟨rfl, hb1⟩
      have hB1 : Below w.heap.size w (w1.alloc (.cells #[.int .i64 0, .int .i64 0, .int .i64 0, .int .i64 0] 37)) := (hb0.trans (hb1.mono (by omega))).alloc (by have := hb1.size; omega) _
      have hs1 := hb1.size
      have hA1 : (w1.alloc (.cells #[.int .i64 0, .int .i64 0, .int .i64 0, .int .i64 0] 37)).cell? ⟨w.heap.size, 0, none⟩ = some (.slice a ns.length cap) := (((Below.refl w1.heap.size w1).alloc (Nat.le_refl _) _).cell (p := ⟨w.heap.size, 0, none⟩) (show w.heap.size < w1.heap.size by omega)).trans ((hb1.cell (p := ⟨w.heap.size, 0, none⟩) (by simp)).trans ((cell_of_row _ w.heap.size 0 _ _ _ hA0).trans rfl))
      have hP1 : (w1.alloc (.cells #[.int .i64 0, .int .i64 0, .int .i64 0, .int .i64 0] 37)).heap[w1.heap.size]? = some (.cells #[.int .i64 0, .int .i64 0, .int .i64 0, .int .i64 0] 37 (0, 0)) := heap_alloc_new w1 _
      have H8 : Hid _ := implAt_yes 8 a cap ns k (w1.alloc (.cells #[.int .i64 0, .int .i64 0, .int .i64 0, .int .i64 0] 37)) hl (HR.out.grown hB1) h8
      rw [hy] at H8
      clear H6 hb1
      go_wp2_with fail
      generalize w1.alloc (.cells #[.int .i64 0, .int .i64 0, .int .i64 0, .int .i64 0] 37) = w2 at hB1 hA1 hP1 H8 ⊢
      refine Calls.mono H8.out ?_
      rintro e w3 ⟨rfl, hb3⟩
      have hs2 : w1.heap.size < w2.heap.size := (Array.getElem?_eq_some_iff.1 hP1).1
      have hP3 := (hb3.block _ hs2).trans hP1
      have p2 : w3.cell? ⟨w1.heap.size, 2, none⟩ = some (.int .i64 0) := (cell_of_row _ _ 2 _ _ _ hP3).trans rfl
      have p2' : (w3.alloc (.cells #[.int .i64 y.k, .int .i64 y.n, .int .i64 y.a, .int .i64 y.b] 37)).cell? ⟨w1.heap.size, 2, none⟩ = some (.int .i64 0) := (((Below.refl w3.heap.size w3).alloc (Nat.le_refl _) _).cell (p := ⟨w1.heap.size, 2, none⟩) (show w1.heap.size < w3.heap.size by have := hb3.size; omega)).trans p2
      have HB : Hid (Below w.heap.size w (w3.alloc (.cells #[.int .i64 y.k, .int .i64 y.n, .int .i64 y.a, .int .i64 y.b] 37))) := (hB1.trans (hb3.mono (by have := hB1.size; omega))).alloc (by have := hb3.size; have := hB1.size; omega) _
      clear H8 hA0 hb0 hB1 hA1 hP1 hb3 hP3 p2
      go_wp2
      go_ret2
      exact ⟨rfl, HB.out⟩
  | true =>
    have H6 : Hid _ := implAt_yes 6 a cap ns pub _ hl (HR.out.grown hb0) h6
    cases h8 : isK ns k 8 with
    | false =>
      have e1 : signB ns pub k = false := by unfold signB; rw [h6, h8]; rfl
      have e2 : signV ns pub k = -1 := by unfold signV; rw [e1]; rfl
      rw [e1, e2]
      generalize ndAt ns pub = z at H6
      clear e1 e2 h6
      go_enter Try.func41, Try.ntmps41
      go_wp2_with fail
      refine Calls.mono H6.out ?_
      rintro e w1 ⟨rfl, hb1⟩
      have hB1 : Below w.heap.size w (w1.alloc (.cells #[.int .i64 z.k, .int .i64 z.n, .int .i64 z.a, .int .i64 z.b] 37)) := (hb0.trans (hb1.mono (by omega))).alloc (by have := hb1.size; omega) _
      have hs1 := hb1.size
      have hA1 : (w1.alloc (.cells #[.int .i64 z.k, .int .i64 z.n, .int .i64 z.a, .int .i64 z.b] 37)).cell? ⟨w.heap.size, 0, none⟩ = some (.slice a ns.length cap) := (((Below.refl w1.heap.size w1).alloc (Nat.le_refl _) _).cell (p := ⟨w.heap.size, 0, none⟩) (show w.heap.size < w1.heap.size by omega)).trans ((hb1.cell (p := ⟨w.heap.size, 0, none⟩) (by simp)).trans ((cell_of_row _ w.heap.size 0 _ _ _ hA0).trans rfl))
      have hP1 : (w1.alloc (.cells #[.int .i64 z.k, .int .i64 z.n, .int .i64 z.a, .int .i64 z.b] 37)).heap[w1.heap.size]? = some (.cells #[.int .i64 z.k, .int .i64 z.n, .int .i64 z.a, .int .i64 z.b] 37 (0, 0)) := heap_alloc_new w1 _
      have H8 : Hid _ := implAt_no 8 a cap ns k (w1.alloc (.cells #[.int .i64 z.k, .int .i64 z.n, .int .i64 z.a, .int .i64 z.b] 37)) hl (HR.out.grown hB1) h8
      clear H6 hb1
      go_wp2_with fail
      generalize w1.alloc (.cells #[.int .i64 z.k, .int .i64 z.n, .int .i64 z.a, .int .i64 z.b] 37) = w2 at hB1 hA1 hP1 H8 ⊢
      refine Calls.mono H8.out ?_
      rintro e w3 ⟨rfl, hb3⟩
      have hs2 : w1.heap.size < w2.heap.size := (Array.getElem?_eq_some_iff.1 hP1).1
      have hP3 := (hb3.block _ hs2).trans hP1
      have p2 : w3.cell? ⟨w1.heap.size, 2, none⟩ = some (.int .i64 z.a) := (cell_of_row _ _ 2 _ _ _ hP3).trans rfl
      have p2' : (w3.alloc (.cells #[.int .i64 0, .int .i64 0, .int .i64 0, .int .i64 0] 37)).cell? ⟨w1.heap.size, 2, none⟩ = some (.int .i64 z.a) := (((Below.refl w3.heap.size w3).alloc (Nat.le_refl _) _).cell (p := ⟨w1.heap.size, 2, none⟩) (show w1.heap.size < w3.heap.size by have := hb3.size; omega)).trans p2
      have HB : Hid (Below w.heap.size w (w3.alloc (.cells #[.int .i64 0, .int .i64 0, .int .i64 0, .int .i64 0] 37))) := (hB1.trans (hb3.mono (by have := hB1.size; omega))).alloc (by have := hb3.size; have := hB1.size; omega) _
      clear H8 hA0 hb0 hB1 hA1 hP1 hb3 hP3 p2
      go_wp2
      go_ret2
      exact ⟨rfl, HB.out⟩
    | true =>
      have e1 : signB ns pub k = decide ((ndAt ns k).a = (ndAt ns pub).a) := by unfold signB; rw [h6, h8]; rfl
      have e2 : signV ns pub k = if (ndAt ns k).a = (ndAt ns pub).a then (ndAt ns k).b else -1 := by unfold signV; rw [e1]; simp
      rw [e1, e2]
      generalize ndAt ns pub = z at H6 ⊢
      obtain ⟨y, hy⟩ : ∃ y, ndAt ns k = y := ⟨_, rfl⟩
      rw [hy]
      clear e1 e2 h6
      by_cases hk : y.a = z.a
      · have hk' : (y.a == z.a) = true := by simp [hk]
        rw [if_pos hk, decide_eq_true hk]
        clear hk
        go_enter Try.func41, Try.ntmps41
        go_wp2_with fail
        refine Calls.mono H6.out ?_
        rintro e w1 ⟨rfl, hb1⟩
        have hB1 : Below w.heap.size w (w1.alloc (.cells #[.int .i64 z.k, .int .i64 z.n, .int .i64 z.a, .int .i64 z.b] 37)) := (hb0.trans (hb1.mono (by omega))).alloc (by have := hb1.size; omega) _
        have hs1 := hb1.size
        have hA1 : (w1.alloc (.cells #[.int .i64 z.k, .int .i64 z.n, .int .i64 z.a, .int .i64 z.b] 37)).cell? ⟨w.heap.size, 0, none⟩ = some (.slice a ns.length cap) := (((Below.refl w1.heap.size w1).alloc (Nat.le_refl _) _).cell (p := ⟨w.heap.size, 0, none⟩) (show w.heap.size < w1.heap.size by omega)).trans ((hb1.cell (p := ⟨w.heap.size, 0, none⟩) (by simp)).trans ((cell_of_row _ w.heap.size 0 _ _ _ hA0).trans rfl))
        have hP1 : (w1.alloc (.cells #[.int .i64 z.k, .int .i64 z.n, .int .i64 z.a, .int .i64 z.b] 37)).heap[w1.heap.size]? = some (.cells #[.int .i64 z.k, .int .i64 z.n, .int .i64 z.a, .int .i64 z.b] 37 (0, 0)) := heap_alloc_new w1 _
        have H8 : Hid _ := implAt_yes 8 a cap ns k (w1.alloc (.cells #[.int .i64 z.k, .int .i64 z.n, .int .i64 z.a, .int .i64 z.b] 37)) hl (HR.out.grown hB1) h8
        rw [hy] at H8
        clear H6 hb1
        go_wp2_with fail
        generalize w1.alloc (.cells #[.int .i64 z.k, .int .i64 z.n, .int .i64 z.a, .int .i64 z.b] 37) = w2 at hB1 hA1 hP1 H8 ⊢
        refine Calls.mono H8.out ?_
        rintro e w3 ⟨rfl, hb3⟩
        have hs2 : w1.heap.size < w2.heap.size := (Array.getElem?_eq_some_iff.1 hP1).1
        have hP3 := (hb3.block _ hs2).trans hP1
        have p2 : w3.cell? ⟨w1.heap.size, 2, none⟩ = some (.int .i64 z.a) := (cell_of_row _ _ 2 _ _ _ hP3).trans rfl
        have p2' : (w3.alloc (.cells #[.int .i64 y.k, .int .i64 y.n, .int .i64 y.a, .int .i64 y.b] 37)).cell? ⟨w1.heap.size, 2, none⟩ = some (.int .i64 z.a) := (((Below.refl w3.heap.size w3).alloc (Nat.le_refl _) _).cell (p := ⟨w1.heap.size, 2, none⟩) (show w1.heap.size < w3.heap.size by have := hb3.size; omega)).trans p2
        have HB : Hid (Below w.heap.size w (w3.alloc (.cells #[.int .i64 y.k, .int .i64 y.n, .int .i64 y.a, .int .i64 y.b] 37))) := (hB1.trans (hb3.mono (by have := hB1.size; omega))).alloc (by have := hb3.size; have := hB1.size; omega) _
        clear H8 hA0 hb0 hB1 hA1 hP1 hb3 hP3 p2
        go_wp2
        go_ret2
        exact ⟨rfl, HB.out⟩
      · have hk' : (y.a == z.a) = false := by simp [hk]
        rw [if_neg hk, decide_eq_false hk]
        clear hk
        go_enter Try.func41, Try.ntmps41
        go_wp2_with fail
        refine Calls.mono H6.out ?_
        rintro e w1 ⟨rfl, hb1⟩
        have hB1 : Below w.heap.size w (w1.alloc (.cells #[.int .i64 z.k, .int .i64 z.n, .int .i64 z.a, .int .i64 z.b] 37)) := (hb0.trans (hb1.mono (by omega))).alloc (by have := hb1.size; omega) _
        have hs1 := hb1.size
        have hA1 : (w1.alloc (.cells #[.int .i64 z.k, .int .i64 z.n, .int .i64 z.a, .int .i64 z.b] 37)).cell? ⟨w.heap.size, 0, none⟩ = some (.slice a ns.length cap) := (((Below.refl w1.heap.size w1).alloc (Nat.le_refl _) _).cell (p := ⟨w.heap.size, 0, none⟩) (show w.heap.size < w1.heap.size by omega)).trans ((hb1.cell (p := ⟨w.heap.size, 0, none⟩) (by simp)).trans ((cell_of_row _ w.heap.size 0 _ _ _ hA0).trans rfl))
        have hP1 : (w1.alloc (.cells #[.int .i64 z.k, .int .i64 z.n, .int .i64 z.a, .int .i64 z.b] 37)).heap[w1.heap.size]? = some (.cells #[.int .i64 z.k, .int .i64 z.n, .int .i64 z.a, .int .i64 z.b] 37 (0, 0)) := heap_alloc_new w1 _
        have H8 : Hid _ := implAt_yes 8 a cap ns k (w1.alloc (.cells #[.int .i64 z.k, .int .i64 z.n, .int .i64 z.a, .int .i64 z.b] 37)) hl (HR.out.grown hB1) h8
        rw [hy] at H8
        clear H6 hb1
        go_wp2_with fail
        generalize w1.alloc (.cells #[.int .i64 z.k, .int .i64 z.n, .int .i64 z.a, .int .i64 z.b] 37) = w2 at hB1 hA1 hP1 H8 ⊢
        refine Calls.mono H8.out ?_
        rintro e w3 ⟨rfl, hb3⟩
        have hs2 : w1.heap.size < w2.heap.size := (Array.getElem?_eq_some_iff.1 hP1).1
        have hP3 := (hb3.block _ hs2).trans hP1
        have p2 : w3.cell? ⟨w1.heap.size, 2, none⟩ = some (.int .i64 z.a) := (cell_of_row _ _ 2 _ _ _ hP3).trans rfl
        have p2' : (w3.alloc (.cells #[.int .i64 y.k, .int .i64 y.n, .int .i64 y.a, .int .i64 y.b] 37)).cell? ⟨w1.heap.size, 2, none⟩ = some (.int .i64 z.a) := (((Below.refl w3.heap.size w3).alloc (Nat.le_refl _) _).cell (p := ⟨w1.heap.size, 2, none⟩) (show w1.heap.size < w3.heap.size by have := hb3.size; omega)).trans p2
        have HB : Hid (Below w.heap.size w (w3.alloc (.cells #[.int .i64 y.k, .int .i64 y.n, .int .i64 y.a, .int .i64 y.b] 37))) := (hB1.trans (hb3.mono (by have := hB1.size; omega))).alloc (by have := hb3.size; have := hB1.size; omega) _
        clear H8 hA0 hb0 hB1 hA1 hP1 hb3 hP3 p2
        go_wp2
        go_ret2
        exact ⟨rfl, HB.out⟩
end Go.Proofs.Ytodpfdjlhbjlgaa
