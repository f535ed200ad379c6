/- The contracts of chapter 4's Signed, the specification's and the program's. -/
import Derived.Test.YtaanophnnkmkbaaGreatMakeIs
import Derived.Test.YtaanophnnkmkbaaGreatPlainRT2
import Derived.Test.YtaanophnnkmkbaaGreatPlainTerm
import Derived.WalkKit
import Derived.WalkLawsBesides
import Derived.WalkSpells
import Derived.Laws.Rows
import Derived.Deep.QuietTactic
import Derived.BigQuiet
namespace Go.Proofs.YtaanophnnkmkbaaGreat
open Go.RowKit
set_option linter.unusedVariables false

set_option maxHeartbeats 800000 in
theorem specSigned_any (a : Option Addr) (cap : Nat) (ns : List Nd) (pub k : Int) (w : World) (hl : ns.length ≤ 1048576) (hr : RowN w.heap.size w a ns) :
    Calls Tryz.prog 120 #[.agg #[.slice a ns.length cap], .int .i64 pub, .int .i64 k] w fun e w' => e = .returned (.tuple #[.int .i64 (signV ns pub k), .bool (signB ns pub k)]) ∧ Below w.heap.size w w' := by
  have hb0 : Below w.heap.size w (w.alloc (.cells #[.slice a ns.length cap] 26)) := (Below.refl _ _).alloc (Nat.le_refl _) _
  have hA0 := heap_alloc_new w (.cells #[.slice a ns.length cap] 26)
  have hs0 : (w.alloc (.cells #[.slice a ns.length cap] 26)).heap.size = w.heap.size + 1 := by simp
  obtain ⟨S, hS0, hNE, HK⟩ := below_class (Below.refl (w.alloc (.cells #[.slice a ns.length cap] 26)).heap.size (w.alloc (.cells #[.slice a ns.length cap] 26))) (Nat.le_refl _)
  have hr0 := hr.grown hb0
  have H6 : Hid (∀ s : Hw S, Calls Tryz.prog 114 #[.agg #[.slice a ns.length cap], .int .i64 pub, .int .i64 6] s.w fun e w' => e = .returned (.bool (isK ns pub 6)) ∧ Below s.w.heap.size s.w w') := fun s => specIs_any a cap ns pub 6 s.w hl (hr0.grown (HK.out.2 _ s.ok))
  have H8 : Hid (∀ s : Hw S, Calls Tryz.prog 114 #[.agg #[.slice a ns.length cap], .int .i64 k, .int .i64 8] s.w fun e w' => e = .returned (.bool (isK ns k 8)) ∧ Below s.w.heap.size s.w w') := fun s => specIs_any a cap ns k 8 s.w hl (hr0.grown (HK.out.2 _ s.ok))
  have q : ∀ s : Hw S, s.w.cell? ⟨w.heap.size, 0, none⟩ = some (.slice a ns.length cap) := fun s => ((HK.out.2 _ s.ok).cell (p := ⟨w.heap.size, 0, none⟩) (by simp)).trans ((cell_of_row _ w.heap.size 0 _ _ _ hA0).trans rfl)
  cases h6 : isK ns pub 6 with
  | false =>
    have e1 : signB ns pub k = false := by unfold signB; rw [h6]; rfl
    have e2 : signV ns pub k = -1 := by unfold signV; rw [e1]; rfl
    rw [e1, e2]
    rw [h6] at H6
    clear hr hr0 e1 e2 h6 H8
    go_enter Tryz.func120, Tryz.ntmps120
    go_wp2_with fail
    refine wp_region_held (S := S) (by kernel_rfl) (by kernel_rfl) hS0 ?_
    repeat (go_big_quiet_step ((go_at_call 114; exact Calls.held (H6.out _) (HK.out.1 _))))
    refine wpQuiet_nil ?_
    rintro _ ⟨sw, rfl⟩
    have HB : Hid (Below w.heap.size w sw.w) := hb0.trans ((HK.out.2 _ sw.ok).mono (by omega))
    clear hb0 hA0 HK q hS0
    go_wp2
    go_ret2
    exact ⟨rfl, HB.out⟩
  | true =>
    rw [h6] at H6
    cases h8 : isK ns k 8 with
    | false =>
      have e1 : signB ns pub k = false := by unfold signB; rw [h6, h8]; rfl
      have e2 : signV ns pub k = -1 := by unfold signV; rw [e1]; rfl
      rw [e1, e2]
      rw [h8] at H8
      have H68 : Hid (∀ (s : Hw S) (x y : Int) (d : Bool), (x = pub ∧ y = 6 ∧ d = true) ∨ (x = k ∧ y = 8 ∧ d = false) → Calls Tryz.prog 114 #[.agg #[.slice a ns.length cap], .int .i64 x, .int .i64 y] s.w fun e w' => e = .returned (.bool d) ∧ Below s.w.heap.size s.w w') := fun s x y d h => by
        rcases h with ⟨rfl, rfl, rfl⟩ | ⟨rfl, rfl, rfl⟩
        · exact H6.out s
        · exact H8.out s
      clear hr hr0 e1 e2 h6 h8 H6 H8
      go_enter Tryz.func120, Tryz.ntmps120
      go_wp2_with fail
      refine wp_region_held (S := S) (by kernel_rfl) (by kernel_rfl) hS0 ?_
      repeat (go_big_quiet_step (first | (go_at_call 114; refine Calls.held (H68.out _ _ _ true ?_) (HK.out.1 _); exact .inl ⟨rfl, rfl, rfl⟩) | (go_at_call 114; refine Calls.held (H68.out _ _ _ false ?_) (HK.out.1 _); exact .inr ⟨rfl, rfl, rfl⟩)))
      refine wpQuiet_nil ?_
      rintro _ ⟨sw, rfl⟩
      have HB : Hid (Below w.heap.size w sw.w) := hb0.trans ((HK.out.2 _ sw.ok).mono (by omega))
      clear hb0 hA0 HK q hS0
      go_wp2
      go_ret2
      exact ⟨rfl, HB.out⟩
    | true =>
      have e1 : signB ns pub k = decide ((ndAt ns k).a = (ndAt ns pub).a) := by unfold signB; rw [h6, h8]; rfl
      have e2 : signV ns pub k = if (ndAt ns k).a = (ndAt ns pub).a then (ndAt ns k).b else -1 := by unfold signV; rw [e1]; simp
      rw [e1, e2]
      rw [h8] at H8
      have H68 : Hid (∀ (s : Hw S) (x y : Int) (d : Bool), (x = pub ∧ y = 6 ∧ d = true) ∨ (x = k ∧ y = 8 ∧ d = true) → Calls Tryz.prog 114 #[.agg #[.slice a ns.length cap], .int .i64 x, .int .i64 y] s.w fun e w' => e = .returned (.bool d) ∧ Below s.w.heap.size s.w w') := fun s x y d h => by
        rcases h with ⟨rfl, rfl, rfl⟩ | ⟨rfl, rfl, rfl⟩
        · exact H6.out s
        · exact H8.out s
      clear H6 H8
      obtain ⟨i, rfl, hi⟩ := okAt_in (isK_ok h8).1
      obtain ⟨j, rfl, hj⟩ := okAt_in (isK_ok h6).1
      obtain ⟨b, off, rfl⟩ := hr.addr hi
      obtain ⟨hb, c0, c1, c2, c3⟩ := hr.at (Below.refl _ _) hi
      obtain ⟨-, d0, d1, d2, d3⟩ := hr.at (Below.refl _ _) hj
      have hi0 : (0 : Int) ≤ (i : Int) := by omega
      have hi1 : (i : Int) < (ns.length : Int) := by omega
      have hj0 : (0 : Int) ≤ (j : Int) := by omega
      have hj1 : (j : Int) < (ns.length : Int) := by omega
      rw [ndAt_nat, ndAt_nat]
      generalize ns.getD i Nd.zero = y at c0 c1 c2 c3 ⊢
      generalize ns.getD j Nd.zero = z at d0 d1 d2 d3 ⊢
      have q2 : ∀ s : Hw S, s.w.cell? ⟨b, off + i * 4 + 2, none⟩ = some (.int .i64 y.a) := fun s => ((hb0.trans ((HK.out.2 _ s.ok).mono (by omega))).cell hb).trans c2
      have p2 : ∀ s : Hw S, s.w.cell? ⟨b, off + j * 4 + 2, none⟩ = some (.int .i64 z.a) := fun s => ((hb0.trans ((HK.out.2 _ s.ok).mono (by omega))).cell hb).trans d2
      clear hr hr0 e1 e2 h6 h8 c0 c1 c2 d0 d1 d2 d3
      by_cases hk : y.a = z.a
      · have hk' : (y.a == z.a) = true := by simp [hk]
        rw [if_pos hk, decide_eq_true hk]
        clear hk
        go_enter Tryz.func120, Tryz.ntmps120
        go_wp2_with fail
        refine wp_region_held (S := S) (by kernel_rfl) (by kernel_rfl) hS0 ?_
        repeat (go_big_quiet_step (first | (go_at_call 114; refine Calls.held (H68.out _ _ _ true ?_) (HK.out.1 _); exact .inl ⟨rfl, rfl, rfl⟩) | (go_at_call 114; refine Calls.held (H68.out _ _ _ true ?_) (HK.out.1 _); exact .inr ⟨rfl, rfl, rfl⟩)))
        refine wpQuiet_nil ?_
        rintro _ ⟨sw, rfl⟩
        have HB : Hid (Below w.heap.size w sw.w) := hb0.trans ((HK.out.2 _ sw.ok).mono (by omega))
        have r0 := q sw
        have r3 := (HB.out.cell hb).trans c3
        clear hb0 hA0 HK q hS0 q2 p2 c3
        go_wp2
        go_ret2
        exact ⟨rfl, HB.out⟩
      · have hk' : (y.a == z.a) = false := by simp [hk]
        rw [if_neg hk, decide_eq_false hk]
        clear hk
        go_enter Tryz.func120, Tryz.ntmps120
        go_wp2_with fail
        refine wp_region_held (S := S) (by kernel_rfl) (by kernel_rfl) hS0 ?_
        repeat (go_big_quiet_step (first | (go_at_call 114; refine Calls.held (H68.out _ _ _ true ?_) (HK.out.1 _); exact .inl ⟨rfl, rfl, rfl⟩) | (go_at_call 114; refine Calls.held (H68.out _ _ _ true ?_) (HK.out.1 _); exact .inr ⟨rfl, rfl, rfl⟩)))
        refine wpQuiet_nil ?_
        rintro _ ⟨sw, rfl⟩
        have HB : Hid (Below w.heap.size w sw.w) := hb0.trans ((HK.out.2 _ sw.ok).mono (by omega))
        clear hb0 hA0 HK q hS0 q2 p2 c3
        go_wp2
        go_ret2
        exact ⟨rfl, HB.out⟩

set_option maxHeartbeats 800000 in
theorem implSigned_any (a : Option Addr) (cap : Nat) (ns : List Nd) (pub k : Int) (w : World) (hl : ns.length ≤ 1048576) (hr : RowN w.heap.size w a ns) :
    Calls Tryz.prog 70 #[.agg #[.slice a ns.length cap], .int .i64 pub, .int .i64 k] w fun e w' => e = .returned (.tuple #[.int .i64 (signV ns pub k), .bool (signB ns pub k)]) ∧ Below w.heap.size w w' := by
  have hb0 : Below w.heap.size w (w.alloc (.cells #[.slice a ns.length cap] 26)) := (Below.refl _ _).alloc (Nat.le_refl _) _
  have hA0 := heap_alloc_new w (.cells #[.slice a ns.length cap] 26)
  have hs0 : (w.alloc (.cells #[.slice a ns.length cap] 26)).heap.size = w.heap.size + 1 := by simp
  have HR : Hid (RowN w.heap.size w a ns) := hr
  clear hr
  cases h6 : isK ns pub 6 with
  | false =>
    have e1 : signB ns pub k = false := by unfold signB; rw [h6]; rfl
    have e2 : signV ns pub k = -1 := by unfold signV; rw [e1]; rfl
    rw [e1, e2]
    have H6 : Hid _ := implAt_no 6 a cap ns pub _ hl (HR.out.grown hb0) h6
    clear e1 e2 h6
    cases h8 : isK ns k 8 with
    | false =>
      go_enter Tryz.func70, Tryz.ntmps70
      go_wp2_with fail
      refine Calls.mono H6.out ?_
      rintro e w1 ⟨rfl, hb1⟩
      have hB1 : Below w.heap.size w (w1.alloc (.cells #[.int .i64 0, .int .i64 0, .int .i64 0, .int .i64 0] 86)) := (hb0.trans (hb1.mono (by omega))).alloc (by have := hb1.size; omega) _
      have hs1 := hb1.size
      have hA1 : (w1.alloc (.cells #[.int .i64 0, .int .i64 0, .int .i64 0, .int .i64 0] 86)).cell? ⟨w.heap.size, 0, none⟩ = some (.slice a ns.length cap) := (((Below.refl w1.heap.size w1).alloc (Nat.le_refl _) _).cell (p := ⟨w.heap.size, 0, none⟩) (show w.heap.size < w1.heap.size by omega)).trans ((hb1.cell (p := ⟨w.heap.size, 0, none⟩) (by simp)).trans ((cell_of_row _ w.heap.size 0 _ _ _ hA0).trans rfl))
      have hP1 : (w1.alloc (.cells #[.int .i64 0, .int .i64 0, .int .i64 0, .int .i64 0] 86)).heap[w1.heap.size]? = some (.cells #[.int .i64 0, .int .i64 0, .int .i64 0, .int .i64 0] 86 (0, 0)) := heap_alloc_new w1 _
      have H8 : Hid _ := implAt_no 8 a cap ns k (w1.alloc (.cells #[.int .i64 0, .int .i64 0, .int .i64 0, .int .i64 0] 86)) hl (HR.out.grown hB1) h8
      clear H6 hb1
      go_wp2_with fail
      generalize w1.alloc (.cells #[.int .i64 0, .int .i64 0, .int .i64 0, .int .i64 0] 86) = w2 at hB1 hA1 hP1 H8 ⊢
      refine Calls.mono H8.out ?_
      rintro e w3 ⟨rfl, hb3⟩
      have hs2 : w1.heap.size < w2.heap.size := (Array.getElem?_eq_some_iff.1 hP1).1
      have hP3 := (hb3.block _ hs2).trans hP1
      have p2 : w3.cell? ⟨w1.heap.size, 2, none⟩ = some (.int .i64 0) := (cell_of_row _ _ 2 _ _ _ hP3).trans rfl
      have p2' : (w3.alloc (.cells #[.int .i64 0, .int .i64 0, .int .i64 0, .int .i64 0] 86)).cell? ⟨w1.heap.size, 2, none⟩ = some (.int .i64 0) := (((Below.refl w3.heap.size w3).alloc (Nat.le_refl _) _).cell (p := ⟨w1.heap.size, 2, none⟩) (show w1.heap.size < w3.heap.size by have := hb3.size; omega)).trans p2
      have HB : Hid (Below w.heap.size w (w3.alloc (.cells #[.int .i64 0, .int .i64 0, .int .i64 0, .int .i64 0] 86))) := (hB1.trans (hb3.mono (by have := hB1.size; omega))).alloc (by have := hb3.size; have := hB1.size; omega) _
      clear H8 hA0 hb0 hB1 hA1 hP1 hb3 hP3 p2
      go_wp2
      go_ret2
      exact ⟨rfl, HB.out⟩
    | true =>
      obtain ⟨y, hy⟩ : ∃ y, ndAt ns k = y := ⟨_, rfl⟩
      go_enter Tryz.func70, Tryz.ntmps70
      go_wp2_with fail
      refine Calls.mono H6.out ?_
      rintro e w1 ⟨rfl, hb1⟩
      have hB1 : Below w.heap.size w (w1.alloc (.cells #[.int .i64 0, .int .i64 0, .int .i64 0, .int .i64 0] 86)) := (hb0.trans (hb1.mono (by omega))).alloc (by have := hb1.size; omega) _
      have hs1 := hb1.size
      have hA1 : (w1.alloc (.cells #[.int .i64 0, .int .i64 0, .int .i64 0, .int .i64 0] 86)).cell? ⟨w.heap.size, 0, none⟩ = some (.slice a ns.length cap) := (((Below.refl w1.heap.size w1).alloc (Nat.le_refl _) _).cell (p := ⟨w.heap.size, 0, none⟩) (show w.heap.size < w1.heap.size by omega)).trans ((hb1.cell (p := ⟨w.heap.size, 0, none⟩) (by simp)).trans ((cell_of_row _ w.heap.size 0 _ _ _ hA0).trans rfl))
      have hP1 : (w1.alloc (.cells #[.int .i64 0, .int .i64 0, .int .i64 0, .int .i64 0] 86)).heap[w1.heap.size]? = some (.cells #[.int .i64 0, .int .i64 0, .int .i64 0, .int .i64 0] 86 (0, 0)) := heap_alloc_new w1 _
      have H8 : Hid _ := implAt_yes 8 a cap ns k (w1.alloc (.cells #[.int .i64 0, .int .i64 0, .int .i64 0, .int .i64 0] 86)) hl (HR.out.grown hB1) h8
      rw [hy] at H8
      clear H6 hb1
      go_wp2_with fail
      generalize w1.alloc (.cells #[.int .i64 0, .int .i64 0, .int .i64 0, .int .i64 0] 86) = w2 at hB1 hA1 hP1 H8 ⊢
      refine Calls.mono H8.out ?_
      rintro e w3 ⟨rfl, hb3⟩
      have hs2 : w1.heap.size < w2.heap.size := (Array.getElem?_eq_some_iff.1 hP1).1
      have hP3 := (hb3.block _ hs2).trans hP1
      have p2 : w3.cell? ⟨w1.heap.size, 2, none⟩ = some (.int .i64 0) := (cell_of_row _ _ 2 _ _ _ hP3).trans rfl
      have p2' : (w3.alloc (.cells #[.int .i64 y.k, .int .i64 y.n, .int .i64 y.a, .int .i64 y.b] 86)).cell? ⟨w1.heap.size, 2, none⟩ = some (.int .i64 0) := (((Below.refl w3.heap.size w3).alloc (Nat.le_refl _) _).cell (p := ⟨w1.heap.size, 2, none⟩) (show w1.heap.size < w3.heap.size by have := hb3.size; omega)).trans p2
      have HB : Hid (Below w.heap.size w (w3.alloc (.cells #[.int .i64 y.k, .int .i64 y.n, .int .i64 y.a, .int .i64 y.b] 86))) := (hB1.trans (hb3.mono (by have := hB1.size; omega))).alloc (by have := hb3.size; have := hB1.size; omega) _
      clear H8 hA0 hb0 hB1 hA1 hP1 hb3 hP3 p2
      go_wp2
      go_ret2
      exact ⟨rfl, HB.out⟩
  | true =>
    have H6 : Hid _ := implAt_yes 6 a cap ns pub _ hl (HR.out.grown hb0) h6
    cases h8 : isK ns k 8 with
    | false =>
      have e1 : signB ns pub k = false := by unfold signB; rw [h6, h8]; rfl
      have e2 : signV ns pub k = -1 := by unfold signV; rw [e1]; rfl
      rw [e1, e2]
      generalize ndAt ns pub = z at H6
      clear e1 e2 h6
      go_enter Tryz.func70, Tryz.ntmps70
      go_wp2_with fail
      refine Calls.mono H6.out ?_
      rintro e w1 ⟨rfl, hb1⟩
      have hB1 : Below w.heap.size w (w1.alloc (.cells #[.int .i64 z.k, .int .i64 z.n, .int .i64 z.a, .int .i64 z.b] 86)) := (hb0.trans (hb1.mono (by omega))).alloc (by have := hb1.size; omega) _
      have hs1 := hb1.size
      have hA1 : (w1.alloc (.cells #[.int .i64 z.k, .int .i64 z.n, .int .i64 z.a, .int .i64 z.b] 86)).cell? ⟨w.heap.size, 0, none⟩ = some (.slice a ns.length cap) := (((Below.refl w1.heap.size w1).alloc (Nat.le_refl _) _).cell (p := ⟨w.heap.size, 0, none⟩) (show w.heap.size < w1.heap.size by omega)).trans ((hb1.cell (p := ⟨w.heap.size, 0, none⟩) (by simp)).trans ((cell_of_row _ w.heap.size 0 _ _ _ hA0).trans rfl))
      have hP1 : (w1.alloc (.cells #[.int .i64 z.k, .int .i64 z.n, .int .i64 z.a, .int .i64 z.b] 86)).heap[w1.heap.size]? = some (.cells #[.int .i64 z.k, .int .i64 z.n, .int .i64 z.a, .int .i64 z.b] 86 (0, 0)) := heap_alloc_new w1 _
      have H8 : Hid _ := implAt_no 8 a cap ns k (w1.alloc (.cells #[.int .i64 z.k, .int .i64 z.n, .int .i64 z.a, .int .i64 z.b] 86)) hl (HR.out.grown hB1) h8
      clear H6 hb1
      go_wp2_with fail
      generalize w1.alloc (.cells #[.int .i64 z.k, .int .i64 z.n, .int .i64 z.a, .int .i64 z.b] 86) = w2 at hB1 hA1 hP1 H8 ⊢
      refine Calls.mono H8.out ?_
      rintro e w3 ⟨rfl, hb3⟩
      have hs2 : w1.heap.size < w2.heap.size := (Array.getElem?_eq_some_iff.1 hP1).1
      have hP3 := (hb3.block _ hs2).trans hP1
      have p2 : w3.cell? ⟨w1.heap.size, 2, none⟩ = some (.int .i64 z.a) := (cell_of_row _ _ 2 _ _ _ hP3).trans rfl
      have p2' : (w3.alloc (.cells #[.int .i64 0, .int .i64 0, .int .i64 0, .int .i64 0] 86)).cell? ⟨w1.heap.size, 2, none⟩ = some (.int .i64 z.a) := (((Below.refl w3.heap.size w3).alloc (Nat.le_refl _) _).cell (p := ⟨w1.heap.size, 2, none⟩) (show w1.heap.size < w3.heap.size by have := hb3.size; omega)).trans p2
      have HB : Hid (Below w.heap.size w (w3.alloc (.cells #[.int .i64 0, .int .i64 0, .int .i64 0, .int .i64 0] 86))) := (hB1.trans (hb3.mono (by have := hB1.size; omega))).alloc (by have := hb3.size; have := hB1.size; omega) _
      clear H8 hA0 hb0 hB1 hA1 hP1 hb3 hP3 p2
      go_wp2
      go_ret2
      exact ⟨rfl, HB.out⟩
    | true =>
      have e1 : signB ns pub k = decide ((ndAt ns k).a = (ndAt ns pub).a) := by unfold signB; rw [h6, h8]; rfl
      have e2 : signV ns pub k = if (ndAt ns k).a = (ndAt ns pub).a then (ndAt ns k).b else -1 := by unfold signV; rw [e1]; simp
      rw [e1, e2]
      generalize ndAt ns pub = z at H6 ⊢
      obtain ⟨y, hy⟩ : ∃ y, ndAt ns k = y := ⟨_, rfl⟩
      rw [hy]
      clear e1 e2 h6
      by_cases hk : y.a = z.a
      · have hk' : (y.a == z.a) = true := by simp [hk]
        rw [if_pos hk, decide_eq_true hk]
        clear hk
        go_enter Tryz.func70, Tryz.ntmps70
        go_wp2_with fail
        refine Calls.mono H6.out ?_
        rintro e w1 ⟨rfl, hb1⟩
        have hB1 : Below w.heap.size w (w1.alloc (.cells #[.int .i64 z.k, .int .i64 z.n, .int .i64 z.a, .int .i64 z.b] 86)) := (hb0.trans (hb1.mono (by omega))).alloc (by have := hb1.size; omega) _
        have hs1 := hb1.size
        have hA1 : (w1.alloc (.cells #[.int .i64 z.k, .int .i64 z.n, .int .i64 z.a, .int .i64 z.b] 86)).cell? ⟨w.heap.size, 0, none⟩ = some (.slice a ns.length cap) := (((Below.refl w1.heap.size w1).alloc (Nat.le_refl _) _).cell (p := ⟨w.heap.size, 0, none⟩) (show w.heap.size < w1.heap.size by omega)).trans ((hb1.cell (p := ⟨w.heap.size, 0, none⟩) (by simp)).trans ((cell_of_row _ w.heap.size 0 _ _ _ hA0).trans rfl))
        have hP1 : (w1.alloc (.cells #[.int .i64 z.k, .int .i64 z.n, .int .i64 z.a, .int .i64 z.b] 86)).heap[w1.heap.size]? = some (.cells #[.int .i64 z.k, .int .i64 z.n, .int .i64 z.a, .int .i64 z.b] 86 (0, 0)) := heap_alloc_new w1 _
        have H8 : Hid _ := implAt_yes 8 a cap ns k (w1.alloc (.cells #[.int .i64 z.k, .int .i64 z.n, .int .i64 z.a, .int .i64 z.b] 86)) hl (HR.out.grown hB1) h8
        rw [hy] at H8
        clear H6 hb1
        go_wp2_with fail
        generalize w1.alloc (.cells #[.int .i64 z.k, .int .i64 z.n, .int .i64 z.a, .int .i64 z.b] 86) = w2 at hB1 hA1 hP1 H8 ⊢
        refine Calls.mono H8.out ?_
        rintro e w3 ⟨rfl, hb3⟩
        have hs2 : w1.heap.size < w2.heap.size := (Array.getElem?_eq_some_iff.1 hP1).1
        have hP3 := (hb3.block _ hs2).trans hP1
        have p2 : w3.cell? ⟨w1.heap.size, 2, none⟩ = some (.int .i64 z.a) := (cell_of_row _ _ 2 _ _ _ hP3).trans rfl
        have p2' : (w3.alloc (.cells #[.int .i64 y.k, .int .i64 y.n, .int .i64 y.a, .int .i64 y.b] 86)).cell? ⟨w1.heap.size, 2, none⟩ = some (.int .i64 z.a) := (((Below.refl w3.heap.size w3).alloc (Nat.le_refl _) _).cell (p := ⟨w1.heap.size, 2, none⟩) (show w1.heap.size < w3.heap.size by have := hb3.size; omega)).trans p2
        have HB : Hid (Below w.heap.size w (w3.alloc (.cells #[.int .i64 y.k, .int .i64 y.n, .int .i64 y.a, .int .i64 y.b] 86))) := (hB1.trans (hb3.mono (by have := hB1.size; omega))).alloc (by have := hb3.size; have := hB1.size; omega) _
        clear H8 hA0 hb0 hB1 hA1 hP1 hb3 hP3 p2
        go_wp2
        go_ret2
        exact ⟨rfl, HB.out⟩
      · have hk' : (y.a == z.a) = false := by simp [hk]
        rw [if_neg hk, decide_eq_false hk]
        clear hk
        go_enter Tryz.func70, Tryz.ntmps70
        go_wp2_with fail
        refine Calls.mono H6.out ?_
        rintro e w1 ⟨rfl, hb1⟩
        have hB1 : Below w.heap.size w (w1.alloc (.cells #[.int .i64 z.k, .int .i64 z.n, .int .i64 z.a, .int .i64 z.b] 86)) := (hb0.trans (hb1.mono (by omega))).alloc (by have := hb1.size; omega) _
        have hs1 := hb1.size
        have hA1 : (w1.alloc (.cells #[.int .i64 z.k, .int .i64 z.n, .int .i64 z.a, .int .i64 z.b] 86)).cell? ⟨w.heap.size, 0, none⟩ = some (.slice a ns.length cap) := (((Below.refl w1.heap.size w1).alloc (Nat.le_refl _) _).cell (p := ⟨w.heap.size, 0, none⟩) (show w.heap.size < w1.heap.size by omega)).trans ((hb1.cell (p := ⟨w.heap.size, 0, none⟩) (by simp)).trans ((cell_of_row _ w.heap.size 0 _ _ _ hA0).trans rfl))
        have hP1 : (w1.alloc (.cells #[.int .i64 z.k, .int .i64 z.n, .int .i64 z.a, .int .i64 z.b] 86)).heap[w1.heap.size]? = some (.cells #[.int .i64 z.k, .int .i64 z.n, .int .i64 z.a, .int .i64 z.b] 86 (0, 0)) := heap_alloc_new w1 _
        have H8 : Hid _ := implAt_yes 8 a cap ns k (w1.alloc (.cells #[.int .i64 z.k, .int .i64 z.n, .int .i64 z.a, .int .i64 z.b] 86)) hl (HR.out.grown hB1) h8
        rw [hy] at H8
        clear H6 hb1
        go_wp2_with fail
        generalize w1.alloc (.cells #[.int .i64 z.k, .int .i64 z.n, .int .i64 z.a, .int .i64 z.b] 86) = w2 at hB1 hA1 hP1 H8 ⊢
        refine Calls.mono H8.out ?_
        rintro e w3 ⟨rfl, hb3⟩
        have hs2 : w1.heap.size < w2.heap.size := (Array.getElem?_eq_some_iff.1 hP1).1
        have hP3 := (hb3.block _ hs2).trans hP1
        have p2 : w3.cell? ⟨w1.heap.size, 2, none⟩ = some (.int .i64 z.a) := (cell_of_row _ _ 2 _ _ _ hP3).trans rfl
        have p2' : (w3.alloc (.cells #[.int .i64 y.k, .int .i64 y.n, .int .i64 y.a, .int .i64 y.b] 86)).cell? ⟨w1.heap.size, 2, none⟩ = some (.int .i64 z.a) := (((Below.refl w3.heap.size w3).alloc (Nat.le_refl _) _).cell (p := ⟨w1.heap.size, 2, none⟩) (show w1.heap.size < w3.heap.size by have := hb3.size; omega)).trans p2
        have HB : Hid (Below w.heap.size w (w3.alloc (.cells #[.int .i64 y.k, .int .i64 y.n, .int .i64 y.a, .int .i64 y.b] 86))) := (hB1.trans (hb3.mono (by have := hB1.size; omega))).alloc (by have := hb3.size; have := hB1.size; omega) _
        clear H8 hA0 hb0 hB1 hA1 hP1 hb3 hP3 p2
        go_wp2
        go_ret2
        exact ⟨rfl, HB.out⟩
end Go.Proofs.YtaanophnnkmkbaaGreat
