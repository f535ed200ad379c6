/- The contract of chapter 4's DhOf, the program's. -/
import Derived.Test.YtpfncjnhmkjceaaMakeDh
import Derived.WalkKit
import Derived.WalkLawsBesides
import Derived.WalkSpells
import Derived.Laws.Rows
namespace Go.Proofs.Ytpfncjnhmkjceaa
open Go.RowKit Go.PlainAid
set_option linter.unusedVariables false
theorem list14 {α : Type} (l : List α) (h : l.length = 14) : ∃ a0 a1 a2 a3 a4 a5 a6 a7 a8 a9 a10 a11 a12 a13, l = [a0, a1, a2, a3, a4, a5, a6, a7, a8, a9, a10, a11, a12, a13] := by
  match l, h with
  | [a0, a1, a2, a3, a4, a5, a6, a7, a8, a9, a10, a11, a12, a13], _ => exact ⟨a0, a1, a2, a3, a4, a5, a6, a7, a8, a9, a10, a11, a12, a13, rfl⟩
set_option maxHeartbeats 800000 in
theorem implDh_no (a : Option Addr) (cap : Nat) (ns : List Nd) (x pub : Int) (w : World) (hl : ns.length ≤ 1048576) (ha : AddrN a cap) (hr : RowN w.heap.size w a ns) (hd : dhB ns x pub = false) :
    Calls Try.prog 15 #[.agg #[.slice a ns.length cap], .int .i64 x, .int .i64 pub] w fun e w' => ∃ v, e = .returned (.tuple #[.agg #[v], .int .i64 (-1)]) ∧ OwnN w.heap.size w' v ns ∧ Below w.heap.size w w' := by
  have hb0 : Below w.heap.size w ((w.alloc (.cells #[.slice a ns.length cap] 26)).alloc (.cells #[.slice none 0 0] 26)) := ((Below.refl _ _).alloc (Nat.le_refl _) _).alloc (by simp) _
  have hs0 : ((w.alloc (.cells #[.slice a ns.length cap] 26)).alloc (.cells #[.slice none 0 0] 26)).heap.size = w.heap.size + 2 := by simp
  have hA0 : ((w.alloc (.cells #[.slice a ns.length cap] 26)).alloc (.cells #[.slice none 0 0] 26)).heap[w.heap.size]? = some (.cells #[.slice a ns.length cap] 26 (0, 0)) := (heap_alloc_old _ _ (by simp)).trans (heap_alloc_new w _)
  have hr0 : ((w.alloc (.cells #[.slice a ns.length cap] 26)).alloc (.cells #[.slice none 0 0] 26)).heap[w.heap.size + 1]? = some (.cells #[.slice none 0 0] 26 (0, 0)) := by
    have := heap_alloc_new (w.alloc (.cells #[.slice a ns.length cap] 26)) (.cells #[.slice none 0 0] 26)
    simpa using this
  have c0 : ((w.alloc (.cells #[.slice a ns.length cap] 26)).alloc (.cells #[.slice none 0 0] 26)).cell? ⟨w.heap.size, 0, none⟩ = some (.slice a ns.length cap) := (cell_of_row _ _ 0 _ _ _ hA0).trans rfl
  have HR : Hid (RowN w.heap.size w a ns) := hr
  have HA : Hid (AddrN a cap) := ha
  cases h6 : isK ns pub 6 with
  | false =>
    have HAT : Hid _ := implAt_no 6 a cap ns pub _ hl (hr.grown hb0) h6
    clear hr ha hd h6
    go_enter Try.func15, Try.ntmps15
    go_wp2_with fail
    generalize (w.alloc (.cells #[.slice a ns.length cap] 26)).alloc (.cells #[.slice none 0 0] 26) = w0 at hb0 hs0 hA0 hr0 c0 HAT ⊢
    refine Calls.mono HAT.out ?_
    rintro e w1 ⟨rfl, hb1⟩
    have hs1 := hb1.size
    have hbq : Below w1.heap.size w1 (w1.alloc (.cells #[.int .i64 0, .int .i64 0, .int .i64 0, .int .i64 0] 72)) := (Below.refl _ _).alloc (Nat.le_refl _) _
    have hB0 : Below w0.heap.size w0 (w1.alloc (.cells #[.int .i64 0, .int .i64 0, .int .i64 0, .int .i64 0] 72)) := hb1.trans (hbq.mono hs1)
    have hBz : Below w.heap.size w (w1.alloc (.cells #[.int .i64 0, .int .i64 0, .int .i64 0, .int .i64 0] 72)) := hb0.trans (hB0.mono (by omega))
    have hRz : (w1.alloc (.cells #[.int .i64 0, .int .i64 0, .int .i64 0, .int .i64 0] 72)).heap[w.heap.size + 1]? = some (.cells #[.slice none 0 0] 26 (0, 0)) := (hB0.block _ (by omega)).trans hr0
    have hAz : (w1.alloc (.cells #[.int .i64 0, .int .i64 0, .int .i64 0, .int .i64 0] 72)).heap[w.heap.size]? = some (.cells #[.slice a ns.length cap] 26 (0, 0)) := (hB0.block _ (by omega)).trans hA0
    have hNz := heap_alloc_new w1 (.cells #[.int .i64 0, .int .i64 0, .int .i64 0, .int .i64 0] 72)
    have cz : (w1.alloc (.cells #[.int .i64 0, .int .i64 0, .int .i64 0, .int .i64 0] 72)).cell? ⟨w.heap.size, 0, none⟩ = some (.slice a ns.length cap) := (cell_of_row _ _ 0 _ _ _ hAz).trans rfl
    have hsz : w1.heap.size < (w1.alloc (.cells #[.int .i64 0, .int .i64 0, .int .i64 0, .int .i64 0] 72)).heap.size := by simp
    clear hb1 hbq hB0 hb0 hA0 hr0 c0 HAT
    go_wp2_with fail
    generalize w1.alloc (.cells #[.int .i64 0, .int .i64 0, .int .i64 0, .int .i64 0] 72) = wz at hBz hRz hAz hNz cz hsz ⊢
    refine (asIs_any a cap ns wz hl HA.out (HR.out.grown hBz)).mono ?_
    rintro e w4 ⟨v, rfl, ho1, hb1z⟩
    obtain ⟨a1, cap1, rfl, _, _⟩ := ho1.row
    have hR1 := (hb1z.block (w.heap.size + 1) (by omega)).trans hRz
    have r0 : w4.cell? ⟨w.heap.size + 1, 0, none⟩ = some (.slice none 0 0) := (cell_of_row _ _ 0 _ _ _ hR1).trans rfl
    have f0 : w4.frozen? ⟨w.heap.size + 1, 0, none⟩ = false := frozen_of_row _ _ 0 _ _ hR1
    have HBL : Hid ((w4.setCell ⟨w.heap.size + 1, 0, none⟩ (.slice a1 (ns).length cap1)).heap[w.heap.size + 1]? = some (.cells #[.slice a1 (ns).length cap1] 26 (0, 0))) := (heap_setCell_same _ _ 0 _ _ _ hR1).trans rfl
    have HO1 : Hid (OwnN w.heap.size (w4.setCell ⟨w.heap.size + 1, 0, none⟩ (.slice a1 (ns).length cap1)) (.slice a1 (ns).length cap1) (ns)) := OwnN.base (ownsRow_setCell_below ho1 (show w.heap.size + 1 < wz.heap.size by omega) _) (by omega)
    have HB1 : Hid (Below w.heap.size w (w4.setCell ⟨w.heap.size + 1, 0, none⟩ (.slice a1 (ns).length cap1))) := (hBz.trans (hb1z.mono (by omega))).setCell (show w.heap.size ≤ w.heap.size + 1 by omega) _
    clear ho1 hb1z hR1 hRz hBz
    go_wp2
    refine bodyPost_ret (res_cell2 rfl _ _ (w.heap.size + 1) 26 #[.slice a1 (ns).length cap1] (0, 0) _ rfl ?_ Try.underlying26 rfl arenaSize) rfl ?_
    · exact HBL.out
    · exact ⟨_, rfl, HO1.out, HB1.out⟩
  | true =>
    have ho : okAt ns x = false := by unfold dhB at hd; rw [h6] at hd; simpa using hd
    have HAT : Hid _ := implAt_yes 6 a cap ns pub _ hl (hr.grown hb0) h6
    generalize ndAt ns pub = z at HAT
    clear hr ha hd h6
    go_enter Try.func15, Try.ntmps15
    go_wp2_with fail
    generalize (w.alloc (.cells #[.slice a ns.length cap] 26)).alloc (.cells #[.slice none 0 0] 26) = w0 at hb0 hs0 hA0 hr0 c0 HAT ⊢
    refine Calls.mono HAT.out ?_
    rintro e w1 ⟨rfl, hb1⟩
    have hs1 := hb1.size
    have hbq : Below w1.heap.size w1 (w1.alloc (.cells #[.int .i64 z.k, .int .i64 z.n, .int .i64 z.a, .int .i64 z.b] 72)) := (Below.refl _ _).alloc (Nat.le_refl _) _
    have hB0 : Below w0.heap.size w0 (w1.alloc (.cells #[.int .i64 z.k, .int .i64 z.n, .int .i64 z.a, .int .i64 z.b] 72)) := hb1.trans (hbq.mono hs1)
    have hBz : Below w.heap.size w (w1.alloc (.cells #[.int .i64 z.k, .int .i64 z.n, .int .i64 z.a, .int .i64 z.b] 72)) := hb0.trans (hB0.mono (by omega))
    have hRz : (w1.alloc (.cells #[.int .i64 z.k, .int .i64 z.n, .int .i64 z.a, .int .i64 z.b] 72)).heap[w.heap.size + 1]? = some (.cells #[.slice none 0 0] 26 (0, 0)) := (hB0.block _ (by omega)).trans hr0
    have hAz : (w1.alloc (.cells #[.int .i64 z.k, .int .i64 z.n, .int .i64 z.a, .int .i64 z.b] 72)).heap[w.heap.size]? = some (.cells #[.slice a ns.length cap] 26 (0, 0)) := (hB0.block _ (by omega)).trans hA0
    have hNz := heap_alloc_new w1 (.cells #[.int .i64 z.k, .int .i64 z.n, .int .i64 z.a, .int .i64 z.b] 72)
    have cz : (w1.alloc (.cells #[.int .i64 z.k, .int .i64 z.n, .int .i64 z.a, .int .i64 z.b] 72)).cell? ⟨w.heap.size, 0, none⟩ = some (.slice a ns.length cap) := (cell_of_row _ _ 0 _ _ _ hAz).trans rfl
    have hsz : w1.heap.size < (w1.alloc (.cells #[.int .i64 z.k, .int .i64 z.n, .int .i64 z.a, .int .i64 z.b] 72)).heap.size := by simp
    clear hb1 hbq hB0 hb0 hA0 hr0 c0 HAT
    go_wp2_with fail
    generalize w1.alloc (.cells #[.int .i64 z.k, .int .i64 z.n, .int .i64 z.a, .int .i64 z.b] 72) = wz at hBz hRz hAz hNz cz hsz ⊢
    have H2 : Hid _ := implOk_any a cap ns x wz hl (HR.out.grown hBz)
    rw [ho] at H2
    refine Calls.mono H2.out ?_
    rintro e w3 ⟨rfl, hb3⟩
    have hB3 : Below w.heap.size w w3 := hBz.trans (hb3.mono hBz.size)
    have hs3 := hb3.size
    have hR3 := (hb3.block (w.heap.size + 1) (by omega)).trans hRz
    have c3 : w3.cell? ⟨w.heap.size, 0, none⟩ = some (.slice a ns.length cap) := (hb3.cell (p := ⟨w.heap.size, 0, none⟩) (show w.heap.size < wz.heap.size by omega)).trans cz
    clear hBz hRz hb3 H2 hAz hNz cz
    have hBz := hB3
    have hRz := hR3
    clear hB3 hR3
    go_wp2_with fail
    refine (asIs_any a cap ns w3 hl HA.out (HR.out.grown hBz)).mono ?_
    rintro e w4 ⟨v, rfl, ho1, hb1z⟩
    obtain ⟨a1, cap1, rfl, _, _⟩ := ho1.row
    have hR1 := (hb1z.block (w.heap.size + 1) (by omega)).trans hRz
    have r0 : w4.cell? ⟨w.heap.size + 1, 0, none⟩ = some (.slice none 0 0) := (cell_of_row _ _ 0 _ _ _ hR1).trans rfl
    have f0 : w4.frozen? ⟨w.heap.size + 1, 0, none⟩ = false := frozen_of_row _ _ 0 _ _ hR1
    have HBL : Hid ((w4.setCell ⟨w.heap.size + 1, 0, none⟩ (.slice a1 (ns).length cap1)).heap[w.heap.size + 1]? = some (.cells #[.slice a1 (ns).length cap1] 26 (0, 0))) := (heap_setCell_same _ _ 0 _ _ _ hR1).trans rfl
    have HO1 : Hid (OwnN w.heap.size (w4.setCell ⟨w.heap.size + 1, 0, none⟩ (.slice a1 (ns).length cap1)) (.slice a1 (ns).length cap1) (ns)) := OwnN.base (ownsRow_setCell_below ho1 (show w.heap.size + 1 < w3.heap.size by omega) _) (by omega)
    have HB1 : Hid (Below w.heap.size w (w4.setCell ⟨w.heap.size + 1, 0, none⟩ (.slice a1 (ns).length cap1))) := (hBz.trans (hb1z.mono (by omega))).setCell (show w.heap.size ≤ w.heap.size + 1 by omega) _
    clear ho1 hb1z hR1 hRz hBz
    go_wp2
    refine bodyPost_ret (res_cell2 rfl _ _ (w.heap.size + 1) 26 #[.slice a1 (ns).length cap1] (0, 0) _ rfl ?_ Try.underlying26 rfl arenaSize) rfl ?_
    · exact HBL.out
    · exact ⟨_, rfl, HO1.out, HB1.out⟩
set_option maxHeartbeats 3200000 in
set_option maxRecDepth 20000 in
theorem implDh_yes (a : Option Addr) (cap : Nat) (ns : List Nd) (x pub : Int) (w : World) (hl : ns.length ≤ 1048576) (ha : AddrN a cap) (hr : RowN w.heap.size w a ns) (hd : dhB ns x pub = true) :
    Calls Try.prog 15 #[.agg #[.slice a ns.length cap], .int .i64 x, .int .i64 pub] w fun e w' => ∃ v, e = .returned (.tuple #[.agg #[v], .int .i64 (putK ns (dhN ns x pub))]) ∧ OwnN w.heap.size w' v (putA ns (dhN ns x pub)) ∧ Below w.heap.size w w' := by
  have hb0 : Below w.heap.size w ((w.alloc (.cells #[.slice a ns.length cap] 26)).alloc (.cells #[.slice none 0 0] 26)) := ((Below.refl _ _).alloc (Nat.le_refl _) _).alloc (by simp) _
  have hs0 : ((w.alloc (.cells #[.slice a ns.length cap] 26)).alloc (.cells #[.slice none 0 0] 26)).heap.size = w.heap.size + 2 := by simp
  have hA0 : ((w.alloc (.cells #[.slice a ns.length cap] 26)).alloc (.cells #[.slice none 0 0] 26)).heap[w.heap.size]? = some (.cells #[.slice a ns.length cap] 26 (0, 0)) := (heap_alloc_old _ _ (by simp)).trans (heap_alloc_new w _)
  have hr0 : ((w.alloc (.cells #[.slice a ns.length cap] 26)).alloc (.cells #[.slice none 0 0] 26)).heap[w.heap.size + 1]? = some (.cells #[.slice none 0 0] 26 (0, 0)) := by
    have := heap_alloc_new (w.alloc (.cells #[.slice a ns.length cap] 26)) (.cells #[.slice none 0 0] 26)
    simpa using this
  have c0 : ((w.alloc (.cells #[.slice a ns.length cap] 26)).alloc (.cells #[.slice none 0 0] 26)).cell? ⟨w.heap.size, 0, none⟩ = some (.slice a ns.length cap) := (cell_of_row _ _ 0 _ _ _ hA0).trans rfl
  have h6 : isK ns pub 6 = true ∧ okAt ns x = true := by unfold dhB at hd; simpa using hd
  have HAT : Hid _ := implAt_yes 6 a cap ns pub _ hl (hr.grown hb0) h6.1
  have H2 : Hid (∀ wz, Below w.heap.size w wz → Calls Try.prog 70 #[.agg #[.slice a ns.length cap], .int .i64 x] wz fun e w' => e = .returned (.bool true) ∧ Below wz.heap.size wz w') := fun wz hz => by have := implOk_any a cap ns x wz hl (hr.grown hz); rw [h6.2] at this; exact this
  have HOR0 : ∀ wq, Below w.heap.size w wq → Calls Try.prog 71 #[.agg #[.slice a ns.length cap], .int .i64 x, .int .i64 (ndAt ns pub).a] wq fun e w' => e = .returned (.tuple #[.int .i64 (dhN ns x pub).a, .int .i64 (dhN ns x pub).b]) ∧ Below wq.heap.size wq w' := fun wq hq => inOrder_any a cap ns x (ndAt ns pub).a wq hl (hr.grown hq)
  have HN0 : ∀ wq, Calls Try.prog 68 #[.int .i64 7, .int .i64 (dhN ns x pub).a, .int .i64 (dhN ns x pub).b] wq fun e w' => e = .returned (.agg #[.int .i64 (dhN ns x pub).k, .int .i64 (dhN ns x pub).n, .int .i64 (dhN ns x pub).a, .int .i64 (dhN ns x pub).b]) ∧ Below wq.heap.size wq w' := fun wq => nodeOf_any 7 (dhN ns x pub).a (dhN ns x pub).b wq
  have HC0 : ∀ wq, Below w.heap.size w wq → Calls Try.prog 67 #[.agg #[.slice a ns.length cap], .agg #[.int .i64 (dhN ns x pub).k, .int .i64 (dhN ns x pub).n, .int .i64 (dhN ns x pub).a, .int .i64 (dhN ns x pub).b]] wq fun e w' => ∃ v, e = .returned (.tuple #[.agg #[v], .int .i64 (putK ns (dhN ns x pub))]) ∧ OwnN wq.heap.size w' v (putA ns (dhN ns x pub)) ∧ Below wq.heap.size wq w' := fun wq hq => implPut_any a cap ns (dhN ns x pub) wq hl ha (hr.grown hq)
  generalize dhN ns x pub = y at HOR0 HN0 HC0 ⊢
  generalize putA ns y = ms at HC0 ⊢
  generalize putK ns y = kk at HC0 ⊢
  generalize ndAt ns pub = z at HAT HOR0
  obtain ⟨o1, ho1⟩ : ∃ o, y.a = o := ⟨_, rfl⟩
  obtain ⟨o2, ho2⟩ : ∃ o, y.b = o := ⟨_, rfl⟩
  have HOR : Hid (∀ wq, Below w.heap.size w wq → Calls Try.prog 71 #[.agg #[.slice a ns.length cap], .int .i64 x, .int .i64 z.a] wq fun e w' => e = .returned (.tuple #[.int .i64 o1, .int .i64 o2]) ∧ Below wq.heap.size wq w') := by rw [← ho1, ← ho2]; exact HOR0
  have HN : Hid (∀ wq, Calls Try.prog 68 #[.int .i64 7, .int .i64 o1, .int .i64 o2] wq fun e w' => e = .returned (.agg #[.int .i64 y.k, .int .i64 y.n, .int .i64 y.a, .int .i64 y.b]) ∧ Below wq.heap.size wq w') := by rw [← ho1, ← ho2]; exact HN0
  have HC : Hid _ := HC0
  clear hr ha hd h6 HOR0 HN0 HC0 ho1 ho2
  go_enter Try.func15, Try.ntmps15
  go_wp2_with fail
  generalize (w.alloc (.cells #[.slice a ns.length cap] 26)).alloc (.cells #[.slice none 0 0] 26) = w0 at hb0 hs0 hA0 hr0 c0 HAT ⊢
  refine Calls.mono HAT.out ?_
  rintro e w1 ⟨rfl, hb1⟩
  have hs1 := hb1.size
  have hbq : Below w1.heap.size w1 (w1.alloc (.cells #[.int .i64 z.k, .int .i64 z.n, .int .i64 z.a, .int .i64 z.b] 72)) := (Below.refl _ _).alloc (Nat.le_refl _) _
  have hB0 : Below w0.heap.size w0 (w1.alloc (.cells #[.int .i64 z.k, .int .i64 z.n, .int .i64 z.a, .int .i64 z.b] 72)) := hb1.trans (hbq.mono hs1)
  have hBz : Below w.heap.size w (w1.alloc (.cells #[.int .i64 z.k, .int .i64 z.n, .int .i64 z.a, .int .i64 z.b] 72)) := hb0.trans (hB0.mono (by omega))
  have hRz : (w1.alloc (.cells #[.int .i64 z.k, .int .i64 z.n, .int .i64 z.a, .int .i64 z.b] 72)).heap[w.heap.size + 1]? = some (.cells #[.slice none 0 0] 26 (0, 0)) := (hB0.block _ (by omega)).trans hr0
  have hAz : (w1.alloc (.cells #[.int .i64 z.k, .int .i64 z.n, .int .i64 z.a, .int .i64 z.b] 72)).heap[w.heap.size]? = some (.cells #[.slice a ns.length cap] 26 (0, 0)) := (hB0.block _ (by omega)).trans hA0
  have hNz := heap_alloc_new w1 (.cells #[.int .i64 z.k, .int .i64 z.n, .int .i64 z.a, .int .i64 z.b] 72)
  have cz : (w1.alloc (.cells #[.int .i64 z.k, .int .i64 z.n, .int .i64 z.a, .int .i64 z.b] 72)).cell? ⟨w.heap.size, 0, none⟩ = some (.slice a ns.length cap) := (cell_of_row _ _ 0 _ _ _ hAz).trans rfl
  have hsz : w1.heap.size < (w1.alloc (.cells #[.int .i64 z.k, .int .i64 z.n, .int .i64 z.a, .int .i64 z.b] 72)).heap.size := by simp
  clear hb1 hbq hB0 hb0 hA0 hr0 c0 HAT
  go_wp2_with fail
  generalize w1.alloc (.cells #[.int .i64 z.k, .int .i64 z.n, .int .i64 z.a, .int .i64 z.b] 72) = wz at hBz hRz hAz hNz cz hsz ⊢
  refine (H2.out wz hBz).mono ?_
  rintro e w3 ⟨rfl, hb3⟩
  have hI0 : Below w.heap.size w w3 := hBz.trans (hb3.mono hBz.size)
  have hR0 := (hb3.block (w.heap.size + 1) (by omega)).trans hRz
  have HAB : Hid (w3.heap[w.heap.size]? = some (.cells #[.slice a ns.length cap] 26 (0, 0))) := (hb3.block w.heap.size (by omega)).trans hAz
  have HNB : Hid (w3.heap[w1.heap.size]? = some (.cells #[.int .i64 z.k, .int .i64 z.n, .int .i64 z.a, .int .i64 z.b] 72 (0, 0))) := (hb3.block w1.heap.size hsz).trans hNz
  clear hb3 hBz hRz hAz hNz cz H2
  go_wp2_with fail
  refine wp_region_list (I := fun w' => Below w.heap.size w w' ∧ w'.heap[w.heap.size]? = some (.cells #[.slice a ns.length cap] 26 (0, 0)) ∧ (∃ u, w'.heap[w.heap.size + 1]? = some (.cells #[u] 26 (0, 0))) ∧ w'.heap[w1.heap.size]? = some (.cells #[.int .i64 z.k, .int .i64 z.n, .int .i64 z.a, .int .i64 z.b] 72 (0, 0))) (R := fun i w' w'' => Rst w.heap.size 12 i w' w'' ∧ (w'.heap[w.heap.size]? = some (.cells #[.slice a ns.length cap] 26 (0, 0)) → w''.heap[w.heap.size]? = some (.cells #[.slice a ns.length cap] 26 (0, 0))) ∧ (w'.heap[w1.heap.size]? = some (.cells #[.int .i64 z.k, .int .i64 z.n, .int .i64 z.a, .int .i64 z.b] 72 (0, 0)) → w''.heap[w1.heap.size]? = some (.cells #[.int .i64 z.k, .int .i64 z.n, .int .i64 z.a, .int .i64 z.b] 72 (0, 0))))
    (fs := #[⟨[28], fun vs _ => vs = [.agg #[.slice a ns.length cap]]⟩, ⟨[29], fun vs _ => vs = [.agg #[.slice a ns.length cap]]⟩, ⟨[30], fun vs _ => vs = [.int .i64 x]⟩, ⟨[31], fun vs _ => vs = [.pointer (some ⟨w1.heap.size, 2, none⟩)]⟩, ⟨[32], fun vs _ => vs = [.int .i64 z.a]⟩, ⟨[33], fun vs _ => vs = [.tuple #[.int .i64 o1, .int .i64 o2]]⟩, ⟨[34], fun vs _ => vs = [.int .i64 o1]⟩, ⟨[35], fun vs _ => vs = [.int .i64 o2]⟩, ⟨[36], fun vs _ => vs = [.agg #[.int .i64 y.k, .int .i64 y.n, .int .i64 y.a, .int .i64 y.b]]⟩, ⟨[37], fun vs w' => ∃ v, vs = [.tuple #[.agg #[v], .int .i64 (kk)]] ∧ OwnN w.heap.size w' v (ms)⟩, ⟨[38], fun vs w' => ∃ v, vs = [.agg #[v]] ∧ OwnN w.heap.size w' v (ms)⟩, ⟨[39], fun vs _ => vs = [.int .i64 (kk)]⟩, ⟨[38], fun vs w' => ∃ v, vs = [.agg #[v]] ∧ w'.heap[w.heap.size + 1]? = some (.cells #[v] 26 (0, 0)) ∧ OwnN w.heap.size w' v (ms)⟩, ⟨[7], fun vs _ => vs = [.int .i64 (kk)]⟩])
    (by kernel_rfl) 40 rfl (by kernel_rfl) ?stab ?istab ?start ?exec ?fin
  case stab =>
    intro k i f hki hf
    have hk : k < 14 := (Array.getElem?_eq_some_iff.1 hf).1
    rcases (show k = 0 ∨ k = 1 ∨ k = 2 ∨ k = 3 ∨ k = 4 ∨ k = 5 ∨ k = 6 ∨ k = 7 ∨ k = 8 ∨ k = 9 ∨ k = 10 ∨ k = 11 ∨ k = 12 ∨ k = 13 by omega) with rfl | rfl | rfl | rfl | rfl | rfl | rfl | rfl | rfl | rfl | rfl | rfl | rfl | rfl
    all_goals
      simp only [List.getElem?_toArray, List.getElem?_cons_succ, List.getElem?_cons_zero, Option.some.injEq] at hf
      subst hf
    · exact fun vs _ _ _ h => h
    · exact fun vs _ _ _ h => h
    · exact fun vs _ _ _ h => h
    · exact fun vs _ _ _ h => h
    · exact fun vs _ _ _ h => h
    · exact fun vs _ _ _ h => h
    · exact fun vs _ _ _ h => h
    · exact fun vs _ _ _ h => h
    · exact fun vs _ _ _ h => h
    · exact fun vs w' w'' hR ⟨v, h1, h2⟩ => ⟨v, h1, hR.1.own h2⟩
    · exact fun vs w' w'' hR ⟨v, h1, h2⟩ => ⟨v, h1, hR.1.own h2⟩
    · exact fun vs _ _ _ h => h
    · exact fun vs w' w'' hR ⟨v, h1, h3, h4⟩ => ⟨v, h1, ((hR.1.other (Ne.symm hki)).block _ (Array.getElem?_eq_some_iff.1 h3).1).trans h3, hR.1.own h4⟩
    · exact fun vs _ _ _ h => h
  case istab => exact fun i w' w'' hR h => ⟨Rst.inv (Nat.le_refl _) hR.1 h.1, hR.2.1 h.2.1, hR.1.box h.2.2.1, hR.2.2 h.2.2.2⟩
  case start => exact ⟨hI0.drew, HAB.out, ⟨_, hR0⟩, HNB.out⟩
  case exec =>
    intro i o f hi hf a_1 wq hsz hI hold hpre
    have hi11 : i < 14 := (Array.getElem?_eq_some_iff.1 hi).1
    rcases (show i = 0 ∨ i = 1 ∨ i = 2 ∨ i = 3 ∨ i = 4 ∨ i = 5 ∨ i = 6 ∨ i = 7 ∨ i = 8 ∨ i = 9 ∨ i = 10 ∨ i = 11 ∨ i = 12 ∨ i = 13 by omega) with rfl | rfl | rfl | rfl | rfl | rfl | rfl | rfl | rfl | rfl | rfl | rfl | rfl | rfl
    all_goals
      simp only [List.getElem?_toArray, List.getElem?_cons_succ, List.getElem?_cons_zero, Option.some.injEq] at hi hf
      subst hi hf
    · have h2 : a_1.tmps.getD 3 undef = .pointer (some ⟨w.heap.size, 0, none⟩) := hold 3 (free_spec (by kernel_rfl))
      have hc : wq.cell? ⟨w.heap.size, 0, none⟩ = some (.slice a ns.length cap) := (cell_of_row wq _ 0 _ _ _ hI.2.1).trans rfl
      refine exec_same (v := .agg #[.slice a ns.length cap]) ?_ ⟨_, rfl, ⟨Rst.refl (by decide), fun h => h, fun h => h⟩, at_one (by omega) rfl⟩
      simp [go_sem, Act.eval, h2, hc]
    · have h2 : a_1.tmps.getD 3 undef = .pointer (some ⟨w.heap.size, 0, none⟩) := hold 3 (free_spec (by kernel_rfl))
      have hc : wq.cell? ⟨w.heap.size, 0, none⟩ = some (.slice a ns.length cap) := (cell_of_row wq _ 0 _ _ _ hI.2.1).trans rfl
      refine exec_same (v := .agg #[.slice a ns.length cap]) ?_ ⟨_, rfl, ⟨Rst.refl (by decide), fun h => h, fun h => h⟩, at_one (by omega) rfl⟩
      simp [go_sem, Act.eval, h2, hc]
    · have h2 : a_1.tmps.getD 1 undef = .int .i64 x := hold 1 (free_spec (by kernel_rfl))
      refine exec_same (v := .int .i64 x) ?_ ⟨_, rfl, ⟨Rst.refl (by decide), fun h => h, fun h => h⟩, at_one (by omega) rfl⟩
      simp [go_sem, Act.eval, h2]
    · have h2 : a_1.tmps.getD 8 undef = .pointer (some ⟨w1.heap.size, 0, none⟩) := hold 8 (free_spec (by kernel_rfl))
      refine exec_same (v := .pointer (some ⟨w1.heap.size, 2, none⟩)) ?_ ⟨_, rfl, ⟨Rst.refl (by decide), fun h => h, fun h => h⟩, at_one (by omega) rfl⟩
      simp [go_sem, Act.eval, h2]
    · have g31 : a_1.tmps.getD 31 undef = .pointer (some ⟨w1.heap.size, 2, none⟩) := by have := of_one (hpre ⟨3, .data⟩ (by simp) rfl _ rfl); simpa using this
      have hc : wq.cell? ⟨w1.heap.size, 2, none⟩ = some (.int .i64 z.a) := (cell_of_row wq _ 2 _ _ _ hI.2.2.2).trans rfl
      refine exec_same (v := .int .i64 z.a) ?_ ⟨_, rfl, ⟨Rst.refl (by decide), fun h => h, fun h => h⟩, at_one (by omega) rfl⟩
      simp [go_sem, Act.eval, g31, hc]
    · have g29 : a_1.tmps.getD 29 undef = .agg #[.slice a ns.length cap] := by have := of_one (hpre ⟨1, .data⟩ (by simp) rfl _ rfl); simpa using this
      have g30 : a_1.tmps.getD 30 undef = .int .i64 x := by have := of_one (hpre ⟨2, .data⟩ (by simp) rfl _ rfl); simpa using this
      have g32 : a_1.tmps.getD 32 undef = .int .i64 z.a := by have := of_one (hpre ⟨4, .data⟩ (by simp) rfl _ rfl); simpa using this
      refine exec_call (f := 71) (args := #[.agg #[.slice a ns.length cap], .int .i64 x, .int .i64 z.a]) (by simp [go_sem, Act.eval, g29, g30, g32]) ?_
      refine (HOR.out wq hI.1).mono ?_
      rintro e w2 ⟨rfl, hb⟩
      exact ⟨_, rfl, _, rfl, ⟨Rst.of (by decide) hb, fun h => (hb.block _ (Array.getElem?_eq_some_iff.1 h).1).trans h, fun h => (hb.block _ (Array.getElem?_eq_some_iff.1 h).1).trans h⟩, at_one (by omega) rfl⟩
    · have g33 : a_1.tmps.getD 33 undef = .tuple #[.int .i64 o1, .int .i64 o2] := by have := of_one (hpre ⟨5, .data⟩ (by simp) rfl _ rfl); simpa using this
      refine exec_same (v := .int .i64 o1) ?_ ⟨_, rfl, ⟨Rst.refl (by decide), fun h => h, fun h => h⟩, at_one (by omega) rfl⟩
      simp [go_sem, Act.eval, g33]
    · have g33 : a_1.tmps.getD 33 undef = .tuple #[.int .i64 o1, .int .i64 o2] := by have := of_one (hpre ⟨5, .data⟩ (by simp) rfl _ rfl); simpa using this
      refine exec_same (v := .int .i64 o2) ?_ ⟨_, rfl, ⟨Rst.refl (by decide), fun h => h, fun h => h⟩, at_one (by omega) rfl⟩
      simp [go_sem, Act.eval, g33]
    · have g34 : a_1.tmps.getD 34 undef = .int .i64 o1 := by have := of_one (hpre ⟨6, .data⟩ (by simp) rfl _ rfl); simpa using this
      have g35 : a_1.tmps.getD 35 undef = .int .i64 o2 := by have := of_one (hpre ⟨7, .data⟩ (by simp) rfl _ rfl); simpa using this
      refine exec_call (f := 68) (args := #[.int .i64 7, .int .i64 o1, .int .i64 o2]) (by simp [go_sem, Act.eval, g34, g35]) ?_
      refine (HN.out wq).mono ?_
      rintro e w2 ⟨rfl, hb⟩
      exact ⟨_, rfl, _, rfl, ⟨Rst.of (by decide) hb, fun h => (hb.block _ (Array.getElem?_eq_some_iff.1 h).1).trans h, fun h => (hb.block _ (Array.getElem?_eq_some_iff.1 h).1).trans h⟩, at_one (by omega) rfl⟩
    · have g28 : a_1.tmps.getD 28 undef = .agg #[.slice a ns.length cap] := by have := of_one (hpre ⟨0, .data⟩ (by simp) rfl _ rfl); simpa using this
      have g36 : a_1.tmps.getD 36 undef = .agg #[.int .i64 y.k, .int .i64 y.n, .int .i64 y.a, .int .i64 y.b] := by have := of_one (hpre ⟨8, .data⟩ (by simp) rfl _ rfl); simpa using this
      refine exec_call (f := 67) (args := #[.agg #[.slice a ns.length cap], .agg #[.int .i64 y.k, .int .i64 y.n, .int .i64 y.a, .int .i64 y.b]]) (by simp [go_sem, Act.eval, g28, g36]) ?_
      refine (HC.out wq hI.1).mono ?_
      rintro e w2 ⟨v', rfl, ho', hb⟩
      exact ⟨_, rfl, _, rfl, ⟨Rst.of (by decide) hb, fun h => (hb.block _ (Array.getElem?_eq_some_iff.1 h).1).trans h, fun h => (hb.block _ (Array.getElem?_eq_some_iff.1 h).1).trans h⟩, at_one (by omega) ⟨v', rfl, OwnN.base ho' hI.1.size⟩⟩
    · obtain ⟨v, h21, ho⟩ := of_one (hpre ⟨9, .data⟩ (by simp) rfl _ rfl)
      have h21' : a_1.tmps.getD 37 undef = .tuple #[.agg #[v], .int .i64 (kk)] := by simpa using h21
      refine exec_same (v := .agg #[v]) ?_ ⟨_, rfl, ⟨Rst.refl (by decide), fun h => h, fun h => h⟩, at_one (by omega) ⟨v, rfl, ho⟩⟩
      simp [go_sem, Act.eval, h21']
    · obtain ⟨v, h21, ho⟩ := of_one (hpre ⟨9, .data⟩ (by simp) rfl _ rfl)
      have h21' : a_1.tmps.getD 37 undef = .tuple #[.agg #[v], .int .i64 (kk)] := by simpa using h21
      refine exec_same (v := .int .i64 (kk)) ?_ ⟨_, rfl, ⟨Rst.refl (by decide), fun h => h, fun h => h⟩, at_one (by omega) rfl⟩
      simp [go_sem, Act.eval, h21']
    · obtain ⟨v, h27, ho⟩ := of_one (hpre ⟨10, .data⟩ (by simp) rfl _ rfl)
      have h6' : a_1.tmps.getD 6 undef = .pointer (some ⟨w.heap.size + 1, 0, none⟩) := hold 6 (free_spec (by kernel_rfl))
      have h27' : a_1.tmps.getD 38 undef = .agg #[v] := by simpa using h27
      obtain ⟨u, hu⟩ := hI.2.2.1
      have hcg : wq.cell? ⟨w.heap.size + 1, 0, none⟩ = some u := by rw [cell_of_row wq _ 0 _ _ _ hu]; rfl
      have hfg : wq.frozen? ⟨w.heap.size + 1, 0, none⟩ = false := frozen_of_row wq _ 0 _ _ hu
      obtain ⟨av, capv, rfl, _, _⟩ := ho.row
      refine exec_skip (w' := wq.setCell ⟨w.heap.size + 1, 0, none⟩ (.slice av (ms).length capv)) ?_ ⟨_, rfl, ?_, ?_⟩
      · simp [go_sem, Act.eval, h6', h27', hcg, hfg]
      · refine ⟨?_, fun h => (Below.heap_setCell _ _ _ _ (by simp)).trans h, fun h => (Below.heap_setCell _ _ _ _ (by simp; omega)).trans h⟩; unfold Rst; rw [if_pos rfl]; exact ⟨w.heap.size + 1, u, _, rfl, by omega, hu⟩
      · exact ⟨_, by show [a_1.tmps.getD 38 undef] = _; rw [h27'], (heap_setCell_same wq _ 0 _ _ _ hu).trans rfl, own_store ho hu⟩
    · have h28 : a_1.tmps.getD 39 undef = .int .i64 (kk) := by have := of_one (hpre ⟨11, .data⟩ (by simp) rfl _ rfl); simpa using this
      refine exec_same (v := .int .i64 (kk)) ?_ ⟨_, rfl, ⟨Rst.refl (by decide), fun h => h, fun h => h⟩, at_one (by omega) rfl⟩
      simp [go_sem, Act.eval, h28]
  case fin =>
    intro zs w5 hzl hI hF
    obtain ⟨z0, z1, z2, z3, z4, z5, z6, z7, z8, z9, z10, z11, z12, z13, rfl⟩ := list14 zs hzl
    obtain ⟨v1, hst, hbox, hown⟩ := of_one (hF 12 _ rfl)
    have hint := of_one (hF 13 _ rfl)
    simp only [List.cons.injEq, and_true] at hst hint
    have hs2 := last_is (i := 10) (v := z10) (n := 40) hst (by kernel_rfl) rfl rfl (by omega)
    have hs3 := last_is (i := 13) (v := z13) (n := 40) hint (by kernel_rfl) rfl rfl (by omega)
    clear hst hint
    subst hs2 hs3
    clear hF
    simp only [putAll, Act.put, List.setIfInBounds_toArray, List.set_cons_succ, List.set_cons_zero]
    obtain ⟨a1, cap1, rfl, _, _⟩ := hown.row
    go_wp2
    refine bodyPost_ret (res_cell2 rfl _ _ (w.heap.size + 1) 26 #[.slice a1 (ms).length cap1] (0, 0) _ rfl ?_ Try.underlying26 rfl arenaSize) rfl ?_
    · exact hbox
    · exact ⟨_, rfl, hown, hI.1⟩
theorem implDh_any (a : Option Addr) (cap : Nat) (ns : List Nd) (x pub : Int) (w : World) (hl : ns.length ≤ 1048576) (ha : AddrN a cap) (hr : RowN w.heap.size w a ns) :
    Calls Try.prog 15 #[.agg #[.slice a ns.length cap], .int .i64 x, .int .i64 pub] w fun e w' => ∃ v, e = .returned (.tuple #[.agg #[v], .int .i64 (dhK ns x pub)]) ∧ OwnN w.heap.size w' v (dhA ns x pub) ∧ Below w.heap.size w w' := by
  cases hd : dhB ns x pub with
  | false =>
    have e1 : dhK ns x pub = -1 := by unfold dhK; rw [hd]; rfl
    have e2 : dhA ns x pub = ns := by unfold dhA; rw [hd]; rfl
    rw [e1, e2]
    exact implDh_no a cap ns x pub w hl ha hr hd
  | true =>
    have e1 : dhK ns x pub = putK ns (dhN ns x pub) := by unfold dhK; rw [hd]; rfl
    have e2 : dhA ns x pub = putA ns (dhN ns x pub) := by unfold dhA; rw [hd]; rfl
    rw [e1, e2]
    exact implDh_yes a cap ns x pub w hl ha hr hd
end Go.Proofs.Ytpfncjnhmkjceaa
