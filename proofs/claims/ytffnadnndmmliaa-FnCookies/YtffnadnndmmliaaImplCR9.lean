/- The program's reader of a cookie (chapter 9): node by node, each where Put finds it; and CookieOk. -/
import Derived.Test.YtffnadnndmmliaaCookQ9
import Derived.Test.YtffnadnndmmliaaImplPut
import Derived.Test.YtffnadnndmmliaaPlainRT2
import Derived.Test.YtffnadnndmmliaaHeldQ
namespace Go.Proofs.Ytffnadnndmmliaa
open Go.RowKit
set_option linter.unusedVariables false
set_option maxHeartbeats 1600000 in
theorem rdNode_no (g : Nat) (a : Option Addr) (n cap : Nat) (ok : Bool) (kd k : Int) (w : World)
    (hb : w.heap[g]? = some (.cells #[.slice a n cap, .bool ok] 175 (0, 0))) (hno : ok = false ∨ inB k 0 ((n : Int) - 1) = false) :
    Calls Try.prog 170 #[.pointer (some ⟨g, 0, none⟩), .int .i64 kd, .int .i64 k] w fun e w' => e = .returned (.agg #[.int .i64 0, .int .i64 0, .int .i64 0, .int .i64 0]) ∧ w'.heap[g]? = some (.cells #[.slice a n cap, .bool false] 175 (0, 0)) ∧ w.grownBy w' (some g) := by
  have hlt : g < w.heap.size := (Array.getElem?_eq_some_iff.1 hb).1
  have hB0 : Below w.heap.size w (w.alloc (.cells #[.int .i64 0, .int .i64 0, .int .i64 0, .int .i64 0] 45)) := (Below.refl _ _).alloc (Nat.le_refl _) _
  have hb1 := (hB0.block g hlt).trans hb
  have H1 : Hid (((w.setCell ⟨g, 1, none⟩ (.bool false)).alloc (.cells #[.int .i64 0, .int .i64 0, .int .i64 0, .int .i64 0] 45)).heap[w.heap.size]? = some (.cells #[.int .i64 0, .int .i64 0, .int .i64 0, .int .i64 0] 45 (0, 0))) := by
    have := heap_alloc_new (w.setCell ⟨g, 1, none⟩ (.bool false)) (.cells #[.int .i64 0, .int .i64 0, .int .i64 0, .int .i64 0] 45)
    show _ = _
    simpa using this
  have H2 : Hid (((w.setCell ⟨g, 1, none⟩ (.bool false)).alloc (.cells #[.int .i64 0, .int .i64 0, .int .i64 0, .int .i64 0] 45)).heap[g]? = some (.cells #[.slice a n cap, .bool false] 175 (0, 0))) := (heap_alloc_old _ _ (by simpa using hlt)).trans ((heap_setCell_same w g 1 _ _ _ hb).trans rfl)
  have H3 : Hid (w.grownBy ((w.setCell ⟨g, 1, none⟩ (.bool false)).alloc (.cells #[.int .i64 0, .int .i64 0, .int .i64 0, .int .i64 0] 45)) (some g)) := ⟨rfl, rfl, rfl, by simp, fun k hk hne => (heap_alloc_old _ _ (by simpa using hk)).trans (Below.heap_setCell _ _ _ _ (by simpa using hne))⟩
  have HIN : Hid (ok = true → inB k 0 ((n : Int) - 1) = false) := fun e => by rcases hno with h | h; rw [e] at h; cases h; exact h
  have c0 : (w.alloc (.cells #[.int .i64 0, .int .i64 0, .int .i64 0, .int .i64 0] 45)).cell? ⟨g, 0, none⟩ = some (.slice a n cap) := (cell_of_row _ _ 0 _ _ _ hb1).trans rfl
  have c1 : (w.alloc (.cells #[.int .i64 0, .int .i64 0, .int .i64 0, .int .i64 0] 45)).cell? ⟨g, 1, none⟩ = some (.bool ok) := (cell_of_row _ _ 1 _ _ _ hb1).trans rfl
  have f1 : (w.alloc (.cells #[.int .i64 0, .int .i64 0, .int .i64 0, .int .i64 0] 45)).frozen? ⟨g, 1, none⟩ = false := frozen_of_row _ _ 1 _ _ hb1
  clear hno hb hb1 hB0
  go_enter Try.func170, Try.ntmps170
  cases ok
  · go_wp2
    refine bodyPost_ret (results_cell_row rfl _ _ w.heap.size 45 #[.int .i64 0, .int .i64 0, .int .i64 0, .int .i64 0] (0, 0) _ rfl H1.out Try.underlying45 rfl nodeSizeI) rfl ?_
    exact ⟨rfl, H2.out, H3.out⟩
  · go_wp2_with fail
    refine (ahead_any _ _ _).mono ?_
    rintro e wz ⟨rfl, rfl⟩
    rw [HIN.out (by simp)]
    go_wp2
    refine bodyPost_ret (results_cell_row rfl _ _ w.heap.size 45 #[.int .i64 0, .int .i64 0, .int .i64 0, .int .i64 0] (0, 0) _ rfl H1.out Try.underlying45 rfl nodeSizeI) rfl ?_
    exact ⟨rfl, H2.out, H3.out⟩

theorem rd_fin {w w1 w5 : World} {g : Nat} {y : Nd} {sl : Value} {u : Bool} (hlt : g < w.heap.size) (hs : w1.heap.size = w.heap.size + 2) (hb1 : Below w.heap.size w w1) (hb5 : Below w1.heap.size w1 w5) (hG : w1.heap[g]? = some (.cells #[sl, .bool true] 175 (0, 0))) (hZ : w1.heap[w.heap.size]? = some (.cells #[.int .i64 0, .int .i64 0, .int .i64 0, .int .i64 0] 45 (0, 0))) :
    (((((w5.setCell ⟨g, 1, none⟩ (.bool u)).setCell ⟨w.heap.size, 0, none⟩ (.int .i64 y.k)).setCell ⟨w.heap.size, 1, none⟩ (.int .i64 y.n)).setCell ⟨w.heap.size, 2, none⟩ (.int .i64 y.a)).setCell ⟨w.heap.size, 3, none⟩ (.int .i64 y.b)).heap[w.heap.size]? = some (.cells #[.int .i64 y.k, .int .i64 y.n, .int .i64 y.a, .int .i64 y.b] 45 (0, 0)) ∧ (((((w5.setCell ⟨g, 1, none⟩ (.bool u)).setCell ⟨w.heap.size, 0, none⟩ (.int .i64 y.k)).setCell ⟨w.heap.size, 1, none⟩ (.int .i64 y.n)).setCell ⟨w.heap.size, 2, none⟩ (.int .i64 y.a)).setCell ⟨w.heap.size, 3, none⟩ (.int .i64 y.b)).heap[g]? = some (.cells #[sl, .bool u] 175 (0, 0)) ∧ w.grownBy (((((w5.setCell ⟨g, 1, none⟩ (.bool u)).setCell ⟨w.heap.size, 0, none⟩ (.int .i64 y.k)).setCell ⟨w.heap.size, 1, none⟩ (.int .i64 y.n)).setCell ⟨w.heap.size, 2, none⟩ (.int .i64 y.a)).setCell ⟨w.heap.size, 3, none⟩ (.int .i64 y.b)) (some g) := by
  have hne : w.heap.size ≠ g := by omega
  have a0 : (w5.setCell ⟨g, 1, none⟩ (.bool u)).heap[w.heap.size]? = some (.cells #[.int .i64 0, .int .i64 0, .int .i64 0, .int .i64 0] 45 (0, 0)) := (Below.heap_setCell _ _ _ _ hne).trans ((hb5.block _ (by omega)).trans hZ)
  have g0 : (w5.setCell ⟨g, 1, none⟩ (.bool u)).heap[g]? = some (.cells #[sl, .bool u] 175 (0, 0)) := (heap_setCell_same w5 g 1 _ _ _ ((hb5.block _ (by omega)).trans hG)).trans rfl
  have k0 : ∀ k, k < w.heap.size → k ≠ g → (w5.setCell ⟨g, 1, none⟩ (.bool u)).heap[k]? = w.heap[k]? := fun k hk hne => (Below.heap_setCell _ _ _ _ hne).trans ((hb5.block _ (by omega)).trans (hb1.block k hk))
  have hz : w.heap.size ≤ w5.heap.size := by have := hb5.size; omega
  have ho : (w5.setCell ⟨g, 1, none⟩ (.bool u)).os = w.os ∧ (w5.setCell ⟨g, 1, none⟩ (.bool u)).tape = w.tape ∧ (w5.setCell ⟨g, 1, none⟩ (.bool u)).output = w.output ∧ w.heap.size ≤ (w5.setCell ⟨g, 1, none⟩ (.bool u)).heap.size := ⟨hb5.os.trans hb1.os, hb5.tape.trans hb1.tape, hb5.output.trans hb1.output, by simpa using hz⟩
  generalize w5.setCell ⟨g, 1, none⟩ (.bool u) = v at a0 g0 k0 ho ⊢
  have a1 := (heap_setCell_same v w.heap.size 0 _ _ (.int .i64 y.k) a0)
  have a2 := (heap_setCell_same _ w.heap.size 1 _ _ (.int .i64 y.n) a1)
  have a3 := (heap_setCell_same _ w.heap.size 2 _ _ (.int .i64 y.a) a2)
  have a4 := (heap_setCell_same _ w.heap.size 3 _ _ (.int .i64 y.b) a3)
  have hk : ∀ k, k ≠ w.heap.size → ((((v.setCell ⟨w.heap.size, 0, none⟩ (.int .i64 y.k)).setCell ⟨w.heap.size, 1, none⟩ (.int .i64 y.n)).setCell ⟨w.heap.size, 2, none⟩ (.int .i64 y.a)).setCell ⟨w.heap.size, 3, none⟩ (.int .i64 y.b)).heap[k]? = v.heap[k]? := fun k hk => (Below.heap_setCell _ _ _ _ hk).trans ((Below.heap_setCell _ _ _ _ hk).trans ((Below.heap_setCell _ _ _ _ hk).trans (Below.heap_setCell _ _ _ _ hk)))
  exact ⟨a4.trans rfl, (hk g (Ne.symm hne)).trans g0, ho.1, ho.2.1, ho.2.2.1, by simpa using ho.2.2.2, fun k hk1 hne1 => (hk k (by omega)).trans (k0 k hk1 (by simpa using hne1))⟩
set_option maxHeartbeats 3200000 in
set_option maxRecDepth 20000 in
theorem rdNode_yes (g : Nat) (a : Option Addr) (cap : Nat) (ns : List Nd) (kd : Int) (i : Nat) (w : World) (hl : ns.length ≤ 1048576) (hi : i < ns.length)
    (hb : w.heap[g]? = some (.cells #[.slice a ns.length cap, .bool true] 175 (0, 0))) (hr : RowN w.heap.size w a ns) :
    Calls Try.prog 170 #[.pointer (some ⟨g, 0, none⟩), .int .i64 kd, .int .i64 (i : Int)] w fun e w' => e = .returned (.agg #[.int .i64 (ns.getD i Nd.zero).k, .int .i64 (ns.getD i Nd.zero).n, .int .i64 (ns.getD i Nd.zero).a, .int .i64 (ns.getD i Nd.zero).b]) ∧ w'.heap[g]? = some (.cells #[.slice a ns.length cap, .bool (decide ((ns.getD i Nd.zero).k = kd) && decide (putK ns (ns.getD i Nd.zero) = (i : Int)))] 175 (0, 0)) ∧ w.grownBy w' (some g) := by
  have hlt : g < w.heap.size := (Array.getElem?_eq_some_iff.1 hb).1
  have HAH : Hid (inB (i : Int) 0 ((ns.length : Int) - 1) = true) := by show _ = _; unfold inB; simp; omega
  have HR : Hid (RowN w.heap.size w a ns) := hr
  obtain ⟨b, off, rfl⟩ := hr.addr hi
  obtain ⟨hbb, y0, y1, y2, y3⟩ := hr.at (Below.refl _ _) hi
  have hi0 : (0 : Int) ≤ (i : Int) := by omega
  have hi1 : (i : Int) < (ns.length : Int) := by omega
  clear hr
  obtain ⟨y, HY⟩ : ∃ y, Hid (ns.getD i Nd.zero = y) := ⟨_, rfl⟩
  rw [HY.out] at y0 y1 y2 y3 ⊢
  have hPI : Hid (∀ wz : World, Below w.heap.size w wz → Calls Try.prog 91 #[.agg #[.slice (some ⟨b, off, none⟩) ns.length cap], .agg #[.int .i64 y.k, .int .i64 y.n, .int .i64 y.a, .int .i64 y.b]] wz fun e w' => e = .returned (.int .i64 (putK ns y)) ∧ Below wz.heap.size wz w') := fun wz hz => placeIn_any _ cap ns y wz hl (HR.out.grown hz)
  generalize putK ns y = pk at hPI ⊢
  have hB0 : Below w.heap.size w (w.alloc (.cells #[.int .i64 0, .int .i64 0, .int .i64 0, .int .i64 0] 45)) := (Below.refl _ _).alloc (Nat.le_refl _) _
  have hb1 := (hB0.block g hlt).trans hb
  have c0 : (w.alloc (.cells #[.int .i64 0, .int .i64 0, .int .i64 0, .int .i64 0] 45)).cell? ⟨g, 0, none⟩ = some (.slice (some ⟨b, off, none⟩) ns.length cap) := (cell_of_row _ _ 0 _ _ _ hb1).trans rfl
  have c1 : (w.alloc (.cells #[.int .i64 0, .int .i64 0, .int .i64 0, .int .i64 0] 45)).cell? ⟨g, 1, none⟩ = some (.bool true) := (cell_of_row _ _ 1 _ _ _ hb1).trans rfl
  go_enter Try.func170, Try.ntmps170
  go_wp2_with fail
  refine (ahead_any _ _ _).mono ?_
  rintro e wz ⟨rfl, rfl⟩
  rw [HAH.out]
  have HBX : Hid (Below w.heap.size w ((w.alloc (.cells #[.int .i64 0, .int .i64 0, .int .i64 0, .int .i64 0] 45)).alloc (.cells #[.int .i64 y.k, .int .i64 y.n, .int .i64 y.a, .int .i64 y.b] 45)) ∧ ((w.alloc (.cells #[.int .i64 0, .int .i64 0, .int .i64 0, .int .i64 0] 45)).alloc (.cells #[.int .i64 y.k, .int .i64 y.n, .int .i64 y.a, .int .i64 y.b] 45)).heap.size = w.heap.size + 2) := ⟨hB0.alloc (by simp) _, by simp⟩
  have HG1 : Hid (((w.alloc (.cells #[.int .i64 0, .int .i64 0, .int .i64 0, .int .i64 0] 45)).alloc (.cells #[.int .i64 y.k, .int .i64 y.n, .int .i64 y.a, .int .i64 y.b] 45)).heap[g]? = some (.cells #[.slice (some ⟨b, off, none⟩) ns.length cap, .bool true] 175 (0, 0))) := (heap_alloc_old _ _ (by simp; omega)).trans hb1
  have HN1 : Hid (((w.alloc (.cells #[.int .i64 0, .int .i64 0, .int .i64 0, .int .i64 0] 45)).alloc (.cells #[.int .i64 y.k, .int .i64 y.n, .int .i64 y.a, .int .i64 y.b] 45)).heap[w.heap.size + 1]? = some (.cells #[.int .i64 y.k, .int .i64 y.n, .int .i64 y.a, .int .i64 y.b] 45 (0, 0))) := by
    have := heap_alloc_new (w.alloc (.cells #[.int .i64 0, .int .i64 0, .int .i64 0, .int .i64 0] 45)) (.cells #[.int .i64 y.k, .int .i64 y.n, .int .i64 y.a, .int .i64 y.b] 45)
    show _ = _
    simpa using this
  have HZ1 : Hid (((w.alloc (.cells #[.int .i64 0, .int .i64 0, .int .i64 0, .int .i64 0] 45)).alloc (.cells #[.int .i64 y.k, .int .i64 y.n, .int .i64 y.a, .int .i64 y.b] 45)).heap[w.heap.size]? = some (.cells #[.int .i64 0, .int .i64 0, .int .i64 0, .int .i64 0] 45 (0, 0))) := (heap_alloc_old _ _ (by simp)).trans (heap_alloc_new w _)
  go_wp2_with fail
  generalize (w.alloc (.cells #[.int .i64 0, .int .i64 0, .int .i64 0, .int .i64 0] 45)).alloc (.cells #[.int .i64 y.k, .int .i64 y.n, .int .i64 y.a, .int .i64 y.b] 45) = w1 at HBX HG1 HN1 HZ1 ⊢
  clear c0 c1 hb1 hB0 y0 y1 y2 y3
  have g0 : w1.cell? ⟨g, 0, none⟩ = some (.slice (some ⟨b, off, none⟩) ns.length cap) := (cell_of_row _ _ 0 _ _ _ HG1.out).trans rfl
  have g1 : w1.cell? ⟨g, 1, none⟩ = some (.bool true) := (cell_of_row _ _ 1 _ _ _ HG1.out).trans rfl
  have g2 : w1.frozen? ⟨g, 1, none⟩ = false := frozen_of_row _ _ 1 _ _ HG1.out
  have n0 : w1.cell? ⟨w.heap.size + 1, 0, none⟩ = some (.int .i64 y.k) := (cell_of_row _ _ 0 _ _ _ HN1.out).trans rfl
  have n1 : w1.cell? ⟨w.heap.size + 1, 1, none⟩ = some (.int .i64 y.n) := (cell_of_row _ _ 1 _ _ _ HN1.out).trans rfl
  have n2 : w1.cell? ⟨w.heap.size + 1, 2, none⟩ = some (.int .i64 y.a) := (cell_of_row _ _ 2 _ _ _ HN1.out).trans rfl
  have n3 : w1.cell? ⟨w.heap.size + 1, 3, none⟩ = some (.int .i64 y.b) := (cell_of_row _ _ 3 _ _ _ HN1.out).trans rfl
  have GL : Hid (g < w1.heap.size) := by have := HBX.out.2; show _ < _; omega
  have GN : Hid (w.heap.size + 1 < w1.heap.size) := by have := HBX.out.2; show _ < _; omega
  have GE : Hid (g ≠ w.heap.size + 1) := by show _ ≠ _; omega
  obtain ⟨S, hS0, hNE, HK⟩ := below_class (Below.refl w1.heap.size w1) (Nat.le_refl _)
  have sg : ∀ s : Hw S, s.w.cell? ⟨g, 0, none⟩ = some (.slice (some ⟨b, off, none⟩) ns.length cap) := fun s => ((HK.out.2 _ s.ok).cell (p := ⟨g, 0, none⟩) GL.out).trans g0
  have s0 : ∀ s : Hw S, s.w.cell? ⟨w.heap.size + 1, 0, none⟩ = some (.int .i64 y.k) := fun s => ((HK.out.2 _ s.ok).cell (p := ⟨w.heap.size + 1, 0, none⟩) GN.out).trans n0
  have s1 : ∀ s : Hw S, s.w.cell? ⟨w.heap.size + 1, 1, none⟩ = some (.int .i64 y.n) := fun s => ((HK.out.2 _ s.ok).cell (p := ⟨w.heap.size + 1, 1, none⟩) GN.out).trans n1
  have s2 : ∀ s : Hw S, s.w.cell? ⟨w.heap.size + 1, 2, none⟩ = some (.int .i64 y.a) := fun s => ((HK.out.2 _ s.ok).cell (p := ⟨w.heap.size + 1, 2, none⟩) GN.out).trans n2
  have s3 : ∀ s : Hw S, s.w.cell? ⟨w.heap.size + 1, 3, none⟩ = some (.int .i64 y.b) := fun s => ((HK.out.2 _ s.ok).cell (p := ⟨w.heap.size + 1, 3, none⟩) GN.out).trans n3
  have HP : Hid (∀ s : Hw S, Calls Try.prog 91 #[.agg #[.slice (some ⟨b, off, none⟩) ns.length cap], .agg #[.int .i64 y.k, .int .i64 y.n, .int .i64 y.a, .int .i64 y.b]] s.w fun e w' => e = .returned (.int .i64 pk) ∧ Below s.w.heap.size s.w w') := fun s => hPI.out _ (HBX.out.1.trans ((HK.out.2 _ s.ok).mono HBX.out.1.size))
  clear g0 g1 g2 n0 n1 n2 n3 hPI HAH HY HR hb hbb
  by_cases hk : y.k = kd
  · subst hk
    refine wp_region_front (S := S) 15 #[true, true, true, true, true, true, true, true, true, true, true, true, true, true, true, false, false, false] (by kernel_rfl) (by kernel_rfl) (by kernel_rfl) hS0 ?_
    simp only [List.take_succ_cons, List.take_zero]
    repeat (go_big_quiet_step ((go_at_call 91; exact Calls.held (HP.out _) (HK.out.1 _))))
    refine wpQuiet_nil ?_
    rintro _ ⟨sw, rfl⟩
    have hB5 := HK.out.2 _ sw.ok
    obtain ⟨w5, hw5⟩ : ∃ w5, w5 = sw.w := ⟨_, rfl⟩
    rw [← hw5] at hB5 ⊢
    clear hw5 sw HK HP sg s0 s1 s2 s3 hS0 hNE
    show wpAny _ _ _ _ 3 _ _ _
    have e0 : w5.cell? ⟨g, 1, none⟩ = some (.bool true) := (cell_of_row _ _ 1 _ _ _ ((hB5.block _ GL.out).trans HG1.out)).trans rfl
    have e1 : w5.frozen? ⟨g, 1, none⟩ = false := frozen_of_row _ _ 1 _ _ ((hB5.block _ GL.out).trans HG1.out)
    refine wpAny_take (i := 15) (v := ?_) rfl (by kernel_rfl) (by kernel_rfl) (by kernel_rfl) (fun _ _ _ h => h) (Or.inl ⟨by rfl, ?_⟩) ?_
    rotate_left
    · intro w; go_simp; try with_reducible rfl
    refine wpAny_take (i := 16) (v := ?_) rfl (by kernel_rfl) (by kernel_rfl) (by kernel_rfl) (fun _ _ _ h => h) (Or.inl ⟨by rfl, ?_⟩) ?_
    rotate_left
    · intro w; go_simp; try with_reducible rfl
    refine wpAny_ready (rs := [17]) (by kernel_rfl) (by simp) ?_
    refine AllReady.cons rfl (fun Kt hKt => ?_) AllReady.nil
    go_simp
    refine hKt _ _ ?_
    clear hKt Kt
    refine wpAny_done (by kernel_rfl) ?_ _
    have GR : Hid (w.heap.size < w1.heap.size) := by have := GN.out; show _ < _; omega
    have b5 : ∀ u, (w5.setCell ⟨g, 1, none⟩ u).heap[w.heap.size + 1]? = some (.cells #[.int .i64 y.k, .int .i64 y.n, .int .i64 y.a, .int .i64 y.b] 45 (0, 0)) := fun u => (Below.heap_setCell _ _ _ _ (show w.heap.size + 1 ≠ g by omega)).trans ((hB5.block _ GN.out).trans HN1.out)
    have z5 : ∀ u, (w5.setCell ⟨g, 1, none⟩ u).heap[w.heap.size]? = some (.cells #[.int .i64 0, .int .i64 0, .int .i64 0, .int .i64 0] 45 (0, 0)) := fun u => (Below.heap_setCell _ _ _ _ (show w.heap.size ≠ g by omega)).trans ((hB5.block _ GR.out).trans HZ1.out)
    have n0 : ∀ u, (w5.setCell ⟨g, 1, none⟩ u).cell? ⟨w.heap.size + 1, 0, none⟩ = some (.int .i64 y.k) := fun u => (cell_of_row _ _ 0 _ _ _ (b5 u)).trans rfl
    have r0 : ∀ u, (w5.setCell ⟨g, 1, none⟩ u).cell? ⟨w.heap.size, 0, none⟩ = some (.int .i64 0) := fun u => (cell_of_row _ _ 0 _ _ _ (z5 u)).trans rfl
    have q0 : ∀ u, (w5.setCell ⟨g, 1, none⟩ u).frozen? ⟨w.heap.size, 0, none⟩ = false := fun u => frozen_of_row _ _ 0 _ _ (z5 u)
    have n1 : ∀ u, (w5.setCell ⟨g, 1, none⟩ u).cell? ⟨w.heap.size + 1, 1, none⟩ = some (.int .i64 y.n) := fun u => (cell_of_row _ _ 1 _ _ _ (b5 u)).trans rfl
    have r1 : ∀ u, (w5.setCell ⟨g, 1, none⟩ u).cell? ⟨w.heap.size, 1, none⟩ = some (.int .i64 0) := fun u => (cell_of_row _ _ 1 _ _ _ (z5 u)).trans rfl
    have q1 : ∀ u, (w5.setCell ⟨g, 1, none⟩ u).frozen? ⟨w.heap.size, 1, none⟩ = false := fun u => frozen_of_row _ _ 1 _ _ (z5 u)
    have n2 : ∀ u, (w5.setCell ⟨g, 1, none⟩ u).cell? ⟨w.heap.size + 1, 2, none⟩ = some (.int .i64 y.a) := fun u => (cell_of_row _ _ 2 _ _ _ (b5 u)).trans rfl
    have r2 : ∀ u, (w5.setCell ⟨g, 1, none⟩ u).cell? ⟨w.heap.size, 2, none⟩ = some (.int .i64 0) := fun u => (cell_of_row _ _ 2 _ _ _ (z5 u)).trans rfl
    have q2 : ∀ u, (w5.setCell ⟨g, 1, none⟩ u).frozen? ⟨w.heap.size, 2, none⟩ = false := fun u => frozen_of_row _ _ 2 _ _ (z5 u)
    have n3 : ∀ u, (w5.setCell ⟨g, 1, none⟩ u).cell? ⟨w.heap.size + 1, 3, none⟩ = some (.int .i64 y.b) := fun u => (cell_of_row _ _ 3 _ _ _ (b5 u)).trans rfl
    have r3 : ∀ u, (w5.setCell ⟨g, 1, none⟩ u).cell? ⟨w.heap.size, 3, none⟩ = some (.int .i64 0) := fun u => (cell_of_row _ _ 3 _ _ _ (z5 u)).trans rfl
    have q3 : ∀ u, (w5.setCell ⟨g, 1, none⟩ u).frozen? ⟨w.heap.size, 3, none⟩ = false := fun u => frozen_of_row _ _ 3 _ _ (z5 u)
    have HFIN : Hid _ := rd_fin (u := (pk == (i : Int))) (y := y) hlt HBX.out.2 HBX.out.1 hB5 HG1.out HZ1.out
    clear b5 z5 hB5
    go_wp2_with fail
    refine bodyPost_ret (results_cell_row rfl _ _ w.heap.size 45 #[.int .i64 y.k, .int .i64 y.n, .int .i64 y.a, .int .i64 y.b] (0, 0) _ rfl HFIN.out.1 Try.underlying45 rfl nodeSizeI) rfl ?_
    exact ⟨rfl, by rw [show decide (pk = (i : Int)) = (pk == (i : Int)) from Bool.eq_iff_iff.2 (by simp)]; exact HFIN.out.2.1, HFIN.out.2.2⟩
  · have hkb : (y.k == kd) = false := by simpa using hk
    have HKN : Hid (¬ y.k = kd) := hk
    clear hk
    refine wp_region_front (S := S) 15 #[true, true, true, true, true, true, true, true, true, true, true, true, true, true, true, false, false, false] (by kernel_rfl) (by kernel_rfl) (by kernel_rfl) hS0 ?_
    simp only [List.take_succ_cons, List.take_zero]
    repeat (go_big_quiet_step ((go_at_call 91; exact Calls.held (HP.out _) (HK.out.1 _))))
    refine wpQuiet_nil ?_
    rintro _ ⟨sw, rfl⟩
    have hB5 := HK.out.2 _ sw.ok
    obtain ⟨w5, hw5⟩ : ∃ w5, w5 = sw.w := ⟨_, rfl⟩
    rw [← hw5] at hB5 ⊢
    clear hw5 sw HK HP sg s0 s1 s2 s3 hS0 hNE
    show wpAny _ _ _ _ 3 _ _ _
    have e0 : w5.cell? ⟨g, 1, none⟩ = some (.bool true) := (cell_of_row _ _ 1 _ _ _ ((hB5.block _ GL.out).trans HG1.out)).trans rfl
    have e1 : w5.frozen? ⟨g, 1, none⟩ = false := frozen_of_row _ _ 1 _ _ ((hB5.block _ GL.out).trans HG1.out)
    refine wpAny_take (i := 15) (v := ?_) rfl (by kernel_rfl) (by kernel_rfl) (by kernel_rfl) (fun _ _ _ h => h) (Or.inl ⟨by rfl, ?_⟩) ?_
    rotate_left
    · intro w; go_simp; try with_reducible rfl
    refine wpAny_take (i := 16) (v := ?_) rfl (by kernel_rfl) (by kernel_rfl) (by kernel_rfl) (fun _ _ _ h => h) (Or.inl ⟨by rfl, ?_⟩) ?_
    rotate_left
    · intro w; go_simp; try with_reducible rfl
    refine wpAny_ready (rs := [17]) (by kernel_rfl) (by simp) ?_
    refine AllReady.cons rfl (fun Kt hKt => ?_) AllReady.nil
    go_simp
    refine hKt _ _ ?_
    clear hKt Kt
    refine wpAny_done (by kernel_rfl) ?_ _
    have GR : Hid (w.heap.size < w1.heap.size) := by have := GN.out; show _ < _; omega
    have b5 : ∀ u, (w5.setCell ⟨g, 1, none⟩ u).heap[w.heap.size + 1]? = some (.cells #[.int .i64 y.k, .int .i64 y.n, .int .i64 y.a, .int .i64 y.b] 45 (0, 0)) := fun u => (Below.heap_setCell _ _ _ _ (show w.heap.size + 1 ≠ g by omega)).trans ((hB5.block _ GN.out).trans HN1.out)
    have z5 : ∀ u, (w5.setCell ⟨g, 1, none⟩ u).heap[w.heap.size]? = some (.cells #[.int .i64 0, .int .i64 0, .int .i64 0, .int .i64 0] 45 (0, 0)) := fun u => (Below.heap_setCell _ _ _ _ (show w.heap.size ≠ g by omega)).trans ((hB5.block _ GR.out).trans HZ1.out)
    have n0 : ∀ u, (w5.setCell ⟨g, 1, none⟩ u).cell? ⟨w.heap.size + 1, 0, none⟩ = some (.int .i64 y.k) := fun u => (cell_of_row _ _ 0 _ _ _ (b5 u)).trans rfl
    have r0 : ∀ u, (w5.setCell ⟨g, 1, none⟩ u).cell? ⟨w.heap.size, 0, none⟩ = some (.int .i64 0) := fun u => (cell_of_row _ _ 0 _ _ _ (z5 u)).trans rfl
    have q0 : ∀ u, (w5.setCell ⟨g, 1, none⟩ u).frozen? ⟨w.heap.size, 0, none⟩ = false := fun u => frozen_of_row _ _ 0 _ _ (z5 u)
    have n1 : ∀ u, (w5.setCell ⟨g, 1, none⟩ u).cell? ⟨w.heap.size + 1, 1, none⟩ = some (.int .i64 y.n) := fun u => (cell_of_row _ _ 1 _ _ _ (b5 u)).trans rfl
    have r1 : ∀ u, (w5.setCell ⟨g, 1, none⟩ u).cell? ⟨w.heap.size, 1, none⟩ = some (.int .i64 0) := fun u => (cell_of_row _ _ 1 _ _ _ (z5 u)).trans rfl
    have q1 : ∀ u, (w5.setCell ⟨g, 1, none⟩ u).frozen? ⟨w.heap.size, 1, none⟩ = false := fun u => frozen_of_row _ _ 1 _ _ (z5 u)
    have n2 : ∀ u, (w5.setCell ⟨g, 1, none⟩ u).cell? ⟨w.heap.size + 1, 2, none⟩ = some (.int .i64 y.a) := fun u => (cell_of_row _ _ 2 _ _ _ (b5 u)).trans rfl
    have r2 : ∀ u, (w5.setCell ⟨g, 1, none⟩ u).cell? ⟨w.heap.size, 2, none⟩ = some (.int .i64 0) := fun u => (cell_of_row _ _ 2 _ _ _ (z5 u)).trans rfl
    have q2 : ∀ u, (w5.setCell ⟨g, 1, none⟩ u).frozen? ⟨w.heap.size, 2, none⟩ = false := fun u => frozen_of_row _ _ 2 _ _ (z5 u)
    have n3 : ∀ u, (w5.setCell ⟨g, 1, none⟩ u).cell? ⟨w.heap.size + 1, 3, none⟩ = some (.int .i64 y.b) := fun u => (cell_of_row _ _ 3 _ _ _ (b5 u)).trans rfl
    have r3 : ∀ u, (w5.setCell ⟨g, 1, none⟩ u).cell? ⟨w.heap.size, 3, none⟩ = some (.int .i64 0) := fun u => (cell_of_row _ _ 3 _ _ _ (z5 u)).trans rfl
    have q3 : ∀ u, (w5.setCell ⟨g, 1, none⟩ u).frozen? ⟨w.heap.size, 3, none⟩ = false := fun u => frozen_of_row _ _ 3 _ _ (z5 u)
    have HFIN : Hid _ := rd_fin (u := false) (y := y) hlt HBX.out.2 HBX.out.1 hB5 HG1.out HZ1.out
    clear b5 z5 hB5
    go_wp2_with fail
    refine bodyPost_ret (results_cell_row rfl _ _ w.heap.size 45 #[.int .i64 y.k, .int .i64 y.n, .int .i64 y.a, .int .i64 y.b] (0, 0) _ rfl HFIN.out.1 Try.underlying45 rfl nodeSizeI) rfl ?_
    exact ⟨rfl, by rw [decide_eq_false HKN.out]; exact HFIN.out.2.1, HFIN.out.2.2⟩

/-- The reader's method, at every place. -/
theorem rdNode_any (g : Nat) (a : Option Addr) (cap : Nat) (ns : List Nd) (ok : Bool) (kd k : Int) (w : World) (hl : ns.length ≤ 1048576)
    (hb : w.heap[g]? = some (.cells #[.slice a ns.length cap, .bool ok] 175 (0, 0))) (hr : RowN w.heap.size w a ns) :
    Calls Try.prog 170 #[.pointer (some ⟨g, 0, none⟩), .int .i64 kd, .int .i64 k] w fun e w' => e = .returned (.agg #[.int .i64 (rdN ns ok kd k).1.k, .int .i64 (rdN ns ok kd k).1.n, .int .i64 (rdN ns ok kd k).1.a, .int .i64 (rdN ns ok kd k).1.b]) ∧ w'.heap[g]? = some (.cells #[.slice a ns.length cap, .bool (rdN ns ok kd k).2] 175 (0, 0)) ∧ w.grownBy w' (some g) := by
  by_cases hc : ok = true ∧ (0 ≤ k ∧ k < (ns.length : Int))
  · obtain ⟨rfl, hk⟩ := hc
    have e : rdN ns true kd k = (ndAt ns k, decide ((ndAt ns k).k = kd) && decide (putK ns (ndAt ns k) = k)) := by unfold rdN; rw [if_pos ⟨rfl, hk⟩]
    rw [e]
    obtain ⟨i, rfl⟩ : ∃ i : Nat, k = (i : Int) := ⟨k.toNat, by omega⟩
    have := rdNode_yes g a cap ns kd i w hl (by omega) hb hr
    have e2 : ndAt ns (i : Int) = ns.getD i Nd.zero := by unfold ndAt; simp
    rw [e2]
    exact this
  · have e : rdN ns ok kd k = (Nd.zero, false) := by unfold rdN; rw [if_neg hc]
    rw [e]
    refine rdNode_no g a ns.length cap ok kd k w hb ?_
    by_cases h1 : ok = true
    · refine .inr ?_
      unfold inB
      rw [Bool.and_eq_false_iff]
      by_cases h2 : 0 ≤ k
      · exact .inr (decide_eq_false (fun h3 => hc ⟨h1, h2, by omega⟩))
      · exact .inl (decide_eq_false h2)
    · exact .inl (by simpa using h1)

end Go.Proofs.Ytffnadnndmmliaa
