/- The program's HelloIn and ServerIn (chapter 11). -/
import Derived.Test.YtlmkkkpjcpopkaaWrd11d
import Derived.Test.YtlmkkkpjcpopkaaWrd11r
import Derived.Deep.QuietTactic
namespace Go.Proofs.Ytlmkkkpjcpopkaa
open Go.RowKit
set_option linter.unusedVariables false
set_option maxHeartbeats 1600000 in
set_option maxRecDepth 20000 in
theorem implHelloIn_any (a : Option Addr) (cap : Nat) (ns : List Nd) (k : Int) (w : World) (hl : ns.length ≤ 1048576) (hf : ∀ y ∈ ns, y.Fits) (hr : RowN w.heap.size w a ns) :
    Calls Try.prog 16 #[.agg #[.slice a ns.length cap], .int .i64 k] w fun e w' => e = .returned (.tuple #[.agg #[.int .i64 (helM ns k), .int .i64 (helN ns k), .int .i64 (helO ns k), .int .i64 (helP ns k)], .bool (helB ns k)]) ∧ Below w.heap.size w w' := by
  obtain ⟨y0, y1, y2, y3, HR⟩ : ∃ y0 y1 y2 y3 : Int, Hid (∀ wz, Below w.heap.size w wz → Calls Try.prog 71 #[.agg #[.slice a ns.length cap], .int .i64 k, .func (.func 72) #[] #[]] wz fun e w' => e = .returned (.tuple #[.agg #[.int .i64 (helM ns k), .int .i64 (helN ns k), .int .i64 (helO ns k), .int .i64 (helP ns k)], .bool (helB ns k)]) ∧ Below wz.heap.size wz w') := by
    refine ⟨0, 0, 0, 0, fun wz hb => ?_⟩
    refine (readHl_any a cap ns k (numV ns (p5 ns k 1)) (numV ns (p5 ns k 2)) (p5 ns k 3) (p5 ns k 4) (helB ns k) wz hl (hr.grown hb) (fun g wy hy => hlW_any g a cap ns k wy hl hy hf)).mono ?_
    rintro e w' ⟨⟨hb, rfl⟩ | ⟨hb, rfl⟩, h2⟩
    · refine ⟨?_, h2⟩
      unfold helM helN helO helP
      rw [hb]; rfl
    · refine ⟨?_, h2⟩
      unfold helM helN helO helP
      rw [hb]; rfl
  have hb0 : Below w.heap.size w ((w.alloc (.cells #[.slice a ns.length cap] 26)).alloc (.cells #[.int .i64 0, .int .i64 0, .int .i64 0, .int .i64 0] 28)) := ((Below.refl _ _).alloc (Nat.le_refl _) _).alloc (by simp) _
  have hz : ((w.alloc (.cells #[.slice a ns.length cap] 26)).alloc (.cells #[.int .i64 0, .int .i64 0, .int .i64 0, .int .i64 0] 28)).heap[w.heap.size + 1]? = some (.cells #[.int .i64 0, .int .i64 0, .int .i64 0, .int .i64 0] 28 (0, 0)) := by
    have := heap_alloc_new (w.alloc (.cells #[.slice a ns.length cap] 26)) (.cells #[.int .i64 0, .int .i64 0, .int .i64 0, .int .i64 0] 28)
    simpa using this
  have hA : ((w.alloc (.cells #[.slice a ns.length cap] 26)).alloc (.cells #[.int .i64 0, .int .i64 0, .int .i64 0, .int .i64 0] 28)).heap[w.heap.size]? = some (.cells #[.slice a ns.length cap] 26 (0, 0)) := (heap_alloc_old _ _ (by simp)).trans (heap_alloc_new w _)
  have c0 : ((w.alloc (.cells #[.slice a ns.length cap] 26)).alloc (.cells #[.int .i64 0, .int .i64 0, .int .i64 0, .int .i64 0] 28)).cell? ⟨w.heap.size, 0, none⟩ = some (.slice a ns.length cap) := (cell_of_row _ _ 0 _ _ _ hA).trans rfl
  have HC : Hid _ := HR.out _ hb0
  have hs0 : ((w.alloc (.cells #[.slice a ns.length cap] 26)).alloc (.cells #[.int .i64 0, .int .i64 0, .int .i64 0, .int .i64 0] 28)).heap.size = w.heap.size + 2 := by simp
  generalize helM ns k = x0 at HC ⊢
  generalize helN ns k = x1 at HC ⊢
  generalize helO ns k = x2 at HC ⊢
  generalize helP ns k = x3 at HC ⊢
  generalize helB ns k = bb at HC ⊢
  clear hr hf HR hA
  go_enter Try.func16, Try.ntmps16
  go_wp2_with fail
  generalize (w.alloc (.cells #[.slice a ns.length cap] 26)).alloc (.cells #[.int .i64 0, .int .i64 0, .int .i64 0, .int .i64 0] 28) = w0 at hb0 hz c0 HC hs0 ⊢
  refine Calls.mono HC.out ?_
  rintro e w1 ⟨rfl, hb1⟩
  have hz1 := (hb1.block (w.heap.size + 1) (by omega)).trans hz
  have e0 : w1.cell? ⟨w.heap.size + 1, 0, none⟩ = some (.int .i64 0) := (cell_of_row _ _ 0 _ _ _ hz1).trans rfl
  have e1 : w1.cell? ⟨w.heap.size + 1, 1, none⟩ = some (.int .i64 0) := (cell_of_row _ _ 1 _ _ _ hz1).trans rfl
  have e2 : w1.cell? ⟨w.heap.size + 1, 2, none⟩ = some (.int .i64 0) := (cell_of_row _ _ 2 _ _ _ hz1).trans rfl
  have e3 : w1.cell? ⟨w.heap.size + 1, 3, none⟩ = some (.int .i64 0) := (cell_of_row _ _ 3 _ _ _ hz1).trans rfl
  have f0 : w1.frozen? ⟨w.heap.size + 1, 0, none⟩ = false := frozen_of_row _ _ 0 _ _ hz1
  have f1 : w1.frozen? ⟨w.heap.size + 1, 1, none⟩ = false := frozen_of_row _ _ 1 _ _ hz1
  have f2 : w1.frozen? ⟨w.heap.size + 1, 2, none⟩ = false := frozen_of_row _ _ 2 _ _ hz1
  have f3 : w1.frozen? ⟨w.heap.size + 1, 3, none⟩ = false := frozen_of_row _ _ 3 _ _ hz1
  have HX : Hid _ := set4r hz1 (.int .i64 x0) (.int .i64 x1) (.int .i64 x2) (.int .i64 x3)
  have hB1 : Below w.heap.size w w1 := hb0.trans (hb1.mono (by omega))
  have HB : Hid (Below w.heap.size w ((((w1.setCell ⟨w.heap.size + 1, 0, none⟩ (.int .i64 x0)).setCell ⟨w.heap.size + 1, 1, none⟩ (.int .i64 x1)).setCell ⟨w.heap.size + 1, 2, none⟩ (.int .i64 x2)).setCell ⟨w.heap.size + 1, 3, none⟩ (.int .i64 x3))) := below4 (g := w.heap.size + 1) hB1 (by omega) _ _ _ _
  clear hB1 hb1 hz1 hb0 hz c0 HC hs0
  go_wp2
  refine bodyPost_ret (res_cell2 rfl _ _ (w.heap.size + 1) 28 #[.int .i64 x0, .int .i64 x1, .int .i64 x2, .int .i64 x3] (0, 0) _ rfl ?_ Try.underlying28 rfl sizeHl) rfl ?_
  · exact HX.out
  · exact ⟨rfl, HB.out⟩
set_option maxHeartbeats 1600000 in
set_option maxRecDepth 20000 in
theorem implServerIn_any (a : Option Addr) (cap : Nat) (ns : List Nd) (k : Int) (w : World) (hl : ns.length ≤ 1048576) (hr : RowN w.heap.size w a ns) :
    Calls Try.prog 20 #[.agg #[.slice a ns.length cap], .int .i64 k] w fun e w' => e = .returned (.tuple #[.int .i64 (srvN ns k), .int .i64 (srvP ns k), .bool (srvB ns k)]) ∧ Below w.heap.size w w' := by
  have hb0 : Below w.heap.size w (w.alloc (.cells #[.slice a ns.length cap] 26)) := (Below.refl _ _).alloc (Nat.le_refl _) _
  have hA := heap_alloc_new w (.cells #[.slice a ns.length cap] 26)
  have c0 : (w.alloc (.cells #[.slice a ns.length cap] 26)).cell? ⟨w.heap.size, 0, none⟩ = some (.slice a ns.length cap) := (cell_of_row _ _ 0 _ _ _ hA).trans rfl
  have HC : Hid _ := readSv_any a cap ns k (p3 ns k 1) (p3 ns k 2) (srvB ns k) _ hl (hr.grown hb0) (fun g wy hy => svW_any g a cap ns k wy hl hy)
  have hs0 : (w.alloc (.cells #[.slice a ns.length cap] 26)).heap.size = w.heap.size + 1 := by simp
  unfold srvN srvP
  generalize p3 ns k 1 = x0 at HC ⊢
  generalize p3 ns k 2 = x1 at HC ⊢
  cases hbb : srvB ns k with
  | true =>
    rw [hbb] at HC
    rw [if_pos rfl, if_pos rfl]
    clear hr hA hbb
    go_enter Try.func20, Try.ntmps20
    go_wp2_with fail
    generalize w.alloc (.cells #[.slice a ns.length cap] 26) = w0 at hb0 c0 HC hs0 ⊢
    refine Calls.mono HC.out ?_
    rintro e w1 ⟨⟨-, rfl⟩ | ⟨h, -⟩, hb1⟩
    · have hN := heap_alloc_new w1 (.cells #[.int .i64 x0, .int .i64 x1] 99)
      have HB : Hid (Below w.heap.size w (w1.alloc (.cells #[.int .i64 x0, .int .i64 x1] 99))) := (hb0.trans (hb1.mono (by omega))).alloc (by have := hb1.size; omega) _
      have d0 : (w1.alloc (.cells #[.int .i64 x0, .int .i64 x1] 99)).cell? ⟨w1.heap.size, 0, none⟩ = some (.int .i64 x0) := (cell_of_row _ _ 0 _ _ _ hN).trans rfl
      have d1 : (w1.alloc (.cells #[.int .i64 x0, .int .i64 x1] 99)).cell? ⟨w1.heap.size, 1, none⟩ = some (.int .i64 x1) := (cell_of_row _ _ 1 _ _ _ hN).trans rfl
      clear hb1 hb0 c0 HC hs0 hN
      go_wp2_with fail
      generalize w1.alloc (.cells #[.int .i64 x0, .int .i64 x1] 99) = w2 at HB d0 d1 ⊢
      go_quiet (fail)
      go_wp2
      go_ret3
      exact ⟨rfl, below_dn HB.out _⟩
    · cases h
  | false =>
    rw [hbb] at HC
    rw [if_neg (by decide), if_neg (by decide)]
    clear hr hA hbb
    go_enter Try.func20, Try.ntmps20
    go_wp2_with fail
    generalize w.alloc (.cells #[.slice a ns.length cap] 26) = w0 at hb0 c0 HC hs0 ⊢
    refine Calls.mono HC.out ?_
    rintro e w1 ⟨⟨h, -⟩ | ⟨-, rfl⟩, hb1⟩
    · cases h
    · have HB : Hid (Below w.heap.size w (w1.alloc (.cells #[.int .i64 0, .int .i64 0] 99))) := (hb0.trans (hb1.mono (by omega))).alloc (by have := hb1.size; omega) _
      clear hb1 hb0 c0 HC hs0
      go_wp2
      go_ret3
      exact ⟨rfl, HB.out⟩
end Go.Proofs.Ytlmkkkpjcpopkaa
