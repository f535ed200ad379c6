/- DrawHelloIn, the specification's. -/
import Derived.Test.YtlecpjgeaigjkaaDraw11b
namespace Go.Proofs.Ytlecpjgeaigjkaa
open Go.RowKit
set_option linter.unusedVariables false
theorem keptA_fits11 {ns A : List Nd} {K : Int} (hf : ∀ y ∈ ns, y.Fits) (hA : ∀ y ∈ A, y.Fits) : ∀ y ∈ keptA ns A K, y.Fits := by
  unfold keptA; split
  · exact hf
  · exact hA
theorem hlA_fits {ns : List Nd} {mo na no pu : Int} (hf : ∀ y ∈ ns, y.Fits) (hl : ns.length ≤ 1048576) : ∀ y ∈ hlA ns mo na no pu, y.Fits :=
  listF_fits _ (putA_fits (putA_fits (putA_fits hf hl) (putA_le2 hl)) (putA_le2 (putA_le2 hl))) (hlA3_le hl)
theorem listF_rg (xs : List Int) {ns : List Nd} (hl : ns.length ≤ 1048576) : -1 ≤ (listF xs ns).2 ∧ (listF xs ns).2 ≤ 1048576 := by
  cases xs with
  | nil => rw [listF_nil]; simp only; have := putK_rg ns ⟨1, 0, 0, 0⟩; omega
  | cons x xs => rw [listF_cons]; simp only; have := makeK_rg (listF xs ns).1 2 x (listF xs ns).2; have := listF_le xs hl; omega
theorem hlK_range {ns : List Nd} {mo na no pu : Int} (hl : ns.length ≤ 1048576) : -1 ≤ hlK ns mo na no pu ∧ hlK ns mo na no pu ≤ 1048576 := listF_rg _ (hlA3_le hl)
theorem mod7 (len : Nat) : ((len : Int)).tmod 7 = ((len % 7 : Nat) : Int) := by rw [Int.tmod_eq_emod_of_nonneg (by omega)]; omega
set_option maxHeartbeats 3200000 in
set_option maxRecDepth 20000 in
theorem drawHelIn_any (a : Option Addr) (len cap : Nat) (w : World) (hlen : len ≤ 1048576) (hc : CodeIn w.heap.size w a len) :
    Calls Try.prog 33 #[.slice a len cap] w fun e w' => ∃ v ns, ∃ k : Int, e = .returned (.tuple #[.agg #[v], .int .i64 k]) ∧ ns.length ≤ 1048576 ∧ (∀ y ∈ ns, y.Fits) ∧ -2 ≤ k ∧ k ≤ 1048576 ∧ OwnN w.heap.size w' v ns ∧ Below w.heap.size w w' := by
  have hb0 : Below w.heap.size w (w.alloc (.cells #[.slice none 0 0] 30)) := (Below.refl _ _).alloc (Nat.le_refl _) _
  have hx0 := heap_alloc_new w (.cells #[.slice none 0 0] 30)
  have hc0 := codeIn_later hc hb0
  have hs0 : (w.alloc (.cells #[.slice none 0 0] 30)).heap.size = w.heap.size + 1 := by simp
  clear hc
  go_enter Try.func33, Try.ntmps33
  go_wp2_with fail
  generalize w.alloc (.cells #[.slice none 0 0] 30) = w0 at hb0 hx0 hc0 hs0 ⊢
  refine (drawHel_any _ _ _ _ hc0).mono ?_
  rintro e w1 ⟨v3, ns, mo, na, no, pu, rfl, hn2, hfit, hk0, hk1, he0, he1, hq0, hq1, hr0', hr1', ho3, hb1⟩
  obtain ⟨a3, cap3, rfl, hA3, hR3⟩ := ho3.row
  have hs1 := hb1.size
  have hbX : Below w1.heap.size w1 ((w1.alloc (.cells #[.slice a3 ns.length cap3] 30)).alloc (.cells #[.int .i64 mo, .int .i64 na, .int .i64 no, .int .i64 pu] 34)) := ((Below.refl _ _).alloc (Nat.le_refl _) _).alloc (by simp) _
  have HBX : Hid (Below w0.heap.size w0 ((w1.alloc (.cells #[.slice a3 ns.length cap3] 30)).alloc (.cells #[.int .i64 mo, .int .i64 na, .int .i64 no, .int .i64 pu] 34))) := hb1.trans (hbX.mono hb1.size)
  have hX0 : ((w1.alloc (.cells #[.slice a3 ns.length cap3] 30)).alloc (.cells #[.int .i64 mo, .int .i64 na, .int .i64 no, .int .i64 pu] 34)).heap[w1.heap.size]? = some (.cells #[.slice a3 ns.length cap3] 30 (0, 0)) := (heap_alloc_old _ _ (by simp)).trans (heap_alloc_new w1 _)
  have hX1 : ((w1.alloc (.cells #[.slice a3 ns.length cap3] 30)).alloc (.cells #[.int .i64 mo, .int .i64 na, .int .i64 no, .int .i64 pu] 34)).heap[w1.heap.size + 1]? = some (.cells #[.int .i64 mo, .int .i64 na, .int .i64 no, .int .i64 pu] 34 (0, 0)) := by
    have := heap_alloc_new (w1.alloc (.cells #[.slice a3 ns.length cap3] 30)) (.cells #[.int .i64 mo, .int .i64 na, .int .i64 no, .int .i64 pu] 34)
    simpa using this
  have cX : ((w1.alloc (.cells #[.slice a3 ns.length cap3] 30)).alloc (.cells #[.int .i64 mo, .int .i64 na, .int .i64 no, .int .i64 pu] 34)).cell? ⟨w1.heap.size, 0, none⟩ = some (.slice a3 ns.length cap3) := (cell_of_row _ _ 0 _ _ _ hX0).trans rfl
  have cH0 : ((w1.alloc (.cells #[.slice a3 ns.length cap3] 30)).alloc (.cells #[.int .i64 mo, .int .i64 na, .int .i64 no, .int .i64 pu] 34)).cell? ⟨w1.heap.size + 1, 0, none⟩ = some (.int .i64 mo) := (cell_of_row _ _ 0 _ _ _ hX1).trans rfl
  have cH1 : ((w1.alloc (.cells #[.slice a3 ns.length cap3] 30)).alloc (.cells #[.int .i64 mo, .int .i64 na, .int .i64 no, .int .i64 pu] 34)).cell? ⟨w1.heap.size + 1, 1, none⟩ = some (.int .i64 na) := (cell_of_row _ _ 1 _ _ _ hX1).trans rfl
  have cH2 : ((w1.alloc (.cells #[.slice a3 ns.length cap3] 30)).alloc (.cells #[.int .i64 mo, .int .i64 na, .int .i64 no, .int .i64 pu] 34)).cell? ⟨w1.heap.size + 1, 2, none⟩ = some (.int .i64 no) := (cell_of_row _ _ 2 _ _ _ hX1).trans rfl
  have cH3 : ((w1.alloc (.cells #[.slice a3 ns.length cap3] 30)).alloc (.cells #[.int .i64 mo, .int .i64 na, .int .i64 no, .int .i64 pu] 34)).cell? ⟨w1.heap.size + 1, 3, none⟩ = some (.int .i64 pu) := (cell_of_row _ _ 3 _ _ _ hX1).trans rfl
  have HRR : Hid (RowN ((w1.alloc (.cells #[.slice a3 ns.length cap3] 30)).alloc (.cells #[.int .i64 mo, .int .i64 na, .int .i64 no, .int .i64 pu] 34)).heap.size ((w1.alloc (.cells #[.slice a3 ns.length cap3] 30)).alloc (.cells #[.int .i64 mo, .int .i64 na, .int .i64 no, .int .i64 pu] 34)) a3 ns) := hR3.grown hbX
  have hszX : ((w1.alloc (.cells #[.slice a3 ns.length cap3] 30)).alloc (.cells #[.int .i64 mo, .int .i64 na, .int .i64 no, .int .i64 pu] 34)).heap.size = w1.heap.size + 2 := by simp
  have HA3 : Hid (AddrN a3 cap3) := hA3
  obtain ⟨M, K, HM, hMK⟩ : ∃ (M : List Nd) (K : Int), Hid ((∀ y ∈ M, y.Fits) ∧ M.length ≤ 1048576 ∧ -1 ≤ K ∧ K ≤ 1048576) ∧ (M = keptA ns (hlA ns mo na no pu) (hlK ns mo na no pu) ∧ K = hlK ns mo na no pu) := ⟨_, _, ⟨keptA_fits11 hfit (hlA_fits hfit (by omega)), by unfold keptA; split; omega; exact hlA_le (by omega), hlK_range (by omega)⟩, rfl, rfl⟩
  clear ho3 hfit hR3 hA3 hb1 hX0 hX1 hc0
  go_wp2_with fail
  generalize (w1.alloc (.cells #[.slice a3 ns.length cap3] 30)).alloc (.cells #[.int .i64 mo, .int .i64 na, .int .i64 no, .int .i64 pu] 34) = wX at HBX cX cH0 cH1 cH2 cH3 HRR hszX hbX ⊢
  clear cX cH0 cH1 cH2 cH3
  refine (specHello_any a3 cap3 ns mo na no pu wX (by omega) HA3.out HRR.out).mono ?_
  rintro e w2 ⟨v5, rfl, ho5, hb2⟩
  rw [← hMK.1] at ho5
  rw [← hMK.2]
  clear hMK
  obtain ⟨a5, cap5, rfl, -, -⟩ := ho5.row
  have HB2 : Hid (Below w0.heap.size w0 w2) := HBX.out.trans (hb2.mono HBX.out.size)
  have hs2 := hb2.size
  clear hb2 HBX HRR hbX HA3
  have hx2 := (HB2.out.block w.heap.size (by omega)).trans hx0
  have hlt2 : w.heap.size < w2.heap.size := by omega
  have hx3 := (heap_alloc_old w2 (.cells #[.slice a5 M.length cap5] 30) hlt2).trans hx2
  have r0 : (w2.alloc (.cells #[.slice a5 M.length cap5] 30)).cell? ⟨w.heap.size, 0, none⟩ = some (.slice none 0 0) := by rw [cell_of_row _ _ 0 _ _ _ hx3]; rfl
  have f0 : (w2.alloc (.cells #[.slice a5 M.length cap5] 30)).frozen? ⟨w.heap.size, 0, none⟩ = false := frozen_of_row _ _ 0 _ _ hx3
  have c5 : (w2.alloc (.cells #[.slice a5 M.length cap5] 30)).cell? ⟨w2.heap.size, 0, none⟩ = some (.slice a5 M.length cap5) := (cell_of_row _ _ 0 _ _ _ (heap_alloc_new w2 _)).trans rfl
  have HFB : Hid (Below w.heap.size w ((w2.setCell ⟨w.heap.size, 0, none⟩ (.slice a5 M.length cap5)).alloc (.cells #[.slice a5 M.length cap5] 30))) := ((hb0.trans (HB2.out.mono (by omega))).setCell (Nat.le_refl _) _).alloc (by simp; omega) _
  have HBL : Hid (((w2.setCell ⟨w.heap.size, 0, none⟩ (.slice a5 M.length cap5)).alloc (.cells #[.slice a5 M.length cap5] 30)).heap[w.heap.size]? = some (.cells #[.slice a5 M.length cap5] 30 (0, 0))) := (heap_alloc_old _ _ (by simpa using hlt2)).trans ((heap_setCell_same _ _ 0 _ _ _ hx2).trans rfl)
  have HO : Hid (OwnN w.heap.size ((w2.setCell ⟨w.heap.size, 0, none⟩ (.slice a5 M.length cap5)).alloc (.cells #[.slice a5 M.length cap5] 30)) (.slice a5 M.length cap5) M) := (OwnN.base (ownsRow_setCell_below ho5 (show w.heap.size < wX.heap.size by omega) _) (by omega)).alloc _
  clear hx2 hx3 ho5 hb0 hx0 HB2
  have HM3 : Hid (-1 ≤ K ∧ K ≤ 1048576) := HM.out.2.2
  have HW1 : Hid (wrap64 (K - 1) = K - 1 ∧ -2 ≤ K - 1 ∧ K - 1 ≤ 1048576 ∧ -2 ≤ K ∧ K ≤ 1048576) := by have := HM3.out; refine ⟨?_, by omega, by omega, by omega, by omega⟩; unfold wrap64; omega
  have ht := mod7 len
  clear HM3
  by_cases h7 : len % 7 = 0
  · rw [h7] at ht
    have hw1 := HW1.out.1
    clear h7
    go_wp2
    refine bodyPost_ret (res_cell2 rfl _ _ w.heap.size 30 #[.slice a5 M.length cap5] (0, 0) _ rfl ?_ Try.underlying30 rfl arenaSize) rfl ?_
    · exact HBL.out
    · exact ⟨_, M, _, rfl, HM.out.2.1, HM.out.1, by rw [HW1.out.1]; exact HW1.out.2.1, by rw [HW1.out.1]; exact HW1.out.2.2.1, HO.out, HFB.out⟩
  · have hne' : (((len % 7 : Nat) : Int) == 0) = false := by simp; omega
    generalize len % 7 = r7 at ht hne'
    clear h7
    go_wp2
    refine bodyPost_ret (res_cell2 rfl _ _ w.heap.size 30 #[.slice a5 M.length cap5] (0, 0) _ rfl ?_ Try.underlying30 rfl arenaSize) rfl ?_
    · exact HBL.out
    · exact ⟨_, M, _, rfl, HM.out.2.1, HM.out.1, HW1.out.2.2.2.1, HW1.out.2.2.2.2, HO.out, HFB.out⟩
end Go.Proofs.Ytlecpjgeaigjkaa
