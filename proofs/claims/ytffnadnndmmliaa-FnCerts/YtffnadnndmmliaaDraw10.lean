/- The drawing functions of chapter 10's laws, the specification's. -/
import Derived.Test.YtffnadnndmmliaaDrawTold
import Derived.Test.YtffnadnndmmliaaCert10
import Derived.Test.YtffnadnndmmliaaListP
import Derived.Test.YtffnadnndmmliaaArenaO
import Derived.WalkKit
import Derived.WalkLawsBesides
import Derived.WalkSpells
import Derived.Laws.Rows
import Derived.Laws.OwnMore
import Derived.Laws.ResultCell
import Derived.Deep.RegionWith
namespace Go.Proofs.Ytffnadnndmmliaa
open Go.RowKit
set_option linter.unusedVariables false
theorem putK_range (ns : List Nd) (x : Nd) : -1 ≤ putK ns x ∧ putK ns x ≤ (ns.length : Int) := by
  unfold putK
  split
  · split
    · omega
    · have := findN_range ns x; omega
  · omega
theorem makeK_range (ns : List Nd) (kd x y : Int) : -1 ≤ makeK ns kd x y ∧ makeK ns kd x y ≤ (ns.length : Int) := by
  unfold makeK
  split
  · omega
  · exact putK_range _ _
theorem listF_range (xs : List Int) {ns : List Nd} (hl : ns.length ≤ 1048576) : -1 ≤ (listF xs ns).2 ∧ (listF xs ns).2 ≤ 1048576 := by
  cases xs with
  | nil => rw [listF_nil]; simp only; have := putK_range ns ⟨1, 0, 0, 0⟩; omega
  | cons x xs => rw [listF_cons]; simp only; have := makeK_range (listF xs ns).1 2 x (listF xs ns).2; have := listF_le xs hl; omega
theorem keptA_fits {ns A : List Nd} {K : Int} (hf : ∀ y ∈ ns, y.Fits) (hA : ∀ y ∈ A, y.Fits) : ∀ y ∈ keptA ns A K, y.Fits := by
  unfold keptA; split
  · exact hf
  · exact hA
theorem lgA_fits {ns : List Nd} {n : Int} (hf : ∀ y ∈ ns, y.Fits) (hl : ns.length ≤ 1048576) : ∀ y ∈ lgA ns n, y.Fits := by
  unfold lgA; split
  · exact putA_fits hf hl
  · exact hf
theorem crA_fits {ns : List Nd} {n : Int} (hf : ∀ y ∈ ns, y.Fits) (hl : ns.length ≤ 1048576) : ∀ y ∈ crA ns n, y.Fits := by
  have h2 : ∀ y ∈ crA2 ns, y.Fits := putA_fits (putA_fits hf hl) (putA_le2 hl)
  have h3 : ∀ y ∈ crA3 ns n, y.Fits := putA_fits h2 (crA2_le hl)
  have h5 : ∀ y ∈ crA5 ns n, y.Fits := makeA_fits (lgA_fits h3 (crA3_le hl)) (lgA_le (crA3_le hl))
  exact makeA_fits (listF_fits _ h5 (crA5_le hl)) (crL_le hl)
theorem crK_range {ns : List Nd} {n : Int} (hl : ns.length ≤ 1048576) : -1 ≤ crK ns n ∧ crK ns n ≤ 1048576 := by
  have := makeK_range (crL ns n).1 8 (crK1 ns) (crL ns n).2
  have := crL_le (n := n) hl
  unfold crK; omega
set_option maxHeartbeats 3200000 in
set_option maxRecDepth 20000 in
theorem drawLong_any (a : Option Addr) (len cap : Nat) (w : World) (hc : CodeIn w.heap.size w a len) :
    Calls Try.prog 137 #[.slice a len cap] w fun e w' => ∃ v ns, ∃ nm : Int, e = .returned (.tuple #[.agg #[v], .int .i64 nm]) ∧ 1 ≤ ns.length ∧ ns.length ≤ 14 ∧ (∀ y ∈ ns, y.Fits) ∧ -1 ≤ nm ∧ nm ≤ 10 ∧ OwnN w.heap.size w' v ns ∧ Below w.heap.size w w' := by
  have hb0 : Below w.heap.size w (w.alloc (.cells #[.slice none 0 0] 28)) := (Below.refl _ _).alloc (Nat.le_refl _) _
  have hx0 := heap_alloc_new w (.cells #[.slice none 0 0] 28)
  have hc0 := codeIn_later hc hb0
  have hs0 : (w.alloc (.cells #[.slice none 0 0] 28)).heap.size = w.heap.size + 1 := by simp
  clear hc
  go_enter Try.func137, Try.ntmps137
  go_wp2_with fail
  generalize w.alloc (.cells #[.slice none 0 0] 28) = w0 at hb0 hx0 hc0 hs0 ⊢
  refine (new_any _ _ _ _ hc0).mono ?_
  rintro e w1 ⟨g, rfl, hc1, hb1⟩
  have hge := hc1.1
  have hgl1 := hc1.2.1
  have HB1 : Hid (Below w0.heap.size w0 w1) := hb1
  have hs1 := hb1.size
  clear hb1 hc0
  have hb2 : Below w1.heap.size w1 (w1.alloc (.cells #[.int .i64 0, .int .i64 1, .int .i64 9, .int .i64 10, .int .i64 (-1)] 3)) := (Below.refl _ _).alloc (Nat.le_refl _) _
  have hc2 := hc1.grown hb2
  have hrow := heap_alloc_new w1 (.cells #[.int .i64 0, .int .i64 1, .int .i64 9, .int .i64 10, .int .i64 (-1)] 3)
  have hgw1 := hc1.2.1
  have HB2 : Hid (Below w0.heap.size w0 (w1.alloc (.cells #[.int .i64 0, .int .i64 1, .int .i64 9, .int .i64 10, .int .i64 (-1)] 3))) := HB1.out.trans (hb2.mono HB1.out.size)
  have hs2 := hb2.size
  have HCL : Hid (∀ i, i < 5 → (w1.alloc (.cells #[.int .i64 0, .int .i64 1, .int .i64 9, .int .i64 10, .int .i64 (-1)] 3)).cell? ⟨w1.heap.size, i, none⟩ = some (.int .i64 (([0, 1, 9, 10, -1] : List Int).getD i 0))) := fun i hi => by
    rw [cell_of_row _ _ i _ _ _ hrow]
    rcases (show i = 0 ∨ i = 1 ∨ i = 2 ∨ i = 3 ∨ i = 4 by omega) with rfl | rfl | rfl | rfl | rfl <;> rfl
  clear hc1 hb2 HB1 hrow
  go_wp2_with fail
  generalize w1.alloc (.cells #[.int .i64 0, .int .i64 1, .int .i64 9, .int .i64 10, .int .i64 (-1)] 3) = w2 at hc2 HB2 HCL hs2 ⊢
  refine (pickInt_any w0.heap.size g w1.heap.size 5 _ [0, 1, 9, 10, -1] _ (by omega) (by omega) rfl (by omega) HCL.out hc2).mono ?_
  rintro e w3 ⟨nm, hnm, rfl, hc3, hg⟩
  have hbnm : -1 ≤ nm ∧ nm ≤ 10 := by simp at hnm; omega
  have HB3 : Hid (Below w0.heap.size w0 w3) := HB2.out.grown hg HB2.out.size (fun k hk => by cases hk; exact hge)
  have hs3 := hg.size
  clear hc2 hg HB2 hnm HCL
  go_wp2_with fail
  refine (anyArena_any w0.heap.size g _ hc3).mono ?_
  rintro e w4 ⟨v3, ns, rfl, hn1, hn2, hfit, ho3, hc4, hg⟩
  have HB4 : Hid (Below w0.heap.size w0 w4) := HB3.out.grown hg HB3.out.size (fun k hk => by cases hk; exact hge)
  have hs4 := hg.size
  clear hc3 hc4 hg HB3
  obtain ⟨a3, cap3, rfl, _, _⟩ := ho3.row
  have hx4 := (HB4.out.block w.heap.size (by omega)).trans hx0
  have r0 : w4.cell? ⟨w.heap.size, 0, none⟩ = some (.slice none 0 0) := by rw [cell_of_row _ _ 0 _ _ _ hx4]; rfl
  have f0 : w4.frozen? ⟨w.heap.size, 0, none⟩ = false := frozen_of_row _ _ 0 _ _ hx4
  have HF : Hid ((∀ y ∈ ns, y.Fits) ∧ Below w.heap.size w (w4.setCell ⟨w.heap.size, 0, none⟩ (.slice a3 ns.length cap3))) := ⟨hfit, (hb0.trans (HB4.out.mono (by omega))).setCell (Nat.le_refl _) _⟩
  have HBL : Hid ((w4.setCell ⟨w.heap.size, 0, none⟩ (.slice a3 ns.length cap3)).heap[w.heap.size]? = some (.cells #[.slice a3 ns.length cap3] 28 (0, 0))) := (heap_setCell_same _ _ 0 _ _ _ hx4).trans rfl
  have HO : Hid (OwnN w.heap.size (w4.setCell ⟨w.heap.size, 0, none⟩ (.slice a3 ns.length cap3)) (.slice a3 ns.length cap3) ns) := OwnN.base (ownsRow_setCell_below ho3 (show w.heap.size < w3.heap.size by omega) _) (by omega)
  clear hx4 ho3 hfit hb0 hx0 HB4
  go_wp2
  refine bodyPost_ret (res_cell2 rfl _ _ w.heap.size 28 #[.slice a3 ns.length cap3] (0, 0) _ rfl ?_ Try.underlying28 rfl arenaSize) rfl ?_
  · exact HBL.out
  · exact ⟨_, ns, _, rfl, hn1, hn2, HF.out.1, hbnm.1, hbnm.2, HO.out, HF.out.2⟩
set_option maxHeartbeats 3200000 in
set_option maxRecDepth 20000 in
theorem drawPsk_any (a : Option Addr) (len cap : Nat) (w : World) (hc : CodeIn w.heap.size w a len) :
    Calls Try.prog 71 #[.slice a len cap] w fun e w' => ∃ v ns, ∃ px py : Int, e = .returned (.tuple #[.agg #[v], .int .i64 px, .int .i64 py]) ∧ 1 ≤ ns.length ∧ ns.length ≤ 14 ∧ (∀ y ∈ ns, y.Fits) ∧ 0 ≤ px ∧ px ≤ 10 ∧ -1 ≤ py ∧ py ≤ 9 ∧ OwnN w.heap.size w' v ns ∧ Below w.heap.size w w' := by
  have hb0 : Below w.heap.size w (w.alloc (.cells #[.slice none 0 0] 28)) := (Below.refl _ _).alloc (Nat.le_refl _) _
  have hx0 := heap_alloc_new w (.cells #[.slice none 0 0] 28)
  have hc0 := codeIn_later hc hb0
  have hs0 : (w.alloc (.cells #[.slice none 0 0] 28)).heap.size = w.heap.size + 1 := by simp
  clear hc
  go_enter Try.func71, Try.ntmps71
  go_wp2_with fail
  generalize w.alloc (.cells #[.slice none 0 0] 28) = w0 at hb0 hx0 hc0 hs0 ⊢
  refine (new_any _ _ _ _ hc0).mono ?_
  rintro e w1 ⟨g, rfl, hc1, hb1⟩
  have hge := hc1.1
  have hgl1 := hc1.2.1
  have HB1 : Hid (Below w0.heap.size w0 w1) := hb1
  have hs1 := hb1.size
  clear hb1 hc0
  have hb2 : Below w1.heap.size w1 (w1.alloc (.cells #[.int .i64 0, .int .i64 1, .int .i64 9, .int .i64 10] 3)) := (Below.refl _ _).alloc (Nat.le_refl _) _
  have hc2 := hc1.grown hb2
  have hrow := heap_alloc_new w1 (.cells #[.int .i64 0, .int .i64 1, .int .i64 9, .int .i64 10] 3)
  have hgw1 := hc1.2.1
  have HB2 : Hid (Below w0.heap.size w0 (w1.alloc (.cells #[.int .i64 0, .int .i64 1, .int .i64 9, .int .i64 10] 3))) := HB1.out.trans (hb2.mono HB1.out.size)
  have hs2 := hb2.size
  have HCL : Hid (∀ i, i < 4 → (w1.alloc (.cells #[.int .i64 0, .int .i64 1, .int .i64 9, .int .i64 10] 3)).cell? ⟨w1.heap.size, i, none⟩ = some (.int .i64 (([0, 1, 9, 10] : List Int).getD i 0))) := fun i hi => by
    rw [cell_of_row _ _ i _ _ _ hrow]
    rcases (show i = 0 ∨ i = 1 ∨ i = 2 ∨ i = 3 by omega) with rfl | rfl | rfl | rfl <;> rfl
  clear hc1 hb2 HB1 hrow
  go_wp2_with fail
  generalize w1.alloc (.cells #[.int .i64 0, .int .i64 1, .int .i64 9, .int .i64 10] 3) = w2 at hc2 HB2 HCL hs2 ⊢
  refine (pickInt_any w0.heap.size g w1.heap.size 4 _ [0, 1, 9, 10] _ (by omega) (by omega) rfl (by omega) HCL.out hc2).mono ?_
  rintro e w3 ⟨px, hpx, rfl, hc3, hg⟩
  have hbpx : 0 ≤ px ∧ px ≤ 10 := by simp at hpx; omega
  have HB3 : Hid (Below w0.heap.size w0 w3) := HB2.out.grown hg HB2.out.size (fun k hk => by cases hk; exact hge)
  have hs3 := hg.size
  clear hc2 hg HB2 hpx HCL
  have hb4 : Below w3.heap.size w3 (w3.alloc (.cells #[.int .i64 0, .int .i64 2, .int .i64 9, .int .i64 (-1)] 3)) := (Below.refl _ _).alloc (Nat.le_refl _) _
  have hc4 := hc3.grown hb4
  have hrow := heap_alloc_new w3 (.cells #[.int .i64 0, .int .i64 2, .int .i64 9, .int .i64 (-1)] 3)
  have hgw3 := hc3.2.1
  have HB4 : Hid (Below w0.heap.size w0 (w3.alloc (.cells #[.int .i64 0, .int .i64 2, .int .i64 9, .int .i64 (-1)] 3))) := HB3.out.trans (hb4.mono HB3.out.size)
  have hs4 := hb4.size
  have HCL : Hid (∀ i, i < 4 → (w3.alloc (.cells #[.int .i64 0, .int .i64 2, .int .i64 9, .int .i64 (-1)] 3)).cell? ⟨w3.heap.size, i, none⟩ = some (.int .i64 (([0, 2, 9, -1] : List Int).getD i 0))) := fun i hi => by
    rw [cell_of_row _ _ i _ _ _ hrow]
    rcases (show i = 0 ∨ i = 1 ∨ i = 2 ∨ i = 3 by omega) with rfl | rfl | rfl | rfl <;> rfl
  clear hc3 hb4 HB3 hrow
  go_wp2_with fail
  generalize w3.alloc (.cells #[.int .i64 0, .int .i64 2, .int .i64 9, .int .i64 (-1)] 3) = w4 at hc4 HB4 HCL hs4 ⊢
  refine (pickInt_any w0.heap.size g w3.heap.size 4 _ [0, 2, 9, -1] _ (by omega) (by omega) rfl (by omega) HCL.out hc4).mono ?_
  rintro e w5 ⟨py, hpy, rfl, hc5, hg⟩
  have hbpy : -1 ≤ py ∧ py ≤ 9 := by simp at hpy; omega
  have HB5 : Hid (Below w0.heap.size w0 w5) := HB4.out.grown hg HB4.out.size (fun k hk => by cases hk; exact hge)
  have hs5 := hg.size
  clear hc4 hg HB4 hpy HCL
  go_wp2_with fail
  refine (anyArena_any w0.heap.size g _ hc5).mono ?_
  rintro e w6 ⟨v3, ns, rfl, hn1, hn2, hfit, ho3, hc6, hg⟩
  have HB6 : Hid (Below w0.heap.size w0 w6) := HB5.out.grown hg HB5.out.size (fun k hk => by cases hk; exact hge)
  have hs6 := hg.size
  clear hc5 hc6 hg HB5
  obtain ⟨a3, cap3, rfl, _, _⟩ := ho3.row
  have hx4 := (HB6.out.block w.heap.size (by omega)).trans hx0
  have r0 : w6.cell? ⟨w.heap.size, 0, none⟩ = some (.slice none 0 0) := by rw [cell_of_row _ _ 0 _ _ _ hx4]; rfl
  have f0 : w6.frozen? ⟨w.heap.size, 0, none⟩ = false := frozen_of_row _ _ 0 _ _ hx4
  have HF : Hid ((∀ y ∈ ns, y.Fits) ∧ Below w.heap.size w (w6.setCell ⟨w.heap.size, 0, none⟩ (.slice a3 ns.length cap3))) := ⟨hfit, (hb0.trans (HB6.out.mono (by omega))).setCell (Nat.le_refl _) _⟩
  have HBL : Hid ((w6.setCell ⟨w.heap.size, 0, none⟩ (.slice a3 ns.length cap3)).heap[w.heap.size]? = some (.cells #[.slice a3 ns.length cap3] 28 (0, 0))) := (heap_setCell_same _ _ 0 _ _ _ hx4).trans rfl
  have HO : Hid (OwnN w.heap.size (w6.setCell ⟨w.heap.size, 0, none⟩ (.slice a3 ns.length cap3)) (.slice a3 ns.length cap3) ns) := OwnN.base (ownsRow_setCell_below ho3 (show w.heap.size < w5.heap.size by omega) _) (by omega)
  clear hx4 ho3 hfit hb0 hx0 HB6
  go_wp2
  refine bodyPost_ret (res_cell3 rfl _ _ w.heap.size 28 #[.slice a3 ns.length cap3] (0, 0) _ rfl ?_ Try.underlying28 rfl arenaSize) rfl ?_
  · exact HBL.out
  · exact ⟨_, ns, _, _, rfl, hn1, hn2, HF.out.1, hbpx.1, hbpx.2, hbpy.1, hbpy.2, HO.out, HF.out.2⟩
set_option maxHeartbeats 3200000 in
set_option maxRecDepth 20000 in
theorem drawCertOf_any (a : Option Addr) (len cap : Nat) (w : World) (hc : CodeIn w.heap.size w a len) :
    Calls Try.prog 70 #[.slice a len cap] w fun e w' => ∃ v ns, ∃ nm : Int, e = .returned (.tuple #[.agg #[v], .int .i64 nm]) ∧ 1 ≤ ns.length ∧ ns.length ≤ 14 ∧ (∀ y ∈ ns, y.Fits) ∧ -1 ≤ nm ∧ nm ≤ 10 ∧ OwnN w.heap.size w' v ns ∧ Below w.heap.size w w' := by
  have hb0 : Below w.heap.size w (w.alloc (.cells #[.slice none 0 0] 28)) := (Below.refl _ _).alloc (Nat.le_refl _) _
  have hx0 := heap_alloc_new w (.cells #[.slice none 0 0] 28)
  have hc0 := codeIn_later hc hb0
  have hs0 : (w.alloc (.cells #[.slice none 0 0] 28)).heap.size = w.heap.size + 1 := by simp
  clear hc
  go_enter Try.func70, Try.ntmps70
  go_wp2_with fail
  generalize w.alloc (.cells #[.slice none 0 0] 28) = w0 at hb0 hx0 hc0 hs0 ⊢
  refine (drawLong_any _ _ _ _ hc0).mono ?_
  rintro e w1 ⟨v3, ns, nm, rfl, hn1, hn2, hfit, hk0, hk1, ho3, hb1⟩
  obtain ⟨a3, cap3, rfl, _, _⟩ := ho3.row
  have HB1 : Hid (Below w0.heap.size w0 w1) := hb1
  have hs1 := hb1.size
  clear hb1 hc0
  have hx4 := (HB1.out.block w.heap.size (by omega)).trans hx0
  have r0 : w1.cell? ⟨w.heap.size, 0, none⟩ = some (.slice none 0 0) := by rw [cell_of_row _ _ 0 _ _ _ hx4]; rfl
  have f0 : w1.frozen? ⟨w.heap.size, 0, none⟩ = false := frozen_of_row _ _ 0 _ _ hx4
  have HF : Hid ((∀ y ∈ ns, y.Fits) ∧ Below w.heap.size w (w1.setCell ⟨w.heap.size, 0, none⟩ (.slice a3 ns.length cap3))) := ⟨hfit, (hb0.trans (HB1.out.mono (by omega))).setCell (Nat.le_refl _) _⟩
  have HBL : Hid ((w1.setCell ⟨w.heap.size, 0, none⟩ (.slice a3 ns.length cap3)).heap[w.heap.size]? = some (.cells #[.slice a3 ns.length cap3] 28 (0, 0))) := (heap_setCell_same _ _ 0 _ _ _ hx4).trans rfl
  have HO : Hid (OwnN w.heap.size (w1.setCell ⟨w.heap.size, 0, none⟩ (.slice a3 ns.length cap3)) (.slice a3 ns.length cap3) ns) := OwnN.base (ownsRow_setCell_below ho3 (show w.heap.size < w0.heap.size by omega) _) (by omega)
  clear hx4 ho3 hfit hb0 hx0 HB1
  go_wp2
  refine bodyPost_ret (res_cell2 rfl _ _ w.heap.size 28 #[.slice a3 ns.length cap3] (0, 0) _ rfl ?_ Try.underlying28 rfl arenaSize) rfl ?_
  · exact HBL.out
  · exact ⟨_, ns, _, rfl, hn1, hn2, HF.out.1, hk0, hk1, HO.out, HF.out.2⟩
def Hdr (D : Nat → Prop) (a : Option Addr) (c : Nat) (ms : List Nd) : Prop := AddrN a c ∧ ms.length ≤ 1048576 ∧ (∀ y ∈ ms, y.Fits) ∧ ∀ b off, a = some ⟨b, off, none⟩ → ms ≠ [] → ¬ D b
def EndD (w : World) (a9 : Option Addr) (c9 : Nat) (ms : List Nd) (vz : World) : Prop :=
  vz.heap[w.heap.size]? = some (.cells #[.slice none 0 0] 28 (0, 0)) ∧ AddrN a9 c9 ∧ ms.length ≤ 1048576 ∧ (∀ y ∈ ms, y.Fits) ∧ (vz.setCell ⟨w.heap.size, 0, none⟩ (.slice a9 ms.length c9)).heap[w.heap.size]? = some (.cells #[.slice a9 ms.length c9] 28 (0, 0)) ∧ RowN (vz.setCell ⟨w.heap.size, 0, none⟩ (.slice a9 ms.length c9)).heap.size (vz.setCell ⟨w.heap.size, 0, none⟩ (.slice a9 ms.length c9)) a9 ms ∧ Below w.heap.size w (vz.setCell ⟨w.heap.size, 0, none⟩ (.slice a9 ms.length c9))
set_option maxHeartbeats 6400000 in
set_option maxRecDepth 20000 in
theorem drawCertIn_any (a : Option Addr) (len cap : Nat) (w : World) (hc : CodeIn w.heap.size w a len) :
    Calls Try.prog 68 #[.slice a len cap] w fun e w' => ∃ a9 c9 ms, ∃ k : Int, e = .returned (.tuple #[.agg #[.slice a9 (List.length (α := Nd) ms) c9], .int .i64 k]) ∧ ms.length ≤ 1048576 ∧ (∀ y ∈ ms, y.Fits) ∧ -2 ≤ k ∧ k ≤ 1048576 ∧ AddrN a9 c9 ∧ RowN w'.heap.size w' a9 ms ∧ Below w.heap.size w w' := by
  have hb0 : Below w.heap.size w (w.alloc (.cells #[.slice none 0 0] 28)) := (Below.refl _ _).alloc (Nat.le_refl _) _
  have hx0 := heap_alloc_new w (.cells #[.slice none 0 0] 28)
  have hc0 := codeIn_later hc hb0
  have hs0 : (w.alloc (.cells #[.slice none 0 0] 28)).heap.size = w.heap.size + 1 := by simp
  clear hc
  go_enter Try.func68, Try.ntmps68
  go_wp2_with fail
  generalize w.alloc (.cells #[.slice none 0 0] 28) = w0 at hb0 hx0 hc0 hs0 ⊢
  have HC0 : Hid (CodeIn w0.heap.size w0 a len) := hc0
  refine (new_any _ _ _ _ hc0).mono ?_
  rintro e u1 ⟨g, rfl, hc1, hb1⟩
  have hge := hc1.1
  have HU1 : Hid (Below w0.heap.size w0 u1) := hb1
  have hsu1 := hb1.size
  clear hb1 hc0
  go_wp2_with fail
  refine (below_any w0.heap.size g 6 _ (by omega) (by omega) hc1).mono ?_
  rintro e u2 ⟨n5, rfl, hn5, hc2, hg⟩
  have HBd : Hid (Below w0.heap.size w0 u2) := HU1.out.grown hg HU1.out.size (fun k hk => by cases hk; exact hge)
  have hsu2 := hg.size
  clear hc1 hg HU1 hc2
  have hcD : Hid (CodeIn u2.heap.size u2 a len) := codeIn_later HC0.out HBd.out
  clear HC0
  go_wp2_with fail
  refine (drawLong_any _ _ _ _ hcD.out).mono ?_
  rintro e w1 ⟨v3, ns, nm, rfl, hn1, hn2, hfit, hk0, hk1, ho3, hb1⟩
  obtain ⟨a3, cap3, rfl, hA3, hR3⟩ := ho3.row
  have hs1 := hb1.size
  have HBD : Hid (Below w0.heap.size w0 w1) := HBd.out.trans (hb1.mono HBd.out.size)
  have hbX : Below w1.heap.size w1 (w1.alloc (.cells #[.slice a3 ns.length cap3] 28)) := (Below.refl _ _).alloc (Nat.le_refl _) _
  have HBX : Hid (Below w0.heap.size w0 (w1.alloc (.cells #[.slice a3 ns.length cap3] 28))) := HBD.out.trans (hbX.mono HBD.out.size)
  have cX : (w1.alloc (.cells #[.slice a3 ns.length cap3] 28)).cell? ⟨w1.heap.size, 0, none⟩ = some (.slice a3 ns.length cap3) := (cell_of_row _ _ 0 _ _ _ (heap_alloc_new w1 _)).trans rfl
  have HRR : Hid (RowN (w1.alloc (.cells #[.slice a3 ns.length cap3] 28)).heap.size (w1.alloc (.cells #[.slice a3 ns.length cap3] 28)) a3 ns) := hR3.grown hbX
  have hszX : (w1.alloc (.cells #[.slice a3 ns.length cap3] 28)).heap.size = w1.heap.size + 1 := by simp
  have HFT : Hid (∀ y ∈ ns, y.Fits) := hfit
  have HA3 : Hid (AddrN a3 cap3) := hA3
  obtain ⟨M, K, HM, hMK⟩ : ∃ (M : List Nd) (K : Int), Hid ((∀ y ∈ M, y.Fits) ∧ M.length ≤ 1048576 ∧ -1 ≤ K ∧ K ≤ 1048576) ∧ (M = keptA ns (crA ns nm) (crK ns nm) ∧ K = crK ns nm) := ⟨_, _, ⟨keptA_fits hfit (crA_fits hfit (by omega)), by unfold keptA; split; omega; exact crA_le (by omega), crK_range (by omega)⟩, rfl, rfl⟩
  clear ho3 hfit hR3 hA3 HBD hb1 HBd hcD
  go_wp2_with fail
  generalize w1.alloc (.cells #[.slice a3 ns.length cap3] 28) = wX at HBX cX HRR hszX hbX ⊢
  refine (specCert_any a3 cap3 ns nm wX (by omega) HA3.out HRR.out).mono ?_
  rintro e w2 ⟨v5, rfl, ho5, hb2⟩
  rw [← hMK.1] at ho5
  rw [← hMK.2]
  clear hMK
  obtain ⟨a5, cap5, rfl, -, -⟩ := ho5.row
  have HB2 : Hid (Below w0.heap.size w0 w2) := HBX.out.trans (hb2.mono HBX.out.size)
  have hs2 := hb2.size
  clear hb2 HBX cX HRR hbX HFT HA3
  have HM3 : Hid (-1 ≤ K ∧ K ≤ 1048576) := HM.out.2.2
  have hK0 : -1 ≤ K := HM3.out.1
  have hK1 : K ≤ 1048576 := HM3.out.2
  by_cases h5 : n5 = 0
  · have hx2 := (HB2.out.block w.heap.size (by omega)).trans hx0
    have hlt2 : w.heap.size < w2.heap.size := by omega
    have hx3 := (heap_alloc_old w2 (.cells #[.slice a5 M.length cap5] 28) hlt2).trans hx2
    have r0 : (w2.alloc (.cells #[.slice a5 M.length cap5] 28)).cell? ⟨w.heap.size, 0, none⟩ = some (.slice none 0 0) := by rw [cell_of_row _ _ 0 _ _ _ hx3]; rfl
    have f0 : (w2.alloc (.cells #[.slice a5 M.length cap5] 28)).frozen? ⟨w.heap.size, 0, none⟩ = false := frozen_of_row _ _ 0 _ _ hx3
    have c5 : (w2.alloc (.cells #[.slice a5 M.length cap5] 28)).cell? ⟨w2.heap.size, 0, none⟩ = some (.slice a5 M.length cap5) := (cell_of_row _ _ 0 _ _ _ (heap_alloc_new w2 _)).trans rfl
    have HFB : Hid (Below w.heap.size w ((w2.setCell ⟨w.heap.size, 0, none⟩ (.slice a5 M.length cap5)).alloc (.cells #[.slice a5 M.length cap5] 28))) := ((hb0.trans (HB2.out.mono (by omega))).setCell (Nat.le_refl _) _).alloc (by simp; omega) _
    have HBL : Hid (((w2.setCell ⟨w.heap.size, 0, none⟩ (.slice a5 M.length cap5)).alloc (.cells #[.slice a5 M.length cap5] 28)).heap[w.heap.size]? = some (.cells #[.slice a5 M.length cap5] 28 (0, 0))) := (heap_alloc_old _ _ (by simpa using hlt2)).trans ((heap_setCell_same _ _ 0 _ _ _ hx2).trans rfl)
    have HO : Hid (OwnN w.heap.size ((w2.setCell ⟨w.heap.size, 0, none⟩ (.slice a5 M.length cap5)).alloc (.cells #[.slice a5 M.length cap5] 28)) (.slice a5 M.length cap5) M) := (OwnN.base (ownsRow_setCell_below ho5 (show w.heap.size < wX.heap.size by omega) _) (by omega)).alloc _
    clear hx2 hx3 ho5 hb0 hx0 HB2
    have hw1 : wrap64 (K - 1) = K - 1 := by unfold wrap64; omega
    subst h5
    go_wp2
    refine bodyPost_ret (res_cell2 rfl _ _ w.heap.size 28 #[.slice a5 M.length cap5] (0, 0) _ rfl ?_ Try.underlying28 rfl arenaSize) rfl ?_
    · exact HBL.out
    · obtain ⟨a9, c9, e9, h9, r9⟩ := HO.out.row
      simp only [Value.slice.injEq, true_and] at e9
      obtain ⟨rfl, rfl⟩ := e9
      exact ⟨a5, cap5, M, _, rfl, HM.out.2.1, HM.out.1, by omega, by omega, h9, r9, HFB.out⟩
  by_cases h6 : n5 = 1
  · have hx2 := (HB2.out.block w.heap.size (by omega)).trans hx0
    have hlt2 : w.heap.size < w2.heap.size := by omega
    have hbB : Below w2.heap.size w2 (w2.alloc (.cells #[.slice a5 M.length cap5] 28)) := (Below.refl _ _).alloc (Nat.le_refl _) _
    obtain ⟨D, HD⟩ : ∃ D : Nat → Prop, Hid (D = (fun k => k < w2.heap.size ∧ (Value.slice a5 M.length cap5).ownBlock ≠ some k)) := ⟨_, rfl⟩
    have hDl : ∀ k, D k → k < w2.heap.size := fun k hk => by rw [HD.out] at hk; exact hk.1
    have hlow : ∀ k, k < w0.heap.size → D k := fun k hk => by
      rw [HD.out]
      exact ⟨by omega, fun e => by have := (ho5.lt k e).1; omega⟩
    have HA0 : Hid (ArD D (w2.alloc (.cells #[.slice a5 M.length cap5] 28)) w2.heap.size M) := ⟨fun hk => Nat.lt_irrefl _ (hDl _ hk), by simp, _, heap_alloc_new w2 _, (ho5.base (Nat.zero_le _)).later hbB, fun e => Nat.lt_irrefl _ (ho5.lt _ e).2, fun k hk hd => by rw [HD.out] at hd; exact hd.2 hk⟩
    have HDS : Hid (∀ k, D k → k < (w2.alloc (.cells #[.slice a5 M.length cap5] 28)).heap.size) := fun k hk => by have := hDl k hk; simp; omega
    have HSB : Hid (Safe D w2 (w2.alloc (.cells #[.slice a5 M.length cap5] 28))) := Safe.of_below hbB hDl
    have HML : Hid (M.length ≤ 1048576) := HM.out.2.1
    have HMF : Hid (∀ y ∈ M, y.Fits) := HM.out.1
    have HLOW : Hid (∀ k, k < w0.heap.size → D k) := hlow
    have HX0 : Hid (w0.heap[w.heap.size]? = some (.cells #[.slice none 0 0] 28 (0, 0))) := hx0
    have HBW : Hid (Below w.heap.size w w0 ∧ w.heap.size < w0.heap.size ∧ Below w0.heap.size w0 w2) := ⟨hb0, by omega, HB2.out⟩
    subst h6
    clear h5 hx2 hbB hDl hlow ho5 hb0 hx0 HM HM3 HD hK0 hK1 HB2
    go_wp2_with fail
    generalize (w2.alloc (.cells #[.slice a5 M.length cap5] 28)) = v0 at HA0 HDS HSB ⊢
    refine (specAtomD_any D _ (M) 60 v0 (HML.out) HA0.out HDS.out).mono ?_
    rintro e v1 ⟨rfl, ha, hb⟩
    have HA1 : Hid (ArD D v1 w2.heap.size (putA M ⟨1, 60, 0, 0⟩)) := ha
    have HS1 : Hid (Safe D v0 v1) := hb
    clear ha hb HA0
    go_wp2_with fail
    refine (specAtomD_any D _ (putA M ⟨1, 60, 0, 0⟩) 12 v1 (putA_le2 HML.out) HA1.out (Safe.old HS1.out HDS.out)).mono ?_
    rintro e v2 ⟨rfl, ha, hb⟩
    have HA2 : Hid (ArD D v2 w2.heap.size (putA (putA M ⟨1, 60, 0, 0⟩) ⟨1, 12, 0, 0⟩)) := ha
    have HS2 : Hid (Safe D v0 v2) := HS1.out.trans hb
    clear ha hb HA1 HS1
    go_wp2_with fail
    refine (specAtomD_any D _ (putA (putA M ⟨1, 60, 0, 0⟩) ⟨1, 12, 0, 0⟩) 5 v2 (putA_le2 (putA_le2 HML.out)) HA2.out (Safe.old HS2.out HDS.out)).mono ?_
    rintro e v3 ⟨rfl, ha, hb⟩
    have HA3 : Hid (ArD D v3 w2.heap.size (putA (putA (putA M ⟨1, 60, 0, 0⟩) ⟨1, 12, 0, 0⟩) ⟨1, 5, 0, 0⟩)) := ha
    have HS3 : Hid (Safe D v0 v3) := HS2.out.trans hb
    clear ha hb HA2 HS2
    generalize putK M ⟨1, 60, 0, 0⟩ = z0
    generalize putK (putA M ⟨1, 60, 0, 0⟩) ⟨1, 12, 0, 0⟩ = z1
    generalize putK (putA (putA M ⟨1, 60, 0, 0⟩) ⟨1, 12, 0, 0⟩) ⟨1, 5, 0, 0⟩ = z2
    obtain ⟨N, hN, HNL, HNF⟩ : ∃ N, putA (putA (putA M ⟨1, 60, 0, 0⟩) ⟨1, 12, 0, 0⟩) ⟨1, 5, 0, 0⟩ = N ∧ Hid (N.length ≤ 1048576) ∧ Hid (∀ y ∈ N, y.Fits) := ⟨_, rfl, putA_le2 (putA_le2 (putA_le2 HML.out)), putA_fits (putA_fits (putA_fits HMF.out HML.out) (putA_le2 HML.out)) (putA_le2 (putA_le2 HML.out))⟩
    rw [hN] at HA3
    clear hN
    go_wp2_with fail
    refine (listLit_any D _ N [z0, z1, z2] v3 HNL.out (by simp) HA3.out (Safe.old HS3.out HDS.out)).mono ?_
    rintro e v4 ⟨rfl, ha, hb⟩
    obtain ⟨N2, L2, hN2, hL2, HNL2, HNF2, HLR⟩ : ∃ N2 L2, (listF [z0, z1, z2] N).1 = N2 ∧ (listF [z0, z1, z2] N).2 = L2 ∧ Hid (N2.length ≤ 1048576) ∧ Hid (∀ y ∈ N2, y.Fits) ∧ Hid (-1 ≤ L2 ∧ L2 ≤ 1048576) := ⟨_, _, rfl, rfl, listF_le _ HNL.out, listF_fits _ HNF.out HNL.out, listF_range _ HNL.out⟩
    rw [hN2] at ha
    rw [hL2]
    have HA4 : Hid (ArD D v4 w2.heap.size N2) := ha
    have HS4 : Hid (Safe D v0 v4) := HS3.out.trans hb
    clear ha hb HA3 HS3 hN2 hL2 HNL HNF HMF HML
    go_wp2_with fail
    have HX := hdr_of HA4.out
    obtain ⟨a8, c8, hq3, h8, hO8⟩ := HX
    have HH8 : Hid (Hdr D a8 c8 N2) := ⟨h8, HNL2.out, HNF2.out, hdr_far HA4.out hq3⟩
    have c8c : v4.drew.cell? ⟨w2.heap.size, 0, none⟩ = some (.slice a8 N2.length c8) := (cell_of_row _ _ 0 _ _ _ hq3).trans rfl
    have HEND : Hid (∀ (a9 : Option Addr) (c9 : Nat) (ms : List Nd) (vz : World), Safe D v0 vz → Hdr D a9 c9 ms → RowN vz.heap.size vz a9 ms → EndD w a9 c9 ms vz) := by
      intro a9 c9 ms vz hS hH hR
      have hs := HSB.out.trans hS
      have hbl : Below w0.heap.size w2 vz := hs.below (fun k hk => HLOW.out k hk)
      have hx : vz.heap[w.heap.size]? = some (.cells #[.slice none 0 0] 28 (0, 0)) := (hs.block _ (HLOW.out _ HBW.out.2.1)).trans ((HBW.out.2.2.block _ HBW.out.2.1).trans HX0.out)
      refine ⟨hx, hH.1, hH.2.1, hH.2.2.1, (heap_setCell_same _ _ 0 _ _ _ hx).trans rfl, hR.same (by simp [World.setCell]) (fun b off e hm => Below.heap_setCell _ _ _ _ (fun eb => hH.2.2.2 b off e hm (by rw [eb]; exact HLOW.out _ HBW.out.2.1))), ?_⟩
      exact (HBW.out.1.trans ((HBW.out.2.2.mono (by have := HBW.out.2.1; omega)).trans (hbl.mono (by have := HBW.out.2.1; omega)))).setCell (Nat.le_refl _) _
    obtain ⟨N3, HN3, HAT⟩ : ∃ N3 : List Nd, Hid (N3.length ≤ 1048576 ∧ ∀ y ∈ N3, y.Fits) ∧ Hid (Calls Try.prog 113 #[.pointer (some ⟨w2.heap.size, 0, none⟩), .int .i64 1000] v4.drew fun e v5 => ∃ z a6 c6, e = .returned (.int .i64 z) ∧ v5.cell? ⟨w2.heap.size, 0, none⟩ = some (.slice a6 N3.length c6) ∧ Hid (ArD D v5 w2.heap.size N3 ∧ Safe D v0 v5 ∧ Hdr D a6 c6 N3 ∧ OldN v5 w2.heap.size N3 a8 N2 ∧ OldN v5 w2.heap.size N3 a6 N3)) :=
      ⟨putA N2 ⟨1, 1000, 0, 0⟩, ⟨putA_le2 HNL2.out, putA_fits HNF2.out HNL2.out⟩, (specAtomO_any D w2.heap.size N2 1000 v4.drew HNL2.out (HA4.out.later ((Below.refl _ _).drew)) (show ∀ k, D k → k < v4.heap.size from Safe.old HS4.out HDS.out)).mono fun e v5 ⟨he, hA, hS, hK⟩ => by
        obtain ⟨a6, c6, q3, q8, qO⟩ := hdr_of hA
        exact ⟨_, a6, c6, he, (cell_of_row _ _ 0 _ _ _ q3).trans rfl, hA, (HS4.out.trans (Safe.of_below ((Below.refl _ _).drew) (Safe.old HS4.out HDS.out))).trans hS, ⟨q8, putA_le2 HNL2.out, putA_fits HNF2.out HNL2.out, hdr_far hA q3⟩, hK _ _ (OldK.below ((Below.refl _ _).drew) _ _ hO8), qO⟩⟩
    have HMK : Hid (∀ (v5 : World) (z : Int) (a6 : Option Addr) (c6 : Nat), Hid (ArD D v5 w2.heap.size N3 ∧ Safe D v0 v5 ∧ Hdr D a6 c6 N3 ∧ OldN v5 w2.heap.size N3 a8 N2 ∧ OldN v5 w2.heap.size N3 a6 N3) → Calls Try.prog 135 #[.pointer (some ⟨w2.heap.size, 0, none⟩), .int .i64 8, .int .i64 z, .int .i64 L2] v5 fun e v6 => ∃ (kk : Int) (a7 : Option Addr) (c7 : Nat) (N4 : List Nd), e = .returned (.int .i64 kk) ∧ (-1 ≤ kk ∧ kk ≤ 1048576) ∧ v6.cell? ⟨w2.heap.size, 0, none⟩ = some (.slice a7 N4.length c7) ∧ v6.cell? ⟨w.heap.size, 0, none⟩ = some (.slice none 0 0) ∧ v6.frozen? ⟨w.heap.size, 0, none⟩ = false ∧ Hid (EndD w a8 c8 N2 v6) ∧ Hid (EndD w a6 c6 N3 v6) ∧ Hid (EndD w a7 c7 N4 v6)) := by
      intro v5 z a6 c6 H
      obtain ⟨h1, h2, h3, h4, h5⟩ := H.out
      refine (specMakeO_any D w2.heap.size N3 8 z L2 v5 HN3.out.1 h1 (Safe.old h2 HDS.out)).mono fun e v6 ⟨he, hA, hS, hK⟩ => ?_
      obtain ⟨a7, c7, q3, q8, qO⟩ := hdr_of hA
      have hS6 := h2.trans hS
      have E8 := HEND.out a8 c8 N2 v6 hS6 HH8.out (hK _ _ h4).row
      have hr := makeK_range N3 8 z L2
      have hl := HN3.out.1
      exact ⟨_, a7, c7, _, he, by omega, (cell_of_row _ _ 0 _ _ _ q3).trans rfl, (cell_of_row _ _ 0 _ _ _ E8.1).trans rfl, frozen_of_row _ _ 0 _ _ E8.1, E8, HEND.out a6 c6 N3 v6 hS6 h3 (hK _ _ h5).row, HEND.out a7 c7 _ v6 hS6 ⟨q8, makeA_le HN3.out.1, makeA_fits HN3.out.2 HN3.out.1, hdr_far hA q3⟩ qO.row⟩
    clear hq3 h8 hO8 HH8 HA4 HS4 HEND HN3 HNL2 HNF2 HLR HX0 HBW HLOW HSB HDS
    go_region_with (first | (go_at_call 113; refine Calls.mono HAT.out ?_; rintro e v5 ⟨z, a6, c6, rfl, c6c, H6⟩) | (go_at_call 135; refine Calls.mono (HMK.out _ _ _ _ H6) ?_; rintro e v6 ⟨kk, a7, c7, N4, rfl, hkk, c7c, r0, f0, E8, E6, E7⟩))
    all_goals (go_wp2)
    all_goals (first | (refine bodyPost_ret (res_cell2 rfl _ _ w.heap.size 28 #[.slice a8 N2.length c8] (0, 0) _ rfl ?_ Try.underlying28 rfl arenaSize) rfl ?_; exact E8.out.2.2.2.2.1; exact ⟨a8, c8, N2, _, rfl, E8.out.2.2.1, E8.out.2.2.2.1, by omega, by omega, E8.out.2.1, E8.out.2.2.2.2.2.1, E8.out.2.2.2.2.2.2⟩) | (refine bodyPost_ret (res_cell2 rfl _ _ w.heap.size 28 #[.slice a6 N3.length c6] (0, 0) _ rfl ?_ Try.underlying28 rfl arenaSize) rfl ?_; exact E6.out.2.2.2.2.1; exact ⟨a6, c6, N3, _, rfl, E6.out.2.2.1, E6.out.2.2.2.1, by omega, by omega, E6.out.2.1, E6.out.2.2.2.2.2.1, E6.out.2.2.2.2.2.2⟩) | (refine bodyPost_ret (res_cell2 rfl _ _ w.heap.size 28 #[.slice a7 N4.length c7] (0, 0) _ rfl ?_ Try.underlying28 rfl arenaSize) rfl ?_; exact E7.out.2.2.2.2.1; exact ⟨a7, c7, N4, _, rfl, E7.out.2.2.1, E7.out.2.2.2.1, by omega, by omega, E7.out.2.1, E7.out.2.2.2.2.2.1, E7.out.2.2.2.2.2.2⟩))
  have hx2 := (HB2.out.block w.heap.size (by omega)).trans hx0
  have hlt2 : w.heap.size < w2.heap.size := by omega
  have hx3 := (heap_alloc_old w2 (.cells #[.slice a5 M.length cap5] 28) hlt2).trans hx2
  have r0 : (w2.alloc (.cells #[.slice a5 M.length cap5] 28)).cell? ⟨w.heap.size, 0, none⟩ = some (.slice none 0 0) := by rw [cell_of_row _ _ 0 _ _ _ hx3]; rfl
  have f0 : (w2.alloc (.cells #[.slice a5 M.length cap5] 28)).frozen? ⟨w.heap.size, 0, none⟩ = false := frozen_of_row _ _ 0 _ _ hx3
  have c5 : (w2.alloc (.cells #[.slice a5 M.length cap5] 28)).cell? ⟨w2.heap.size, 0, none⟩ = some (.slice a5 M.length cap5) := (cell_of_row _ _ 0 _ _ _ (heap_alloc_new w2 _)).trans rfl
  have HFB : Hid (Below w.heap.size w ((w2.setCell ⟨w.heap.size, 0, none⟩ (.slice a5 M.length cap5)).alloc (.cells #[.slice a5 M.length cap5] 28))) := ((hb0.trans (HB2.out.mono (by omega))).setCell (Nat.le_refl _) _).alloc (by simp; omega) _
  have HBL : Hid (((w2.setCell ⟨w.heap.size, 0, none⟩ (.slice a5 M.length cap5)).alloc (.cells #[.slice a5 M.length cap5] 28)).heap[w.heap.size]? = some (.cells #[.slice a5 M.length cap5] 28 (0, 0))) := (heap_alloc_old _ _ (by simpa using hlt2)).trans ((heap_setCell_same _ _ 0 _ _ _ hx2).trans rfl)
  have HO : Hid (OwnN w.heap.size ((w2.setCell ⟨w.heap.size, 0, none⟩ (.slice a5 M.length cap5)).alloc (.cells #[.slice a5 M.length cap5] 28)) (.slice a5 M.length cap5) M) := (OwnN.base (ownsRow_setCell_below ho5 (show w.heap.size < wX.heap.size by omega) _) (by omega)).alloc _
  clear hx2 hx3 ho5 hb0 hx0 HB2
  have hne0 : ((n5 : Int) == 0) = false := by simpa using h5
  have hne1 : ((n5 : Int) == 1) = false := by simp; omega
  clear h5 h6
  go_wp2
  refine bodyPost_ret (res_cell2 rfl _ _ w.heap.size 28 #[.slice a5 M.length cap5] (0, 0) _ rfl ?_ Try.underlying28 rfl arenaSize) rfl ?_
  · exact HBL.out
  · obtain ⟨a9, c9, e9, h9, r9⟩ := HO.out.row
    simp only [Value.slice.injEq, true_and] at e9
    obtain ⟨rfl, rfl⟩ := e9
    exact ⟨a5, cap5, M, _, rfl, HM.out.2.1, HM.out.1, by omega, by omega, h9, r9, HFB.out⟩
end Go.Proofs.Ytffnadnndmmliaa
