/- The drawing functions of chapter 6's laws, the specification's. -/
import Derived.Test.YtffnadnndmmliaaDrawMk
import Derived.WalkKit
import Derived.WalkLawsBesides
import Derived.WalkSpells
import Derived.Laws.Rows
import Derived.Laws.OwnMore
import Derived.Laws.ResultCell
namespace Go.Proofs.Ytffnadnndmmliaa
open Go.RowKit
set_option linter.unusedVariables false
set_option maxHeartbeats 3200000 in
set_option maxRecDepth 20000 in
theorem drawHand_any (a : Option Addr) (len cap : Nat) (w : World) (hc : CodeIn w.heap.size w a len) :
    Calls Try.prog 48 #[.slice a len cap] w fun e w' => ∃ v ns, ∃ x y z : Int, e = .returned (.tuple #[.agg #[v], .int .i64 x, .int .i64 y, .int .i64 z]) ∧ 1 ≤ ns.length ∧ ns.length ≤ 14 ∧ (∀ y ∈ ns, y.Fits) ∧ -1 ≤ x ∧ x ≤ 6 ∧ -1 ≤ y ∧ y ≤ 6 ∧ -1 ≤ z ∧ z ≤ 6 ∧ OwnN w.heap.size w' v ns ∧ Below w.heap.size w w' := by
  have hb0 : Below w.heap.size w (w.alloc (.cells #[.slice none 0 0] 28)) := (Below.refl _ _).alloc (Nat.le_refl _) _
  have hx0 := heap_alloc_new w (.cells #[.slice none 0 0] 28)
  have hc0 := codeIn_later hc hb0
  have hs0 : (w.alloc (.cells #[.slice none 0 0] 28)).heap.size = w.heap.size + 1 := by simp
  clear hc
  go_enter Try.func48, Try.ntmps48
  go_wp2_with fail
  generalize w.alloc (.cells #[.slice none 0 0] 28) = w0 at hb0 hx0 hc0 hs0 ⊢
  refine (new_any _ _ _ _ hc0).mono ?_
  rintro e w1 ⟨g, rfl, hc1, hb1⟩
  have hge := hc1.1
  have hgl1 := hc1.2.1
  have HB1 : Hid (Below w0.heap.size w0 w1) := hb1
  have hs1 := hb1.size
  clear hb1 hc0
  go_wp2_with fail
  refine (below_any w0.heap.size g 8 _ (by omega) (by omega) hc1).mono ?_
  rintro e w2 ⟨x, rfl, hx, hc2, hg⟩
  have HB2 : Hid (Below w0.heap.size w0 w2) := HB1.out.grown hg HB1.out.size (fun k hk => by cases hk; exact hge)
  have hs2 := hg.size
  clear hc1 hg HB1
  go_wp2_with fail
  refine (below_any w0.heap.size g 8 _ (by omega) (by omega) hc2).mono ?_
  rintro e w3 ⟨y, rfl, hy, hc3, hg⟩
  have HB3 : Hid (Below w0.heap.size w0 w3) := HB2.out.grown hg HB2.out.size (fun k hk => by cases hk; exact hge)
  have hs3 := hg.size
  clear hc2 hg HB2
  go_wp2_with fail
  refine (below_any w0.heap.size g 8 _ (by omega) (by omega) hc3).mono ?_
  rintro e w4 ⟨z, rfl, hz, hc4, hg⟩
  have HB4 : Hid (Below w0.heap.size w0 w4) := HB3.out.grown hg HB3.out.size (fun k hk => by cases hk; exact hge)
  have hs4 := hg.size
  clear hc3 hg HB3
  go_wp2_with fail
  refine (anyArena_any w0.heap.size g _ hc4).mono ?_
  rintro e w5 ⟨v3, ns, rfl, hn1, hn2, hfit, ho3, hc5, hg⟩
  have HB5 : Hid (Below w0.heap.size w0 w5) := HB4.out.grown hg HB4.out.size (fun k hk => by cases hk; exact hge)
  have hs5 := hg.size
  clear hc4 hc5 hg HB4
  obtain ⟨a3, cap3, rfl, _, _⟩ := ho3.row
  have hx4 := (HB5.out.block w.heap.size (by omega)).trans hx0
  have r0 : w5.cell? ⟨w.heap.size, 0, none⟩ = some (.slice none 0 0) := by rw [cell_of_row _ _ 0 _ _ _ hx4]; rfl
  have f0 : w5.frozen? ⟨w.heap.size, 0, none⟩ = false := frozen_of_row _ _ 0 _ _ hx4
  have HF : Hid ((∀ y ∈ ns, y.Fits) ∧ Below w.heap.size w (w5.setCell ⟨w.heap.size, 0, none⟩ (.slice a3 ns.length cap3))) := ⟨hfit, (hb0.trans (HB5.out.mono (by omega))).setCell (Nat.le_refl _) _⟩
  have HBL : Hid ((w5.setCell ⟨w.heap.size, 0, none⟩ (.slice a3 ns.length cap3)).heap[w.heap.size]? = some (.cells #[.slice a3 ns.length cap3] 28 (0, 0))) := (heap_setCell_same _ _ 0 _ _ _ hx4).trans rfl
  have HO : Hid (OwnN w.heap.size (w5.setCell ⟨w.heap.size, 0, none⟩ (.slice a3 ns.length cap3)) (.slice a3 ns.length cap3) ns) := OwnN.base (ownsRow_setCell_below ho3 (show w.heap.size < w4.heap.size by omega) _) (by omega)
  clear hx4 ho3 hfit hb0 hx0 HB5
  go_wp2
  refine bodyPost_ret (res_cell4 rfl _ _ w.heap.size 28 #[.slice a3 ns.length cap3] (0, 0) _ rfl ?_ Try.underlying28 rfl arenaSize) rfl ?_
  · exact HBL.out
  · exact ⟨_, ns, _, _, _, rfl, hn1, hn2, HF.out.1, by omega, by omega, by omega, by omega, by omega, by omega, HO.out, HF.out.2⟩
set_option maxHeartbeats 3200000 in
set_option maxRecDepth 20000 in
theorem drawEpoch_any (a : Option Addr) (len cap : Nat) (w : World) (hc : CodeIn w.heap.size w a len) :
    Calls Try.prog 53 #[.slice a len cap] w fun e w' => ∃ v ns, ∃ x z : Int, e = .returned (.tuple #[.agg #[v], .int .i64 x, .int .i64 z]) ∧ 1 ≤ ns.length ∧ ns.length ≤ 14 ∧ (∀ y ∈ ns, y.Fits) ∧ -1 ≤ x ∧ x ≤ 6 ∧ -1 ≤ z ∧ z ≤ 9 ∧ OwnN w.heap.size w' v ns ∧ Below w.heap.size w w' := by
  have hb0 : Below w.heap.size w (w.alloc (.cells #[.slice none 0 0] 28)) := (Below.refl _ _).alloc (Nat.le_refl _) _
  have hx0 := heap_alloc_new w (.cells #[.slice none 0 0] 28)
  have hc0 := codeIn_later hc hb0
  have hs0 : (w.alloc (.cells #[.slice none 0 0] 28)).heap.size = w.heap.size + 1 := by simp
  clear hc
  go_enter Try.func53, Try.ntmps53
  go_wp2_with fail
  generalize w.alloc (.cells #[.slice none 0 0] 28) = w0 at hb0 hx0 hc0 hs0 ⊢
  refine (new_any _ _ _ _ hc0).mono ?_
  rintro e w1 ⟨g, rfl, hc1, hb1⟩
  have hge := hc1.1
  have hgl1 := hc1.2.1
  have HB1 : Hid (Below w0.heap.size w0 w1) := hb1
  have hs1 := hb1.size
  have HC0 : Hid (CodeIn w0.heap.size w0 a len) := hc0
  clear hb1 hc0
  have hb2 : Below w1.heap.size w1 (w1.alloc (.cells #[.int .i64 0, .int .i64 1, .int .i64 3, .int .i64 8, .int .i64 9, .int .i64 (-1)] 3)) := (Below.refl _ _).alloc (Nat.le_refl _) _
  have hc2 := hc1.grown hb2
  have hrow := heap_alloc_new w1 (.cells #[.int .i64 0, .int .i64 1, .int .i64 3, .int .i64 8, .int .i64 9, .int .i64 (-1)] 3)
  have HB2 : Hid (Below w0.heap.size w0 (w1.alloc (.cells #[.int .i64 0, .int .i64 1, .int .i64 3, .int .i64 8, .int .i64 9, .int .i64 (-1)] 3))) := HB1.out.trans (hb2.mono HB1.out.size)
  have hs2 := hb2.size
  have HCL : Hid (∀ i, i < 6 → (w1.alloc (.cells #[.int .i64 0, .int .i64 1, .int .i64 3, .int .i64 8, .int .i64 9, .int .i64 (-1)] 3)).cell? ⟨w1.heap.size, i, none⟩ = some (.int .i64 (([0, 1, 3, 8, 9, -1] : List Int).getD i 0))) := fun i hi => by
    rw [cell_of_row _ _ i _ _ _ hrow]
    rcases (show i = 0 ∨ i = 1 ∨ i = 2 ∨ i = 3 ∨ i = 4 ∨ i = 5 by omega) with rfl | rfl | rfl | rfl | rfl | rfl <;> rfl
  clear hc1 hb2 HB1 hrow
  go_wp2_with fail
  generalize w1.alloc (.cells #[.int .i64 0, .int .i64 1, .int .i64 3, .int .i64 8, .int .i64 9, .int .i64 (-1)] 3) = w2 at hc2 HB2 HCL hs2 ⊢
  refine (pickInt_any w0.heap.size g w1.heap.size 6 _ [0, 1, 3, 8, 9, -1] _ (by omega) (by omega) rfl (by omega) HCL.out hc2).mono ?_
  rintro e w3 ⟨z, hz, rfl, hc3, hg⟩
  have HZ : Hid (z ∈ [0, 1, 3, 8, 9, -1]) := hz
  have hzb : -1 ≤ z ∧ z ≤ 9 := by simp at hz; omega
  have HB3 : Hid (Below w0.heap.size w0 w3) := HB2.out.grown hg HB2.out.size (fun k hk => by cases hk; exact hge)
  have hs3 := hg.size
  clear hc2 hg HB2 hz HCL hc3
  have HC3 : Hid (CodeIn w3.heap.size w3 a len) := codeIn_later HC0.out HB3.out
  clear HC0
  go_wp2_with fail
  refine (drawHand_any a len cap w3 HC3.out).mono ?_
  rintro e w4 ⟨v3, ns, x, y, zz, rfl, hn1, hn2, hfit, hx1, hx2, hy1, hy2, hz1, hz2, ho3, hb4⟩
  obtain ⟨a3, cap3, rfl, _, _⟩ := ho3.row
  have hs4 := hb4.size
  have HB4 : Hid (Below w0.heap.size w0 w4) := HB3.out.trans (hb4.mono HB3.out.size)
  clear HB3 hb4 HC3
  have hx4 := (HB4.out.block w.heap.size (by omega)).trans hx0
  have hlt4 : w.heap.size < w4.heap.size := by omega
  have hx5 := (heap_alloc_old w4 (.cells #[.slice a3 ns.length cap3] 28) hlt4).trans hx4
  have r0 : (w4.alloc (.cells #[.slice a3 ns.length cap3] 28)).cell? ⟨w.heap.size, 0, none⟩ = some (.slice none 0 0) := by rw [cell_of_row _ _ 0 _ _ _ hx5]; rfl
  have f0 : (w4.alloc (.cells #[.slice a3 ns.length cap3] 28)).frozen? ⟨w.heap.size, 0, none⟩ = false := frozen_of_row _ _ 0 _ _ hx5
  have cX : (w4.alloc (.cells #[.slice a3 ns.length cap3] 28)).cell? ⟨w4.heap.size, 0, none⟩ = some (.slice a3 ns.length cap3) := (cell_of_row _ _ 0 _ _ _ (heap_alloc_new w4 _)).trans rfl
  have HF : Hid ((∀ y ∈ ns, y.Fits) ∧ Below w.heap.size w ((w4.setCell ⟨w.heap.size, 0, none⟩ (.slice a3 ns.length cap3)).alloc (.cells #[.slice a3 ns.length cap3] 28))) := ⟨hfit, ((hb0.trans (HB4.out.mono (by omega))).setCell (Nat.le_refl _) _).alloc (by simp; omega) _⟩
  have HBL : Hid (((w4.setCell ⟨w.heap.size, 0, none⟩ (.slice a3 ns.length cap3)).alloc (.cells #[.slice a3 ns.length cap3] 28)).heap[w.heap.size]? = some (.cells #[.slice a3 ns.length cap3] 28 (0, 0))) := (heap_alloc_old _ _ (by simpa using hlt4)).trans ((heap_setCell_same _ _ 0 _ _ _ hx4).trans rfl)
  have HO : Hid (OwnN w.heap.size ((w4.setCell ⟨w.heap.size, 0, none⟩ (.slice a3 ns.length cap3)).alloc (.cells #[.slice a3 ns.length cap3] 28)) (.slice a3 ns.length cap3) ns) := (OwnN.base (ownsRow_setCell_below ho3 (show w.heap.size < w3.heap.size by omega) _) (by omega)).alloc _
  clear hx4 hx5 ho3 hfit hb0 hx0 HB4
  go_wp2
  refine bodyPost_ret (res_cell3 rfl _ _ w.heap.size 28 #[.slice a3 ns.length cap3] (0, 0) _ rfl ?_ Try.underlying28 rfl arenaSize) rfl ?_
  · exact HBL.out
  · exact ⟨_, ns, _, _, rfl, hn1, hn2, HF.out.1, hx1, hx2, hzb.1, hzb.2, HO.out, HF.out.2⟩
end Go.Proofs.Ytffnadnndmmliaa
