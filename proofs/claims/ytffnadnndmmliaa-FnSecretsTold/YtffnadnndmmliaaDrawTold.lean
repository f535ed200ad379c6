/- The drawing functions of chapter 3's laws, the specification's: l03Pair, DrawTermText, DrawArenaOk. -/
import Derived.Test.YtffnadnndmmliaaDrawAny
import Derived.Test.YtffnadnndmmliaaCodeW
import Derived.Test.YtffnadnndmmliaaRegionK
import Derived.WalkKit
import Derived.WalkLawsBesides
import Derived.WalkSpells
import Derived.Laws.Rows
import Derived.Laws.OwnMore
import Derived.Laws.ResultCell
import Derived.BigRegion
import Derived.Deep.RegionLaw
import Derived.OneCell
namespace Go.Proofs.Ytffnadnndmmliaa
open Go.RowKit
set_option linter.unusedVariables false

set_option maxHeartbeats 3200000 in
set_option maxRecDepth 20000 in
theorem pair_any (a : Option Addr) (len cap : Nat) (w : World) (hc : CodeIn w.heap.size w a len) :
    Calls Try.prog 98 #[.slice a len cap] w fun e w' => ∃ v ns, ∃ k : Int, e = .returned (.tuple #[.agg #[v], .int .i64 k]) ∧ 1 ≤ ns.length ∧ ns.length ≤ 14 ∧ (∀ y ∈ ns, y.Fits) ∧ -1 ≤ k ∧ k ≤ ns.length ∧ OwnN w.heap.size w' v ns ∧ Below w.heap.size w w' := by
  have hb0 : Below w.heap.size w (w.alloc (.cells #[.slice none 0 0] 28)) := (Below.refl _ _).alloc (Nat.le_refl _) _
  have hx0 := heap_alloc_new w (.cells #[.slice none 0 0] 28)
  have hc0 := codeIn_later hc hb0
  have hs0 : (w.alloc (.cells #[.slice none 0 0] 28)).heap.size = w.heap.size + 1 := by simp
  clear hc
  go_enter Try.func98, Try.ntmps98
  go_wp2_with fail
  generalize w.alloc (.cells #[.slice none 0 0] 28) = w0 at hb0 hx0 hc0 hs0 ⊢
  refine (new_any _ _ _ _ hc0).mono ?_
  rintro e w1 ⟨g, rfl, hc1, hb1⟩
  have hge := hc1.1
  go_wp2_with fail
  refine (below_any w0.heap.size g 40 _ (by omega) (by omega) hc1).mono ?_
  rintro e w2 ⟨y, rfl, hy, hc2, hg2⟩
  go_wp2_with fail
  refine (anyArena_any w0.heap.size g _ hc2).mono ?_
  rintro e w3 ⟨v3, ns, rfl, hn1, hn2, hfit, ho3, hc3, hg3⟩
  have hs1 := hb1.size
  have hs2 := hg2.size
  have hs3 := hg3.size
  have hB3 : Below w0.heap.size w0 w3 := (hb1.grown hg2 hb1.size (fun k hk => by cases hk; exact hge)).grown hg3 (by omega) (fun k hk => by cases hk; exact hge)
  obtain ⟨a3, cap3, rfl, _, _⟩ := ho3.row
  have cb : (w3.alloc (.cells #[.slice a3 ns.length cap3] 28)).cell? ⟨w3.heap.size, 0, none⟩ = some (.slice a3 ns.length cap3) := (cell_of_row _ w3.heap.size 0 _ _ _ (heap_alloc_new w3 _)).trans rfl
  have hb4 : Below w3.heap.size w3 (w3.alloc (.cells #[.slice a3 ns.length cap3] 28)) := (Below.refl _ _).alloc (Nat.le_refl _) _
  have hB4 := hB3.trans (hb4.mono (by omega))
  have hx4 := (hB4.block w.heap.size (by omega)).trans hx0
  have ho4 : OwnN w.heap.size (w3.alloc (.cells #[.slice a3 ns.length cap3] 28)) (.slice a3 ns.length cap3) ns := OwnN.base (ho3.later hb4) (by omega)
  clear hc0 hc1 hc2 hc3 hg2 hg3 hb1 hx0
  obtain ⟨r, hrl, hre⟩ : ∃ r : Nat, r < ns.length + 2 ∧ (y : Int) % ((ns.length : Int) + 2) = (r : Int) := ⟨y % (ns.length + 2), Nat.mod_lt _ (by omega), by rw [Int.natCast_emod]; rfl⟩
  have hr0 : (0 : Int) ≤ (r : Int) := by omega
  have hr1 : (r : Int) < (ns.length : Int) + 2 := by omega
  have hl1 : ¬ (ns.length : Int) + 2 = 0 := by omega
  have r0 : (w3.alloc (.cells #[.slice a3 ns.length cap3] 28)).cell? ⟨w.heap.size, 0, none⟩ = some (.slice none 0 0) := by rw [cell_of_row _ _ 0 _ _ _ hx4]; rfl
  have f0 : (w3.alloc (.cells #[.slice a3 ns.length cap3] 28)).frozen? ⟨w.heap.size, 0, none⟩ = false := frozen_of_row _ _ 0 _ _ hx4
  have tB : Below w.heap.size (w3.alloc (.cells #[.slice a3 ns.length cap3] 28)) ((w3.alloc (.cells #[.slice a3 ns.length cap3] 28)).setCell ⟨w.heap.size, 0, none⟩ (.slice a3 ns.length cap3)) := (Below.refl w.heap.size _).setCell (show w.heap.size ≤ w.heap.size by omega) _
  have hBA : Below w.heap.size w ((w3.alloc (.cells #[.slice a3 ns.length cap3] 28)).setCell ⟨w.heap.size, 0, none⟩ (.slice a3 ns.length cap3)).drew := ((hb0.trans (hB4.mono (by omega))).trans tB).drew
  have HBL : Hid (((w3.alloc (.cells #[.slice a3 ns.length cap3] 28)).setCell ⟨w.heap.size, 0, none⟩ (.slice a3 ns.length cap3)).drew.heap[w.heap.size]? = some (.cells #[.slice a3 ns.length cap3] 28 (0, 0))) := by
    show _ = _
    refine (heap_setCell_same _ _ 0 _ _ _ hx4).trans ?_; rfl
  have ho5 : OwnN (w.heap.size + 1) (w3.alloc (.cells #[.slice a3 ns.length cap3] 28)) (.slice a3 ns.length cap3) ns := OwnN.base (ho3.later hb4) (by omega)
  have HO : Hid (OwnN w.heap.size ((w3.alloc (.cells #[.slice a3 ns.length cap3] 28)).setCell ⟨w.heap.size, 0, none⟩ (.slice a3 ns.length cap3)).drew (.slice a3 ns.length cap3) ns) := OwnN.base ((ownsRow_setCell_below ho5 (show w.heap.size < w.heap.size + 1 by omega) _).drew) (Nat.le_succ _)
  have HF : Hid ((∀ y ∈ ns, y.Fits) ∧ Below w.heap.size w ((w3.alloc (.cells #[.slice a3 ns.length cap3] 28)).setCell ⟨w.heap.size, 0, none⟩ (.slice a3 ns.length cap3)).drew) := ⟨hfit, hBA⟩
  have hne : w3.heap.size ≠ w.heap.size := by omega
  clear hx4 ho4 ho5 hB4 hB3 tB hBA hfit ho3 hb4 hb0
  go_wp2_with fail
  go_region
  all_goals
    go_wp2
    refine bodyPost_ret (res_cell2 rfl _ _ w.heap.size 28 #[.slice a3 ns.length cap3] (0, 0) _ rfl ?_ Try.underlying28 rfl arenaSize) rfl ?_
    · exact HBL.out
    · exact ⟨_, ns, _, rfl, hn1, hn2, HF.out.1, by omega, by omega, HO.out, HF.out.2⟩
set_option maxHeartbeats 3200000 in
set_option maxRecDepth 20000 in
theorem drawText_any (a : Option Addr) (len cap : Nat) (w : World) (hc : CodeIn w.heap.size w a len) :
    Calls Try.prog 31 #[.slice a len cap] w fun e w' => ∃ v ns, ∃ k : Int, e = .returned (.tuple #[.agg #[v], .int .i64 k]) ∧ 1 ≤ ns.length ∧ ns.length ≤ 14 ∧ (∀ y ∈ ns, y.Fits) ∧ -1 ≤ k ∧ k ≤ ns.length ∧ OwnN w.heap.size w' v ns ∧ Below w.heap.size w w' := by
  have hb0 : Below w.heap.size w (w.alloc (.cells #[.slice none 0 0] 28)) := (Below.refl _ _).alloc (Nat.le_refl _) _
  have hx0 := heap_alloc_new w (.cells #[.slice none 0 0] 28)
  have hc0 := codeIn_later hc hb0
  have hs0 : (w.alloc (.cells #[.slice none 0 0] 28)).heap.size = w.heap.size + 1 := by simp
  clear hc
  go_enter Try.func31, Try.ntmps31
  go_wp2_with fail
  generalize w.alloc (.cells #[.slice none 0 0] 28) = w0 at hb0 hx0 hc0 hs0 ⊢
  refine (pair_any _ _ _ _ hc0).mono ?_
  rintro e w1 ⟨v3, ns, k, rfl, hn1, hn2, hfit, hk0, hk1, ho3, hb1⟩
  obtain ⟨a3, cap3, rfl, _, _⟩ := ho3.row
  have hs1 := hb1.size
  have hx4 := (hb1.block w.heap.size (by omega)).trans hx0
  have r0 : w1.cell? ⟨w.heap.size, 0, none⟩ = some (.slice none 0 0) := by rw [cell_of_row _ _ 0 _ _ _ hx4]; rfl
  have f0 : w1.frozen? ⟨w.heap.size, 0, none⟩ = false := frozen_of_row _ _ 0 _ _ hx4
  have tB : Below w.heap.size w1 (w1.setCell ⟨w.heap.size, 0, none⟩ (.slice a3 ns.length cap3)) := (Below.refl w.heap.size _).setCell (show w.heap.size ≤ w.heap.size by omega) _
  have HF : Hid ((∀ y ∈ ns, y.Fits) ∧ Below w.heap.size w (w1.setCell ⟨w.heap.size, 0, none⟩ (.slice a3 ns.length cap3))) := ⟨hfit, (hb0.trans (hb1.mono (by omega))).trans tB⟩
  have HBL : Hid ((w1.setCell ⟨w.heap.size, 0, none⟩ (.slice a3 ns.length cap3)).heap[w.heap.size]? = some (.cells #[.slice a3 ns.length cap3] 28 (0, 0))) := by
    show _ = _
    refine (heap_setCell_same _ _ 0 _ _ _ hx4).trans ?_; rfl
  have HO : Hid (OwnN w.heap.size (w1.setCell ⟨w.heap.size, 0, none⟩ (.slice a3 ns.length cap3)) (.slice a3 ns.length cap3) ns) := OwnN.base (ownsRow_setCell_below ho3 (show w.heap.size < w0.heap.size by omega) _) (by omega)
  clear hx4 ho3 tB hfit hb0 hb1 hc0 hx0
  go_wp2
  refine bodyPost_ret (res_cell2 rfl _ _ w.heap.size 28 #[.slice a3 ns.length cap3] (0, 0) _ rfl ?_ Try.underlying28 rfl arenaSize) rfl ?_
  · exact HBL.out
  · exact ⟨_, ns, _, rfl, hn1, hn2, HF.out.1, hk0, hk1, HO.out, HF.out.2⟩
set_option maxHeartbeats 3200000 in
set_option maxRecDepth 20000 in
theorem drawArenaOk_any (a : Option Addr) (len cap : Nat) (w : World) (hc : CodeIn w.heap.size w a len) :
    Calls Try.prog 35 #[.slice a len cap] w fun e w' => ∃ v ns, e = .returned (.agg #[v]) ∧ 1 ≤ ns.length ∧ ns.length ≤ 14 ∧ (∀ y ∈ ns, y.Fits) ∧ OwnN w.heap.size w' v ns ∧ Below w.heap.size w w' := by
  have hb0 : Below w.heap.size w (w.alloc (.cells #[.slice none 0 0] 28)) := (Below.refl _ _).alloc (Nat.le_refl _) _
  have hx0 := heap_alloc_new w (.cells #[.slice none 0 0] 28)
  have hc0 := codeIn_later hc hb0
  have hs0 : (w.alloc (.cells #[.slice none 0 0] 28)).heap.size = w.heap.size + 1 := by simp
  clear hc
  go_enter Try.func35, Try.ntmps35
  go_wp2_with fail
  generalize w.alloc (.cells #[.slice none 0 0] 28) = w0 at hb0 hx0 hc0 hs0 ⊢
  refine (new_any _ _ _ _ hc0).mono ?_
  rintro e w1 ⟨g, rfl, hc1, hb1⟩
  have hge := hc1.1
  go_wp2_with fail
  refine (anyArena_any w0.heap.size g _ hc1).mono ?_
  rintro e w3 ⟨v3, ns, rfl, hn1, hn2, hfit, ho3, hc3, hg3⟩
  have hs1 := hb1.size
  have hs3 := hg3.size
  have hB3 : Below w0.heap.size w0 w3 := hb1.grown hg3 (by omega) (fun k hk => by cases hk; exact hge)
  obtain ⟨a3, cap3, rfl, _, _⟩ := ho3.row
  have hx4 := (hB3.block w.heap.size (by omega)).trans hx0
  have r0 : w3.cell? ⟨w.heap.size, 0, none⟩ = some (.slice none 0 0) := by rw [cell_of_row _ _ 0 _ _ _ hx4]; rfl
  have f0 : w3.frozen? ⟨w.heap.size, 0, none⟩ = false := frozen_of_row _ _ 0 _ _ hx4
  have tB : Below w.heap.size w3 (w3.setCell ⟨w.heap.size, 0, none⟩ (.slice a3 ns.length cap3)) := (Below.refl w.heap.size _).setCell (show w.heap.size ≤ w.heap.size by omega) _
  have HF : Hid ((∀ y ∈ ns, y.Fits) ∧ Below w.heap.size w (w3.setCell ⟨w.heap.size, 0, none⟩ (.slice a3 ns.length cap3))) := ⟨hfit, (hb0.trans (hB3.mono (by omega))).trans tB⟩
  have HBL : Hid ((w3.setCell ⟨w.heap.size, 0, none⟩ (.slice a3 ns.length cap3)).heap[w.heap.size]? = some (.cells #[.slice a3 ns.length cap3] 28 (0, 0))) := by
    show _ = _
    refine (heap_setCell_same _ _ 0 _ _ _ hx4).trans ?_; rfl
  have HO : Hid (OwnN w.heap.size (w3.setCell ⟨w.heap.size, 0, none⟩ (.slice a3 ns.length cap3)) (.slice a3 ns.length cap3) ns) := OwnN.base (ownsRow_setCell_below ho3 (show w.heap.size < w1.heap.size by omega) _) (by omega)
  clear hx4 ho3 tB hfit hb0 hb1 hc0 hx0 hc1 hc3 hg3 hB3
  go_wp2
  refine bodyPost_ret (results_cell_row rfl _ _ w.heap.size 28 #[.slice a3 ns.length cap3] (0, 0) _ rfl ?_ Try.underlying28 rfl arenaSize) rfl ?_
  · exact HBL.out
  · exact ⟨_, ns, rfl, hn1, hn2, HF.out.1, HO.out, HF.out.2⟩
end Go.Proofs.Ytffnadnndmmliaa
