/- The drawing functions of chapter 4's laws, the specification's: DrawMake, DrawAtom, DrawNumOf. -/
import Derived.Test.YtodpfdjlhbjlgaaDrawTold
import Derived.Test.YtodpfdjlhbjlgaaDrawArena
import Derived.WalkKit
import Derived.WalkLawsBesides
import Derived.WalkSpells
import Derived.Laws.Rows
import Derived.Laws.OwnMore
import Derived.Laws.ResultCell
namespace Go.Proofs.Ytodpfdjlhbjlgaa
open Go.RowKit
set_option linter.unusedVariables false
theorem res_cell4 {P : Program} {fn : Func} {p u v x : Tmp} {ty : TypeId} (h : fn.results = #[.cell p ty, .tmp u, .tmp v, .tmp x]) (tmps : Array Value) (w : World) (g : Nat) (t : TypeId) (cs : Array Value) (fr : Nat × Nat) (d : TypeDesc)
    (hp : tmps.getD p undef = .pointer (some ⟨g, 0, none⟩)) (hg : w.heap[g]? = some (.cells cs t fr))
    (hu : P.underlying ty = some d) (hd : (match d with | .struct _ | .array _ _ => true | _ => false) = true) (hi : (P.info? ty).map (·.size) = some cs.size) :
    (results fn tmps).run P w = .ok (.tuple #[.agg cs, tmps.getD u undef, tmps.getD v undef, tmps.getD x undef]) w := by
  have hp' : tmps[p]?.getD undef = .pointer (some ⟨g, 0, none⟩) := by simpa using hp
  simp [results, h, hp', asAddr, run_loadVar_row w g t ty cs fr d hg hu hd hi]
set_option maxHeartbeats 3200000 in
set_option maxRecDepth 20000 in
theorem drawMake_any (a : Option Addr) (len cap : Nat) (w : World) (hc : CodeIn w.heap.size w a len) :
    Calls Try.prog 47 #[.slice a len cap] w fun e w' => ∃ v ns, ∃ k x y : Int, e = .returned (.tuple #[.agg #[v], .int .i64 k, .int .i64 x, .int .i64 y]) ∧ 1 ≤ ns.length ∧ ns.length ≤ 14 ∧ (∀ y ∈ ns, y.Fits) ∧ 0 ≤ k ∧ k ≤ 10 ∧ -1 ≤ x ∧ x ≤ 6 ∧ -1 ≤ y ∧ y ≤ 6 ∧ OwnN w.heap.size w' v ns ∧ Below w.heap.size w w' := by
  have hb0 : Below w.heap.size w (w.alloc (.cells #[.slice none 0 0] 26)) := (Below.refl _ _).alloc (Nat.le_refl _) _
  have hx0 := heap_alloc_new w (.cells #[.slice none 0 0] 26)
  have hc0 := codeIn_later hc hb0
  have hs0 : (w.alloc (.cells #[.slice none 0 0] 26)).heap.size = w.heap.size + 1 := by simp
  clear hc
  go_enter Try.func47, Try.ntmps47
  go_wp2_with fail
  generalize w.alloc (.cells #[.slice none 0 0] 26) = w0 at hb0 hx0 hc0 hs0 ⊢
  refine (new_any _ _ _ _ hc0).mono ?_
  rintro e w1 ⟨g, rfl, hc1, hb1⟩
  have hge := hc1.1
  have hgl1 := hc1.2.1
  have HB1 : Hid (Below w0.heap.size w0 w1) := hb1
  have hs1 := hb1.size
  clear hb1 hc0
  go_wp2_with fail
  refine (below_any w0.heap.size g 11 _ (by omega) (by omega) hc1).mono ?_
  rintro e w2 ⟨k, rfl, hk, hc2, hg⟩
  have HB2 : Hid (Below w0.heap.size w0 w2) := HB1.out.grown hg HB1.out.size (fun k hk => by cases hk; exact hge)
  have hs2 := hg.size
  clear hc1 hg HB1
  go_wp2_with fail
  refine (below_any w0.heap.size g 8 _ (by omega) (by omega) hc2).mono ?_
  rintro e w3 ⟨x, rfl, hx, hc3, hg⟩
  have HB3 : Hid (Below w0.heap.size w0 w3) := HB2.out.grown hg HB2.out.size (fun k hk => by cases hk; exact hge)
  have hs3 := hg.size
  clear hc2 hg HB2
  go_wp2_with fail
  refine (below_any w0.heap.size g 8 _ (by omega) (by omega) hc3).mono ?_
  rintro e w4 ⟨y, rfl, hy, hc4, hg⟩
  have HB4 : Hid (Below w0.heap.size w0 w4) := HB3.out.grown hg HB3.out.size (fun k hk => by cases hk; exact hge)
  have hs4 := hg.size
  clear hc3 hg HB3
  go_wp2_with fail
  refine (anyArena_any w0.heap.size g _ hc4).mono ?_
  rintro e w5 ⟨v3, ns, rfl, hn1, hn2, hfit, ho3, hc5, hg⟩
  have HB5 : Hid (Below w0.heap.size w0 w5) := HB4.out.grown hg HB4.out.size (fun k hk => by cases hk; exact hge)
  have hs5 := hg.size
  clear hc4 hc5 hg HB4
  obtain ⟨a3, cap3, rfl, _, _⟩ := ho3.row
  have hx4 := (HB5.out.block w.heap.size (by omega)).trans hx0
  have r0 : w5.cell? ⟨w.heap.size, 0, none⟩ = some (.slice none 0 0) := by rw [cell_of_row _ _ 0 _ _ _ hx4]; rfl
  have f0 : w5.frozen? ⟨w.heap.size, 0, none⟩ = false := frozen_of_row _ _ 0 _ _ hx4
  have HF : Hid ((∀ y ∈ ns, y.Fits) ∧ Below w.heap.size w (w5.setCell ⟨w.heap.size, 0, none⟩ (.slice a3 ns.length cap3))) := ⟨hfit, (hb0.trans (HB5.out.mono (by omega))).setCell (Nat.le_refl _) _⟩
  have HBL : Hid ((w5.setCell ⟨w.heap.size, 0, none⟩ (.slice a3 ns.length cap3)).heap[w.heap.size]? = some (.cells #[.slice a3 ns.length cap3] 26 (0, 0))) := (heap_setCell_same _ _ 0 _ _ _ hx4).trans rfl
  have HO : Hid (OwnN w.heap.size (w5.setCell ⟨w.heap.size, 0, none⟩ (.slice a3 ns.length cap3)) (.slice a3 ns.length cap3) ns) := OwnN.base (ownsRow_setCell_below ho3 (show w.heap.size < w4.heap.size by omega) _) (by omega)
  clear hx4 ho3 hfit hb0 hx0 HB5
  go_wp2
  refine bodyPost_ret (res_cell4 rfl _ _ w.heap.size 26 #[.slice a3 ns.length cap3] (0, 0) _ rfl ?_ Try.underlying26 rfl arenaSize) rfl ?_
  · exact HBL.out
  · exact ⟨_, ns, _, _, _, rfl, hn1, hn2, HF.out.1, by omega, by omega, by omega, by omega, by omega, by omega, HO.out, HF.out.2⟩
set_option maxHeartbeats 3200000 in
set_option maxRecDepth 20000 in
theorem drawAtom_any (a : Option Addr) (len cap : Nat) (w : World) (hc : CodeIn w.heap.size w a len) :
    Calls Try.prog 49 #[.slice a len cap] w fun e w' => ∃ v ns, ∃ z : Int, e = .returned (.tuple #[.agg #[v], .int .i64 z]) ∧ 1 ≤ ns.length ∧ ns.length ≤ 14 ∧ (∀ y ∈ ns, y.Fits) ∧ -1 ≤ z ∧ z ≤ 1000000 ∧ OwnN w.heap.size w' v ns ∧ Below w.heap.size w w' := by
  have hb0 : Below w.heap.size w (w.alloc (.cells #[.slice none 0 0] 26)) := (Below.refl _ _).alloc (Nat.le_refl _) _
  have hx0 := heap_alloc_new w (.cells #[.slice none 0 0] 26)
  have hc0 := codeIn_later hc hb0
  have hs0 : (w.alloc (.cells #[.slice none 0 0] 26)).heap.size = w.heap.size + 1 := by simp
  clear hc
  go_enter Try.func49, Try.ntmps49
  go_wp2_with fail
  generalize w.alloc (.cells #[.slice none 0 0] 26) = w0 at hb0 hx0 hc0 hs0 ⊢
  refine (new_any _ _ _ _ hc0).mono ?_
  rintro e w1 ⟨g, rfl, hc1, hb1⟩
  have hge := hc1.1
  have hgl1 := hc1.2.1
  have HB1 : Hid (Below w0.heap.size w0 w1) := hb1
  have hs1 := hb1.size
  clear hb1 hc0
  have hb2 : Below w1.heap.size w1 (w1.alloc (.cells #[.int .i64 0, .int .i64 5, .int .i64 999999, .int .i64 1000000, .int .i64 (-1), .int .i64 7] 3)) := (Below.refl _ _).alloc (Nat.le_refl _) _
  have hc2 := hc1.grown hb2
  have hrow := heap_alloc_new w1 (.cells #[.int .i64 0, .int .i64 5, .int .i64 999999, .int .i64 1000000, .int .i64 (-1), .int .i64 7] 3)
  have HB2 : Hid (Below w0.heap.size w0 (w1.alloc (.cells #[.int .i64 0, .int .i64 5, .int .i64 999999, .int .i64 1000000, .int .i64 (-1), .int .i64 7] 3))) := HB1.out.trans (hb2.mono HB1.out.size)
  have hs2 := hb2.size
  have HCL : Hid (∀ i, i < 6 → (w1.alloc (.cells #[.int .i64 0, .int .i64 5, .int .i64 999999, .int .i64 1000000, .int .i64 (-1), .int .i64 7] 3)).cell? ⟨w1.heap.size, i, none⟩ = some (.int .i64 (([0, 5, 999999, 1000000, -1, 7] : List Int).getD i 0))) := fun i hi => by
    rw [cell_of_row _ _ i _ _ _ hrow]
    rcases (show i = 0 ∨ i = 1 ∨ i = 2 ∨ i = 3 ∨ i = 4 ∨ i = 5 by omega) with rfl | rfl | rfl | rfl | rfl | rfl <;> rfl
  clear hc1 hb2 HB1 hrow
  go_wp2_with fail
  generalize w1.alloc (.cells #[.int .i64 0, .int .i64 5, .int .i64 999999, .int .i64 1000000, .int .i64 (-1), .int .i64 7] 3) = w2 at hc2 HB2 HCL hs2 ⊢
  refine (pickInt_any w0.heap.size g w1.heap.size 6 _ [0, 5, 999999, 1000000, -1, 7] _ (by omega) (by omega) rfl (by omega) HCL.out hc2).mono ?_
  rintro e w3 ⟨z, hz, rfl, hc3, hg⟩
  have HZ : Hid (z ∈ [0, 5, 999999, 1000000, -1, 7]) := hz
  have hzb : -1 ≤ z ∧ z ≤ 1000000 := by simp at hz; omega
  have HB3 : Hid (Below w0.heap.size w0 w3) := HB2.out.grown hg HB2.out.size (fun k hk => by cases hk; exact hge)
  have hs3 := hg.size
  clear hc2 hg HB2 hz HCL
  go_wp2_with fail
  refine (anyArena_any w0.heap.size g _ hc3).mono ?_
  rintro e w4 ⟨v3, ns, rfl, hn1, hn2, hfit, ho3, hc4, hg⟩
  have HB4 : Hid (Below w0.heap.size w0 w4) := HB3.out.grown hg HB3.out.size (fun k hk => by cases hk; exact hge)
  have hs4 := hg.size
  clear hc3 hc4 hg HB3
  obtain ⟨a3, cap3, rfl, _, _⟩ := ho3.row
  have hx4 := (HB4.out.block w.heap.size (by omega)).trans hx0
  have r0 : w4.cell? ⟨w.heap.size, 0, none⟩ = some (.slice none 0 0) := by rw [cell_of_row _ _ 0 _ _ _ hx4]; rfl
  have f0 : w4.frozen? ⟨w.heap.size, 0, none⟩ = false := frozen_of_row _ _ 0 _ _ hx4
  have HF : Hid ((∀ y ∈ ns, y.Fits) ∧ Below w.heap.size w (w4.setCell ⟨w.heap.size, 0, none⟩ (.slice a3 ns.length cap3))) := ⟨hfit, (hb0.trans (HB4.out.mono (by omega))).setCell (Nat.le_refl _) _⟩
  have HBL : Hid ((w4.setCell ⟨w.heap.size, 0, none⟩ (.slice a3 ns.length cap3)).heap[w.heap.size]? = some (.cells #[.slice a3 ns.length cap3] 26 (0, 0))) := (heap_setCell_same _ _ 0 _ _ _ hx4).trans rfl
  have HO : Hid (OwnN w.heap.size (w4.setCell ⟨w.heap.size, 0, none⟩ (.slice a3 ns.length cap3)) (.slice a3 ns.length cap3) ns) := OwnN.base (ownsRow_setCell_below ho3 (show w.heap.size < w3.heap.size by omega) _) (by omega)
  clear hx4 ho3 hfit hb0 hx0 HB4
  go_wp2
  refine bodyPost_ret (res_cell2 rfl _ _ w.heap.size 26 #[.slice a3 ns.length cap3] (0, 0) _ rfl ?_ Try.underlying26 rfl arenaSize) rfl ?_
  · exact HBL.out
  · exact ⟨_, ns, _, rfl, hn1, hn2, HF.out.1, by omega, by omega, HO.out, HF.out.2⟩
set_option maxHeartbeats 3200000 in
set_option maxRecDepth 20000 in
theorem drawNum_any (a : Option Addr) (len cap : Nat) (w : World) (hc : CodeIn w.heap.size w a len) :
    Calls Try.prog 57 #[.slice a len cap] w fun e w' => ∃ v ns, ∃ k : Int, e = .returned (.tuple #[.agg #[v], .int .i64 k]) ∧ 1 ≤ ns.length ∧ ns.length ≤ 14 ∧ (∀ y ∈ ns, y.Fits) ∧ -1 ≤ k ∧ k ≤ ns.length ∧ OwnN w.heap.size w' v ns ∧ Below w.heap.size w w' := by
  have hb0 : Below w.heap.size w (w.alloc (.cells #[.slice none 0 0] 26)) := (Below.refl _ _).alloc (Nat.le_refl _) _
  have hx0 := heap_alloc_new w (.cells #[.slice none 0 0] 26)
  have hc0 := codeIn_later hc hb0
  have hs0 : (w.alloc (.cells #[.slice none 0 0] 26)).heap.size = w.heap.size + 1 := by simp
  clear hc
  go_enter Try.func57, Try.ntmps57
  go_wp2_with fail
  generalize w.alloc (.cells #[.slice none 0 0] 26) = w0 at hb0 hx0 hc0 hs0 ⊢
  refine (pair_any _ _ _ _ hc0).mono ?_
  rintro e w1 ⟨v3, ns, k, rfl, hn1, hn2, hfit, hk0, hk1, ho3, hb1⟩
  obtain ⟨a3, cap3, rfl, _, _⟩ := ho3.row
  have hs1 := hb1.size
  have HB1 : Hid (Below w0.heap.size w0 w1) := hb1
  clear hb1 hc0
  have hx4 := (HB1.out.block w.heap.size (by omega)).trans hx0
  have r0 : w1.cell? ⟨w.heap.size, 0, none⟩ = some (.slice none 0 0) := by rw [cell_of_row _ _ 0 _ _ _ hx4]; rfl
  have f0 : w1.frozen? ⟨w.heap.size, 0, none⟩ = false := frozen_of_row _ _ 0 _ _ hx4
  have HF : Hid ((∀ y ∈ ns, y.Fits) ∧ Below w.heap.size w (w1.setCell ⟨w.heap.size, 0, none⟩ (.slice a3 ns.length cap3))) := ⟨hfit, (hb0.trans (HB1.out.mono (by omega))).setCell (Nat.le_refl _) _⟩
  have HBL : Hid ((w1.setCell ⟨w.heap.size, 0, none⟩ (.slice a3 ns.length cap3)).heap[w.heap.size]? = some (.cells #[.slice a3 ns.length cap3] 26 (0, 0))) := (heap_setCell_same _ _ 0 _ _ _ hx4).trans rfl
  have HO : Hid (OwnN w.heap.size (w1.setCell ⟨w.heap.size, 0, none⟩ (.slice a3 ns.length cap3)) (.slice a3 ns.length cap3) ns) := OwnN.base (ownsRow_setCell_below ho3 (show w.heap.size < w0.heap.size by omega) _) (by omega)
  clear hx4 ho3 hfit hb0 hx0 HB1
  go_wp2
  refine bodyPost_ret (res_cell2 rfl _ _ w.heap.size 26 #[.slice a3 ns.length cap3] (0, 0) _ rfl ?_ Try.underlying26 rfl arenaSize) rfl ?_
  · exact HBL.out
  · exact ⟨_, ns, _, rfl, hn1, hn2, HF.out.1, hk0, hk1, HO.out, HF.out.2⟩
end Go.Proofs.Ytodpfdjlhbjlgaa
