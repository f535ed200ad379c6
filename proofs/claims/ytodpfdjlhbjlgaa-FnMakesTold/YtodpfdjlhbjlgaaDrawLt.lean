/- The drawing functions of chapter 4's laws, the specification's: DrawParts, DrawDhOf. -/
import Derived.Test.YtodpfdjlhbjlgaaDrawLs
import Derived.Test.YtodpfdjlhbjlgaaLawInts
import Derived.Test.YtodpfdjlhbjlgaaMakeList
import Derived.Test.YtodpfdjlhbjlgaaMakeA
import Derived.WalkKit
import Derived.WalkLawsBesides
import Derived.WalkSpells
import Derived.OwnWalk
import Derived.Laws.Rows
import Derived.Laws.OwnMore
import Derived.Laws.ResultCell
namespace Go.Proofs.Ytodpfdjlhbjlgaa
open Go.RowKit
set_option linter.unusedVariables false
set_option maxHeartbeats 3200000 in
set_option maxRecDepth 20000 in
theorem drawParts_any (a : Option Addr) (len cap : Nat) (w : World) (hc : CodeIn w.heap.size w a len) :
    Calls Try.prog 53 #[.slice a len cap] w fun e w' => ∃ v ns, ∃ k n : Int, e = .returned (.tuple #[.agg #[v], .int .i64 k, .int .i64 n]) ∧ ns.length ≤ 1048576 ∧ OwnN w.heap.size w' v ns ∧ Below w.heap.size w w' := by
  have hb0 : Below w.heap.size w (w.alloc (.cells #[.slice none 0 0] 26)) := (Below.refl _ _).alloc (Nat.le_refl _) _
  have hx0 := heap_alloc_new w (.cells #[.slice none 0 0] 26)
  have hc0 := codeIn_later hc hb0
  have hs0 : (w.alloc (.cells #[.slice none 0 0] 26)).heap.size = w.heap.size + 1 := by simp
  clear hc
  go_enter Try.func53, Try.ntmps53
  go_wp2_with fail
  generalize w.alloc (.cells #[.slice none 0 0] 26) = w0 at hb0 hx0 hc0 hs0 ⊢
  refine (drawList_any _ _ _ _ hc0).mono ?_
  rintro e w1 ⟨v3, ns, u, xs, rfl, hn1, hn2, hfit, hxl, hxr, ho3, hou, hb1⟩
  obtain ⟨a3, cap3, rfl, hA3, hr3⟩ := ho3.row
  obtain ⟨au, cu, rfl, -, hru⟩ := hou.row
  have hb2 : Below w1.heap.size w1 (w1.alloc (.cells #[.slice a3 ns.length cap3] 26)) := (Below.refl _ _).alloc (Nat.le_refl _) _
  obtain ⟨A, K, HLC, hAl⟩ : ∃ (A : List Nd) (K : Int), Hid (Calls Try.prog 52 #[.agg #[.slice a3 ns.length cap3], .slice au xs.length cu] (w1.alloc (.cells #[.slice a3 ns.length cap3] 26)) fun e w' => ∃ v, e = .returned (.tuple #[.agg #[v], .int .i64 K]) ∧ OwnN (w1.alloc (.cells #[.slice a3 ns.length cap3] 26)).heap.size w' v A ∧ Below (w1.alloc (.cells #[.slice a3 ns.length cap3] 26)).heap.size (w1.alloc (.cells #[.slice a3 ns.length cap3] 26)) w') ∧ A.length ≤ 1048576 :=
    ⟨listA ns xs, listK ns xs, specList_any a3 cap3 ns au cu xs _ (by omega) (by omega) (hru.grown hb2) hA3 (hr3.grown hb2), by unfold listA; split; omega; exact listF_le xs (by omega)⟩
  have hs1 := hb1.size
  have hs2 := hb2.size
  have HB2 : Hid (Below w0.heap.size w0 (w1.alloc (.cells #[.slice a3 ns.length cap3] 26))) := hb1.trans (hb2.mono hs1)
  clear hr3 hru ho3 hou hb1 hb2 hfit hxr hc0
  obtain ⟨q, hq, hq1⟩ : ∃ q : Nat, Int.tmod (len : Int) 5 = (q : Int) ∧ q < 5 := ⟨len % 5, by rw [Int.tmod_eq_emod_of_nonneg (by omega)]; simp, Nat.mod_lt _ (by omega)⟩
  obtain ⟨r, hr, hr1⟩ : ∃ r : Nat, Int.tdiv (q : Int) 4 = (r : Int) ∧ r ≤ 1 := ⟨q / 4, by rw [Int.tdiv_eq_ediv_of_nonneg (by omega)]; simp, by omega⟩
  go_wp2_with fail
  generalize w1.alloc (.cells #[.slice a3 ns.length cap3] 26) = w2 at HLC HB2 hs2 ⊢
  refine Calls.mono HLC.out ?_
  rintro e w3 ⟨v4, rfl, ho4, hb⟩
  obtain ⟨a4, cap4, rfl, -, -⟩ := ho4.row
  have hs3 := hb.size
  have hbb : Below w3.heap.size w3 (w3.alloc (.cells #[.slice a4 A.length cap4] 26)) := (Below.refl _ _).alloc (Nat.le_refl _) _
  have HB4 : Hid (Below w0.heap.size w0 (w3.alloc (.cells #[.slice a4 A.length cap4] 26))) := (HB2.out.trans (hb.mono HB2.out.size)).trans (hbb.mono (by omega))
  have hx4 := (HB4.out.block w.heap.size (by omega)).trans hx0
  have r0 : (w3.alloc (.cells #[.slice a4 A.length cap4] 26)).cell? ⟨w.heap.size, 0, none⟩ = some (.slice none 0 0) := by rw [cell_of_row _ _ 0 _ _ _ hx4]; rfl
  have f0 : (w3.alloc (.cells #[.slice a4 A.length cap4] 26)).frozen? ⟨w.heap.size, 0, none⟩ = false := frozen_of_row _ _ 0 _ _ hx4
  have HE : Hid (Below w.heap.size w ((w3.alloc (.cells #[.slice a4 A.length cap4] 26)).setCell ⟨w.heap.size, 0, none⟩ (.slice a4 A.length cap4))) := (hb0.trans (HB4.out.mono (by omega))).setCell (Nat.le_refl _) _
  have HBL : Hid (((w3.alloc (.cells #[.slice a4 A.length cap4] 26)).setCell ⟨w.heap.size, 0, none⟩ (.slice a4 A.length cap4)).heap[w.heap.size]? = some (.cells #[.slice a4 A.length cap4] 26 (0, 0))) := (heap_setCell_same _ _ 0 _ _ _ hx4).trans rfl
  have HO : Hid (OwnN w.heap.size ((w3.alloc (.cells #[.slice a4 A.length cap4] 26)).setCell ⟨w.heap.size, 0, none⟩ (.slice a4 A.length cap4)) (.slice a4 A.length cap4) A) := OwnN.base (ownsRow_setCell_below (OwnN.later ho4 hbb) (show w.heap.size < w2.heap.size by omega) _) (by omega)
  have hne : w3.heap.size ≠ w.heap.size := by omega
  clear hx4 ho4 hb hbb hb0 hx0 HB4 HB2 HLC
  go_wp2
  refine bodyPost_ret (res_cell3 rfl _ _ w.heap.size 26 #[.slice a4 A.length cap4] (0, 0) _ rfl ?_ Try.underlying26 rfl arenaSize) rfl ?_
  · exact HBL.out
  · exact ⟨_, A, _, _, rfl, hAl, HO.out, HE.out⟩
set_option maxHeartbeats 3200000 in
set_option maxRecDepth 20000 in
theorem drawDh_any (a : Option Addr) (len cap : Nat) (w : World) (hc : CodeIn w.heap.size w a len) :
    Calls Try.prog 55 #[.slice a len cap] w fun e w' => ∃ v ns, ∃ x k : Int, e = .returned (.tuple #[.agg #[v], .int .i64 x, .int .i64 k]) ∧ ns.length ≤ 1048576 ∧ OwnN w.heap.size w' v ns ∧ Below w.heap.size w w' := by
  have hb0 : Below w.heap.size w (w.alloc (.cells #[.slice none 0 0] 26)) := (Below.refl _ _).alloc (Nat.le_refl _) _
  have hx0 := heap_alloc_new w (.cells #[.slice none 0 0] 26)
  have hc0 := codeIn_later hc hb0
  have hs0 : (w.alloc (.cells #[.slice none 0 0] 26)).heap.size = w.heap.size + 1 := by simp
  clear hc
  go_enter Try.func55, Try.ntmps55
  go_wp2_with fail
  generalize w.alloc (.cells #[.slice none 0 0] 26) = w0 at hb0 hx0 hc0 hs0 ⊢
  refine (new_any _ _ _ _ hc0).mono ?_
  rintro e w1 ⟨g, rfl, hc1, hb1⟩
  have hge := hc1.1
  have hgl1 := hc1.2.1
  have HB1 : Hid (Below w0.heap.size w0 w1) := hb1
  have hs1 := hb1.size
  clear hb1 hc0
  go_wp2_with fail
  refine (below_any w0.heap.size g 6 _ (by omega) (by omega) hc1).mono ?_
  rintro e w2 ⟨x, rfl, hx, hc2, hg⟩
  have HB2 : Hid (Below w0.heap.size w0 w2) := HB1.out.grown hg HB1.out.size (fun k hk => by cases hk; exact hge)
  have hs2 := hg.size
  clear hc1 hg HB1
  have hgl2 := hc2.2.1
  go_wp2_with fail
  refine (anyArena_any w0.heap.size g _ hc2).mono ?_
  rintro e w3 ⟨v3, ns, rfl, hn1, hn2, hfit, ho3, hc3, hg⟩
  have HB3 : Hid (Below w0.heap.size w0 w3) := HB2.out.grown hg HB2.out.size (fun k hk => by cases hk; exact hge)
  have hs3 := hg.size
  clear hc2 hg HB2
  obtain ⟨a3, cap3, rfl, _, _⟩ := ho3.row
  have hb4 : Below w3.heap.size w3 (w3.alloc (.cells #[.slice a3 ns.length cap3] 26)) := (Below.refl _ _).alloc (Nat.le_refl _) _
  have HAT : Hid (ArenaAt w2.heap.size (w3.alloc (.cells #[.slice a3 ns.length cap3] 26)) w3.heap.size ns) := ⟨hs3, by simp, _, heap_alloc_new w3 _, ho3.later hb4, fun e => by have := (ho3.lt _ e).2; omega⟩
  have HC4 : Hid (Cur w0.heap.size (w3.alloc (.cells #[.slice a3 ns.length cap3] 26)) g) := hc3.grown hb4
  have HB4 : Hid (Below w0.heap.size w0 (w3.alloc (.cells #[.slice a3 ns.length cap3] 26))) := HB3.out.trans (hb4.mono HB3.out.size)
  have hs4 := hb4.size
  clear hb4 hc3 HB3 ho3 hfit
  go_wp2_with fail
  generalize w3.alloc (.cells #[.slice a3 ns.length cap3] 26) = w4 at HAT HC4 HB4 hs4 ⊢
  refine (below_any w0.heap.size g 3 _ (by omega) (by omega) HC4.out).mono ?_
  rintro e w5 ⟨y, rfl, hy, hc5, hg5⟩
  have HB5 : Hid (Below w0.heap.size w0 w5) := HB4.out.grown hg5 HB4.out.size (fun k hk => by cases hk; exact hge)
  have hs5 := hg5.size
  obtain ⟨A, K, HMK, hAl⟩ : ∃ (A : List Nd) (K : Int), Hid (Calls Try.prog 101 #[.pointer (some ⟨w3.heap.size, 0, none⟩), .int .i64 6, .int .i64 (y : Int), .int .i64 0] w5 fun e w' => e = .returned (.int .i64 K) ∧ ArenaAt w2.heap.size w' w3.heap.size A ∧ Below w2.heap.size w5 w') ∧ A.length ≤ 1048576 :=
    ⟨makeA ns 6 (y : Int) 0, makeK ns 6 (y : Int) 0, specMakeP_any w2.heap.size w3.heap.size ns 6 (y : Int) 0 w5 (by omega) (HAT.out.cur hg5 hgl2) (by omega), makeA_le (by omega)⟩
  have HC5 : Hid (Cur w0.heap.size w5 g) := hc5
  clear HAT HC4 HB4 hg5 hc5
  go_wp2_with fail
  refine Calls.mono HMK.out ?_
  rintro e w6 ⟨rfl, hat, hb6⟩
  have HAT6 : Hid (ArenaAt w2.heap.size w6 w3.heap.size A) := hat
  have hs6 := hb6.size
  have HC6 : Hid (Cur w0.heap.size w6 g) := HC5.out.beyond hgl2 hb6
  have HB6 : Hid (Below w0.heap.size w0 w6) := HB5.out.trans (hb6.mono (by omega))
  clear hat hb6 HC5 HB5 HMK
  go_wp2_with fail
  refine (once_any w0.heap.size g 5 _ (by omega) (by omega) HC6.out).mono ?_
  rintro e w7 ⟨t, rfl, hc7, hg7⟩
  have HAT7 : Hid (ArenaAt w2.heap.size w7 w3.heap.size A) := HAT6.out.cur hg7 hgl2
  have HB7 : Hid (Below w0.heap.size w0 w7) := HB6.out.grown hg7 HB6.out.size (fun k hk => by cases hk; exact hge)
  have hs7 := hg7.size
  have HC7 : Hid (Cur w0.heap.size w7 g) := hc7
  clear HC6 HB6 HAT6 hg7 hc7
  cases t with
  | false =>
    clear HC7
    obtain ⟨-, -, v9, hbox, ho9, -⟩ := HAT7.out
    obtain ⟨a9, c9, rfl, -, -⟩ := ho9.row
    have q0 : w7.cell? ⟨w3.heap.size, 0, none⟩ = some (.slice a9 A.length c9) := (cell_of_row _ _ 0 _ _ _ hbox).trans rfl
    have hx4 := (HB7.out.block w.heap.size (by omega)).trans hx0
    have r0 : w7.cell? ⟨w.heap.size, 0, none⟩ = some (.slice none 0 0) := by rw [cell_of_row _ _ 0 _ _ _ hx4]; rfl
    have f0 : w7.frozen? ⟨w.heap.size, 0, none⟩ = false := frozen_of_row _ _ 0 _ _ hx4
    have HE : Hid (Below w.heap.size w (w7.setCell ⟨w.heap.size, 0, none⟩ (.slice a9 A.length c9))) := (hb0.trans (HB7.out.mono (by omega))).setCell (Nat.le_refl _) _
    have HBL : Hid ((w7.setCell ⟨w.heap.size, 0, none⟩ (.slice a9 A.length c9)).heap[w.heap.size]? = some (.cells #[.slice a9 A.length c9] 26 (0, 0))) := (heap_setCell_same _ _ 0 _ _ _ hx4).trans rfl
    have HO : Hid (OwnN w.heap.size (w7.setCell ⟨w.heap.size, 0, none⟩ (.slice a9 A.length c9)) (.slice a9 A.length c9) A) := OwnN.base (ownsRow_setCell_below ho9 (show w.heap.size < w2.heap.size by omega) _) (by omega)
    clear hx4 ho9 hb0 hx0 hbox HB7 HAT7
    go_wp2
    refine bodyPost_ret (res_cell3 rfl _ _ w.heap.size 26 #[.slice a9 A.length c9] (0, 0) _ rfl ?_ Try.underlying26 rfl arenaSize) rfl ?_
    · exact HBL.out
    · exact ⟨_, A, _, _, rfl, hAl, HO.out, HE.out⟩
  | true =>
    go_wp2_with fail
    refine (below_any w0.heap.size g 6 _ (by omega) (by omega) HC7.out).mono ?_
    rintro e w8 ⟨z, rfl, hz, hc8, hg8⟩
    have HAT8 : Hid (ArenaAt w2.heap.size w8 w3.heap.size A) := HAT7.out.cur hg8 hgl2
    have HB8 : Hid (Below w0.heap.size w0 w8) := HB7.out.grown hg8 HB7.out.size (fun k hk => by cases hk; exact hge)
    have hs8 := hg8.size
    clear HC7 HB7 HAT7 hg8 hc8
    obtain ⟨-, -, v9, hbox, ho9, -⟩ := HAT8.out
    obtain ⟨a9, c9, rfl, -, -⟩ := ho9.row
    have q0 : w8.cell? ⟨w3.heap.size, 0, none⟩ = some (.slice a9 A.length c9) := (cell_of_row _ _ 0 _ _ _ hbox).trans rfl
    have hx4 := (HB8.out.block w.heap.size (by omega)).trans hx0
    have r0 : w8.cell? ⟨w.heap.size, 0, none⟩ = some (.slice none 0 0) := by rw [cell_of_row _ _ 0 _ _ _ hx4]; rfl
    have f0 : w8.frozen? ⟨w.heap.size, 0, none⟩ = false := frozen_of_row _ _ 0 _ _ hx4
    have HE : Hid (Below w.heap.size w (w8.setCell ⟨w.heap.size, 0, none⟩ (.slice a9 A.length c9))) := (hb0.trans (HB8.out.mono (by omega))).setCell (Nat.le_refl _) _
    have HBL : Hid ((w8.setCell ⟨w.heap.size, 0, none⟩ (.slice a9 A.length c9)).heap[w.heap.size]? = some (.cells #[.slice a9 A.length c9] 26 (0, 0))) := (heap_setCell_same _ _ 0 _ _ _ hx4).trans rfl
    have HO : Hid (OwnN w.heap.size (w8.setCell ⟨w.heap.size, 0, none⟩ (.slice a9 A.length c9)) (.slice a9 A.length c9) A) := OwnN.base (ownsRow_setCell_below ho9 (show w.heap.size < w2.heap.size by omega) _) (by omega)
    clear hx4 ho9 hb0 hx0 hbox HB8 HAT8
    go_wp2
    refine bodyPost_ret (res_cell3 rfl _ _ w.heap.size 26 #[.slice a9 A.length c9] (0, 0) _ rfl ?_ Try.underlying26 rfl arenaSize) rfl ?_
    · exact HBL.out
    · exact ⟨_, A, _, _, rfl, hAl, HO.out, HE.out⟩
end Go.Proofs.Ytodpfdjlhbjlgaa
