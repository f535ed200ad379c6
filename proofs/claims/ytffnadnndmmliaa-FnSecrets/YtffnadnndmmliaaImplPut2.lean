/- The contract of chapter 3's Put, the program's. -/
import Derived.Test.YtffnadnndmmliaaImplPut
import Derived.WalkKit
import Derived.WalkLawsBesides
import Derived.WalkSpells
import Derived.OwnWalk
import Derived.BigRegion
import Derived.OneCell
import Derived.Deep.AppendLies
namespace Go.Proofs.Ytffnadnndmmliaa
open Go.RowKit
set_option linter.unusedVariables false

theorem putK_new {ns : List Nd} {x : Nd} : putK ns x = (ns.length : Int) ↔ (nodeB x ns.length = true ∧ findN ns x = -1 ∧ ns.length < 3000) := by
  unfold putK
  have hr := findN_range ns x
  split
  · rename_i h
    split
    · rename_i h2; exact ⟨fun _ => ⟨h, h2⟩, fun _ => rfl⟩
    · rename_i h2; constructor
      · intro e; omega
      · intro e; exact absurd e.2 h2
  · rename_i h; constructor
    · intro e; omega
    · intro e; exact absurd e.1 h
theorem putA_new {ns : List Nd} {x : Nd} (h : putK ns x = (ns.length : Int)) : putA ns x = ns ++ [x] := by
  unfold putA; rw [if_pos (putK_new.1 h)]
theorem putA_old {ns : List Nd} {x : Nd} (h : putK ns x ≠ (ns.length : Int)) : putA ns x = ns := by
  unfold putA; rw [if_neg (fun e => h (putK_new.2 e))]

set_option maxHeartbeats 1600000 in
theorem implPut_new (a : Option Addr) (cap : Nat) (ns : List Nd) (x : Nd) (kk : Int) (w : World) (hl : ns.length ≤ 1048576) (ha : AddrN a cap) (hr : RowN w.heap.size w a ns) (hkk : putK ns x = kk) (hnew : kk = (ns.length : Int)) :
    Calls Try.prog 26 #[.agg #[.slice a ns.length cap], .agg #[.int .i64 x.k, .int .i64 x.n, .int .i64 x.a, .int .i64 x.b]] w fun e w' => ∃ v, e = .returned (.tuple #[.agg #[v], .int .i64 (ns.length : Int)]) ∧ OwnN w.heap.size w' v (ns ++ [x]) ∧ Below w.heap.size w w' := by
  subst hnew
  obtain ⟨i0, hi, hz0, hz1, hz2⟩ := info_parts infoNode
  have hb0 : Below w.heap.size w (((w.alloc (.cells #[.slice a ns.length cap] 28)).alloc (.cells #[.int .i64 x.k, .int .i64 x.n, .int .i64 x.a, .int .i64 x.b] 45)).alloc (.cells #[.slice none 0 0] 28)) := (((Below.refl _ _).alloc (Nat.le_refl _) _).alloc (by simp) _).alloc (by simp; omega) _
  have hs0 : (((w.alloc (.cells #[.slice a ns.length cap] 28)).alloc (.cells #[.int .i64 x.k, .int .i64 x.n, .int .i64 x.a, .int .i64 x.b] 45)).alloc (.cells #[.slice none 0 0] 28)).heap.size = w.heap.size + 3 := by simp
  have hA0 : (((w.alloc (.cells #[.slice a ns.length cap] 28)).alloc (.cells #[.int .i64 x.k, .int .i64 x.n, .int .i64 x.a, .int .i64 x.b] 45)).alloc (.cells #[.slice none 0 0] 28)).heap[w.heap.size]? = some (.cells #[.slice a ns.length cap] 28 (0, 0)) := by
    rw [heap_alloc_old _ _ (by simp; omega), heap_alloc_old _ _ (by simp)]
    exact heap_alloc_new w _
  have hn0 : (((w.alloc (.cells #[.slice a ns.length cap] 28)).alloc (.cells #[.int .i64 x.k, .int .i64 x.n, .int .i64 x.a, .int .i64 x.b] 45)).alloc (.cells #[.slice none 0 0] 28)).heap[w.heap.size + 1]? = some (.cells #[.int .i64 x.k, .int .i64 x.n, .int .i64 x.a, .int .i64 x.b] 45 (0, 0)) := by
    rw [heap_alloc_old _ _ (by simp)]
    have := heap_alloc_new (w.alloc (.cells #[.slice a ns.length cap] 28)) (.cells #[.int .i64 x.k, .int .i64 x.n, .int .i64 x.a, .int .i64 x.b] 45)
    simpa using this
  have hr0 : (((w.alloc (.cells #[.slice a ns.length cap] 28)).alloc (.cells #[.int .i64 x.k, .int .i64 x.n, .int .i64 x.a, .int .i64 x.b] 45)).alloc (.cells #[.slice none 0 0] 28)).heap[w.heap.size + 1 + 1]? = some (.cells #[.slice none 0 0] 28 (0, 0)) := by
    have := heap_alloc_new ((w.alloc (.cells #[.slice a ns.length cap] 28)).alloc (.cells #[.int .i64 x.k, .int .i64 x.n, .int .i64 x.a, .int .i64 x.b] 45)) (.cells #[.slice none 0 0] 28)
    simpa using this
  have HR0 : Hid _ := hr.grown hb0
  go_enter Try.func26, Try.ntmps26
  go_wp2_with fail
  generalize ((w.alloc (.cells #[.slice a ns.length cap] 28)).alloc (.cells #[.int .i64 x.k, .int .i64 x.n, .int .i64 x.a, .int .i64 x.b] 45)).alloc (.cells #[.slice none 0 0] 28) = w0 at hb0 hs0 hA0 hn0 hr0 HR0 ⊢
  obtain ⟨w2, w3, hmk, hap, ho3, hB2, hB3⟩ := made_copy a cap ns w0.drew hl ha HR0.out
  have cA0 : w0.cell? ⟨w.heap.size, 0, none⟩ = some (.slice a ns.length cap) := by rw [cell_of_row w0 _ 0 _ _ _ hA0]; rfl
  have cA2 : w2.cell? ⟨w.heap.size, 0, none⟩ = some (.slice a ns.length cap) := (hB2.cell (p := ⟨w.heap.size, 0, none⟩) (show w.heap.size < w0.heap.size by omega)).trans cA0
  have HN3 : Hid (w3.heap[w.heap.size + 1]? = some (.cells #[.int .i64 x.k, .int .i64 x.n, .int .i64 x.a, .int .i64 x.b] 45 (0, 0))) := (hB3.block _ (show w.heap.size + 1 < w0.heap.size by omega)).trans hn0
  have HR3 : Hid (w3.heap[w.heap.size + 1 + 1]? = some (.cells #[.slice none 0 0] 28 (0, 0))) := (hB3.block _ (show w.heap.size + 1 + 1 < w0.heap.size by omega)).trans hr0
  have HO3 : Hid (OwnN w0.heap.size w3 (.slice (some ⟨w0.heap.size, 0, none⟩) ns.length (ns.length + 1)) ns) := ho3
  have HB3 : Hid (Below w.heap.size w w3) := hb0.drew.trans (hB3.mono hb0.size)
  have hsz3 : w0.heap.size < w3.heap.size := (ho3.lt _ rfl).2
  have hgs : w0.drew.heap.size = w0.heap.size := rfl
  rw [hgs] at hmk hap
  have hs1 : w.heap.size + 2 < w0.heap.size := by omega
  have HA3 : Hid (w3.cell? ⟨w.heap.size, 0, none⟩ = some (.slice a ns.length cap)) := (hB3.cell (p := ⟨w.heap.size, 0, none⟩) (show w.heap.size < w0.heap.size by omega)).trans cA0
  have HRW : Hid (RowN w3.heap.size w3 a ns) := RowN.grown (w := w0.drew) HR0.out hB3
  clear ho3 hB2 hB3 hb0 hA0 hn0 hr0 ha hr HR0 hgs hs0
  have hwr : IntKind.i64.wrap ((ns.length : Int) + 1) = (ns.length : Int) + 1 := IntWalk.i64_in _ ⟨by omega, by omega⟩
  have HAP : Hid _ := hap
  clear hap
  go_wp2
  go_region_law (refine step_append_run rfl _ _ _ _ rfl (HAP.out _) ?_)
  all_goals
    have hN3 := HN3.out
    have a0 := HA3.out
    have c0 : w3.cell? ⟨w.heap.size + 1, 0, none⟩ = some (.int .i64 x.k) := (cell_of_row w3 _ 0 _ _ _ hN3).trans rfl
    have c1 : w3.cell? ⟨w.heap.size + 1, 1, none⟩ = some (.int .i64 x.n) := (cell_of_row w3 _ 1 _ _ _ hN3).trans rfl
    have c2 : w3.cell? ⟨w.heap.size + 1, 2, none⟩ = some (.int .i64 x.a) := (cell_of_row w3 _ 2 _ _ _ hN3).trans rfl
    have c3 : w3.cell? ⟨w.heap.size + 1, 3, none⟩ = some (.int .i64 x.b) := (cell_of_row w3 _ 3 _ _ _ hN3).trans rfl
    have HPI : Hid (Calls Try.prog 91 #[.agg #[.slice a ns.length cap], .agg #[.int .i64 x.k, .int .i64 x.n, .int .i64 x.a, .int .i64 x.b]] w3 fun e w' => e = .returned (.int .i64 (ns.length : Int)) ∧ Below w3.heap.size w3 w') := by
      have := placeIn_any a cap ns x w3 hl HRW.out
      rw [hkk] at this
      exact this
    clear hN3 hmk hwr cA0 cA2 HRW HA3
    go_wp2_with fail
    refine HPI.out.mono ?_
    rintro e w5 ⟨rfl, hB5⟩
    clear HPI c0 c1 c2 c3 a0
    have hn5 : w5.heap[w.heap.size + 1]? = some (.cells #[.int .i64 x.k, .int .i64 x.n, .int .i64 x.a, .int .i64 x.b] 45 (0, 0)) := (hB5.block _ (by omega)).trans HN3.out
    have n0 : w5.cell? ⟨w.heap.size + 1, 0, none⟩ = some (.int .i64 x.k) := (cell_of_row w5 _ 0 _ _ _ hn5).trans rfl
    have n1 : w5.cell? ⟨w.heap.size + 1, 1, none⟩ = some (.int .i64 x.n) := (cell_of_row w5 _ 1 _ _ _ hn5).trans rfl
    have n2 : w5.cell? ⟨w.heap.size + 1, 2, none⟩ = some (.int .i64 x.a) := (cell_of_row w5 _ 2 _ _ _ hn5).trans rfl
    have n3 : w5.cell? ⟨w.heap.size + 1, 3, none⟩ = some (.int .i64 x.b) := (cell_of_row w5 _ 3 _ _ _ hn5).trans rfl
    have ho5 : OwnN w0.heap.size w5 (.slice (some ⟨w0.heap.size, 0, none⟩) ns.length (ns.length + 1)) ns := own_later HO3.out hB5
    have hs5 := hB5.size
    have HB5 : Hid (Below w.heap.size w w5) := HB3.out.trans (hB5.mono HB3.out.size)
    have HR5 : Hid (w5.heap[w.heap.size + 1 + 1]? = some (.cells #[.slice none 0 0] 28 (0, 0))) := (hB5.block _ (by omega)).trans HR3.out
    clear hB5 hn5 HN3 HO3 HB3 HR3
    go_wp2_with (at_builtin; refine wpList_append_own _ rfl _ _ 26 rfl w0.heap.size 45 i0 _ 4 32 Try.underlying26 hi hz0 hz1 hz2 rfl (by decide) _ ns.length _ rfl (ho5.alloc _) ⟨w5.heap.size, 0, none⟩ 1 1 x.cells rfl rfl ?c1 ?c2 ?c3 ?c4 ?c5 ?_)
    case c1 => exact World.news_of_block (cs := #[.int .i64 x.k, .int .i64 x.n, .int .i64 x.a, .int .i64 x.b]) (t := 45) (fr := (0, 0)) (heap_alloc_new w5 _)
    case c2 => intro u hu; simp only [Nd.cells, List.mem_cons, List.not_mem_nil, or_false] at hu; rcases hu with rfl | rfl | rfl | rfl <;> rfl
    case c3 => unfold maxLen; omega
    case c4 => omega
    case c5 => simp; omega
    intro v' w6 hown' hgrow _
    have ho6 : OwnN w0.heap.size w6 v' (ns ++ [x]) := by
      unfold OwnN
      have e : cellsN (ns ++ [x]) = cellsN ns ++ x.cells := by rw [cellsN_append]; simp [cellsN]
      rw [e]; simpa using hown'
    obtain ⟨a6, cap6, rfl, _, _⟩ := ho6.row
    have hB6 : Below w.heap.size w w6 := (HB5.out.alloc (by omega) _).grown hgrow (by simp; omega) (fun k hk => by cases hk; show w.heap.size ≤ w0.heap.size; omega)
    have hrb : w6.heap[w.heap.size + 1 + 1]? = some (.cells #[.slice none 0 0] 28 (0, 0)) := by
      rw [hgrow.block (w.heap.size + 1 + 1) (by simp; omega) (by simp [Value.ownBlock]; omega), heap_alloc_old _ _ (by omega)]
      exact HR5.out
    have r0 : w6.cell? ⟨w.heap.size + 1 + 1, 0, none⟩ = some (.slice none 0 0) := by rw [cell_of_row w6 _ 0 _ _ _ hrb]; rfl
    have f0 : w6.frozen? ⟨w.heap.size + 1 + 1, 0, none⟩ = false := frozen_of_row w6 _ 0 _ _ hrb
    have HBL : Hid ((w6.setCell ⟨w.heap.size + 1 + 1, 0, none⟩ (.slice a6 (ns ++ [x]).length cap6)).heap[w.heap.size + 1 + 1]? = some (.cells #[.slice a6 (ns ++ [x]).length cap6] 28 (0, 0))) := by
      show _ = _
      rw [heap_setCell_same w6 _ 0 _ _ _ hrb]; rfl
    have HO : Hid (OwnN w.heap.size (w6.setCell ⟨w.heap.size + 1 + 1, 0, none⟩ (.slice a6 (ns ++ [x]).length cap6)) (.slice a6 (ns ++ [x]).length cap6) (ns ++ [x])) := OwnN.base (ownsRow_setCell_below ho6 (show w.heap.size + 1 + 1 < w0.heap.size by omega) _) (by omega)
    have HB : Hid (Below w.heap.size w (w6.setCell ⟨w.heap.size + 1 + 1, 0, none⟩ (.slice a6 (ns ++ [x]).length cap6))) := hB6.setCell (show w.heap.size ≤ w.heap.size + 1 + 1 by omega) _
    clear hown' hgrow ho5 ho6 hB6 hrb HB5 HR5 n0 n1 n2 n3
    generalize (ns ++ [x]).length = ln at HBL HO HB ⊢
    go_wp2
    refine bodyPost_ret (res_cell2 rfl _ _ (w.heap.size + 1 + 1) 28 #[.slice a6 ln cap6] (0, 0) _ rfl ?_ Try.underlying28 rfl arenaSize) rfl ?_
    · exact HBL.out
    · exact ⟨_, rfl, HO.out, HB.out⟩
set_option maxHeartbeats 1600000 in
theorem implPut_old (a : Option Addr) (cap : Nat) (ns : List Nd) (x : Nd) (kk : Int) (w : World) (hl : ns.length ≤ 1048576) (ha : AddrN a cap) (hr : RowN w.heap.size w a ns) (hkk : putK ns x = kk) (hnew : kk ≠ (ns.length : Int)) :
    Calls Try.prog 26 #[.agg #[.slice a ns.length cap], .agg #[.int .i64 x.k, .int .i64 x.n, .int .i64 x.a, .int .i64 x.b]] w fun e w' => ∃ v, e = .returned (.tuple #[.agg #[v], .int .i64 kk]) ∧ OwnN w.heap.size w' v (ns) ∧ Below w.heap.size w w' := by
  obtain ⟨i0, hi, hz0, hz1, hz2⟩ := info_parts infoNode
  have hb0 : Below w.heap.size w (((w.alloc (.cells #[.slice a ns.length cap] 28)).alloc (.cells #[.int .i64 x.k, .int .i64 x.n, .int .i64 x.a, .int .i64 x.b] 45)).alloc (.cells #[.slice none 0 0] 28)) := (((Below.refl _ _).alloc (Nat.le_refl _) _).alloc (by simp) _).alloc (by simp; omega) _
  have hs0 : (((w.alloc (.cells #[.slice a ns.length cap] 28)).alloc (.cells #[.int .i64 x.k, .int .i64 x.n, .int .i64 x.a, .int .i64 x.b] 45)).alloc (.cells #[.slice none 0 0] 28)).heap.size = w.heap.size + 3 := by simp
  have hA0 : (((w.alloc (.cells #[.slice a ns.length cap] 28)).alloc (.cells #[.int .i64 x.k, .int .i64 x.n, .int .i64 x.a, .int .i64 x.b] 45)).alloc (.cells #[.slice none 0 0] 28)).heap[w.heap.size]? = some (.cells #[.slice a ns.length cap] 28 (0, 0)) := by
    rw [heap_alloc_old _ _ (by simp; omega), heap_alloc_old _ _ (by simp)]
    exact heap_alloc_new w _
  have hn0 : (((w.alloc (.cells #[.slice a ns.length cap] 28)).alloc (.cells #[.int .i64 x.k, .int .i64 x.n, .int .i64 x.a, .int .i64 x.b] 45)).alloc (.cells #[.slice none 0 0] 28)).heap[w.heap.size + 1]? = some (.cells #[.int .i64 x.k, .int .i64 x.n, .int .i64 x.a, .int .i64 x.b] 45 (0, 0)) := by
    rw [heap_alloc_old _ _ (by simp)]
    have := heap_alloc_new (w.alloc (.cells #[.slice a ns.length cap] 28)) (.cells #[.int .i64 x.k, .int .i64 x.n, .int .i64 x.a, .int .i64 x.b] 45)
    simpa using this
  have hr0 : (((w.alloc (.cells #[.slice a ns.length cap] 28)).alloc (.cells #[.int .i64 x.k, .int .i64 x.n, .int .i64 x.a, .int .i64 x.b] 45)).alloc (.cells #[.slice none 0 0] 28)).heap[w.heap.size + 1 + 1]? = some (.cells #[.slice none 0 0] 28 (0, 0)) := by
    have := heap_alloc_new ((w.alloc (.cells #[.slice a ns.length cap] 28)).alloc (.cells #[.int .i64 x.k, .int .i64 x.n, .int .i64 x.a, .int .i64 x.b] 45)) (.cells #[.slice none 0 0] 28)
    simpa using this
  have HR0 : Hid _ := hr.grown hb0
  go_enter Try.func26, Try.ntmps26
  go_wp2_with fail
  generalize ((w.alloc (.cells #[.slice a ns.length cap] 28)).alloc (.cells #[.int .i64 x.k, .int .i64 x.n, .int .i64 x.a, .int .i64 x.b] 45)).alloc (.cells #[.slice none 0 0] 28) = w0 at hb0 hs0 hA0 hn0 hr0 HR0 ⊢
  obtain ⟨w2, w3, hmk, hap, ho3, hB2, hB3⟩ := made_copy a cap ns w0.drew hl ha HR0.out
  have cA0 : w0.cell? ⟨w.heap.size, 0, none⟩ = some (.slice a ns.length cap) := by rw [cell_of_row w0 _ 0 _ _ _ hA0]; rfl
  have cA2 : w2.cell? ⟨w.heap.size, 0, none⟩ = some (.slice a ns.length cap) := (hB2.cell (p := ⟨w.heap.size, 0, none⟩) (show w.heap.size < w0.heap.size by omega)).trans cA0
  have HN3 : Hid (w3.heap[w.heap.size + 1]? = some (.cells #[.int .i64 x.k, .int .i64 x.n, .int .i64 x.a, .int .i64 x.b] 45 (0, 0))) := (hB3.block _ (show w.heap.size + 1 < w0.heap.size by omega)).trans hn0
  have HR3 : Hid (w3.heap[w.heap.size + 1 + 1]? = some (.cells #[.slice none 0 0] 28 (0, 0))) := (hB3.block _ (show w.heap.size + 1 + 1 < w0.heap.size by omega)).trans hr0
  have HO3 : Hid (OwnN w0.heap.size w3 (.slice (some ⟨w0.heap.size, 0, none⟩) ns.length (ns.length + 1)) ns) := ho3
  have HB3 : Hid (Below w.heap.size w w3) := hb0.drew.trans (hB3.mono hb0.size)
  have hsz3 : w0.heap.size < w3.heap.size := (ho3.lt _ rfl).2
  have hgs : w0.drew.heap.size = w0.heap.size := rfl
  rw [hgs] at hmk hap
  have hs1 : w.heap.size + 2 < w0.heap.size := by omega
  have HA3 : Hid (w3.cell? ⟨w.heap.size, 0, none⟩ = some (.slice a ns.length cap)) := (hB3.cell (p := ⟨w.heap.size, 0, none⟩) (show w.heap.size < w0.heap.size by omega)).trans cA0
  have HRW : Hid (RowN w3.heap.size w3 a ns) := RowN.grown (w := w0.drew) HR0.out hB3
  clear ho3 hB2 hB3 hb0 hA0 hn0 hr0 ha hr HR0 hgs hs0
  have hwr : IntKind.i64.wrap ((ns.length : Int) + 1) = (ns.length : Int) + 1 := IntWalk.i64_in _ ⟨by omega, by omega⟩
  have HAP : Hid _ := hap
  clear hap
  go_wp2
  go_region_law (refine step_append_run rfl _ _ _ _ rfl (HAP.out _) ?_)
  all_goals
    have hN3 := HN3.out
    have a0 := HA3.out
    have c0 : w3.cell? ⟨w.heap.size + 1, 0, none⟩ = some (.int .i64 x.k) := (cell_of_row w3 _ 0 _ _ _ hN3).trans rfl
    have c1 : w3.cell? ⟨w.heap.size + 1, 1, none⟩ = some (.int .i64 x.n) := (cell_of_row w3 _ 1 _ _ _ hN3).trans rfl
    have c2 : w3.cell? ⟨w.heap.size + 1, 2, none⟩ = some (.int .i64 x.a) := (cell_of_row w3 _ 2 _ _ _ hN3).trans rfl
    have c3 : w3.cell? ⟨w.heap.size + 1, 3, none⟩ = some (.int .i64 x.b) := (cell_of_row w3 _ 3 _ _ _ hN3).trans rfl
    have HPI : Hid (Calls Try.prog 91 #[.agg #[.slice a ns.length cap], .agg #[.int .i64 x.k, .int .i64 x.n, .int .i64 x.a, .int .i64 x.b]] w3 fun e w' => e = .returned (.int .i64 kk) ∧ Below w3.heap.size w3 w') := by
      have := placeIn_any a cap ns x w3 hl HRW.out
      rw [hkk] at this
      exact this
    clear hN3 hmk hwr cA0 cA2 HRW HA3
    have hne : (kk == (ns.length : Int)) = false := by simp [hnew]
    go_wp2_with fail
    refine HPI.out.mono ?_
    rintro e w5 ⟨rfl, hB5⟩
    clear HPI c0 c1 c2 c3 a0
    have hrb : w5.heap[w.heap.size + 1 + 1]? = some (.cells #[.slice none 0 0] 28 (0, 0)) := (hB5.block _ (by omega)).trans HR3.out
    have r0 : w5.cell? ⟨w.heap.size + 1 + 1, 0, none⟩ = some (.slice none 0 0) := by rw [cell_of_row w5 _ 0 _ _ _ hrb]; rfl
    have f0 : w5.frozen? ⟨w.heap.size + 1 + 1, 0, none⟩ = false := frozen_of_row w5 _ 0 _ _ hrb
    have ho5 : OwnN w0.heap.size w5 (.slice (some ⟨w0.heap.size, 0, none⟩) ns.length (ns.length + 1)) ns := own_later HO3.out hB5
    have hB6 : Below w.heap.size w w5 := HB3.out.trans (hB5.mono HB3.out.size)
    have HBL : Hid ((w5.setCell ⟨w.heap.size + 1 + 1, 0, none⟩ (.slice (some ⟨w0.heap.size, 0, none⟩) ns.length (ns.length + 1))).heap[w.heap.size + 1 + 1]? = some (.cells #[.slice (some ⟨w0.heap.size, 0, none⟩) ns.length (ns.length + 1)] 28 (0, 0))) := by
      show _ = _
      rw [heap_setCell_same w5 _ 0 _ _ _ hrb]; rfl
    have HO : Hid (OwnN w.heap.size (w5.setCell ⟨w.heap.size + 1 + 1, 0, none⟩ (.slice (some ⟨w0.heap.size, 0, none⟩) ns.length (ns.length + 1))) (.slice (some ⟨w0.heap.size, 0, none⟩) ns.length (ns.length + 1)) ns) := OwnN.base (ownsRow_setCell_below ho5 (show w.heap.size + 1 + 1 < w0.heap.size by omega) _) (by omega)
    have HB : Hid (Below w.heap.size w (w5.setCell ⟨w.heap.size + 1 + 1, 0, none⟩ (.slice (some ⟨w0.heap.size, 0, none⟩) ns.length (ns.length + 1)))) := hB6.setCell (show w.heap.size ≤ w.heap.size + 1 + 1 by omega) _
    clear ho5 hB6 hrb hB5 HN3 HO3 HB3 HR3
    go_wp2
    refine bodyPost_ret (res_cell2 rfl _ _ (w.heap.size + 1 + 1) 28 #[.slice (some ⟨w0.heap.size, 0, none⟩) ns.length (ns.length + 1)] (0, 0) _ rfl ?_ Try.underlying28 rfl arenaSize) rfl ?_
    · exact HBL.out
    · exact ⟨_, rfl, HO.out, HB.out⟩
theorem implPut_any (a : Option Addr) (cap : Nat) (ns : List Nd) (x : Nd) (w : World) (hl : ns.length ≤ 1048576) (ha : AddrN a cap) (hr : RowN w.heap.size w a ns) :
    Calls Try.prog 26 #[.agg #[.slice a ns.length cap], .agg #[.int .i64 x.k, .int .i64 x.n, .int .i64 x.a, .int .i64 x.b]] w fun e w' => ∃ v, e = .returned (.tuple #[.agg #[v], .int .i64 (putK ns x)]) ∧ OwnN w.heap.size w' v (putA ns x) ∧ Below w.heap.size w w' := by
  by_cases h : putK ns x = (ns.length : Int)
  · rw [putA_new h, h]
    exact implPut_new a cap ns x _ w hl ha hr h rfl
  · rw [putA_old h]
    exact implPut_old a cap ns x _ w hl ha hr rfl h
end Go.Proofs.Ytffnadnndmmliaa
