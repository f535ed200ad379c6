/- The contracts of chapter 4's asItIs, node, isMadeOfAny, Atom and Make, the program's, and of the library's Clone over nodes. -/
import Derived.Test.YtodpfdjlhbjlgaaMakeIs
import Derived.Test.YtodpfdjlhbjlgaaMakeA
import Derived.Test.YtodpfdjlhbjlgaaImplPut2
import Derived.Test.YtodpfdjlhbjlgaaLawKeep
import Derived.WalkKit
import Derived.WalkLawsBesides
import Derived.WalkSpells
import Derived.Laws.OwnMore
import Derived.Laws.AppendOwnNone
import Derived.Laws.Rows
import Derived.Laws.ResultCell
namespace Go.Proofs.Ytodpfdjlhbjlgaa
open Go.RowKit
set_option linter.unusedVariables false

set_option maxHeartbeats 400000 in
set_option maxRecDepth 20000 in
/-- slices.Clone over nodes. -/
theorem clone_any (a : Option Addr) (cap : Nat) (ns : List Nd) (w : World) (hl : ns.length ≤ 1048576) (ha : AddrN a cap) (hr : RowN w.heap.size w a ns) :
    Calls Try.prog 109 #[.slice a ns.length cap] w fun e w' => ∃ v, e = .returned v ∧ OwnN w.heap.size w' v ns ∧ Below w.heap.size w w' := by
  obtain ⟨i0, hi, hz0, hz1, hz2⟩ := info_parts infoNode
  have HR : Hid (RowN w.heap.size w a ns) := hr
  clear hr
  have HB0 : Hid (Below w.heap.size w (w.alloc (.cells #[] 37))) := (Below.refl _ _).alloc (Nat.le_refl _) _
  have HO : Hid (OwnN w.heap.size (w.alloc (.cells #[] 37)) (.slice (some ⟨w.heap.size, 0, none⟩) 0 0) []) := own_new (base := w.heap.size) w (Nat.le_refl _)
  rcases ha with ⟨rfl, rfl⟩ | ⟨b, off, rfl⟩
  · rcases HR.out with h0 | ⟨_, _, e, _⟩
    · subst h0
      have hq := Lib.run_eql_slice_nil (P := Try.prog) w 24 _ none 0 0 0 0 Try.underlying24
      go_enter Try.func109, Try.ntmps109
      go_wp2
      go_ret
      exact ⟨_, rfl, ⟨rfl, .inl ⟨rfl, rfl⟩⟩, Below.refl _ _⟩
    · cases e
  · have hq := Lib.run_eql_slice_nil (P := Try.prog) w 24 _ (some ⟨b, off, none⟩) ns.length cap 0 0 Try.underlying24
    go_enter Try.func109, Try.ntmps109
    go_wp2_with (at_builtin; refine wpList_append_own _ rfl _ _ 24 rfl w.heap.size 37 i0 _ 4 32 Try.underlying24 hi hz0 hz1 hz2 rfl (by decide) _ 0 _ rfl HO.out ⟨b, off, none⟩ ns.length cap (cellsN ns) rfl (cellsN_len ns) ?c1 (cells_one ns) ?c3 ?c4 ?c5 ?_)
    case c1 => exact (HR.out.later HB0.out).cells
    case c3 => unfold maxLen; omega
    case c4 => omega
    case c5 => simp
    · intro v' w2 hown' hgrow _
      have HO2 : Hid (OwnN w.heap.size w2 v' ns) := by
        show OwnN w.heap.size w2 v' ns
        have e : cellsN [] ++ cellsN ns = cellsN ns := rfl
        rw [e] at hown'; unfold OwnN; simpa using hown'
      have HB2 : Hid (Below w.heap.size w w2) := HB0.out.grown hgrow (by simp) (fun k hk => by simp [Value.ownBlock] at hk; omega)
      clear hown' hgrow
      obtain ⟨a2, cap2, rfl, _, _⟩ := HO2.out.row
      go_wp2
      go_ret
      exact ⟨_, rfl, HO2.out, HB2.out⟩

theorem asIs_any (a : Option Addr) (cap : Nat) (ns : List Nd) (w : World) (hl : ns.length ≤ 1048576) (ha : AddrN a cap) (hr : RowN w.heap.size w a ns) :
    Calls Try.prog 95 #[.agg #[.slice a ns.length cap]] w fun e w' => ∃ v, e = .returned (.tuple #[.agg #[v], .int .i64 (-1)]) ∧ OwnN w.heap.size w' v ns ∧ Below w.heap.size w w' := by
  have hb0 : Below w.heap.size w ((w.alloc (.cells #[.slice a ns.length cap] 26)).alloc (.cells #[.slice none 0 0] 26)) := ((Below.refl _ _).alloc (Nat.le_refl _) _).alloc (by simp) _
  have hs0 : ((w.alloc (.cells #[.slice a ns.length cap] 26)).alloc (.cells #[.slice none 0 0] 26)).heap.size = w.heap.size + 2 := by simp
  have hA0 : ((w.alloc (.cells #[.slice a ns.length cap] 26)).alloc (.cells #[.slice none 0 0] 26)).heap[w.heap.size]? = some (.cells #[.slice a ns.length cap] 26 (0, 0)) := (heap_alloc_old _ _ (by simp)).trans (heap_alloc_new w _)
  have hr0 : ((w.alloc (.cells #[.slice a ns.length cap] 26)).alloc (.cells #[.slice none 0 0] 26)).heap[w.heap.size + 1]? = some (.cells #[.slice none 0 0] 26 (0, 0)) := by
    have := heap_alloc_new (w.alloc (.cells #[.slice a ns.length cap] 26)) (.cells #[.slice none 0 0] 26)
    simpa using this
  have c0 : ((w.alloc (.cells #[.slice a ns.length cap] 26)).alloc (.cells #[.slice none 0 0] 26)).cell? ⟨w.heap.size, 0, none⟩ = some (.slice a ns.length cap) := (cell_of_row _ _ 0 _ _ _ hA0).trans rfl
  have HR : Hid (RowN w.heap.size w a ns) := hr
  have HA : Hid (AddrN a cap) := ha
  clear hr ha
  go_enter Try.func95, Try.ntmps95
  go_wp2_with fail
  generalize (w.alloc (.cells #[.slice a ns.length cap] 26)).alloc (.cells #[.slice none 0 0] 26) = w0 at hb0 hs0 hA0 hr0 c0 ⊢
  refine (clone_any a cap ns w0 hl HA.out (HR.out.grown hb0)).mono ?_
  rintro e w1 ⟨v, rfl, ho1, hb1⟩
  obtain ⟨a1, cap1, rfl, _, _⟩ := ho1.row
  have hR1 := (hb1.block (w.heap.size + 1) (by omega)).trans hr0
  have r0 : w1.cell? ⟨w.heap.size + 1, 0, none⟩ = some (.slice none 0 0) := (cell_of_row _ _ 0 _ _ _ hR1).trans rfl
  have f0 : w1.frozen? ⟨w.heap.size + 1, 0, none⟩ = false := frozen_of_row _ _ 0 _ _ hR1
  have HBL : Hid ((w1.setCell ⟨w.heap.size + 1, 0, none⟩ (.slice a1 (ns).length cap1)).heap[w.heap.size + 1]? = some (.cells #[.slice a1 (ns).length cap1] 26 (0, 0))) := (heap_setCell_same _ _ 0 _ _ _ hR1).trans rfl
  have HO1 : Hid (OwnN w.heap.size (w1.setCell ⟨w.heap.size + 1, 0, none⟩ (.slice a1 (ns).length cap1)) (.slice a1 (ns).length cap1) (ns)) := OwnN.base (ownsRow_setCell_below ho1 (show w.heap.size + 1 < w0.heap.size by omega) _) (by omega)
  have HB1 : Hid (Below w.heap.size w (w1.setCell ⟨w.heap.size + 1, 0, none⟩ (.slice a1 (ns).length cap1))) := (hb0.trans (hb1.mono (by omega))).setCell (show w.heap.size ≤ w.heap.size + 1 by omega) _
  clear ho1 hb1 hR1 hA0 hr0 hb0
  go_wp2
  refine bodyPost_ret (res_cell2 rfl _ _ (w.heap.size + 1) 26 #[.slice a1 (ns).length cap1] (0, 0) _ rfl ?_ Try.underlying26 rfl arenaSize) rfl ?_
  · exact HBL.out
  · exact ⟨_, rfl, HO1.out, HB1.out⟩

theorem hasOne_any (kind : Int) (w : World) : Calls Try.prog 119 #[.int .i64 kind] w fun e w' => e = .returned (.bool (oneK kind)) ∧ w = w' := by
  by_cases h3 : kind = 3
  · have e : oneK kind = true := by unfold oneK; simp [h3]
    have h3' : (kind == 3) = true := by simp [h3]
    rw [e]
    clear e h3
    go_enter Try.func119, Try.ntmps119
    go_wp2
    go_ret
    exact ⟨rfl, rfl⟩
  · have h3' : (kind == 3) = false := by simp [h3]
    have e : oneK kind = (kind == 6) := by unfold oneK; rw [decide_eq_false h3]; exact Bool.eq_iff_iff.2 (by simp)
    rw [e]
    clear e h3
    go_enter Try.func119, Try.ntmps119
    go_wp2
    go_ret
    exact ⟨rfl, rfl⟩
/-- A kind that is made of any two. -/
def anyK (kind : Int) : Bool := decide (kind ≠ 1) && decide (kind ≠ 7)
theorem madeAny_any (kind : Int) (w : World) : Calls Try.prog 94 #[.int .i64 kind] w fun e w' => e = .returned (.bool (anyK kind)) ∧ w = w' := by
  by_cases h1 : kind = 1
  · subst h1
    go_enter Try.func94, Try.ntmps94
    go_wp2
    go_ret
    exact ⟨rfl, rfl⟩
  · by_cases h7 : kind = 7
    · subst h7
      go_enter Try.func94, Try.ntmps94
      go_wp2
      go_ret
      exact ⟨rfl, rfl⟩
    · have h1' : (kind != 1) = true := by simp [h1]
      have h7' : (kind != 7) = true := by simp [h7]
      have e : anyK kind = true := by unfold anyK; rw [decide_eq_true h1, decide_eq_true h7]; rfl
      rw [e]
      clear e
      go_enter Try.func94, Try.ntmps94
      go_wp2
      go_ret
      exact ⟨by simp, rfl⟩
theorem nodeSize' : (Try.prog.info? 37).map (·.size) = some 4 := by kernel_rfl
set_option maxHeartbeats 400000 in
theorem nodeOf_any (kind x y : Int) (w : World) : Calls Try.prog 96 #[.int .i64 kind, .int .i64 x, .int .i64 y] w fun e w' => e = .returned (.agg #[.int .i64 (mkNd kind x y).k, .int .i64 (mkNd kind x y).n, .int .i64 (mkNd kind x y).a, .int .i64 (mkNd kind x y).b]) ∧ Below w.heap.size w w' := by
  have hb0 : Below w.heap.size w (w.alloc (.cells #[.int .i64 0, .int .i64 0, .int .i64 0, .int .i64 0] 37)) := (Below.refl _ _).alloc (Nat.le_refl _) _
  have hN1 := heap_alloc_new w (.cells #[.int .i64 0, .int .i64 0, .int .i64 0, .int .i64 0] 37)
  cases ho : oneK kind with
  | true =>
    have em : mkNd kind x y = ⟨kind, 0, x, 0⟩ := by unfold mkNd; rw [if_pos ho]
    rw [em]
    have HO : Hid (oneK kind = true) := ho
    clear ho em
    go_enter Try.func96, Try.ntmps96
    go_wp2_with fail
    generalize w.alloc (.cells #[.int .i64 0, .int .i64 0, .int .i64 0, .int .i64 0] 37) = w1 at hb0 hN1 ⊢
    refine (hasOne_any kind _).mono ?_
    rintro e w2 ⟨rfl, rfl⟩
    rw [HO.out]
    have n0 : w1.cell? ⟨w.heap.size, 0, none⟩ = some (.int .i64 0) := (cell_of_row w1 _ 0 _ _ _ hN1).trans rfl
    have n1 : w1.cell? ⟨w.heap.size, 1, none⟩ = some (.int .i64 0) := (cell_of_row w1 _ 1 _ _ _ hN1).trans rfl
    have n2 : w1.cell? ⟨w.heap.size, 2, none⟩ = some (.int .i64 0) := (cell_of_row w1 _ 2 _ _ _ hN1).trans rfl
    have n3 : w1.cell? ⟨w.heap.size, 3, none⟩ = some (.int .i64 0) := (cell_of_row w1 _ 3 _ _ _ hN1).trans rfl
    have m0 : w1.frozen? ⟨w.heap.size, 0, none⟩ = false := frozen_of_row w1 _ 0 _ _ hN1
    have m1 : w1.frozen? ⟨w.heap.size, 1, none⟩ = false := frozen_of_row w1 _ 1 _ _ hN1
    have m2 : w1.frozen? ⟨w.heap.size, 2, none⟩ = false := frozen_of_row w1 _ 2 _ _ hN1
    have m3 : w1.frozen? ⟨w.heap.size, 3, none⟩ = false := frozen_of_row w1 _ 3 _ _ hN1
    have HBL : Hid _ := store4 hN1 (.int .i64 kind) (.int .i64 0) (.int .i64 x) (.int .i64 0)
    have HB : Hid _ := below4 (g := w.heap.size) hb0 (Nat.le_refl _) (.int .i64 kind) (.int .i64 0) (.int .i64 x) (.int .i64 0)
    clear hb0 hN1 HO
    go_wp2
    refine bodyPost_ret (results_cell_row rfl _ _ w.heap.size 37 #[.int .i64 kind, .int .i64 0, .int .i64 x, .int .i64 0] (0, 0) _ rfl ?_ Try.underlying37 rfl nodeSize') rfl ?_
    · exact HBL.out
    · exact ⟨rfl, HB.out⟩
  | false =>
    have em : mkNd kind x y = ⟨kind, 0, x, y⟩ := by unfold mkNd; rw [if_neg (by simp [ho])]
    rw [em]
    have HO : Hid (oneK kind = false) := ho
    clear ho em
    go_enter Try.func96, Try.ntmps96
    go_wp2_with fail
    generalize w.alloc (.cells #[.int .i64 0, .int .i64 0, .int .i64 0, .int .i64 0] 37) = w1 at hb0 hN1 ⊢
    refine (hasOne_any kind _).mono ?_
    rintro e w2 ⟨rfl, rfl⟩
    rw [HO.out]
    have n0 : w1.cell? ⟨w.heap.size, 0, none⟩ = some (.int .i64 0) := (cell_of_row w1 _ 0 _ _ _ hN1).trans rfl
    have n1 : w1.cell? ⟨w.heap.size, 1, none⟩ = some (.int .i64 0) := (cell_of_row w1 _ 1 _ _ _ hN1).trans rfl
    have n2 : w1.cell? ⟨w.heap.size, 2, none⟩ = some (.int .i64 0) := (cell_of_row w1 _ 2 _ _ _ hN1).trans rfl
    have n3 : w1.cell? ⟨w.heap.size, 3, none⟩ = some (.int .i64 0) := (cell_of_row w1 _ 3 _ _ _ hN1).trans rfl
    have m0 : w1.frozen? ⟨w.heap.size, 0, none⟩ = false := frozen_of_row w1 _ 0 _ _ hN1
    have m1 : w1.frozen? ⟨w.heap.size, 1, none⟩ = false := frozen_of_row w1 _ 1 _ _ hN1
    have m2 : w1.frozen? ⟨w.heap.size, 2, none⟩ = false := frozen_of_row w1 _ 2 _ _ hN1
    have m3 : w1.frozen? ⟨w.heap.size, 3, none⟩ = false := frozen_of_row w1 _ 3 _ _ hN1
    have HBL : Hid _ := store4 hN1 (.int .i64 kind) (.int .i64 0) (.int .i64 x) (.int .i64 y)
    have HB : Hid _ := below4 (g := w.heap.size) hb0 (Nat.le_refl _) (.int .i64 kind) (.int .i64 0) (.int .i64 x) (.int .i64 y)
    clear hb0 hN1 HO
    go_wp2
    refine bodyPost_ret (results_cell_row rfl _ _ w.heap.size 37 #[.int .i64 kind, .int .i64 0, .int .i64 x, .int .i64 y] (0, 0) _ rfl ?_ Try.underlying37 rfl nodeSize') rfl ?_
    · exact HBL.out
    · exact ⟨rfl, HB.out⟩

theorem implAtom_any (a : Option Addr) (cap : Nat) (ns : List Nd) (n : Int) (w : World) (hl : ns.length ≤ 1048576) (ha : AddrN a cap) (hr : RowN w.heap.size w a ns) :
    Calls Try.prog 45 #[.agg #[.slice a ns.length cap], .int .i64 n] w fun e w' => ∃ v, e = .returned (.tuple #[.agg #[v], .int .i64 (putK ns ⟨1, n, 0, 0⟩)]) ∧ OwnN w.heap.size w' v (putA ns ⟨1, n, 0, 0⟩) ∧ Below w.heap.size w w' := by
  have hb0 : Below w.heap.size w ((w.alloc (.cells #[.slice a ns.length cap] 26)).alloc (.cells #[.slice none 0 0] 26)) := ((Below.refl _ _).alloc (Nat.le_refl _) _).alloc (by simp) _
  have hs0 : ((w.alloc (.cells #[.slice a ns.length cap] 26)).alloc (.cells #[.slice none 0 0] 26)).heap.size = w.heap.size + 2 := by simp
  have hA0 : ((w.alloc (.cells #[.slice a ns.length cap] 26)).alloc (.cells #[.slice none 0 0] 26)).heap[w.heap.size]? = some (.cells #[.slice a ns.length cap] 26 (0, 0)) := (heap_alloc_old _ _ (by simp)).trans (heap_alloc_new w _)
  have hr0 : ((w.alloc (.cells #[.slice a ns.length cap] 26)).alloc (.cells #[.slice none 0 0] 26)).heap[w.heap.size + 1]? = some (.cells #[.slice none 0 0] 26 (0, 0)) := by
    have := heap_alloc_new (w.alloc (.cells #[.slice a ns.length cap] 26)) (.cells #[.slice none 0 0] 26)
    simpa using this
  have c0 : ((w.alloc (.cells #[.slice a ns.length cap] 26)).alloc (.cells #[.slice none 0 0] 26)).cell? ⟨w.heap.size, 0, none⟩ = some (.slice a ns.length cap) := (cell_of_row _ _ 0 _ _ _ hA0).trans rfl
  have HC : Hid _ := implPut_any a cap ns ⟨1, n, 0, 0⟩ _ hl ha (hr.grown hb0)
  generalize putA ns ⟨1, n, 0, 0⟩ = ms at HC ⊢
  generalize putK ns ⟨1, n, 0, 0⟩ = kk at HC ⊢
  clear hr ha
  go_enter Try.func45, Try.ntmps45
  go_wp2_with fail
  generalize (w.alloc (.cells #[.slice a ns.length cap] 26)).alloc (.cells #[.slice none 0 0] 26) = w0 at hb0 hs0 hA0 hr0 c0 HC ⊢
  refine Calls.mono HC.out ?_
  rintro e w1 ⟨v, rfl, ho1, hb1⟩
  obtain ⟨a1, cap1, rfl, _, _⟩ := ho1.row
  have hR1 := (hb1.block (w.heap.size + 1) (by omega)).trans hr0
  have r0 : w1.cell? ⟨w.heap.size + 1, 0, none⟩ = some (.slice none 0 0) := (cell_of_row _ _ 0 _ _ _ hR1).trans rfl
  have f0 : w1.frozen? ⟨w.heap.size + 1, 0, none⟩ = false := frozen_of_row _ _ 0 _ _ hR1
  have HBL : Hid ((w1.setCell ⟨w.heap.size + 1, 0, none⟩ (.slice a1 (ms).length cap1)).heap[w.heap.size + 1]? = some (.cells #[.slice a1 (ms).length cap1] 26 (0, 0))) := (heap_setCell_same _ _ 0 _ _ _ hR1).trans rfl
  have HO1 : Hid (OwnN w.heap.size (w1.setCell ⟨w.heap.size + 1, 0, none⟩ (.slice a1 (ms).length cap1)) (.slice a1 (ms).length cap1) (ms)) := OwnN.base (ownsRow_setCell_below ho1 (show w.heap.size + 1 < w0.heap.size by omega) _) (by omega)
  have HB1 : Hid (Below w.heap.size w (w1.setCell ⟨w.heap.size + 1, 0, none⟩ (.slice a1 (ms).length cap1))) := (hb0.trans (hb1.mono (by omega))).setCell (show w.heap.size ≤ w.heap.size + 1 by omega) _
  clear ho1 hb1 hR1 hA0 hr0 hb0
  go_wp2
  refine bodyPost_ret (res_cell2 rfl _ _ (w.heap.size + 1) 26 #[.slice a1 (ms).length cap1] (0, 0) _ rfl ?_ Try.underlying26 rfl arenaSize) rfl ?_
  · exact HBL.out
  · exact ⟨_, rfl, HO1.out, HB1.out⟩

theorem implMake_no (a : Option Addr) (cap : Nat) (ns : List Nd) (kind x y : Int) (w : World) (hl : ns.length ≤ 1048576) (ha : AddrN a cap) (hr : RowN w.heap.size w a ns) (hk : anyK kind = false) :
    Calls Try.prog 39 #[.agg #[.slice a ns.length cap], .int .i64 kind, .int .i64 x, .int .i64 y] w fun e w' => ∃ v, e = .returned (.tuple #[.agg #[v], .int .i64 (-1)]) ∧ OwnN w.heap.size w' v ns ∧ Below w.heap.size w w' := by
  have hb0 : Below w.heap.size w ((w.alloc (.cells #[.slice a ns.length cap] 26)).alloc (.cells #[.slice none 0 0] 26)) := ((Below.refl _ _).alloc (Nat.le_refl _) _).alloc (by simp) _
  have hs0 : ((w.alloc (.cells #[.slice a ns.length cap] 26)).alloc (.cells #[.slice none 0 0] 26)).heap.size = w.heap.size + 2 := by simp
  have hA0 : ((w.alloc (.cells #[.slice a ns.length cap] 26)).alloc (.cells #[.slice none 0 0] 26)).heap[w.heap.size]? = some (.cells #[.slice a ns.length cap] 26 (0, 0)) := (heap_alloc_old _ _ (by simp)).trans (heap_alloc_new w _)
  have hr0 : ((w.alloc (.cells #[.slice a ns.length cap] 26)).alloc (.cells #[.slice none 0 0] 26)).heap[w.heap.size + 1]? = some (.cells #[.slice none 0 0] 26 (0, 0)) := by
    have := heap_alloc_new (w.alloc (.cells #[.slice a ns.length cap] 26)) (.cells #[.slice none 0 0] 26)
    simpa using this
  have c0 : ((w.alloc (.cells #[.slice a ns.length cap] 26)).alloc (.cells #[.slice none 0 0] 26)).cell? ⟨w.heap.size, 0, none⟩ = some (.slice a ns.length cap) := (cell_of_row _ _ 0 _ _ _ hA0).trans rfl
  have HC : Hid _ := asIs_any a cap ns _ hl ha (hr.grown hb0)
  have HM : Hid _ := hk
  clear hr ha hk
  go_enter Try.func39, Try.ntmps39
  go_wp2_with fail
  generalize (w.alloc (.cells #[.slice a ns.length cap] 26)).alloc (.cells #[.slice none 0 0] 26) = w0 at hb0 hs0 hA0 hr0 c0 HC ⊢
  refine (madeAny_any kind _).mono ?_
  rintro e wz ⟨rfl, rfl⟩
  rw [HM.out]
  go_wp2_with fail
  refine Calls.mono HC.out ?_
  rintro e w1 ⟨v, rfl, ho1, hb1⟩
  obtain ⟨a1, cap1, rfl, _, _⟩ := ho1.row
  have hR1 := (hb1.block (w.heap.size + 1) (by omega)).trans hr0
  have r0 : w1.cell? ⟨w.heap.size + 1, 0, none⟩ = some (.slice none 0 0) := (cell_of_row _ _ 0 _ _ _ hR1).trans rfl
  have f0 : w1.frozen? ⟨w.heap.size + 1, 0, none⟩ = false := frozen_of_row _ _ 0 _ _ hR1
  have HBL : Hid ((w1.setCell ⟨w.heap.size + 1, 0, none⟩ (.slice a1 (ns).length cap1)).heap[w.heap.size + 1]? = some (.cells #[.slice a1 (ns).length cap1] 26 (0, 0))) := (heap_setCell_same _ _ 0 _ _ _ hR1).trans rfl
  have HO1 : Hid (OwnN w.heap.size (w1.setCell ⟨w.heap.size + 1, 0, none⟩ (.slice a1 (ns).length cap1)) (.slice a1 (ns).length cap1) (ns)) := OwnN.base (ownsRow_setCell_below ho1 (show w.heap.size + 1 < w0.heap.size by omega) _) (by omega)
  have HB1 : Hid (Below w.heap.size w (w1.setCell ⟨w.heap.size + 1, 0, none⟩ (.slice a1 (ns).length cap1))) := (hb0.trans (hb1.mono (by omega))).setCell (show w.heap.size ≤ w.heap.size + 1 by omega) _
  clear ho1 hb1 hR1 hA0 hr0 hb0
  go_wp2
  refine bodyPost_ret (res_cell2 rfl _ _ (w.heap.size + 1) 26 #[.slice a1 (ns).length cap1] (0, 0) _ rfl ?_ Try.underlying26 rfl arenaSize) rfl ?_
  · exact HBL.out
  · exact ⟨_, rfl, HO1.out, HB1.out⟩

set_option maxHeartbeats 1600000 in
set_option maxRecDepth 20000 in
theorem implMake_yes (a : Option Addr) (cap : Nat) (ns : List Nd) (kind x y : Int) (w : World) (hl : ns.length ≤ 1048576) (ha : AddrN a cap) (hr : RowN w.heap.size w a ns) (hk : anyK kind = true) :
    Calls Try.prog 39 #[.agg #[.slice a ns.length cap], .int .i64 kind, .int .i64 x, .int .i64 y] w fun e w' => ∃ v, e = .returned (.tuple #[.agg #[v], .int .i64 (putK ns (mkNd kind x y))]) ∧ OwnN w.heap.size w' v (putA ns (mkNd kind x y)) ∧ Below w.heap.size w w' := by
  have hb0 : Below w.heap.size w ((w.alloc (.cells #[.slice a ns.length cap] 26)).alloc (.cells #[.slice none 0 0] 26)) := ((Below.refl _ _).alloc (Nat.le_refl _) _).alloc (by simp) _
  have hs0 : ((w.alloc (.cells #[.slice a ns.length cap] 26)).alloc (.cells #[.slice none 0 0] 26)).heap.size = w.heap.size + 2 := by simp
  have hA0 : ((w.alloc (.cells #[.slice a ns.length cap] 26)).alloc (.cells #[.slice none 0 0] 26)).heap[w.heap.size]? = some (.cells #[.slice a ns.length cap] 26 (0, 0)) := (heap_alloc_old _ _ (by simp)).trans (heap_alloc_new w _)
  have hr0 : ((w.alloc (.cells #[.slice a ns.length cap] 26)).alloc (.cells #[.slice none 0 0] 26)).heap[w.heap.size + 1]? = some (.cells #[.slice none 0 0] 26 (0, 0)) := by
    have := heap_alloc_new (w.alloc (.cells #[.slice a ns.length cap] 26)) (.cells #[.slice none 0 0] 26)
    simpa using this
  have c0 : ((w.alloc (.cells #[.slice a ns.length cap] 26)).alloc (.cells #[.slice none 0 0] 26)).cell? ⟨w.heap.size, 0, none⟩ = some (.slice a ns.length cap) := (cell_of_row _ _ 0 _ _ _ hA0).trans rfl
  have HC : Hid (∀ wq, Below w.heap.size w wq → Calls Try.prog 18 #[.agg #[.slice a ns.length cap], .agg #[.int .i64 (mkNd kind x y).k, .int .i64 (mkNd kind x y).n, .int .i64 (mkNd kind x y).a, .int .i64 (mkNd kind x y).b]] wq fun e w' => ∃ v, e = .returned (.tuple #[.agg #[v], .int .i64 (putK ns (mkNd kind x y))]) ∧ OwnN wq.heap.size w' v (putA ns (mkNd kind x y)) ∧ Below wq.heap.size wq w') := fun wq hq => implPut_any a cap ns (mkNd kind x y) wq hl ha (hr.grown hq)
  have HN : Hid (∀ wq, Calls Try.prog 96 #[.int .i64 kind, .int .i64 x, .int .i64 y] wq fun e w' => e = .returned (.agg #[.int .i64 (mkNd kind x y).k, .int .i64 (mkNd kind x y).n, .int .i64 (mkNd kind x y).a, .int .i64 (mkNd kind x y).b]) ∧ Below wq.heap.size wq w') := fun wq => nodeOf_any kind x y wq
  generalize mkNd kind x y = z at HC HN ⊢
  generalize putA ns z = ms at HC ⊢
  generalize putK ns z = kk at HC ⊢
  have HM : Hid _ := hk
  clear hr ha hk
  go_enter Try.func39, Try.ntmps39
  go_wp2_with fail
  generalize (w.alloc (.cells #[.slice a ns.length cap] 26)).alloc (.cells #[.slice none 0 0] 26) = w0 at hb0 hs0 hA0 hr0 c0 ⊢
  refine (madeAny_any kind _).mono ?_
  rintro e wz ⟨rfl, rfl⟩
  rw [HM.out]
  have hI0 := hb0
  have hR0 := hr0
  have HAB : Hid (w0.heap[w.heap.size]? = some (.cells #[.slice a ns.length cap] 26 (0, 0))) := hA0
  clear hA0 c0 hr0 hb0
  go_wp2_with fail
  refine wp_region_list (I := fun w' => Below w.heap.size w w' ∧ w'.heap[w.heap.size]? = some (.cells #[.slice a ns.length cap] 26 (0, 0)) ∧ ∃ u, w'.heap[w.heap.size + 1]? = some (.cells #[u] 26 (0, 0))) (R := fun i w' w'' => Rst w.heap.size 8 i w' w'' ∧ (w'.heap[w.heap.size]? = some (.cells #[.slice a ns.length cap] 26 (0, 0)) → w''.heap[w.heap.size]? = some (.cells #[.slice a ns.length cap] 26 (0, 0))))
    (fs := #[⟨[19], fun vs _ => vs = [.agg #[.slice a ns.length cap]]⟩, ⟨[20], fun vs _ => vs = [.int .i64 kind]⟩, ⟨[21], fun vs _ => vs = [.int .i64 x]⟩, ⟨[22], fun vs _ => vs = [.int .i64 y]⟩, ⟨[23], fun vs _ => vs = [.agg #[.int .i64 z.k, .int .i64 z.n, .int .i64 z.a, .int .i64 z.b]]⟩, ⟨[24], fun vs w' => ∃ v, vs = [.tuple #[.agg #[v], .int .i64 (kk)]] ∧ OwnN w.heap.size w' v (ms)⟩, ⟨[25], fun vs w' => ∃ v, vs = [.agg #[v]] ∧ OwnN w.heap.size w' v (ms)⟩, ⟨[26], fun vs _ => vs = [.int .i64 (kk)]⟩, ⟨[25], fun vs w' => ∃ v, vs = [.agg #[v]] ∧ w'.heap[w.heap.size + 1]? = some (.cells #[v] 26 (0, 0)) ∧ OwnN w.heap.size w' v (ms)⟩, ⟨[9], fun vs _ => vs = [.int .i64 (kk)]⟩])
    (by kernel_rfl) 27 rfl (by kernel_rfl) ?stab ?istab ?start ?exec ?fin
  case stab =>
    intro k i f hki hf
    have hk : k < 10 := (Array.getElem?_eq_some_iff.1 hf).1
    rcases (show k = 0 ∨ k = 1 ∨ k = 2 ∨ k = 3 ∨ k = 4 ∨ k = 5 ∨ k = 6 ∨ k = 7 ∨ k = 8 ∨ k = 9 by omega) with rfl | rfl | rfl | rfl | rfl | rfl | rfl | rfl | rfl | rfl
    all_goals
      simp only [List.getElem?_toArray, List.getElem?_cons_succ, List.getElem?_cons_zero, Option.some.injEq] at hf
      subst hf
    · exact fun vs _ _ _ h => h
    · exact fun vs _ _ _ h => h
    · exact fun vs _ _ _ h => h
    · exact fun vs _ _ _ h => h
    · exact fun vs _ _ _ h => h
    · exact fun vs w' w'' hR ⟨v, h1, h2⟩ => ⟨v, h1, hR.1.own h2⟩
    · exact fun vs w' w'' hR ⟨v, h1, h2⟩ => ⟨v, h1, hR.1.own h2⟩
    · exact fun vs _ _ _ h => h
    · exact fun vs w' w'' hR ⟨v, h1, h3, h4⟩ => ⟨v, h1, ((hR.1.other (Ne.symm hki)).block _ (Array.getElem?_eq_some_iff.1 h3).1).trans h3, hR.1.own h4⟩
    · exact fun vs _ _ _ h => h
  case istab => exact fun i w' w'' hR h => ⟨Rst.inv (Nat.le_refl _) hR.1 h.1, hR.2 h.2.1, hR.1.box h.2.2⟩
  case start => exact ⟨hI0.drew, HAB.out, _, hR0⟩
  case exec =>
    intro i o f hi hf a_1 wq hsz hI hold hpre
    have hi11 : i < 10 := (Array.getElem?_eq_some_iff.1 hi).1
    rcases (show i = 0 ∨ i = 1 ∨ i = 2 ∨ i = 3 ∨ i = 4 ∨ i = 5 ∨ i = 6 ∨ i = 7 ∨ i = 8 ∨ i = 9 by omega) with rfl | rfl | rfl | rfl | rfl | rfl | rfl | rfl | rfl | rfl
    all_goals
      simp only [List.getElem?_toArray, List.getElem?_cons_succ, List.getElem?_cons_zero, Option.some.injEq] at hi hf
      subst hi hf
    · have h2 : a_1.tmps.getD 4 undef = .pointer (some ⟨w.heap.size, 0, none⟩) := hold 4 (free_spec (by kernel_rfl))
      have hc : wq.cell? ⟨w.heap.size, 0, none⟩ = some (.slice a ns.length cap) := (cell_of_row wq _ 0 _ _ _ hI.2.1).trans rfl
      refine exec_same (v := .agg #[.slice a ns.length cap]) ?_ ⟨_, rfl, ⟨Rst.refl (by decide), fun h => h⟩, at_one (by omega) rfl⟩
      simp [go_sem, Act.eval, h2, hc]
    · have h2 : a_1.tmps.getD 10 undef = .int .i64 kind := hold 10 (free_spec (by kernel_rfl))
      refine exec_same (v := .int .i64 kind) ?_ ⟨_, rfl, ⟨Rst.refl (by decide), fun h => h⟩, at_one (by omega) rfl⟩
      simp [go_sem, Act.eval, h2]
    · have h2 : a_1.tmps.getD 2 undef = .int .i64 x := hold 2 (free_spec (by kernel_rfl))
      refine exec_same (v := .int .i64 x) ?_ ⟨_, rfl, ⟨Rst.refl (by decide), fun h => h⟩, at_one (by omega) rfl⟩
      simp [go_sem, Act.eval, h2]
    · have h2 : a_1.tmps.getD 3 undef = .int .i64 y := hold 3 (free_spec (by kernel_rfl))
      refine exec_same (v := .int .i64 y) ?_ ⟨_, rfl, ⟨Rst.refl (by decide), fun h => h⟩, at_one (by omega) rfl⟩
      simp [go_sem, Act.eval, h2]
    · have g20 : a_1.tmps.getD 20 undef = .int .i64 kind := by have := of_one (hpre ⟨1, .data⟩ (by simp) rfl _ rfl); simpa using this
      have g21 : a_1.tmps.getD 21 undef = .int .i64 x := by have := of_one (hpre ⟨2, .data⟩ (by simp) rfl _ rfl); simpa using this
      have g22 : a_1.tmps.getD 22 undef = .int .i64 y := by have := of_one (hpre ⟨3, .data⟩ (by simp) rfl _ rfl); simpa using this
      refine exec_call (f := 96) (args := #[.int .i64 kind, .int .i64 x, .int .i64 y]) (by simp [go_sem, Act.eval, g20, g21, g22]) ?_
      refine (HN.out wq).mono ?_
      rintro e w2 ⟨rfl, hb⟩
      exact ⟨_, rfl, _, rfl, ⟨Rst.of (by decide) hb, fun h => (hb.block _ (Array.getElem?_eq_some_iff.1 h).1).trans h⟩, at_one (by omega) rfl⟩
    · have g19 : a_1.tmps.getD 19 undef = .agg #[.slice a ns.length cap] := by have := of_one (hpre ⟨0, .data⟩ (by simp) rfl _ rfl); simpa using this
      have g23 : a_1.tmps.getD 23 undef = .agg #[.int .i64 z.k, .int .i64 z.n, .int .i64 z.a, .int .i64 z.b] := by have := of_one (hpre ⟨4, .data⟩ (by simp) rfl _ rfl); simpa using this
      refine exec_call (f := 18) (args := #[.agg #[.slice a ns.length cap], .agg #[.int .i64 z.k, .int .i64 z.n, .int .i64 z.a, .int .i64 z.b]]) (by simp [go_sem, Act.eval, g19, g23]) ?_
      refine (HC.out wq hI.1).mono ?_
      rintro e w2 ⟨v', rfl, ho', hb⟩
      exact ⟨_, rfl, _, rfl, ⟨Rst.of (by decide) hb, fun h => (hb.block _ (Array.getElem?_eq_some_iff.1 h).1).trans h⟩, at_one (by omega) ⟨v', rfl, OwnN.base ho' hI.1.size⟩⟩
    · obtain ⟨v, h21, ho⟩ := of_one (hpre ⟨5, .data⟩ (by simp) rfl _ rfl)
      have h21' : a_1.tmps.getD 24 undef = .tuple #[.agg #[v], .int .i64 (kk)] := by simpa using h21
      refine exec_same (v := .agg #[v]) ?_ ⟨_, rfl, ⟨Rst.refl (by decide), fun h => h⟩, at_one (by omega) ⟨v, rfl, ho⟩⟩
      simp [go_sem, Act.eval, h21']
    · obtain ⟨v, h21, ho⟩ := of_one (hpre ⟨5, .data⟩ (by simp) rfl _ rfl)
      have h21' : a_1.tmps.getD 24 undef = .tuple #[.agg #[v], .int .i64 (kk)] := by simpa using h21
      refine exec_same (v := .int .i64 (kk)) ?_ ⟨_, rfl, ⟨Rst.refl (by decide), fun h => h⟩, at_one (by omega) rfl⟩
      simp [go_sem, Act.eval, h21']
    · obtain ⟨v, h27, ho⟩ := of_one (hpre ⟨6, .data⟩ (by simp) rfl _ rfl)
      have h6' : a_1.tmps.getD 8 undef = .pointer (some ⟨w.heap.size + 1, 0, none⟩) := hold 8 (free_spec (by kernel_rfl))
      have h27' : a_1.tmps.getD 25 undef = .agg #[v] := by simpa using h27
      obtain ⟨u, hu⟩ := hI.2.2
      have hcg : wq.cell? ⟨w.heap.size + 1, 0, none⟩ = some u := by rw [cell_of_row wq _ 0 _ _ _ hu]; rfl
      have hfg : wq.frozen? ⟨w.heap.size + 1, 0, none⟩ = false := frozen_of_row wq _ 0 _ _ hu
      obtain ⟨av, capv, rfl, _, _⟩ := ho.row
      refine exec_skip (w' := wq.setCell ⟨w.heap.size + 1, 0, none⟩ (.slice av (ms).length capv)) ?_ ⟨_, rfl, ?_, ?_⟩
      · simp [go_sem, Act.eval, h6', h27', hcg, hfg]
      · refine ⟨?_, fun h => (Below.heap_setCell _ _ _ _ (by simp)).trans h⟩; unfold Rst; rw [if_pos rfl]; exact ⟨w.heap.size + 1, u, _, rfl, by omega, hu⟩
      · exact ⟨_, by show [a_1.tmps.getD 25 undef] = _; rw [h27'], (heap_setCell_same wq _ 0 _ _ _ hu).trans rfl, own_store ho hu⟩
    · have h28 : a_1.tmps.getD 26 undef = .int .i64 (kk) := by have := of_one (hpre ⟨7, .data⟩ (by simp) rfl _ rfl); simpa using this
      refine exec_same (v := .int .i64 (kk)) ?_ ⟨_, rfl, ⟨Rst.refl (by decide), fun h => h⟩, at_one (by omega) rfl⟩
      simp [go_sem, Act.eval, h28]
  case fin =>
    intro zs w5 hzl hI hF
    obtain ⟨z0, z1, z2, z3, z4, z5, z6, z7, z8, z9, rfl⟩ := list10 zs hzl
    obtain ⟨v1, hst, hbox, hown⟩ := of_one (hF 8 _ rfl)
    have hint := of_one (hF 9 _ rfl)
    simp only [List.cons.injEq, and_true] at hst hint
    have hs2 := last_is (i := 6) (v := z6) (n := 27) hst (by kernel_rfl) rfl rfl (by omega)
    have hs3 := last_is (i := 9) (v := z9) (n := 27) hint (by kernel_rfl) rfl rfl (by omega)
    clear hst hint
    subst hs2 hs3
    clear hF
    simp only [putAll, Act.put, List.setIfInBounds_toArray, List.set_cons_succ, List.set_cons_zero]
    obtain ⟨a1, cap1, rfl, _, _⟩ := hown.row
    go_wp2
    refine bodyPost_ret (res_cell2 rfl _ _ (w.heap.size + 1) 26 #[.slice a1 (ms).length cap1] (0, 0) _ rfl ?_ Try.underlying26 rfl arenaSize) rfl ?_
    · exact hbox
    · exact ⟨_, rfl, hown, hI.1⟩

theorem implMake_any (a : Option Addr) (cap : Nat) (ns : List Nd) (kind x y : Int) (w : World) (hl : ns.length ≤ 1048576) (ha : AddrN a cap) (hr : RowN w.heap.size w a ns) :
    Calls Try.prog 39 #[.agg #[.slice a ns.length cap], .int .i64 kind, .int .i64 x, .int .i64 y] w fun e w' => ∃ v, e = .returned (.tuple #[.agg #[v], .int .i64 (makeK ns kind x y)]) ∧ OwnN w.heap.size w' v (makeA ns kind x y) ∧ Below w.heap.size w w' := by
  cases hk : anyK kind with
  | false =>
    have h : kind = 1 ∨ kind = 7 := by unfold anyK at hk; simp at hk; omega
    have e1 : makeK ns kind x y = -1 := by unfold makeK; rw [if_pos h]
    have e2 : makeA ns kind x y = ns := by unfold makeA; rw [if_pos h]
    rw [e1, e2]
    exact implMake_no a cap ns kind x y w hl ha hr hk
  | true =>
    have h : ¬ (kind = 1 ∨ kind = 7) := by unfold anyK at hk; simp at hk; omega
    have e1 : makeK ns kind x y = putK ns (mkNd kind x y) := by unfold makeK; rw [if_neg h]
    have e2 : makeA ns kind x y = putA ns (mkNd kind x y) := by unfold makeA; rw [if_neg h]
    rw [e1, e2]
    exact implMake_yes a cap ns kind x y w hl ha hr hk
theorem makeA_len {ns : List Nd} {kind x y : Int} (h : ns.length ≤ 1048576) : (makeA ns kind x y).length ≤ 1048577 := by
  unfold makeA
  split
  · omega
  · exact putA_len h
end Go.Proofs.Ytodpfdjlhbjlgaa
