/- The contracts of chapter 4's asItIs, node, isMadeOfAny, Atom and Make, the program's, and of the library's Clone over nodes. -/
import Derived.Test.YtffnadnndmmliaaMakeIs
import Derived.Test.YtffnadnndmmliaaMakeA
import Derived.Test.YtffnadnndmmliaaImplPut2
import Derived.Test.YtffnadnndmmliaaLawKeep
import Derived.WalkKit
import Derived.WalkLawsBesides
import Derived.WalkSpells
import Derived.Laws.OwnMore
import Derived.Laws.AppendOwnNone
import Derived.Laws.Rows
import Derived.Laws.ResultCell
namespace Go.Proofs.Ytffnadnndmmliaa
open Go.RowKit
set_option linter.unusedVariables false

set_option maxHeartbeats 400000 in
set_option maxRecDepth 20000 in
/-- slices.Clone over nodes. -/
theorem clone_any (a : Option Addr) (cap : Nat) (ns : List Nd) (w : World) (hl : ns.length ≤ 1048576) (ha : AddrN a cap) (hr : RowN w.heap.size w a ns) :
    Calls Try.prog 149 #[.slice a ns.length cap] w fun e w' => ∃ v, e = .returned v ∧ OwnN w.heap.size w' v ns ∧ Below w.heap.size w w' := by
  obtain ⟨i0, hi, hz0, hz1, hz2⟩ := info_parts infoNode
  have HR : Hid (RowN w.heap.size w a ns) := hr
  clear hr
  have HB0 : Hid (Below w.heap.size w (w.alloc (.cells #[] 45))) := (Below.refl _ _).alloc (Nat.le_refl _) _
  have HO : Hid (OwnN w.heap.size (w.alloc (.cells #[] 45)) (.slice (some ⟨w.heap.size, 0, none⟩) 0 0) []) := own_new (base := w.heap.size) w (Nat.le_refl _)
  rcases ha with ⟨rfl, rfl⟩ | ⟨b, off, rfl⟩
  · rcases HR.out with h0 | ⟨_, _, e, _⟩
    · subst h0
      have hq := Lib.run_eql_slice_nil (P := Try.prog) w 26 _ none 0 0 0 0 Try.underlying26
      go_enter Try.func149, Try.ntmps149
      go_wp2
      go_ret
      exact ⟨_, rfl, ⟨rfl, .inl ⟨rfl, rfl⟩⟩, Below.refl _ _⟩
    · cases e
  · have hq := Lib.run_eql_slice_nil (P := Try.prog) w 26 _ (some ⟨b, off, none⟩) ns.length cap 0 0 Try.underlying26
    go_enter Try.func149, Try.ntmps149
    go_wp2_with (at_builtin; refine wpList_append_own _ rfl _ _ 26 rfl w.heap.size 45 i0 _ 4 32 Try.underlying26 hi hz0 hz1 hz2 rfl (by decide) _ 0 _ rfl HO.out ⟨b, off, none⟩ ns.length cap (cellsN ns) rfl (cellsN_len ns) ?c1 (cells_one ns) ?c3 ?c4 ?c5 ?_)
    case c1 => exact (HR.out.later HB0.out).cells
    case c3 => unfold maxLen; omega
    case c4 => omega
    case c5 => simp
    · intro v' w2 hown' hgrow _
      have HO2 : Hid (OwnN w.heap.size w2 v' ns) := by
        show OwnN w.heap.size w2 v' ns
        have e : cellsN [] ++ cellsN ns = cellsN ns := rfl
        rw [e] at hown'; unfold OwnN; simpa using hown'
      have HB2 : Hid (Below w.heap.size w w2) := HB0.out.grown hgrow (by simp) (fun k hk => by simp [Value.ownBlock] at hk; omega)
      clear hown' hgrow
      obtain ⟨a2, cap2, rfl, _, _⟩ := HO2.out.row
      go_wp2
      go_ret
      exact ⟨_, rfl, HO2.out, HB2.out⟩

theorem asIs_any (a : Option Addr) (cap : Nat) (ns : List Nd) (w : World) (hl : ns.length ≤ 1048576) (ha : AddrN a cap) (hr : RowN w.heap.size w a ns) :
    Calls Try.prog 110 #[.agg #[.slice a ns.length cap]] w fun e w' => ∃ v, e = .returned (.tuple #[.agg #[v], .int .i64 (-1)]) ∧ OwnN w.heap.size w' v ns ∧ Below w.heap.size w w' := by
  have hb0 : Below w.heap.size w ((w.alloc (.cells #[.slice a ns.length cap] 28)).alloc (.cells #[.slice none 0 0] 28)) := ((Below.refl _ _).alloc (Nat.le_refl _) _).alloc (by simp) _
  have hs0 : ((w.alloc (.cells #[.slice a ns.length cap] 28)).alloc (.cells #[.slice none 0 0] 28)).heap.size = w.heap.size + 2 := by simp
  have hA0 : ((w.alloc (.cells #[.slice a ns.length cap] 28)).alloc (.cells #[.slice none 0 0] 28)).heap[w.heap.size]? = some (.cells #[.slice a ns.length cap] 28 (0, 0)) := (heap_alloc_old _ _ (by simp)).trans (heap_alloc_new w _)
  have hr0 : ((w.alloc (.cells #[.slice a ns.length cap] 28)).alloc (.cells #[.slice none 0 0] 28)).heap[w.heap.size + 1]? = some (.cells #[.slice none 0 0] 28 (0, 0)) := by
    have := heap_alloc_new (w.alloc (.cells #[.slice a ns.length cap] 28)) (.cells #[.slice none 0 0] 28)
    simpa using this
  have c0 : ((w.alloc (.cells #[.slice a ns.length cap] 28)).alloc (.cells #[.slice none 0 0] 28)).cell? ⟨w.heap.size, 0, none⟩ = some (.slice a ns.length cap) := (cell_of_row _ _ 0 _ _ _ hA0).trans rfl
  have HR : Hid (RowN w.heap.size w a ns) := hr
  have HA : Hid (AddrN a cap) := ha
  clear hr ha
  go_enter Try.func110, Try.ntmps110
  go_wp2_with fail
  generalize (w.alloc (.cells #[.slice a ns.length cap] 28)).alloc (.cells #[.slice none 0 0] 28) = w0 at hb0 hs0 hA0 hr0 c0 ⊢
  refine (clone_any a cap ns w0 hl HA.out (HR.out.grown hb0)).mono ?_
  rintro e w1 ⟨v, rfl, ho1, hb1⟩
  obtain ⟨a1, cap1, rfl, _, _⟩ := ho1.row
  have hR1 := (hb1.block (w.heap.size + 1) (by omega)).trans hr0
  have r0 : w1.cell? ⟨w.heap.size + 1, 0, none⟩ = some (.slice none 0 0) := (cell_of_row _ _ 0 _ _ _ hR1).trans rfl
  have f0 : w1.frozen? ⟨w.heap.size + 1, 0, none⟩ = false := frozen_of_row _ _ 0 _ _ hR1
  have HBL : Hid ((w1.setCell ⟨w.heap.size + 1, 0, none⟩ (.slice a1 (ns).length cap1)).heap[w.heap.size + 1]? = some (.cells #[.slice a1 (ns).length cap1] 28 (0, 0))) := (heap_setCell_same _ _ 0 _ _ _ hR1).trans rfl
  have HO1 : Hid (OwnN w.heap.size (w1.setCell ⟨w.heap.size + 1, 0, none⟩ (.slice a1 (ns).length cap1)) (.slice a1 (ns).length cap1) (ns)) := OwnN.base (ownsRow_setCell_below ho1 (show w.heap.size + 1 < w0.heap.size by omega) _) (by omega)
  have HB1 : Hid (Below w.heap.size w (w1.setCell ⟨w.heap.size + 1, 0, none⟩ (.slice a1 (ns).length cap1))) := (hb0.trans (hb1.mono (by omega))).setCell (show w.heap.size ≤ w.heap.size + 1 by omega) _
  clear ho1 hb1 hR1 hA0 hr0 hb0
  go_wp2
  refine bodyPost_ret (res_cell2 rfl _ _ (w.heap.size + 1) 28 #[.slice a1 (ns).length cap1] (0, 0) _ rfl ?_ Try.underlying28 rfl arenaSize) rfl ?_
  · exact HBL.out
  · exact ⟨_, rfl, HO1.out, HB1.out⟩

theorem hasOne_any (kind : Int) (w : World) : Calls Try.prog 195 #[.int .i64 kind] w fun e w' => e = .returned (.bool (oneK kind)) ∧ w = w' := by
  by_cases h3 : kind = 3
  · have e : oneK kind = true := by unfold oneK; simp [h3]
    have h3' : (kind == 3) = true := by simp [h3]
    rw [e]
    clear e h3
    go_enter Try.func195, Try.ntmps195
    go_wp2
    go_ret
    exact ⟨rfl, rfl⟩
  · have h3' : (kind == 3) = false := by simp [h3]
    have e : oneK kind = (kind == 6) := by unfold oneK; rw [decide_eq_false h3]; exact Bool.eq_iff_iff.2 (by simp)
    rw [e]
    clear e h3
    go_enter Try.func195, Try.ntmps195
    go_wp2
    go_ret
    exact ⟨rfl, rfl⟩
/-- A kind that is made of any two. -/
def anyK (kind : Int) : Bool := decide (kind ≠ 1) && decide (kind ≠ 7)
theorem nodeSize' : (Try.prog.info? 45).map (·.size) = some 4 := by kernel_rfl
set_option maxHeartbeats 400000 in
theorem nodeOf_any (kind x y : Int) (w : World) : Calls Try.prog 185 #[.int .i64 kind, .int .i64 x, .int .i64 y] w fun e w' => e = .returned (.agg #[.int .i64 (mkNd kind x y).k, .int .i64 (mkNd kind x y).n, .int .i64 (mkNd kind x y).a, .int .i64 (mkNd kind x y).b]) ∧ Below w.heap.size w w' := by
  have hb0 : Below w.heap.size w (w.alloc (.cells #[.int .i64 0, .int .i64 0, .int .i64 0, .int .i64 0] 45)) := (Below.refl _ _).alloc (Nat.le_refl _) _
  have hN1 := heap_alloc_new w (.cells #[.int .i64 0, .int .i64 0, .int .i64 0, .int .i64 0] 45)
  cases ho : oneK kind with
  | true =>
    have em : mkNd kind x y = ⟨kind, 0, x, 0⟩ := by unfold mkNd; rw [if_pos ho]
    rw [em]
    have HO : Hid (oneK kind = true) := ho
    clear ho em
    go_enter Try.func185, Try.ntmps185
    go_wp2_with fail
    generalize w.alloc (.cells #[.int .i64 0, .int .i64 0, .int .i64 0, .int .i64 0] 45) = w1 at hb0 hN1 ⊢
    refine (hasOne_any kind _).mono ?_
    rintro e w2 ⟨rfl, rfl⟩
    rw [HO.out]
    have n0 : w1.cell? ⟨w.heap.size, 0, none⟩ = some (.int .i64 0) := (cell_of_row w1 _ 0 _ _ _ hN1).trans rfl
    have n1 : w1.cell? ⟨w.heap.size, 1, none⟩ = some (.int .i64 0) := (cell_of_row w1 _ 1 _ _ _ hN1).trans rfl
    have n2 : w1.cell? ⟨w.heap.size, 2, none⟩ = some (.int .i64 0) := (cell_of_row w1 _ 2 _ _ _ hN1).trans rfl
    have n3 : w1.cell? ⟨w.heap.size, 3, none⟩ = some (.int .i64 0) := (cell_of_row w1 _ 3 _ _ _ hN1).trans rfl
    have m0 : w1.frozen? ⟨w.heap.size, 0, none⟩ = false := frozen_of_row w1 _ 0 _ _ hN1
    have m1 : w1.frozen? ⟨w.heap.size, 1, none⟩ = false := frozen_of_row w1 _ 1 _ _ hN1
    have m2 : w1.frozen? ⟨w.heap.size, 2, none⟩ = false := frozen_of_row w1 _ 2 _ _ hN1
    have m3 : w1.frozen? ⟨w.heap.size, 3, none⟩ = false := frozen_of_row w1 _ 3 _ _ hN1
    have HBL : Hid _ := store4 hN1 (.int .i64 kind) (.int .i64 0) (.int .i64 x) (.int .i64 0)
    have HB : Hid _ := below4 (g := w.heap.size) hb0 (Nat.le_refl _) (.int .i64 kind) (.int .i64 0) (.int .i64 x) (.int .i64 0)
    clear hb0 hN1 HO
    go_wp2
    refine bodyPost_ret (results_cell_row rfl _ _ w.heap.size 45 #[.int .i64 kind, .int .i64 0, .int .i64 x, .int .i64 0] (0, 0) _ rfl ?_ Try.underlying45 rfl nodeSize') rfl ?_
    · exact HBL.out
    · exact ⟨rfl, HB.out⟩
  | false =>
    have em : mkNd kind x y = ⟨kind, 0, x, y⟩ := by unfold mkNd; rw [if_neg (by simp [ho])]
    rw [em]
    have HO : Hid (oneK kind = false) := ho
    clear ho em
    go_enter Try.func185, Try.ntmps185
    go_wp2_with fail
    generalize w.alloc (.cells #[.int .i64 0, .int .i64 0, .int .i64 0, .int .i64 0] 45) = w1 at hb0 hN1 ⊢
    refine (hasOne_any kind _).mono ?_
    rintro e w2 ⟨rfl, rfl⟩
    rw [HO.out]
    have n0 : w1.cell? ⟨w.heap.size, 0, none⟩ = some (.int .i64 0) := (cell_of_row w1 _ 0 _ _ _ hN1).trans rfl
    have n1 : w1.cell? ⟨w.heap.size, 1, none⟩ = some (.int .i64 0) := (cell_of_row w1 _ 1 _ _ _ hN1).trans rfl
    have n2 : w1.cell? ⟨w.heap.size, 2, none⟩ = some (.int .i64 0) := (cell_of_row w1 _ 2 _ _ _ hN1).trans rfl
    have n3 : w1.cell? ⟨w.heap.size, 3, none⟩ = some (.int .i64 0) := (cell_of_row w1 _ 3 _ _ _ hN1).trans rfl
    have m0 : w1.frozen? ⟨w.heap.size, 0, none⟩ = false := frozen_of_row w1 _ 0 _ _ hN1
    have m1 : w1.frozen? ⟨w.heap.size, 1, none⟩ = false := frozen_of_row w1 _ 1 _ _ hN1
    have m2 : w1.frozen? ⟨w.heap.size, 2, none⟩ = false := frozen_of_row w1 _ 2 _ _ hN1
    have m3 : w1.frozen? ⟨w.heap.size, 3, none⟩ = false := frozen_of_row w1 _ 3 _ _ hN1
    have HBL : Hid _ := store4 hN1 (.int .i64 kind) (.int .i64 0) (.int .i64 x) (.int .i64 y)
    have HB : Hid _ := below4 (g := w.heap.size) hb0 (Nat.le_refl _) (.int .i64 kind) (.int .i64 0) (.int .i64 x) (.int .i64 y)
    clear hb0 hN1 HO
    go_wp2
    refine bodyPost_ret (results_cell_row rfl _ _ w.heap.size 45 #[.int .i64 kind, .int .i64 0, .int .i64 x, .int .i64 y] (0, 0) _ rfl ?_ Try.underlying45 rfl nodeSize') rfl ?_
    · exact HBL.out
    · exact ⟨rfl, HB.out⟩

theorem makeA_len {ns : List Nd} {kind x y : Int} (h : ns.length ≤ 1048576) : (makeA ns kind x y).length ≤ 1048577 := by
  unfold makeA
  split
  · omega
  · exact putA_len h
end Go.Proofs.Ytffnadnndmmliaa
