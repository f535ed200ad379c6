/- The contracts of chapter 4's l04Atom, l04Make, Atom and Make, the specification's. -/
import Derived.Test.YtaanophnnkmkbaaGreatTermPut2
import Derived.Test.YtaanophnnkmkbaaGreatPlainRT2
import Derived.WalkKit
import Derived.WalkLawsBesides
import Derived.WalkSpells
import Derived.Laws.Rows
import Derived.Test.YtaanophnnkmkbaaGreatMakeIs
import Derived.Test.YtaanophnnkmkbaaGreatLawKeep
import Derived.Laws.OwnMore
import Derived.Laws.AppendOwnNone
import Derived.Laws.ResultCell
import Derived.Test.YtaanophnnkmkbaaGreatImplText2
namespace Go.Proofs.YtaanophnnkmkbaaGreat
open Go.RowKit
set_option linter.unusedVariables false

theorem putK_neg {ns : List Nd} {x : Nd} (h : putK ns x < 0) : putK ns x = -1 := by
  unfold putK at h ⊢
  split at h
  · split at h
    · omega
    · rename_i h1 h2; rw [if_pos h1, if_neg h2]; have := findN_range ns x; omega
  · rename_i h1; rw [if_neg h1]
theorem putA_neg {ns : List Nd} {x : Nd} (h : putK ns x < 0) : putA ns x = ns := putA_old (by omega)
/-- The node of a kind. -/
def mkNd (kind x y : Int) : Nd := ⟨kind, 0, x, if oneK kind = true then 0 else y⟩
def makeA (ns : List Nd) (kind x y : Int) : List Nd := if kind = 1 ∨ kind = 7 then ns else putA ns (mkNd kind x y)
def makeK (ns : List Nd) (kind x y : Int) : Int := if kind = 1 ∨ kind = 7 then -1 else putK ns (mkNd kind x y)
theorem makeK_neg {ns : List Nd} {kind x y : Int} (h : makeK ns kind x y < 0) : makeK ns kind x y = -1 := by
  unfold makeK at h ⊢
  split
  · rfl
  · rename_i h1; rw [if_neg h1] at h; exact putK_neg h
theorem makeA_neg {ns : List Nd} {kind x y : Int} (h : makeK ns kind x y < 0) : makeA ns kind x y = ns := by
  unfold makeK at h
  unfold makeA
  split
  · rfl
  · rename_i h1; rw [if_neg h1] at h; exact putA_neg h
theorem mkNd_bad {kind x y : Int} {e : Int} (h1 : kind ≠ 1) (h : x < 0 ∨ (oneK kind = false ∧ y < 0)) : nodeB (mkNd kind x y) e = false := by
  unfold nodeB mkNd
  simp only
  rw [if_neg h1]
  split
  · rfl
  · rcases h with h | ⟨ho, h⟩
    · rw [if_pos (.inr (by unfold inB; simp; omega))]
    · split
      · rfl
      · rw [ho]
        simp only [Bool.false_eq_true, if_false]
        unfold inB; simp; omega
theorem make_bad {ns : List Nd} {kind x y : Int} (h : kind = 1 ∨ kind = 7 ∨ x < 0 ∨ (oneK kind = false ∧ y < 0)) : makeK ns kind x y = -1 ∧ makeA ns kind x y = ns := by
  unfold makeK makeA
  by_cases h1 : kind = 1 ∨ kind = 7
  · rw [if_pos h1, if_pos h1]; exact ⟨rfl, rfl⟩
  · rw [if_neg h1, if_neg h1]
    have hb : nodeB (mkNd kind x y) ns.length = false := mkNd_bad (fun e => h1 (.inl e)) (by
      rcases h with h | h | h | h
      · exact absurd (.inl h) h1
      · exact absurd (.inr h) h1
      · exact .inl h
      · exact .inr h)
    have hk : putK ns (mkNd kind x y) = -1 := by unfold putK; rw [if_neg (by simp [hb])]
    exact ⟨hk, putA_neg (by omega)⟩
theorem make_good {ns : List Nd} {kind x y : Int} (h : kind ≠ 1 ∧ kind ≠ 7) : makeK ns kind x y = putK ns (mkNd kind x y) ∧ makeA ns kind x y = putA ns (mkNd kind x y) := by
  unfold makeK makeA
  rw [if_neg (by omega), if_neg (by omega)]
  exact ⟨rfl, rfl⟩

theorem specAtomP_any (B g : Nat) (ns : List Nd) (n : Int) (w : World) (hl : ns.length ≤ 1048576) (h : ArenaAt B w g ns) (hB : B ≤ w.heap.size) :
    Calls Tryz.prog 80 #[.pointer (some ⟨g, 0, none⟩), .int .i64 n] w fun e w' => e = .returned (.int .i64 (putK ns ⟨1, n, 0, 0⟩)) ∧ ArenaAt B w' g (putA ns ⟨1, n, 0, 0⟩) ∧ Below B w w' := by
  have H : Hid _ := specPutP_any B g ns ⟨1, n, 0, 0⟩ w hl h hB
  clear h
  go_enter Tryz.func80, Tryz.ntmps80
  go_wp2_with fail
  refine Calls.mono H.out ?_
  rintro e w1 ⟨rfl, ha, hb⟩
  have HE : Hid _ := And.intro ha hb
  clear ha hb H
  go_wp2
  go_ret
  exact ⟨rfl, HE.out.1, HE.out.2⟩

theorem specMakeP_any (B g : Nat) (ns : List Nd) (kind x y : Int) (w : World) (hl : ns.length ≤ 1048576) (h : ArenaAt B w g ns) (hB : B ≤ w.heap.size) :
    Calls Tryz.prog 81 #[.pointer (some ⟨g, 0, none⟩), .int .i64 kind, .int .i64 x, .int .i64 y] w fun e w' => e = .returned (.int .i64 (makeK ns kind x y)) ∧ ArenaAt B w' g (makeA ns kind x y) ∧ Below B w w' := by
  have HH : Hid (ArenaAt B w g ns) := h
  clear h
  cases ho : oneK kind with
  | true =>
    have HO : Hid (oneK kind = true) := ho
    by_cases hbad : kind = 1 ∨ kind = 7 ∨ x < 0
    · obtain ⟨e1, e2⟩ := make_bad (ns := ns) (kind := kind) (x := x) (y := y) (by rcases hbad with h | h | h <;> simp [h])
      rw [e1, e2]
      clear ho e1 e2
      have hk1 : (kind == 1) = false := by have := HO.out; unfold oneK at this; simp at this; simp; omega
      have hk7 : (kind == 7) = false := by have := HO.out; unfold oneK at this; simp at this; simp; omega
      have hx : x < 0 := by simp at hk1 hk7; omega
      clear hbad
      go_enter Tryz.func81, Tryz.ntmps81
      go_wp2_with fail
      refine (specOne_any kind _).mono ?_
      rintro e w1 ⟨rfl, rfl⟩
      rw [HO.out]
      go_wp2
      go_ret
      exact ⟨rfl, HH.out, Below.refl _ _⟩
    · have hg : kind ≠ 1 ∧ kind ≠ 7 ∧ ¬ x < 0 := by omega
      obtain ⟨e1, e2⟩ := make_good (ns := ns) (x := x) (y := y) ⟨hg.1, hg.2.1⟩
      rw [e1, e2]
      have em : mkNd kind x y = ⟨kind, 0, x, 0⟩ := by unfold mkNd; rw [if_pos ho]
      rw [em]
      have hk1 : (kind == 1) = false := by simp; omega
      have hk7 : (kind == 7) = false := by simp; omega
      have hx := hg.2.2
      have H : Hid _ := specPutP_any B g ns ⟨kind, 0, x, 0⟩ w hl HH.out hB
      clear ho e1 e2 em hbad hg
      go_enter Tryz.func81, Tryz.ntmps81
      go_wp2_with fail
      refine (specOne_any kind _).mono ?_
      rintro e w1 ⟨rfl, rfl⟩
      rw [HO.out]
      go_wp2_with fail
      refine Calls.mono H.out ?_
      rintro e w1 ⟨rfl, ha, hb⟩
      have HE : Hid _ := And.intro ha hb
      clear ha hb H
      go_wp2
      go_ret
      exact ⟨rfl, HE.out.1, HE.out.2⟩
  | false =>
    have HO : Hid (oneK kind = false) := ho
    have em : mkNd kind x y = ⟨kind, 0, x, y⟩ := by unfold mkNd; rw [if_neg (by simp [ho])]
    by_cases h1 : kind = 1
    · obtain ⟨e1, e2⟩ := make_bad (ns := ns) (kind := kind) (x := x) (y := y) (.inl h1)
      rw [e1, e2]
      have hk1 : (kind == 1) = true := by simp [h1]
      clear ho em e1 e2 h1
      go_enter Tryz.func81, Tryz.ntmps81
      go_wp2_with fail
      refine (specOne_any kind _).mono ?_
      rintro e w1 ⟨rfl, rfl⟩
      rw [HO.out]
      go_wp2
      go_ret
      exact ⟨rfl, HH.out, Below.refl _ _⟩
    by_cases h7 : kind = 7
    · obtain ⟨e1, e2⟩ := make_bad (ns := ns) (kind := kind) (x := x) (y := y) (.inr (.inl h7))
      rw [e1, e2]
      have hk1 : (kind == 1) = false := by simp [h1]
      have hk7 : (kind == 7) = true := by simp [h7]
      clear ho em e1 e2 h1 h7
      go_enter Tryz.func81, Tryz.ntmps81
      go_wp2_with fail
      refine (specOne_any kind _).mono ?_
      rintro e w1 ⟨rfl, rfl⟩
      rw [HO.out]
      go_wp2
      go_ret
      exact ⟨rfl, HH.out, Below.refl _ _⟩
    have hk1 : (kind == 1) = false := by simp [h1]
    have hk7 : (kind == 7) = false := by simp [h7]
    by_cases hx : x < 0
    · obtain ⟨e1, e2⟩ := make_bad (ns := ns) (kind := kind) (x := x) (y := y) (.inr (.inr (.inl hx)))
      rw [e1, e2]
      clear ho em e1 e2 h1 h7
      go_enter Tryz.func81, Tryz.ntmps81
      go_wp2_with fail
      refine (specOne_any kind _).mono ?_
      rintro e w1 ⟨rfl, rfl⟩
      rw [HO.out]
      go_wp2
      go_ret
      exact ⟨rfl, HH.out, Below.refl _ _⟩
    by_cases hy : y < 0
    · obtain ⟨e1, e2⟩ := make_bad (ns := ns) (kind := kind) (x := x) (y := y) (.inr (.inr (.inr ⟨ho, hy⟩)))
      rw [e1, e2]
      clear ho em e1 e2 h1 h7
      go_enter Tryz.func81, Tryz.ntmps81
      go_wp2_with fail
      refine (specOne_any kind _).mono ?_
      rintro e w1 ⟨rfl, rfl⟩
      rw [HO.out]
      go_wp2
      go_ret
      exact ⟨rfl, HH.out, Below.refl _ _⟩
    obtain ⟨e1, e2⟩ := make_good (ns := ns) (x := x) (y := y) ⟨h1, h7⟩
    rw [e1, e2, em]
    have H : Hid _ := specPutP_any B g ns ⟨kind, 0, x, y⟩ w hl HH.out hB
    clear ho em e1 e2 h1 h7
    go_enter Tryz.func81, Tryz.ntmps81
    go_wp2_with fail
    refine (specOne_any kind _).mono ?_
    rintro e w1 ⟨rfl, rfl⟩
    rw [HO.out]
    go_wp2_with fail
    refine Calls.mono H.out ?_
    rintro e w1 ⟨rfl, ha, hb⟩
    have HE : Hid _ := And.intro ha hb
    clear ha hb H
    go_wp2
    go_ret
    exact ⟨rfl, HE.out.1, HE.out.2⟩

end Go.Proofs.YtaanophnnkmkbaaGreat

namespace Go.Proofs.YtaanophnnkmkbaaGreat
open Go.RowKit
set_option linter.unusedVariables false

set_option maxHeartbeats 400000 in
set_option maxRecDepth 20000 in
/-- slices.Clone over nodes. -/
theorem clone_any (a : Option Addr) (cap : Nat) (ns : List Nd) (w : World) (hl : ns.length ≤ 1048576) (ha : AddrN a cap) (hr : RowN w.heap.size w a ns) :
    Calls Tryz.prog 97 #[.slice a ns.length cap] w fun e w' => ∃ v, e = .returned v ∧ OwnN w.heap.size w' v ns ∧ Below w.heap.size w w' := by
  obtain ⟨i0, hi, hz0, hz1, hz2⟩ := info_parts infoNode
  have HR : Hid (RowN w.heap.size w a ns) := hr
  clear hr
  have HB0 : Hid (Below w.heap.size w (w.alloc (.cells #[] 86))) := (Below.refl _ _).alloc (Nat.le_refl _) _
  have HO : Hid (OwnN w.heap.size (w.alloc (.cells #[] 86)) (.slice (some ⟨w.heap.size, 0, none⟩) 0 0) []) := own_new (base := w.heap.size) w (Nat.le_refl _)
  rcases ha with ⟨rfl, rfl⟩ | ⟨b, off, rfl⟩
  · rcases HR.out with h0 | ⟨_, _, e, _⟩
    · subst h0
      have hq := Lib.run_eql_slice_nil (P := Tryz.prog) w 24 _ none 0 0 0 0 Tryz.underlying24
      go_enter Tryz.func97, Tryz.ntmps97
      go_wp2
      go_ret
      exact ⟨_, rfl, ⟨rfl, .inl ⟨rfl, rfl⟩⟩, Below.refl _ _⟩
    · cases e
  · have hq := Lib.run_eql_slice_nil (P := Tryz.prog) w 24 _ (some ⟨b, off, none⟩) ns.length cap 0 0 Tryz.underlying24
    go_enter Tryz.func97, Tryz.ntmps97
    go_wp2_with (at_builtin; refine wpList_append_own _ rfl _ _ 24 rfl w.heap.size 86 i0 _ 4 32 Tryz.underlying24 hi hz0 hz1 hz2 rfl (by decide) _ 0 _ rfl HO.out ⟨b, off, none⟩ ns.length cap (cellsN ns) rfl (cellsN_len ns) ?c1 (cells_one ns) ?c3 ?c4 ?c5 ?_)
    case c1 => exact (HR.out.later HB0.out).cells
    case c3 => unfold maxLen; omega
    case c4 => omega
    case c5 => simp
    · intro v' w2 hown' hgrow _
      have HO2 : Hid (OwnN w.heap.size w2 v' ns) := by
        show OwnN w.heap.size w2 v' ns
        have e : cellsN [] ++ cellsN ns = cellsN ns := rfl
        rw [e] at hown'; unfold OwnN; simpa using hown'
      have HB2 : Hid (Below w.heap.size w w2) := HB0.out.grown hgrow (by simp) (fun k hk => by simp [Value.ownBlock] at hk; omega)
      clear hown' hgrow
      obtain ⟨a2, cap2, rfl, _, _⟩ := HO2.out.row
      go_wp2
      go_ret
      exact ⟨_, rfl, HO2.out, HB2.out⟩

theorem hasOne_any (kind : Int) (w : World) : Calls Tryz.prog 96 #[.int .i64 kind] w fun e w' => e = .returned (.bool (oneK kind)) ∧ w = w' := by
  by_cases h3 : kind = 3
  · have e : oneK kind = true := by unfold oneK; simp [h3]
    have h3' : (kind == 3) = true := by simp [h3]
    rw [e]
    clear e h3
    go_enter Tryz.func96, Tryz.ntmps96
    go_wp2
    go_ret
    exact ⟨rfl, rfl⟩
  · have h3' : (kind == 3) = false := by simp [h3]
    have e : oneK kind = (kind == 6) := by unfold oneK; rw [decide_eq_false h3]; exact Bool.eq_iff_iff.2 (by simp)
    rw [e]
    clear e h3
    go_enter Tryz.func96, Tryz.ntmps96
    go_wp2
    go_ret
    exact ⟨rfl, rfl⟩
/-- A kind that is made of any two. -/
def anyK (kind : Int) : Bool := decide (kind ≠ 1) && decide (kind ≠ 7)
theorem nodeSize' : (Tryz.prog.info? 86).map (·.size) = some 4 := by kernel_rfl
set_option maxHeartbeats 400000 in
theorem nodeOf_any (kind x y : Int) (w : World) : Calls Tryz.prog 64 #[.int .i64 kind, .int .i64 x, .int .i64 y] w fun e w' => e = .returned (.agg #[.int .i64 (mkNd kind x y).k, .int .i64 (mkNd kind x y).n, .int .i64 (mkNd kind x y).a, .int .i64 (mkNd kind x y).b]) ∧ Below w.heap.size w w' := by
  have hb0 : Below w.heap.size w (w.alloc (.cells #[.int .i64 0, .int .i64 0, .int .i64 0, .int .i64 0] 86)) := (Below.refl _ _).alloc (Nat.le_refl _) _
  have hN1 := heap_alloc_new w (.cells #[.int .i64 0, .int .i64 0, .int .i64 0, .int .i64 0] 86)
  cases ho : oneK kind with
  | true =>
    have em : mkNd kind x y = ⟨kind, 0, x, 0⟩ := by unfold mkNd; rw [if_pos ho]
    rw [em]
    have HO : Hid (oneK kind = true) := ho
    clear ho em
    go_enter Tryz.func64, Tryz.ntmps64
    go_wp2_with fail
    generalize w.alloc (.cells #[.int .i64 0, .int .i64 0, .int .i64 0, .int .i64 0] 86) = w1 at hb0 hN1 ⊢
    refine (hasOne_any kind _).mono ?_
    rintro e w2 ⟨rfl, rfl⟩
    rw [HO.out]
    have n0 : w1.cell? ⟨w.heap.size, 0, none⟩ = some (.int .i64 0) := (cell_of_row w1 _ 0 _ _ _ hN1).trans rfl
    have n1 : w1.cell? ⟨w.heap.size, 1, none⟩ = some (.int .i64 0) := (cell_of_row w1 _ 1 _ _ _ hN1).trans rfl
    have n2 : w1.cell? ⟨w.heap.size, 2, none⟩ = some (.int .i64 0) := (cell_of_row w1 _ 2 _ _ _ hN1).trans rfl
    have n3 : w1.cell? ⟨w.heap.size, 3, none⟩ = some (.int .i64 0) := (cell_of_row w1 _ 3 _ _ _ hN1).trans rfl
    have m0 : w1.frozen? ⟨w.heap.size, 0, none⟩ = false := frozen_of_row w1 _ 0 _ _ hN1
    have m1 : w1.frozen? ⟨w.heap.size, 1, none⟩ = false := frozen_of_row w1 _ 1 _ _ hN1
    have m2 : w1.frozen? ⟨w.heap.size, 2, none⟩ = false := frozen_of_row w1 _ 2 _ _ hN1
    have m3 : w1.frozen? ⟨w.heap.size, 3, none⟩ = false := frozen_of_row w1 _ 3 _ _ hN1
    have HBL : Hid _ := store4 hN1 (.int .i64 kind) (.int .i64 0) (.int .i64 x) (.int .i64 0)
    have HB : Hid _ := below4 (g := w.heap.size) hb0 (Nat.le_refl _) (.int .i64 kind) (.int .i64 0) (.int .i64 x) (.int .i64 0)
    clear hb0 hN1 HO
    go_wp2
    refine bodyPost_ret (results_cell_row rfl _ _ w.heap.size 86 #[.int .i64 kind, .int .i64 0, .int .i64 x, .int .i64 0] (0, 0) _ rfl ?_ Tryz.underlying86 rfl nodeSize') rfl ?_
    · exact HBL.out
    · exact ⟨rfl, HB.out⟩
  | false =>
    have em : mkNd kind x y = ⟨kind, 0, x, y⟩ := by unfold mkNd; rw [if_neg (by simp [ho])]
    rw [em]
    have HO : Hid (oneK kind = false) := ho
    clear ho em
    go_enter Tryz.func64, Tryz.ntmps64
    go_wp2_with fail
    generalize w.alloc (.cells #[.int .i64 0, .int .i64 0, .int .i64 0, .int .i64 0] 86) = w1 at hb0 hN1 ⊢
    refine (hasOne_any kind _).mono ?_
    rintro e w2 ⟨rfl, rfl⟩
    rw [HO.out]
    have n0 : w1.cell? ⟨w.heap.size, 0, none⟩ = some (.int .i64 0) := (cell_of_row w1 _ 0 _ _ _ hN1).trans rfl
    have n1 : w1.cell? ⟨w.heap.size, 1, none⟩ = some (.int .i64 0) := (cell_of_row w1 _ 1 _ _ _ hN1).trans rfl
    have n2 : w1.cell? ⟨w.heap.size, 2, none⟩ = some (.int .i64 0) := (cell_of_row w1 _ 2 _ _ _ hN1).trans rfl
    have n3 : w1.cell? ⟨w.heap.size, 3, none⟩ = some (.int .i64 0) := (cell_of_row w1 _ 3 _ _ _ hN1).trans rfl
    have m0 : w1.frozen? ⟨w.heap.size, 0, none⟩ = false := frozen_of_row w1 _ 0 _ _ hN1
    have m1 : w1.frozen? ⟨w.heap.size, 1, none⟩ = false := frozen_of_row w1 _ 1 _ _ hN1
    have m2 : w1.frozen? ⟨w.heap.size, 2, none⟩ = false := frozen_of_row w1 _ 2 _ _ hN1
    have m3 : w1.frozen? ⟨w.heap.size, 3, none⟩ = false := frozen_of_row w1 _ 3 _ _ hN1
    have HBL : Hid _ := store4 hN1 (.int .i64 kind) (.int .i64 0) (.int .i64 x) (.int .i64 y)
    have HB : Hid _ := below4 (g := w.heap.size) hb0 (Nat.le_refl _) (.int .i64 kind) (.int .i64 0) (.int .i64 x) (.int .i64 y)
    clear hb0 hN1 HO
    go_wp2
    refine bodyPost_ret (results_cell_row rfl _ _ w.heap.size 86 #[.int .i64 kind, .int .i64 0, .int .i64 x, .int .i64 y] (0, 0) _ rfl ?_ Tryz.underlying86 rfl nodeSize') rfl ?_
    · exact HBL.out
    · exact ⟨rfl, HB.out⟩

theorem makeA_len {ns : List Nd} {kind x y : Int} (h : ns.length ≤ 1048576) : (makeA ns kind x y).length ≤ 1048577 := by
  unfold makeA
  split
  · omega
  · exact putA_len h
end Go.Proofs.YtaanophnnkmkbaaGreat

namespace Go.Proofs.YtaanophnnkmkbaaGreat
open Go.RowKit Go.PlainAid
set_option linter.unusedVariables false
theorem swap_is (ns : List Nd) (x y : Int) : decide (0 < (if cmpS (txS ns x) (txS ns y) = 0 then cmpI x y else cmpS (txS ns x) (txS ns y))) = swapB ns x y := by
  unfold swapB cmpI
  rcases cmpS_range (txS ns x) (txS ns y) with h | h | h <;> rw [h]
  · rfl
  · by_cases h1 : x < y
    · simp [h1]; omega
    · by_cases h2 : y < x
      · simp [h1, h2]
      · simp [h1, h2]
  · rfl
set_option maxHeartbeats 800000 in
theorem inOrder_any (a : Option Addr) (cap : Nat) (ns : List Nd) (x y : Int) (w : World) (hl : ns.length ≤ 1048576) (hr : RowN w.heap.size w a ns) :
    Calls Tryz.prog 112 #[.agg #[.slice a ns.length cap], .int .i64 x, .int .i64 y] w fun e w' => e = .returned (.tuple #[.int .i64 (if swapB ns x y = true then y else x), .int .i64 (if swapB ns x y = true then x else y)]) ∧ Below w.heap.size w w' := by
  have hb0 : Below w.heap.size w (w.alloc (.cells #[.slice a ns.length cap] 26)) := (Below.refl _ _).alloc (Nat.le_refl _) _
  have hA0 := heap_alloc_new w (.cells #[.slice a ns.length cap] 26)
  have hs0 : (w.alloc (.cells #[.slice a ns.length cap] 26)).heap.size = w.heap.size + 1 := by simp
  have c0 : (w.alloc (.cells #[.slice a ns.length cap] 26)).cell? ⟨w.heap.size, 0, none⟩ = some (.slice a ns.length cap) := (cell_of_row _ _ 0 _ _ _ hA0).trans rfl
  have HTx : Hid (∀ wz, Below w.heap.size w wz → Calls Tryz.prog 123 #[.agg #[.slice a ns.length cap], .int .i64 x] wz fun e w' => e = .returned (.tuple #[.string (txS ns x), .bool (txB ns x)]) ∧ Below wz.heap.size wz w') := fun wz hz => implTextV_any a cap ns x wz hl (hr.grown hz)
  have HTy : Hid (∀ wz, Below w.heap.size w wz → Calls Tryz.prog 123 #[.agg #[.slice a ns.length cap], .int .i64 y] wz fun e w' => e = .returned (.tuple #[.string (txS ns y), .bool (txB ns y)]) ∧ Below wz.heap.size wz w') := fun wz hz => implTextV_any a cap ns y wz hl (hr.grown hz)
  have hsw := swap_is ns x y
  obtain ⟨q, hq⟩ : ∃ q, swapB ns x y = q := ⟨_, rfl⟩
  rw [hq] at hsw ⊢
  generalize txS ns x = s at HTx hsw
  generalize txS ns y = t at HTy hsw
  generalize txB ns x = b1 at HTx
  generalize txB ns y = b2 at HTy
  have HC : Hid _ := fun wz => cmpString_any s t wz
  have HI : Hid _ := fun wz => cmpInt_any x y wz
  generalize cmpS s t = c at HC hsw
  generalize cmpI x y = d at HI hsw
  clear hr hq hA0
  go_enter Tryz.func112, Tryz.ntmps112
  go_wp2_with fail
  generalize w.alloc (.cells #[.slice a ns.length cap] 26) = w0 at hb0 hs0 c0 ⊢
  refine (HTx.out w0 hb0).mono ?_
  rintro e w1 ⟨rfl, hb1⟩
  have hB1 : Below w.heap.size w w1 := hb0.trans (hb1.mono hb0.size)
  have c1 : w1.cell? ⟨w.heap.size, 0, none⟩ = some (.slice a ns.length cap) := (hb1.cell (p := ⟨w.heap.size, 0, none⟩) (show w.heap.size < w0.heap.size by omega)).trans c0
  clear hb0 hb1 c0
  go_wp2_with fail
  refine (HTy.out w1 hB1).mono ?_
  rintro e w2 ⟨rfl, hb2⟩
  have hB2 : Below w.heap.size w w2 := hB1.trans (hb2.mono hB1.size)
  clear hB1 hb2 c1 HTx HTy
  go_wp2_with fail
  refine (HC.out w2).mono ?_
  rintro e w3 ⟨rfl, rfl⟩
  go_wp2_with fail
  refine (HI.out w2).mono ?_
  rintro e w3 ⟨rfl, rfl⟩
  have HB3 : Hid (Below w.heap.size w (w2.alloc (.cells #[.int .i64 c, .int .i64 d] 3))) := hB2.alloc hB2.size _
  have hn3 := heap_alloc_new w2 (.cells #[.int .i64 c, .int .i64 d] 3)
  have HO : Hid _ := orOf_any w2.heap.size c d (w2.alloc (.cells #[.int .i64 c, .int .i64 d] 3)) ((cell_of_row _ _ 0 _ _ _ hn3).trans rfl) ((cell_of_row _ _ 1 _ _ _ hn3).trans rfl)
  clear HC HI hB2 hn3
  go_wp2_with fail
  refine Calls.mono HO.out ?_
  rintro e w3 ⟨rfl, rfl⟩
  generalize (if c = 0 then d else c) = r at hsw ⊢
  clear HO
  cases q
  · have hr : ¬ 0 < r := by simpa using hsw
    clear hsw
    go_wp2
    go_ret2
    exact ⟨rfl, HB3.out⟩
  · have hr : 0 < r := by simpa using hsw
    clear hsw
    go_wp2
    go_ret2
    exact ⟨rfl, HB3.out⟩

/-- DhOf. -/
def dhB (ns : List Nd) (x pub : Int) : Bool := isK ns pub 6 && okAt ns x
def dhN (ns : List Nd) (x pub : Int) : Nd := ⟨7, 0, if swapB ns x (ndAt ns pub).a = true then (ndAt ns pub).a else x, if swapB ns x (ndAt ns pub).a = true then x else (ndAt ns pub).a⟩
def dhA (ns : List Nd) (x pub : Int) : List Nd := if dhB ns x pub = true then putA ns (dhN ns x pub) else ns
def dhK (ns : List Nd) (x pub : Int) : Int := if dhB ns x pub = true then putK ns (dhN ns x pub) else -1
theorem dhK_neg {ns : List Nd} {x pub : Int} (h : dhK ns x pub < 0) : dhK ns x pub = -1 := by
  unfold dhK at h ⊢
  split
  · rename_i h1; rw [if_pos h1] at h; exact putK_neg h
  · rfl
theorem dhA_neg {ns : List Nd} {x pub : Int} (h : dhK ns x pub < 0) : dhA ns x pub = ns := by
  unfold dhK at h
  unfold dhA
  split
  · rename_i h1; rw [if_pos h1] at h; exact putA_neg h
  · rfl
theorem dhA_len {ns : List Nd} {x pub : Int} (h : ns.length ≤ 1048576) : (dhA ns x pub).length ≤ 1048577 := by
  unfold dhA
  split
  · exact putA_len h
  · omega
end Go.Proofs.YtaanophnnkmkbaaGreat

namespace Go.Proofs.YtaanophnnkmkbaaGreat
open Go.RowKit Go.PlainAid
set_option linter.unusedVariables false
theorem dhP_no (B g : Nat) (ns : List Nd) (x pub : Int) (w : World) (hl : ns.length ≤ 1048576) (h : ArenaAt B w g ns) (hB : B ≤ w.heap.size) (hd : dhB ns x pub = false) :
    Calls Tryz.prog 85 #[.pointer (some ⟨g, 0, none⟩), .int .i64 x, .int .i64 pub] w fun e w' => e = .returned (.int .i64 (-1)) ∧ ArenaAt B w' g ns ∧ Below B w w' := by
  have h' := h
  obtain ⟨h1, h2, v, h3, h4, h5⟩ := h
  obtain ⟨a, cap, rfl, ha, hr⟩ := h4.row
  have c0 : w.cell? ⟨g, 0, none⟩ = some (.slice a ns.length cap) := (cell_of_row w g 0 _ _ _ h3).trans rfl
  have HA : Hid (ArenaAt B w g ns) := h'
  clear h3 h4 h5 ha h'
  cases h6 : isK ns pub 6 with
  | false =>
    have H6 : Hid _ := specIs_any a cap ns pub 6 w hl hr
    rw [h6] at H6
    clear hr hd h6
    go_enter Tryz.func85, Tryz.ntmps85
    go_wp2_with fail
    refine Calls.mono H6.out ?_
    rintro e w1 ⟨rfl, hb1⟩
    have HE : Hid _ := And.intro (HA.out.later hb1) (hb1.mono hB)
    clear hb1 H6 c0
    go_wp2
    go_ret
    exact ⟨rfl, HE.out.1, HE.out.2⟩
  | true =>
    have ho : okAt ns x = false := by unfold dhB at hd; rw [h6] at hd; simpa using hd
    have H6 : Hid _ := specIs_any a cap ns pub 6 w hl hr
    rw [h6] at H6
    have HR : Hid (RowN w.heap.size w a ns) := hr
    clear hr hd h6
    go_enter Tryz.func85, Tryz.ntmps85
    go_wp2_with fail
    refine Calls.mono H6.out ?_
    rintro e w1 ⟨rfl, hb1⟩
    have H2 : Hid _ := specOk_any a cap ns x w1 hl (HR.out.grown hb1)
    rw [ho] at H2
    have c1 : w1.cell? ⟨g, 0, none⟩ = some (.slice a ns.length cap) := (hb1.cell (p := ⟨g, 0, none⟩) h2).trans c0
    clear H6 c0 ho
    go_wp2_with fail
    refine Calls.mono H2.out ?_
    rintro e w2 ⟨rfl, hb2⟩
    have hb : Below w.heap.size w w2 := hb1.trans (hb2.mono hb1.size)
    have HE : Hid _ := And.intro (HA.out.later hb) (hb.mono hB)
    clear hb hb1 hb2 H2 c1
    go_wp2
    go_ret
    exact ⟨rfl, HE.out.1, HE.out.2⟩
set_option maxHeartbeats 1600000 in
set_option maxRecDepth 20000 in
theorem dhP_yes (B g : Nat) (ns : List Nd) (x pub : Int) (w : World) (hl : ns.length ≤ 1048576) (h : ArenaAt B w g ns) (hB : B ≤ w.heap.size) (hd : dhB ns x pub = true) :
    Calls Tryz.prog 85 #[.pointer (some ⟨g, 0, none⟩), .int .i64 x, .int .i64 pub] w fun e w' => e = .returned (.int .i64 (putK ns (dhN ns x pub))) ∧ ArenaAt B w' g (putA ns (dhN ns x pub)) ∧ Below B w w' := by
  have h' := h
  obtain ⟨h1, h2, v, h3, h4, h5⟩ := h
  obtain ⟨a, cap, rfl, ha, hr⟩ := h4.row
  have c0 : w.cell? ⟨g, 0, none⟩ = some (.slice a ns.length cap) := (cell_of_row w g 0 _ _ _ h3).trans rfl
  have HA : Hid (ArenaAt B w g ns) := h'
  clear h3 h4 h5 ha h'
  have h6 : isK ns pub 6 = true ∧ okAt ns x = true := by unfold dhB at hd; simpa using hd
  have H6 : Hid _ := specIs_any a cap ns pub 6 w hl hr
  rw [h6.1] at H6
  have H2 : Hid (∀ wz, Below w.heap.size w wz → Calls Tryz.prog 115 #[.agg #[.slice a ns.length cap], .int .i64 x] wz fun e w' => e = .returned (.bool true) ∧ Below wz.heap.size wz w') := fun wz hz => by have := specOk_any a cap ns x wz hl (hr.grown hz); rw [h6.2] at this; exact this
  obtain ⟨p, rfl, hp⟩ := okAt_in (isK_ok h6.1).1
  obtain ⟨b, off, rfl⟩ := hr.addr hp
  obtain ⟨hbl, -, -, d2, -⟩ := hr.at (Below.refl _ _) hp
  have hp0 : (0 : Int) ≤ (p : Int) := by omega
  have hp1 : (p : Int) < (ns.length : Int) := by omega
  have en : ndAt ns (p : Int) = ns.getD p Nd.zero := ndAt_nat ns p
  rw [← en] at d2
  have HX : Hid (∀ wz, Below w.heap.size w wz → Calls Tryz.prog 116 #[.agg #[.slice (some ⟨b, off, none⟩) ns.length cap], .int .i64 x] wz fun e w' => e = .returned (.tuple #[.string (txS ns x), .bool (txB ns x)]) ∧ Below wz.heap.size wz w') := fun wz hz => specTextV_any (some ⟨b, off, none⟩) cap ns x wz hl (hr.grown hz)
  have HY : Hid (∀ wz, Below w.heap.size w wz → Calls Tryz.prog 116 #[.agg #[.slice (some ⟨b, off, none⟩) ns.length cap], .int .i64 (ndAt ns (p : Int)).a] wz fun e w' => e = .returned (.tuple #[.string (txS ns (ndAt ns (p : Int)).a), .bool (txB ns (ndAt ns (p : Int)).a)]) ∧ Below wz.heap.size wz w') := fun wz hz => specTextV_any (some ⟨b, off, none⟩) cap ns _ wz hl (hr.grown hz)
  obtain ⟨z, HZ, hz⟩ : ∃ z, Hid (dhN ns x (p : Int) = z) ∧ dhN ns x (p : Int) = z := ⟨_, rfl, rfl⟩
  rw [hz]
  unfold dhN swapB at hz
  have HP : Hid (∀ wz, Below w.heap.size w wz → Calls Tryz.prog 53 #[.pointer (some ⟨g, 0, none⟩), .agg #[.int .i64 z.k, .int .i64 z.n, .int .i64 z.a, .int .i64 z.b]] wz fun e w' => e = .returned (.int .i64 (putK ns z)) ∧ ArenaAt B w' g (putA ns z) ∧ Below B wz w') := fun wz hw => specPutP_any B g ns z wz hl (HA.out.later hw) (Nat.le_trans hB hw.size)
  generalize putK ns z = kk at HP ⊢
  generalize putA ns z = ms at HP ⊢
  generalize (ndAt ns (p : Int)).a = y at HX HY d2 hz
  have hg := cmpS_less (txS ns x) (txS ns y)
  have he := cmpS_eq (txS ns x) (txS ns y)
  have hrg := cmpS_range (txS ns x) (txS ns y)
  generalize txS ns x = s at HX hz hg he hrg
  generalize txS ns y = t at HY hz hg he hrg
  generalize txB ns x = b1 at HX
  generalize txB ns y = b2 at HY
  generalize cmpS s t = c at hz hg he hrg
  clear hr hd h6 en HZ HA
  have fin : ∀ Z : Nd, Z = z → Hid (∀ wz, Below w.heap.size w wz → Calls Tryz.prog 53 #[.pointer (some ⟨g, 0, none⟩), .agg #[.int .i64 Z.k, .int .i64 Z.n, .int .i64 Z.a, .int .i64 Z.b]] wz fun e w' => e = .returned (.int .i64 kk) ∧ ArenaAt B w' g ms ∧ Below B wz w') := fun Z e => by rw [e]; exact HP
  clear HP
  rcases hrg with hcc | hcc | hcc
  · rw [hcc] at hg he
    have hg' : Op.bytesLess s.toList t.toList = true := hg
    have he' : (s.toList == t.toList) = false := he
    clear hg he
    have HQ := fin ⟨7, 0, x, y⟩ (by rw [← hz]; simp [hcc])
    clear fin hz hcc
    go_enter Tryz.func85, Tryz.ntmps85
    go_wp2_with fail
    refine Calls.mono H6.out ?_
    rintro e w1 ⟨rfl, hb1⟩
    have c1 : w1.cell? ⟨g, 0, none⟩ = some (.slice (some ⟨b, off, none⟩) ns.length cap) := (hb1.cell (p := ⟨g, 0, none⟩) h2).trans c0
    clear H6
    go_wp2_with fail
    refine (H2.out w1 hb1).mono ?_
    rintro e w2 ⟨rfl, hb2⟩
    have hB2 : Below w.heap.size w w2 := hb1.trans (hb2.mono hb1.size)
    have c2 : w2.cell? ⟨g, 0, none⟩ = some (.slice (some ⟨b, off, none⟩) ns.length cap) := (hB2.cell (p := ⟨g, 0, none⟩) h2).trans c0
    have e2 := (hB2.cell hbl).trans d2
    clear hb1 hb2 c1 H2
    go_wp2_with fail
    refine (HX.out w2 hB2).mono ?_
    rintro e w3 ⟨rfl, hb3⟩
    have hB3 : Below w.heap.size w w3 := hB2.trans (hb3.mono hB2.size)
    have c3 : w3.cell? ⟨g, 0, none⟩ = some (.slice (some ⟨b, off, none⟩) ns.length cap) := (hB3.cell (p := ⟨g, 0, none⟩) h2).trans c0
    clear hB2 hb3 c2 e2 HX
    go_wp2_with fail
    refine (HY.out w3 hB3).mono ?_
    rintro e w4 ⟨rfl, hb4⟩
    have hB4 : Below w.heap.size w w4 := hB3.trans (hb4.mono hB3.size)
    clear hB3 hb4 c3 HY
    go_wp2_with fail
    refine (HQ.out w4 hB4).mono ?_
    rintro e w5 ⟨rfl, ha5, hb5⟩
    have HE : Hid _ := And.intro ha5 ((hB4.mono hB).trans hb5)
    clear ha5 hb5 hB4 HQ
    go_wp2
    go_ret
    exact ⟨rfl, HE.out.1, HE.out.2⟩
  · rw [hcc] at hg he
    have hg' : Op.bytesLess s.toList t.toList = false := hg
    have he' : (s.toList == t.toList) = true := he
    clear hg he
    by_cases hxy : y < x
    · have hcc : c = 0 ∧ y < x := ⟨hcc, hxy⟩
      have HQ := fin ⟨7, 0, y, x⟩ (by rw [← hz]; simp [hcc])
      clear fin hz hcc
      go_enter Tryz.func85, Tryz.ntmps85
      go_wp2_with fail
      refine Calls.mono H6.out ?_
      rintro e w1 ⟨rfl, hb1⟩
      have c1 : w1.cell? ⟨g, 0, none⟩ = some (.slice (some ⟨b, off, none⟩) ns.length cap) := (hb1.cell (p := ⟨g, 0, none⟩) h2).trans c0
      clear H6
      go_wp2_with fail
      refine (H2.out w1 hb1).mono ?_
      rintro e w2 ⟨rfl, hb2⟩
      have hB2 : Below w.heap.size w w2 := hb1.trans (hb2.mono hb1.size)
      have c2 : w2.cell? ⟨g, 0, none⟩ = some (.slice (some ⟨b, off, none⟩) ns.length cap) := (hB2.cell (p := ⟨g, 0, none⟩) h2).trans c0
      have e2 := (hB2.cell hbl).trans d2
      clear hb1 hb2 c1 H2
      go_wp2_with fail
      refine (HX.out w2 hB2).mono ?_
      rintro e w3 ⟨rfl, hb3⟩
      have hB3 : Below w.heap.size w w3 := hB2.trans (hb3.mono hB2.size)
      have c3 : w3.cell? ⟨g, 0, none⟩ = some (.slice (some ⟨b, off, none⟩) ns.length cap) := (hB3.cell (p := ⟨g, 0, none⟩) h2).trans c0
      clear hB2 hb3 c2 e2 HX
      go_wp2_with fail
      refine (HY.out w3 hB3).mono ?_
      rintro e w4 ⟨rfl, hb4⟩
      have hB4 : Below w.heap.size w w4 := hB3.trans (hb4.mono hB3.size)
      clear hB3 hb4 c3 HY
      go_wp2_with fail
      refine (HQ.out w4 hB4).mono ?_
      rintro e w5 ⟨rfl, ha5, hb5⟩
      have HE : Hid _ := And.intro ha5 ((hB4.mono hB).trans hb5)
      clear ha5 hb5 hB4 HQ
      go_wp2
      go_ret
      exact ⟨rfl, HE.out.1, HE.out.2⟩
    · have hcc : c = 0 ∧ ¬ y < x := ⟨hcc, hxy⟩
      have HQ := fin ⟨7, 0, x, y⟩ (by rw [← hz]; simp [hcc])
      clear fin hz hcc
      go_enter Tryz.func85, Tryz.ntmps85
      go_wp2_with fail
      refine Calls.mono H6.out ?_
      rintro e w1 ⟨rfl, hb1⟩
      have c1 : w1.cell? ⟨g, 0, none⟩ = some (.slice (some ⟨b, off, none⟩) ns.length cap) := (hb1.cell (p := ⟨g, 0, none⟩) h2).trans c0
      clear H6
      go_wp2_with fail
      refine (H2.out w1 hb1).mono ?_
      rintro e w2 ⟨rfl, hb2⟩
      have hB2 : Below w.heap.size w w2 := hb1.trans (hb2.mono hb1.size)
      have c2 : w2.cell? ⟨g, 0, none⟩ = some (.slice (some ⟨b, off, none⟩) ns.length cap) := (hB2.cell (p := ⟨g, 0, none⟩) h2).trans c0
      have e2 := (hB2.cell hbl).trans d2
      clear hb1 hb2 c1 H2
      go_wp2_with fail
      refine (HX.out w2 hB2).mono ?_
      rintro e w3 ⟨rfl, hb3⟩
      have hB3 : Below w.heap.size w w3 := hB2.trans (hb3.mono hB2.size)
      have c3 : w3.cell? ⟨g, 0, none⟩ = some (.slice (some ⟨b, off, none⟩) ns.length cap) := (hB3.cell (p := ⟨g, 0, none⟩) h2).trans c0
      clear hB2 hb3 c2 e2 HX
      go_wp2_with fail
      refine (HY.out w3 hB3).mono ?_
      rintro e w4 ⟨rfl, hb4⟩
      have hB4 : Below w.heap.size w w4 := hB3.trans (hb4.mono hB3.size)
      clear hB3 hb4 c3 HY
      go_wp2_with fail
      refine (HQ.out w4 hB4).mono ?_
      rintro e w5 ⟨rfl, ha5, hb5⟩
      have HE : Hid _ := And.intro ha5 ((hB4.mono hB).trans hb5)
      clear ha5 hb5 hB4 HQ
      go_wp2
      go_ret
      exact ⟨rfl, HE.out.1, HE.out.2⟩
  · rw [hcc] at hg he
    have hg' : Op.bytesLess s.toList t.toList = false := hg
    have he' : (s.toList == t.toList) = false := he
    clear hg he
    have HQ := fin ⟨7, 0, y, x⟩ (by rw [← hz]; simp [hcc])
    clear fin hz hcc
    go_enter Tryz.func85, Tryz.ntmps85
    go_wp2_with fail
    refine Calls.mono H6.out ?_
    rintro e w1 ⟨rfl, hb1⟩
    have c1 : w1.cell? ⟨g, 0, none⟩ = some (.slice (some ⟨b, off, none⟩) ns.length cap) := (hb1.cell (p := ⟨g, 0, none⟩) h2).trans c0
    clear H6
    go_wp2_with fail
    refine (H2.out w1 hb1).mono ?_
    rintro e w2 ⟨rfl, hb2⟩
    have hB2 : Below w.heap.size w w2 := hb1.trans (hb2.mono hb1.size)
    have c2 : w2.cell? ⟨g, 0, none⟩ = some (.slice (some ⟨b, off, none⟩) ns.length cap) := (hB2.cell (p := ⟨g, 0, none⟩) h2).trans c0
    have e2 := (hB2.cell hbl).trans d2
    clear hb1 hb2 c1 H2
    go_wp2_with fail
    refine (HX.out w2 hB2).mono ?_
    rintro e w3 ⟨rfl, hb3⟩
    have hB3 : Below w.heap.size w w3 := hB2.trans (hb3.mono hB2.size)
    have c3 : w3.cell? ⟨g, 0, none⟩ = some (.slice (some ⟨b, off, none⟩) ns.length cap) := (hB3.cell (p := ⟨g, 0, none⟩) h2).trans c0
    clear hB2 hb3 c2 e2 HX
    go_wp2_with fail
    refine (HY.out w3 hB3).mono ?_
    rintro e w4 ⟨rfl, hb4⟩
    have hB4 : Below w.heap.size w w4 := hB3.trans (hb4.mono hB3.size)
    clear hB3 hb4 c3 HY
    go_wp2_with fail
    refine (HQ.out w4 hB4).mono ?_
    rintro e w5 ⟨rfl, ha5, hb5⟩
    have HE : Hid _ := And.intro ha5 ((hB4.mono hB).trans hb5)
    clear ha5 hb5 hB4 HQ
    go_wp2
    go_ret
    exact ⟨rfl, HE.out.1, HE.out.2⟩
theorem dhP_any (B g : Nat) (ns : List Nd) (x pub : Int) (w : World) (hl : ns.length ≤ 1048576) (h : ArenaAt B w g ns) (hB : B ≤ w.heap.size) :
    Calls Tryz.prog 85 #[.pointer (some ⟨g, 0, none⟩), .int .i64 x, .int .i64 pub] w fun e w' => e = .returned (.int .i64 (dhK ns x pub)) ∧ ArenaAt B w' g (dhA ns x pub) ∧ Below B w w' := by
  cases hd : dhB ns x pub with
  | false =>
    have e1 : dhK ns x pub = -1 := by unfold dhK; rw [hd]; rfl
    have e2 : dhA ns x pub = ns := by unfold dhA; rw [hd]; rfl
    rw [e1, e2]
    exact dhP_no B g ns x pub w hl h hB hd
  | true =>
    have e1 : dhK ns x pub = putK ns (dhN ns x pub) := by unfold dhK; rw [hd]; rfl
    have e2 : dhA ns x pub = putA ns (dhN ns x pub) := by unfold dhA; rw [hd]; rfl
    rw [e1, e2]
    exact dhP_yes B g ns x pub w hl h hB hd
end Go.Proofs.YtaanophnnkmkbaaGreat
