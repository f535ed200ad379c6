/- The contracts of chapter 4's asItIs, node, isMadeOfAny, Atom and Make, the program's, and of the library's Clone over nodes. -/
import Derived.Test.YtffnadnndmmliaaMakeIs
import Derived.Test.YtffnadnndmmliaaMakeA
import Derived.Test.YtffnadnndmmliaaImplPut2
import Derived.Test.YtffnadnndmmliaaTermPut2
import Derived.WalkKit
import Derived.WalkLawsBesides
import Derived.WalkSpells
import Derived.Laws.OwnMore
import Derived.Laws.AppendOwnNone
import Derived.Laws.Rows
import Derived.Laws.ResultCell
import Derived.Test.YtffnadnndmmliaaBldPut2
import Derived.Test.YtffnadnndmmliaaLawClip
import Derived.Test.YtffnadnndmmliaaPlainPlaces
namespace Go.Proofs.Ytffnadnndmmliaa
open Go.RowKit
set_option linter.unusedVariables false

set_option maxHeartbeats 400000 in
set_option maxRecDepth 20000 in
/-- slices.Clone over nodes. -/
theorem clone_any (a : Option Addr) (cap : Nat) (ns : List Nd) (w : World) (hl : ns.length ≤ 1048576) (ha : AddrN a cap) (hr : RowN w.heap.size w a ns) :
    Calls Try.prog 149 #[.slice a ns.length cap] w fun e w' => ∃ v, e = .returned v ∧ OwnN w.heap.size w' v ns ∧ Below w.heap.size w w' := by
  obtain ⟨i0, hi, hz0, hz1, hz2⟩ := info_parts infoNode
  have HR : Hid (RowN w.heap.size w a ns) := hr
  clear hr
  have HB0 : Hid (Below w.heap.size w (w.alloc (.cells #[] 45))) := (Below.refl _ _).alloc (Nat.le_refl _) _
  have HO : Hid (OwnN w.heap.size (w.alloc (.cells #[] 45)) (.slice (some ⟨w.heap.size, 0, none⟩) 0 0) []) := own_new (base := w.heap.size) w (Nat.le_refl _)
  rcases ha with ⟨rfl, rfl⟩ | ⟨b, off, rfl⟩
  · rcases HR.out with h0 | ⟨_, _, e, _⟩
    · subst h0
      have hq := Lib.run_eql_slice_nil (P := Try.prog) w 26 _ none 0 0 0 0 Try.underlying26
      go_enter Try.func149, Try.ntmps149
      go_wp2
      go_ret
      exact ⟨_, rfl, ⟨rfl, .inl ⟨rfl, rfl⟩⟩, Below.refl _ _⟩
    · cases e
  · have hq := Lib.run_eql_slice_nil (P := Try.prog) w 26 _ (some ⟨b, off, none⟩) ns.length cap 0 0 Try.underlying26
    go_enter Try.func149, Try.ntmps149
    go_wp2_with (at_builtin; refine wpList_append_own _ rfl _ _ 26 rfl w.heap.size 45 i0 _ 4 32 Try.underlying26 hi hz0 hz1 hz2 rfl (by decide) _ 0 _ rfl HO.out ⟨b, off, none⟩ ns.length cap (cellsN ns) rfl (cellsN_len ns) ?c1 (cells_one ns) ?c3 ?c4 ?c5 ?_)
    case c1 => exact (HR.out.later HB0.out).cells
    case c3 => unfold maxLen; omega
    case c4 => omega
    case c5 => simp
    · intro v' w2 hown' hgrow _
      have HO2 : Hid (OwnN w.heap.size w2 v' ns) := by
        show OwnN w.heap.size w2 v' ns
        have e : cellsN [] ++ cellsN ns = cellsN ns := rfl
        rw [e] at hown'; unfold OwnN; simpa using hown'
      have HB2 : Hid (Below w.heap.size w w2) := HB0.out.grown hgrow (by simp) (fun k hk => by simp [Value.ownBlock] at hk; omega)
      clear hown' hgrow
      obtain ⟨a2, cap2, rfl, _, _⟩ := HO2.out.row
      go_wp2
      go_ret
      exact ⟨_, rfl, HO2.out, HB2.out⟩

theorem asIs_any (a : Option Addr) (cap : Nat) (ns : List Nd) (w : World) (hl : ns.length ≤ 1048576) (ha : AddrN a cap) (hr : RowN w.heap.size w a ns) :
    Calls Try.prog 110 #[.agg #[.slice a ns.length cap]] w fun e w' => ∃ v, e = .returned (.tuple #[.agg #[v], .int .i64 (-1)]) ∧ OwnN w.heap.size w' v ns ∧ Below w.heap.size w w' := by
  have hb0 : Below w.heap.size w ((w.alloc (.cells #[.slice a ns.length cap] 28)).alloc (.cells #[.slice none 0 0] 28)) := ((Below.refl _ _).alloc (Nat.le_refl _) _).alloc (by simp) _
  have hs0 : ((w.alloc (.cells #[.slice a ns.length cap] 28)).alloc (.cells #[.slice none 0 0] 28)).heap.size = w.heap.size + 2 := by simp
  have hA0 : ((w.alloc (.cells #[.slice a ns.length cap] 28)).alloc (.cells #[.slice none 0 0] 28)).heap[w.heap.size]? = some (.cells #[.slice a ns.length cap] 28 (0, 0)) := (heap_alloc_old _ _ (by simp)).trans (heap_alloc_new w _)
  have hr0 : ((w.alloc (.cells #[.slice a ns.length cap] 28)).alloc (.cells #[.slice none 0 0] 28)).heap[w.heap.size + 1]? = some (.cells #[.slice none 0 0] 28 (0, 0)) := by
    have := heap_alloc_new (w.alloc (.cells #[.slice a ns.length cap] 28)) (.cells #[.slice none 0 0] 28)
    simpa using this
  have c0 : ((w.alloc (.cells #[.slice a ns.length cap] 28)).alloc (.cells #[.slice none 0 0] 28)).cell? ⟨w.heap.size, 0, none⟩ = some (.slice a ns.length cap) := (cell_of_row _ _ 0 _ _ _ hA0).trans rfl
  have HR : Hid (RowN w.heap.size w a ns) := hr
  have HA : Hid (AddrN a cap) := ha
  clear hr ha
  go_enter Try.func110, Try.ntmps110
  go_wp2_with fail
  generalize (w.alloc (.cells #[.slice a ns.length cap] 28)).alloc (.cells #[.slice none 0 0] 28) = w0 at hb0 hs0 hA0 hr0 c0 ⊢
  refine (clone_any a cap ns w0 hl HA.out (HR.out.grown hb0)).mono ?_
  rintro e w1 ⟨v, rfl, ho1, hb1⟩
  obtain ⟨a1, cap1, rfl, _, _⟩ := ho1.row
  have hR1 := (hb1.block (w.heap.size + 1) (by omega)).trans hr0
  have r0 : w1.cell? ⟨w.heap.size + 1, 0, none⟩ = some (.slice none 0 0) := (cell_of_row _ _ 0 _ _ _ hR1).trans rfl
  have f0 : w1.frozen? ⟨w.heap.size + 1, 0, none⟩ = false := frozen_of_row _ _ 0 _ _ hR1
  have HBL : Hid ((w1.setCell ⟨w.heap.size + 1, 0, none⟩ (.slice a1 (ns).length cap1)).heap[w.heap.size + 1]? = some (.cells #[.slice a1 (ns).length cap1] 28 (0, 0))) := (heap_setCell_same _ _ 0 _ _ _ hR1).trans rfl
  have HO1 : Hid (OwnN w.heap.size (w1.setCell ⟨w.heap.size + 1, 0, none⟩ (.slice a1 (ns).length cap1)) (.slice a1 (ns).length cap1) (ns)) := OwnN.base (ownsRow_setCell_below ho1 (show w.heap.size + 1 < w0.heap.size by omega) _) (by omega)
  have HB1 : Hid (Below w.heap.size w (w1.setCell ⟨w.heap.size + 1, 0, none⟩ (.slice a1 (ns).length cap1))) := (hb0.trans (hb1.mono (by omega))).setCell (show w.heap.size ≤ w.heap.size + 1 by omega) _
  clear ho1 hb1 hR1 hA0 hr0 hb0
  go_wp2
  refine bodyPost_ret (res_cell2 rfl _ _ (w.heap.size + 1) 28 #[.slice a1 (ns).length cap1] (0, 0) _ rfl ?_ Try.underlying28 rfl arenaSize) rfl ?_
  · exact HBL.out
  · exact ⟨_, rfl, HO1.out, HB1.out⟩

theorem hasOne_any (kind : Int) (w : World) : Calls Try.prog 195 #[.int .i64 kind] w fun e w' => e = .returned (.bool (oneK kind)) ∧ w = w' := by
  by_cases h3 : kind = 3
  · have e : oneK kind = true := by unfold oneK; simp [h3]
    have h3' : (kind == 3) = true := by simp [h3]
    rw [e]
    clear e h3
    go_enter Try.func195, Try.ntmps195
    go_wp2
    go_ret
    exact ⟨rfl, rfl⟩
  · have h3' : (kind == 3) = false := by simp [h3]
    have e : oneK kind = (kind == 6) := by unfold oneK; rw [decide_eq_false h3]; exact Bool.eq_iff_iff.2 (by simp)
    rw [e]
    clear e h3
    go_enter Try.func195, Try.ntmps195
    go_wp2
    go_ret
    exact ⟨rfl, rfl⟩
/-- A kind that is made of any two. -/
def anyK (kind : Int) : Bool := decide (kind ≠ 1) && decide (kind ≠ 7)
theorem nodeSize' : (Try.prog.info? 45).map (·.size) = some 4 := by kernel_rfl
set_option maxHeartbeats 400000 in
theorem nodeOf_any (kind x y : Int) (w : World) : Calls Try.prog 185 #[.int .i64 kind, .int .i64 x, .int .i64 y] w fun e w' => e = .returned (.agg #[.int .i64 (mkNd kind x y).k, .int .i64 (mkNd kind x y).n, .int .i64 (mkNd kind x y).a, .int .i64 (mkNd kind x y).b]) ∧ Below w.heap.size w w' := by
  have hb0 : Below w.heap.size w (w.alloc (.cells #[.int .i64 0, .int .i64 0, .int .i64 0, .int .i64 0] 45)) := (Below.refl _ _).alloc (Nat.le_refl _) _
  have hN1 := heap_alloc_new w (.cells #[.int .i64 0, .int .i64 0, .int .i64 0, .int .i64 0] 45)
  cases ho : oneK kind with
  | true =>
    have em : mkNd kind x y = ⟨kind, 0, x, 0⟩ := by unfold mkNd; rw [if_pos ho]
    rw [em]
    have HO : Hid (oneK kind = true) := ho
    clear ho em
    go_enter Try.func185, Try.ntmps185
    go_wp2_with fail
    generalize w.alloc (.cells #[.int .i64 0, .int .i64 0, .int .i64 0, .int .i64 0] 45) = w1 at hb0 hN1 ⊢
    refine (hasOne_any kind _).mono ?_
    rintro e w2 ⟨rfl, rfl⟩
    rw [HO.out]
    have n0 : w1.cell? ⟨w.heap.size, 0, none⟩ = some (.int .i64 0) := (cell_of_row w1 _ 0 _ _ _ hN1).trans rfl
    have n1 : w1.cell? ⟨w.heap.size, 1, none⟩ = some (.int .i64 0) := (cell_of_row w1 _ 1 _ _ _ hN1).trans rfl
    have n2 : w1.cell? ⟨w.heap.size, 2, none⟩ = some (.int .i64 0) := (cell_of_row w1 _ 2 _ _ _ hN1).trans rfl
    have n3 : w1.cell? ⟨w.heap.size, 3, none⟩ = some (.int .i64 0) := (cell_of_row w1 _ 3 _ _ _ hN1).trans rfl
    have m0 : w1.frozen? ⟨w.heap.size, 0, none⟩ = false := frozen_of_row w1 _ 0 _ _ hN1
    have m1 : w1.frozen? ⟨w.heap.size, 1, none⟩ = false := frozen_of_row w1 _ 1 _ _ hN1
    have m2 : w1.frozen? ⟨w.heap.size, 2, none⟩ = false := frozen_of_row w1 _ 2 _ _ hN1
    have m3 : w1.frozen? ⟨w.heap.size, 3, none⟩ = false := frozen_of_row w1 _ 3 _ _ hN1
    have HBL : Hid _ := store4 hN1 (.int .i64 kind) (.int .i64 0) (.int .i64 x) (.int .i64 0)
    have HB : Hid _ := below4 (g := w.heap.size) hb0 (Nat.le_refl _) (.int .i64 kind) (.int .i64 0) (.int .i64 x) (.int .i64 0)
    clear hb0 hN1 HO
    go_wp2
    refine bodyPost_ret (results_cell_row rfl _ _ w.heap.size 45 #[.int .i64 kind, .int .i64 0, .int .i64 x, .int .i64 0] (0, 0) _ rfl ?_ Try.underlying45 rfl nodeSize') rfl ?_
    · exact HBL.out
    · exact ⟨rfl, HB.out⟩
  | false =>
    have em : mkNd kind x y = ⟨kind, 0, x, y⟩ := by unfold mkNd; rw [if_neg (by simp [ho])]
    rw [em]
    have HO : Hid (oneK kind = false) := ho
    clear ho em
    go_enter Try.func185, Try.ntmps185
    go_wp2_with fail
    generalize w.alloc (.cells #[.int .i64 0, .int .i64 0, .int .i64 0, .int .i64 0] 45) = w1 at hb0 hN1 ⊢
    refine (hasOne_any kind _).mono ?_
    rintro e w2 ⟨rfl, rfl⟩
    rw [HO.out]
    have n0 : w1.cell? ⟨w.heap.size, 0, none⟩ = some (.int .i64 0) := (cell_of_row w1 _ 0 _ _ _ hN1).trans rfl
    have n1 : w1.cell? ⟨w.heap.size, 1, none⟩ = some (.int .i64 0) := (cell_of_row w1 _ 1 _ _ _ hN1).trans rfl
    have n2 : w1.cell? ⟨w.heap.size, 2, none⟩ = some (.int .i64 0) := (cell_of_row w1 _ 2 _ _ _ hN1).trans rfl
    have n3 : w1.cell? ⟨w.heap.size, 3, none⟩ = some (.int .i64 0) := (cell_of_row w1 _ 3 _ _ _ hN1).trans rfl
    have m0 : w1.frozen? ⟨w.heap.size, 0, none⟩ = false := frozen_of_row w1 _ 0 _ _ hN1
    have m1 : w1.frozen? ⟨w.heap.size, 1, none⟩ = false := frozen_of_row w1 _ 1 _ _ hN1
    have m2 : w1.frozen? ⟨w.heap.size, 2, none⟩ = false := frozen_of_row w1 _ 2 _ _ hN1
    have m3 : w1.frozen? ⟨w.heap.size, 3, none⟩ = false := frozen_of_row w1 _ 3 _ _ hN1
    have HBL : Hid _ := store4 hN1 (.int .i64 kind) (.int .i64 0) (.int .i64 x) (.int .i64 y)
    have HB : Hid _ := below4 (g := w.heap.size) hb0 (Nat.le_refl _) (.int .i64 kind) (.int .i64 0) (.int .i64 x) (.int .i64 y)
    clear hb0 hN1 HO
    go_wp2
    refine bodyPost_ret (results_cell_row rfl _ _ w.heap.size 45 #[.int .i64 kind, .int .i64 0, .int .i64 x, .int .i64 y] (0, 0) _ rfl ?_ Try.underlying45 rfl nodeSize') rfl ?_
    · exact HBL.out
    · exact ⟨rfl, HB.out⟩

theorem makeA_len {ns : List Nd} {kind x y : Int} (h : ns.length ≤ 1048576) : (makeA ns kind x y).length ≤ 1048577 := by
  unfold makeA
  split
  · omega
  · exact putA_len h
end Go.Proofs.Ytffnadnndmmliaa

namespace Go.Proofs.Ytffnadnndmmliaa
open Go.RowKit Go.Maps
set_option linter.unusedVariables false
theorem own_map_ne {B gm n : Nat} {w : World} {v : Value} {ns : List Nd} {D : DataW Unit} (h : OwnN B w v ns) (hm : w.ownsMap Try.prog 45 (plainElem Try.prog 3) gm n D) : v.ownBlock ≠ some gm := by
  intro e
  obtain ⟨es, clock, hg, _⟩ := hm
  rcases h.2 with ⟨rfl, _⟩ | ⟨gv, cap, cur, rfl, hb, hh, _⟩
  · cases e
  · simp [Value.ownBlock] at e
    rw [e, hg] at hh
    simp at hh
set_option maxHeartbeats 1600000 in
set_option maxRecDepth 20000 in
theorem builderOf_any (a : Option Addr) (cap : Nat) (ns : List Nd) (w : World) (hl : ns.length ≤ 1048576) (hf : ∀ y ∈ ns, y.Fits) (ha : AddrN a cap) (hr : RowN w.heap.size w a ns) :
    Calls Try.prog 79 #[.agg #[.slice a ns.length cap]] w fun e w' => ∃ gb gm v, e = .returned (.pointer (some ⟨gb, 0, none⟩)) ∧ BldAt w.heap.size gb gm ns.length ns.length ns v w' ∧ Below w.heap.size w w' := by
  have HR : Hid (RowN w.heap.size w a ns) := hr
  have HA : Hid (AddrN a cap) := ha
  have HF : Hid (∀ y ∈ ns, y.Fits) := hf
  clear hr ha hf
  have hb0 : Below w.heap.size w (w.alloc (.cells #[.slice a ns.length cap] 28)) := (Below.refl _ _).alloc (Nat.le_refl _) _
  have hA0 := heap_alloc_new w (.cells #[.slice a ns.length cap] 28)
  go_enter Try.func79, Try.ntmps79
  go_wp2_with fail
  generalize w.alloc (.cells #[.slice a ns.length cap] 28) = w0 at hb0 hA0 ⊢
  refine wp_region_list (I := fun w' => Below w.heap.size w w' ∧ w'.heap[w.heap.size]? = some (.cells #[.slice a ns.length cap] 28 (0, 0))) (R := fun _ w' w'' => Below w'.heap.size w' w'')
    (fs := #[⟨[3], fun vs _ => vs = [.pointer (some ⟨w.heap.size, 0, none⟩)]⟩, ⟨[4], fun vs _ => vs = [.slice a ns.length cap]⟩, ⟨[5], fun vs w' => ∃ v, vs = [v] ∧ OwnN w.heap.size w' v ns⟩, ⟨[6], fun vs _ => vs = [.pointer (some ⟨w.heap.size, 0, none⟩)]⟩, ⟨[7], fun vs _ => vs = [.slice a ns.length cap]⟩, ⟨[8], fun vs w' => ∃ gm D, vs = [.map (some gm)] ∧ w.heap.size ≤ gm ∧ w'.ownsMap Try.prog 45 (plainElem Try.prog 3) gm ns.length D ∧ PlacesD ns D⟩, ⟨[9], fun vs _ => vs = [.pointer (some ⟨w.heap.size, 0, none⟩)]⟩, ⟨[10], fun vs _ => vs = [.slice a ns.length cap]⟩, ⟨[11], fun vs _ => vs = [.int .i64 (ns.length : Int)]⟩, ⟨[12], fun vs w' => ∃ v gm D, vs = [.agg #[v, .map (some gm), .int .i64 (ns.length : Int), .int .i64 3000]] ∧ OwnN w.heap.size w' v ns ∧ w.heap.size ≤ gm ∧ w'.ownsMap Try.prog 45 (plainElem Try.prog 3) gm ns.length D ∧ PlacesD ns D⟩, ⟨[13], fun vs w' => ∃ gb gm v, vs = [.pointer (some ⟨gb, 0, none⟩)] ∧ BldAt w.heap.size gb gm ns.length ns.length ns v w'⟩, ⟨[2], fun vs w' => ∃ gb gm v, vs = [.pointer (some ⟨gb, 0, none⟩)] ∧ BldAt w.heap.size gb gm ns.length ns.length ns v w'⟩])
    (by kernel_rfl) 14 rfl (by kernel_rfl) ?stab ?istab ?start ?exec ?fin
  case stab =>
    intro k i f hki hf
    have hk : k < 12 := (Array.getElem?_eq_some_iff.1 hf).1
    rcases (show k = 0 ∨ k = 1 ∨ k = 2 ∨ k = 3 ∨ k = 4 ∨ k = 5 ∨ k = 6 ∨ k = 7 ∨ k = 8 ∨ k = 9 ∨ k = 10 ∨ k = 11 by omega) with rfl | rfl | rfl | rfl | rfl | rfl | rfl | rfl | rfl | rfl | rfl | rfl
    all_goals
      simp only [List.getElem?_toArray, List.getElem?_cons_succ, List.getElem?_cons_zero, Option.some.injEq] at hf
      subst hf
    · exact fun vs _ _ _ h => h
    · exact fun vs _ _ _ h => h
    · exact fun vs w' w'' hR ⟨v, h1, h2⟩ => ⟨v, h1, h2.later hR⟩
    · exact fun vs _ _ _ h => h
    · exact fun vs _ _ _ h => h
    · exact fun vs w' w'' hR ⟨gm, D, h1, h2, h3, h4⟩ => ⟨gm, D, h1, h2, h3.kept (grown_ofB hR) (by simp), h4⟩
    · exact fun vs _ _ _ h => h
    · exact fun vs _ _ _ h => h
    · exact fun vs _ _ _ h => h
    · exact fun vs w' w'' hR ⟨v, gm, D, h1, h2, h3, h4, h5⟩ => ⟨v, gm, D, h1, h2.later hR, h3, h4.kept (grown_ofB hR) (by simp), h5⟩
    · exact fun vs w' w'' hR ⟨gb, gm, v, h1, h2⟩ => ⟨gb, gm, v, h1, h2.later hR⟩
    · exact fun vs w' w'' hR ⟨gb, gm, v, h1, h2⟩ => ⟨gb, gm, v, h1, h2.later hR⟩
  case istab => exact fun i w' w'' hR h => ⟨h.1.trans (hR.mono h.1.size), (hR.block _ (Array.getElem?_eq_some_iff.1 h.2).1).trans h.2⟩
  case start => exact ⟨hb0.drew, hA0⟩
  case exec =>
    intro i o f hi hf a_1 wq hsz hI hold hpre
    have hi11 : i < 12 := (Array.getElem?_eq_some_iff.1 hi).1
    rcases (show i = 0 ∨ i = 1 ∨ i = 2 ∨ i = 3 ∨ i = 4 ∨ i = 5 ∨ i = 6 ∨ i = 7 ∨ i = 8 ∨ i = 9 ∨ i = 10 ∨ i = 11 by omega) with rfl | rfl | rfl | rfl | rfl | rfl | rfl | rfl | rfl | rfl | rfl | rfl
    all_goals
      simp only [List.getElem?_toArray, List.getElem?_cons_succ, List.getElem?_cons_zero, Option.some.injEq] at hi hf
      subst hi hf
    · have g1 : a_1.tmps.getD 1 undef = .pointer (some ⟨w.heap.size, 0, none⟩) := hold 1 (free_spec (by kernel_rfl))
      refine exec_same (v := .pointer (some ⟨w.heap.size, 0, none⟩)) ?_ ⟨_, rfl, (Below.refl _ _), at_one (by omega) rfl⟩
      simp [go_sem, Act.eval, g1]
    · have g3 : a_1.tmps.getD 3 undef = .pointer (some ⟨w.heap.size, 0, none⟩) := by have := of_one (hpre ⟨0, .data⟩ (by simp) rfl _ rfl); simpa using this
      have hc : wq.cell? ⟨w.heap.size, 0, none⟩ = some (.slice a ns.length cap) := (cell_of_row wq _ 0 _ _ _ hI.2).trans rfl
      refine exec_same (v := .slice a ns.length cap) ?_ ⟨_, rfl, (Below.refl _ _), at_one (by omega) rfl⟩
      simp [go_sem, Act.eval, g3, hc]
    · have g4 : a_1.tmps.getD 4 undef = .slice a ns.length cap := by have := of_one (hpre ⟨1, .data⟩ (by simp) rfl _ rfl); simpa using this
      refine exec_call (f := 149) (args := #[.slice a ns.length cap]) (by simp [go_sem, Act.eval, g4]) ?_
      refine (clone_any a cap ns wq hl HA.out (HR.out.grown hI.1)).mono ?_
      rintro e w2 ⟨v', rfl, ho, hb⟩
      exact ⟨_, rfl, _, rfl, hb, at_one (by omega) ⟨v', rfl, OwnN.base ho hI.1.size⟩⟩
    · have g1 : a_1.tmps.getD 1 undef = .pointer (some ⟨w.heap.size, 0, none⟩) := hold 1 (free_spec (by kernel_rfl))
      refine exec_same (v := .pointer (some ⟨w.heap.size, 0, none⟩)) ?_ ⟨_, rfl, (Below.refl _ _), at_one (by omega) rfl⟩
      simp [go_sem, Act.eval, g1]
    · have g6 : a_1.tmps.getD 6 undef = .pointer (some ⟨w.heap.size, 0, none⟩) := by have := of_one (hpre ⟨3, .data⟩ (by simp) rfl _ rfl); simpa using this
      have hc : wq.cell? ⟨w.heap.size, 0, none⟩ = some (.slice a ns.length cap) := (cell_of_row wq _ 0 _ _ _ hI.2).trans rfl
      refine exec_same (v := .slice a ns.length cap) ?_ ⟨_, rfl, (Below.refl _ _), at_one (by omega) rfl⟩
      simp [go_sem, Act.eval, g6, hc]
    · have g7 : a_1.tmps.getD 7 undef = .slice a ns.length cap := by have := of_one (hpre ⟨4, .data⟩ (by simp) rfl _ rfl); simpa using this
      refine exec_call (f := 97) (args := #[.slice a ns.length cap]) (by simp [go_sem, Act.eval, g7]) ?_
      refine (placesOf_any a cap ns wq hl HF.out (HR.out.grown hI.1)).mono ?_
      rintro e w2 ⟨D, rfl, hm, hpd, hb⟩
      exact ⟨_, rfl, _, rfl, hb, at_one (by omega) ⟨_, D, rfl, hI.1.size, hm, hpd⟩⟩
    · have g1 : a_1.tmps.getD 1 undef = .pointer (some ⟨w.heap.size, 0, none⟩) := hold 1 (free_spec (by kernel_rfl))
      refine exec_same (v := .pointer (some ⟨w.heap.size, 0, none⟩)) ?_ ⟨_, rfl, (Below.refl _ _), at_one (by omega) rfl⟩
      simp [go_sem, Act.eval, g1]
    · have g9 : a_1.tmps.getD 9 undef = .pointer (some ⟨w.heap.size, 0, none⟩) := by have := of_one (hpre ⟨6, .data⟩ (by simp) rfl _ rfl); simpa using this
      have hc : wq.cell? ⟨w.heap.size, 0, none⟩ = some (.slice a ns.length cap) := (cell_of_row wq _ 0 _ _ _ hI.2).trans rfl
      refine exec_same (v := .slice a ns.length cap) ?_ ⟨_, rfl, (Below.refl _ _), at_one (by omega) rfl⟩
      simp [go_sem, Act.eval, g9, hc]
    · have g10 : a_1.tmps.getD 10 undef = .slice a ns.length cap := by have := of_one (hpre ⟨7, .data⟩ (by simp) rfl _ rfl); simpa using this
      refine exec_same (v := .int .i64 (ns.length : Int)) ?_ ⟨_, rfl, (Below.refl _ _), at_one (by omega) rfl⟩
      simp [go_sem, Act.eval, g10]
    · obtain ⟨v, h5, ho⟩ := of_one (hpre ⟨2, .data⟩ (by simp) rfl _ rfl)
      obtain ⟨gm, D, h8, hgm, hm, hpd⟩ := of_one (hpre ⟨5, .data⟩ (by simp) rfl _ rfl)
      have g5 : a_1.tmps.getD 5 undef = v := by simpa using h5
      have g8 : a_1.tmps.getD 8 undef = .map (some gm) := by simpa using h8
      have g11 : a_1.tmps.getD 11 undef = .int .i64 (ns.length : Int) := by have := of_one (hpre ⟨8, .data⟩ (by simp) rfl _ rfl); simpa using this
      obtain ⟨av, cv, rfl, -, -⟩ := ho.row
      have e5 : a_1.tmps[5]?.getD undef = .slice av ns.length cv := by simpa using g5
      have e8 : a_1.tmps[8]?.getD undef = .map (some gm) := by simpa using g8
      have e11 : a_1.tmps[11]?.getD undef = .int .i64 (ns.length : Int) := by simpa using g11
      refine exec_same (v := .agg #[.slice av ns.length cv, .map (some gm), .int .i64 (ns.length : Int), .int .i64 3000]) ?_ ⟨_, rfl, (Below.refl _ _), at_one (by omega) ⟨_, gm, D, rfl, ho, hgm, hm, hpd⟩⟩
      simp [go_sem, e5, e8, e11]
    · obtain ⟨v, gm, D, h12, ho, hgm, hm, hpd⟩ := of_one (hpre ⟨9, .data⟩ (by simp) rfl _ rfl)
      have g12 : a_1.tmps.getD 12 undef = .agg #[v, .map (some gm), .int .i64 (ns.length : Int), .int .i64 3000] := by simpa using h12
      have hbx : Below wq.heap.size wq (wq.alloc (.cells #[v, .map (some gm), .int .i64 (ns.length : Int), .int .i64 3000] 150)) := (Below.refl _ _).alloc (Nat.le_refl _) _
      have hmlt := hm.lt
      have hws := hI.1.size
      refine exec_made (v := .pointer (some ⟨wq.heap.size, 0, none⟩)) (w' := wq.alloc (.cells #[v, .map (some gm), .int .i64 (ns.length : Int), .int .i64 3000] 150)) ?_ ⟨_, rfl, hbx, at_one (by omega) ⟨wq.heap.size, gm, v, rfl, D, heap_alloc_new wq _, ho.later hbx, hm.kept (grown_ofB hbx) (by simp), hpd, hws, hgm, by omega, fun e => by have := (ho.lt _ e).2; omega, own_map_ne ho hm⟩⟩
      obtain ⟨av, cv, rfl, -, -⟩ := ho.row
      simp [go_sem, Act.eval, g12]
    · obtain ⟨gb, gm, v, h13, hbld⟩ := of_one (hpre ⟨10, .data⟩ (by simp) rfl _ rfl)
      have g13 : a_1.tmps.getD 13 undef = .pointer (some ⟨gb, 0, none⟩) := by simpa using h13
      refine exec_same (v := .pointer (some ⟨gb, 0, none⟩)) ?_ ⟨_, rfl, (Below.refl _ _), at_one (by omega) ⟨gb, gm, v, rfl, hbld⟩⟩
      simp [go_sem, Act.eval, g13]
  case fin =>
    intro zs w5 hzl hI hF
    obtain ⟨z0, z1, z2, z3, z4, z5, z6, z7, z8, z9, z10, z11, rfl⟩ := list12 zs hzl
    obtain ⟨gb, gm, v, hst, hbld⟩ := of_one (hF 11 _ rfl)
    simp only [List.cons.injEq, and_true] at hst
    have hs2 := last_is (i := 11) (v := z11) (n := 14) hst (by kernel_rfl) rfl rfl (by omega)
    clear hst
    subst hs2
    clear hF
    simp only [putAll, Act.put, List.setIfInBounds_toArray, List.set_cons_succ, List.set_cons_zero]
    have HE : Hid _ := And.intro hbld hI.1
    clear hbld hI
    go_wp2
    go_ret
    exact ⟨gb, gm, v, rfl, HE.out.1, HE.out.2⟩

theorem OwnN.take {B : Nat} {w : World} {a : Option Addr} {cp : Nat} {ns : List Nd} {f : Nat} (h : OwnN B w (.slice a ns.length cp) ns) (hf : f ≤ ns.length) : OwnN B w (.slice a (ns.take f).length cp) (ns.take f) := by
  have hl : (ns.take f).length = f := by rw [List.length_take]; omega
  have hc : cellsN (ns.take f) = (cellsN ns).take (f * 4) := by
    have e : ns = ns.take f ++ ns.drop f := (List.take_append_drop f ns).symm
    have hh : (cellsN (ns.take f)).length = f * 4 := by rw [cellsN_len, hl]
    conv => rhs; rw [e, cellsN_append]
    rw [List.take_append_of_le_length (by omega), ← hh, List.take_length]
  unfold OwnN
  rw [hl]
  refine ⟨by rw [cellsN_len, hl], ?_⟩
  rcases h.2 with ⟨e, h0⟩ | ⟨g, cap, cur, e, hg, hh, h1, h2, h3, h4⟩
  · left
    obtain ⟨rfl, h5, rfl⟩ : a = none ∧ ns.length = 0 ∧ cp = 0 := by simpa using e
    exact ⟨by rw [show f = 0 by omega], by omega⟩
  · right
    obtain ⟨rfl, rfl⟩ : a = some ⟨g, 0, none⟩ ∧ cp = cap := by simpa using e
    refine ⟨g, cp, cur, rfl, hg, hh, by omega, h2, h3, ?_⟩
    rw [hc, ← h4, List.take_take, Nat.min_eq_left (by omega)]

theorem clip_any (a : Option Addr) (n cap : Nat) (w : World) (ha : AddrN a cap) (hn : n ≤ cap) (hm : cap ≤ maxLen) (h0 : a = none → n = 0) :
    Calls Try.prog 153 #[.slice a n cap] w fun e w' => e = .returned (.slice a n n) ∧ w = w' := by
  rcases ha with ⟨rfl, rfl⟩ | ⟨b, off, rfl⟩
  · obtain rfl := h0 rfl
    go_enter Try.func153, Try.ntmps153
    go_wp2
    go_ret
    exact ⟨rfl, rfl⟩
  · go_enter Try.func153, Try.ntmps153
    go_wp2
    go_ret
    exact ⟨rfl, rfl⟩
end Go.Proofs.Ytffnadnndmmliaa
