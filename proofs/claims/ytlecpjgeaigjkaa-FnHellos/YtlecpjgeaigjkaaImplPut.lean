/- The contracts of chapter 3's Put, the program's, and of the library's Index and Clone over nodes. -/
import Derived.Test.YtlecpjgeaigjkaaImplOk
import Derived.Test.YtlecpjgeaigjkaaLawArena2
import Derived.Test.YtlecpjgeaigjkaaPlainPlaces
import Derived.WalkKit
import Derived.WalkLawsBesides
import Derived.WalkSpells
import Derived.Laws.OwnMore
import Derived.Laws.MakeOwn
import Derived.Laws.AppendOwnNone
import Derived.Laws.Rows
import Derived.Laws.ResultCell
import Derived.Deep.QuietTactic
import Derived.BigQuiet
import Derived.Deep.RegionLaw
import Derived.OwnWalk
import Derived.BigRegion
import Derived.OneCell
import Derived.Deep.AppendLies
import Derived.Test.YtlecpjgeaigjkaaTermPut2
import Derived.Test.YtlecpjgeaigjkaaMakeIs
import Derived.Test.YtlecpjgeaigjkaaArgArena
import Derived.Lib.Bytealg
namespace Go.Proofs.Ytlecpjgeaigjkaa
open Go.RowKit
set_option linter.unusedVariables false

/-- A copy into room that was made for one more. -/
theorem made_copy (a : Option Addr) (cap : Nat) (ns : List Nd) (W : World) (hl : ns.length ≤ 1048576) (ha : AddrN a cap) (hr : RowN W.heap.size W a ns) :
    ∃ w2 w3, (Instr.makeSlice 28 (.int .i64 0) (.int .i64 ((ns.length : Int) + 1))).run Try.prog W = .ok (.slice (some ⟨W.heap.size, 0, none⟩) 0 (ns.length + 1)) w2 ∧
      (∀ ty, (Builtin.append_ #[28, 28] ty #[.slice (some ⟨W.heap.size, 0, none⟩) 0 (ns.length + 1), .slice a ns.length cap]).run Try.prog w2 = .ok (.slice (some ⟨W.heap.size, 0, none⟩) ns.length (ns.length + 1)) w3) ∧
      OwnN W.heap.size w3 (.slice (some ⟨W.heap.size, 0, none⟩) ns.length (ns.length + 1)) ns ∧ Below W.heap.size W w2 ∧ Below W.heap.size W w3 := by
  obtain ⟨i0, hi, hz0, hz1, hz2⟩ := info_parts infoNode
  obtain ⟨w2, h2, ho2, hg2⟩ := run_make_own (P := Try.prog) W W.heap.size 28 110 i0 _ 4 Try.underlying28 hi hz0 hz1 .i64 .i64 (ns.length + 1) (by rw [hz2]; omega) (by unfold maxLen; omega) (Nat.le_refl _)
  have hb2 : Below W.heap.size W w2 := (Below.refl _ _).grown hg2 (Nat.le_refl _) (by simp)
  rw [show ((ns.length + 1 : Nat) : Int) = (ns.length : Int) + 1 by omega] at h2
  rcases ha with ⟨rfl, rfl⟩ | ⟨b, off, rfl⟩
  · rcases hr with h0 | ⟨_, _, e, _⟩
    · subst h0
      exact ⟨w2, w2, h2, fun ty => run_append_owned_none (P := Try.prog) w2 W.heap.size _ ty 110 i0 4 Try.underlying28 hi _ 0 [] ho2, ho2, hb2, hb2⟩
    · cases e
  · have hf := fun ty => run_append_fits (P := Try.prog) w2 W.heap.size 28 ty 110 i0 4 Try.underlying28 hi hz1 W.heap.size 0 (ns.length + 1) [] ho2 ⟨b, off, none⟩ ns.length cap (cellsN ns) (cellsN_len ns) (hr.later hb2).cells (cells_one ns) (by omega)
    obtain ⟨w3, h3, ho3, hg3⟩ := hf 0
    refine ⟨w2, w3, h2, fun ty => ?_, ?_, hb2, hb2.grown hg3 hb2.size (fun k hk => by cases hk; exact Nat.le_refl _)⟩
    · have := h3
      rw [Nat.zero_add] at this
      exact this
    · unfold OwnN
      simpa using ho3

/-- An append whose run is known, inside a region that draws. -/
theorem step_append_run {P : Program} {ops : Array Oper} {o : Oper} {a : Act} {w w' : World} {v : Value} {K : Act → World → Prop} {Q : Exit → Act → World → Prop} {E : Prop} (hgd : o.guard = none) (s x : Operand) (t u : TypeId)
    (ho : o.op = .call { callee := .builtin .append, args := #[s, x], argTypes := #[t, u] }) (hrun : (Builtin.append_ #[t, u] o.type #[a.eval s, a.eval x]).run P w = .ok v w') (h : K (a.put o.dst v) w') :
    if Region.wanted o (yielded ops a.tmps) = true then Oper.wp P o a w K Q else E := by
  have hw : Region.wanted o (yielded ops a.tmps) = true := by simp [Region.wanted, hgd]
  rw [if_pos hw]
  unfold Oper.wp
  simp [execOp, ho, resolve, invoke, builtin, hrun, Result.andThen]
  exact h
end Go.Proofs.Ytlecpjgeaigjkaa

namespace Go.Proofs.Ytlecpjgeaigjkaa
open Go.RowKit
set_option linter.unusedVariables false

theorem putK_new {ns : List Nd} {x : Nd} : putK ns x = (ns.length : Int) ↔ (nodeB x ns.length = true ∧ findN ns x = -1 ∧ ns.length < 3000) := by
  unfold putK
  have hr := findN_range ns x
  split
  · rename_i h
    split
    · rename_i h2; exact ⟨fun _ => ⟨h, h2⟩, fun _ => rfl⟩
    · rename_i h2; constructor
      · intro e; omega
      · intro e; exact absurd e.2 h2
  · rename_i h; constructor
    · intro e; omega
    · intro e; exact absurd e.1 h
theorem putA_new {ns : List Nd} {x : Nd} (h : putK ns x = (ns.length : Int)) : putA ns x = ns ++ [x] := by
  unfold putA; rw [if_pos (putK_new.1 h)]
theorem putA_old {ns : List Nd} {x : Nd} (h : putK ns x ≠ (ns.length : Int)) : putA ns x = ns := by
  unfold putA; rw [if_neg (fun e => h (putK_new.2 e))]

end Go.Proofs.Ytlecpjgeaigjkaa

namespace Go.Proofs.Ytlecpjgeaigjkaa
open Go.RowKit
set_option linter.unusedVariables false

theorem putK_neg {ns : List Nd} {x : Nd} (h : putK ns x < 0) : putK ns x = -1 := by
  unfold putK at h ⊢
  split at h
  · split at h
    · omega
    · rename_i h1 h2; rw [if_pos h1, if_neg h2]; have := findN_range ns x; omega
  · rename_i h1; rw [if_neg h1]
theorem putA_neg {ns : List Nd} {x : Nd} (h : putK ns x < 0) : putA ns x = ns := putA_old (by omega)
/-- The node of a kind. -/
def mkNd (kind x y : Int) : Nd := ⟨kind, 0, x, if oneK kind = true then 0 else y⟩
def makeA (ns : List Nd) (kind x y : Int) : List Nd := if kind = 1 ∨ kind = 7 then ns else putA ns (mkNd kind x y)
def makeK (ns : List Nd) (kind x y : Int) : Int := if kind = 1 ∨ kind = 7 then -1 else putK ns (mkNd kind x y)
theorem makeK_neg {ns : List Nd} {kind x y : Int} (h : makeK ns kind x y < 0) : makeK ns kind x y = -1 := by
  unfold makeK at h ⊢
  split
  · rfl
  · rename_i h1; rw [if_neg h1] at h; exact putK_neg h
theorem makeA_neg {ns : List Nd} {kind x y : Int} (h : makeK ns kind x y < 0) : makeA ns kind x y = ns := by
  unfold makeK at h
  unfold makeA
  split
  · rfl
  · rename_i h1; rw [if_neg h1] at h; exact putA_neg h
theorem mkNd_bad {kind x y : Int} {e : Int} (h1 : kind ≠ 1) (h : x < 0 ∨ (oneK kind = false ∧ y < 0)) : nodeB (mkNd kind x y) e = false := by
  unfold nodeB mkNd
  simp only
  rw [if_neg h1]
  split
  · rfl
  · rcases h with h | ⟨ho, h⟩
    · rw [if_pos (.inr (by unfold inB; simp; omega))]
    · split
      · rfl
      · rw [ho]
        simp only [Bool.false_eq_true, if_false]
        unfold inB; simp; omega
theorem make_bad {ns : List Nd} {kind x y : Int} (h : kind = 1 ∨ kind = 7 ∨ x < 0 ∨ (oneK kind = false ∧ y < 0)) : makeK ns kind x y = -1 ∧ makeA ns kind x y = ns := by
  unfold makeK makeA
  by_cases h1 : kind = 1 ∨ kind = 7
  · rw [if_pos h1, if_pos h1]; exact ⟨rfl, rfl⟩
  · rw [if_neg h1, if_neg h1]
    have hb : nodeB (mkNd kind x y) ns.length = false := mkNd_bad (fun e => h1 (.inl e)) (by
      rcases h with h | h | h | h
      · exact absurd (.inl h) h1
      · exact absurd (.inr h) h1
      · exact .inl h
      · exact .inr h)
    have hk : putK ns (mkNd kind x y) = -1 := by unfold putK; rw [if_neg (by simp [hb])]
    exact ⟨hk, putA_neg (by omega)⟩
theorem make_good {ns : List Nd} {kind x y : Int} (h : kind ≠ 1 ∧ kind ≠ 7) : makeK ns kind x y = putK ns (mkNd kind x y) ∧ makeA ns kind x y = putA ns (mkNd kind x y) := by
  unfold makeK makeA
  rw [if_neg (by omega), if_neg (by omega)]
  exact ⟨rfl, rfl⟩

theorem specAtomP_any (B g : Nat) (ns : List Nd) (n : Int) (w : World) (hl : ns.length ≤ 1048576) (h : ArenaAt B w g ns) (hB : B ≤ w.heap.size) :
    Calls Try.prog 82 #[.pointer (some ⟨g, 0, none⟩), .int .i64 n] w fun e w' => e = .returned (.int .i64 (putK ns ⟨1, n, 0, 0⟩)) ∧ ArenaAt B w' g (putA ns ⟨1, n, 0, 0⟩) ∧ Below B w w' := by
  have H : Hid _ := specPutP_any B g ns ⟨1, n, 0, 0⟩ w hl h hB
  clear h
  go_enter Try.func82, Try.ntmps82
  go_wp2_with fail
  refine Calls.mono H.out ?_
  rintro e w1 ⟨rfl, ha, hb⟩
  have HE : Hid _ := And.intro ha hb
  clear ha hb H
  go_wp2
  go_ret
  exact ⟨rfl, HE.out.1, HE.out.2⟩

theorem specMakeP_any (B g : Nat) (ns : List Nd) (kind x y : Int) (w : World) (hl : ns.length ≤ 1048576) (h : ArenaAt B w g ns) (hB : B ≤ w.heap.size) :
    Calls Try.prog 89 #[.pointer (some ⟨g, 0, none⟩), .int .i64 kind, .int .i64 x, .int .i64 y] w fun e w' => e = .returned (.int .i64 (makeK ns kind x y)) ∧ ArenaAt B w' g (makeA ns kind x y) ∧ Below B w w' := by
  have HH : Hid (ArenaAt B w g ns) := h
  clear h
  cases ho : oneK kind with
  | true =>
    have HO : Hid (oneK kind = true) := ho
    by_cases hbad : kind = 1 ∨ kind = 7 ∨ x < 0
    · obtain ⟨e1, e2⟩ := make_bad (ns := ns) (kind := kind) (x := x) (y := y) (by rcases hbad with h | h | h <;> simp [h])
      rw [e1, e2]
      clear ho e1 e2
      have hk1 : (kind == 1) = false := by have := HO.out; unfold oneK at this; simp at this; simp; omega
      have hk7 : (kind == 7) = false := by have := HO.out; unfold oneK at this; simp at this; simp; omega
      have hx : x < 0 := by simp at hk1 hk7; omega
      clear hbad
      go_enter Try.func89, Try.ntmps89
      go_wp2_with fail
      refine (specOne_any kind _).mono ?_
      rintro e w1 ⟨rfl, rfl⟩
      rw [HO.out]
      go_wp2
      go_ret
      exact ⟨rfl, HH.out, Below.refl _ _⟩
    · have hg : kind ≠ 1 ∧ kind ≠ 7 ∧ ¬ x < 0 := by omega
      obtain ⟨e1, e2⟩ := make_good (ns := ns) (x := x) (y := y) ⟨hg.1, hg.2.1⟩
      rw [e1, e2]
      have em : mkNd kind x y = ⟨kind, 0, x, 0⟩ := by unfold mkNd; rw [if_pos ho]
      rw [em]
      have hk1 : (kind == 1) = false := by simp; omega
      have hk7 : (kind == 7) = false := by simp; omega
      have hx := hg.2.2
      have H : Hid _ := specPutP_any B g ns ⟨kind, 0, x, 0⟩ w hl HH.out hB
      clear ho e1 e2 em hbad hg
      go_enter Try.func89, Try.ntmps89
      go_wp2_with fail
      refine (specOne_any kind _).mono ?_
      rintro e w1 ⟨rfl, rfl⟩
      rw [HO.out]
      go_wp2_with fail
      refine Calls.mono H.out ?_
      rintro e w1 ⟨rfl, ha, hb⟩
      have HE : Hid _ := And.intro ha hb
      clear ha hb H
      go_wp2
      go_ret
      exact ⟨rfl, HE.out.1, HE.out.2⟩
  | false =>
    have HO : Hid (oneK kind = false) := ho
    have em : mkNd kind x y = ⟨kind, 0, x, y⟩ := by unfold mkNd; rw [if_neg (by simp [ho])]
    by_cases h1 : kind = 1
    · obtain ⟨e1, e2⟩ := make_bad (ns := ns) (kind := kind) (x := x) (y := y) (.inl h1)
      rw [e1, e2]
      have hk1 : (kind == 1) = true := by simp [h1]
      clear ho em e1 e2 h1
      go_enter Try.func89, Try.ntmps89
      go_wp2_with fail
      refine (specOne_any kind _).mono ?_
      rintro e w1 ⟨rfl, rfl⟩
      rw [HO.out]
      go_wp2
      go_ret
      exact ⟨rfl, HH.out, Below.refl _ _⟩
    by_cases h7 : kind = 7
    · obtain ⟨e1, e2⟩ := make_bad (ns := ns) (kind := kind) (x := x) (y := y) (.inr (.inl h7))
      rw [e1, e2]
      have hk1 : (kind == 1) = false := by simp [h1]
      have hk7 : (kind == 7) = true := by simp [h7]
      clear ho em e1 e2 h1 h7
      go_enter Try.func89, Try.ntmps89
      go_wp2_with fail
      refine (specOne_any kind _).mono ?_
      rintro e w1 ⟨rfl, rfl⟩
      rw [HO.out]
      go_wp2
      go_ret
      exact ⟨rfl, HH.out, Below.refl _ _⟩
    have hk1 : (kind == 1) = false := by simp [h1]
    have hk7 : (kind == 7) = false := by simp [h7]
    by_cases hx : x < 0
    · obtain ⟨e1, e2⟩ := make_bad (ns := ns) (kind := kind) (x := x) (y := y) (.inr (.inr (.inl hx)))
      rw [e1, e2]
      clear ho em e1 e2 h1 h7
      go_enter Try.func89, Try.ntmps89
      go_wp2_with fail
      refine (specOne_any kind _).mono ?_
      rintro e w1 ⟨rfl, rfl⟩
      rw [HO.out]
      go_wp2
      go_ret
      exact ⟨rfl, HH.out, Below.refl _ _⟩
    by_cases hy : y < 0
    · obtain ⟨e1, e2⟩ := make_bad (ns := ns) (kind := kind) (x := x) (y := y) (.inr (.inr (.inr ⟨ho, hy⟩)))
      rw [e1, e2]
      clear ho em e1 e2 h1 h7
      go_enter Try.func89, Try.ntmps89
      go_wp2_with fail
      refine (specOne_any kind _).mono ?_
      rintro e w1 ⟨rfl, rfl⟩
      rw [HO.out]
      go_wp2
      go_ret
      exact ⟨rfl, HH.out, Below.refl _ _⟩
    obtain ⟨e1, e2⟩ := make_good (ns := ns) (x := x) (y := y) ⟨h1, h7⟩
    rw [e1, e2, em]
    have H : Hid _ := specPutP_any B g ns ⟨kind, 0, x, y⟩ w hl HH.out hB
    clear ho em e1 e2 h1 h7
    go_enter Try.func89, Try.ntmps89
    go_wp2_with fail
    refine (specOne_any kind _).mono ?_
    rintro e w1 ⟨rfl, rfl⟩
    rw [HO.out]
    go_wp2_with fail
    refine Calls.mono H.out ?_
    rintro e w1 ⟨rfl, ha, hb⟩
    have HE : Hid _ := And.intro ha hb
    clear ha hb H
    go_wp2
    go_ret
    exact ⟨rfl, HE.out.1, HE.out.2⟩

end Go.Proofs.Ytlecpjgeaigjkaa

namespace Go.Proofs.Ytlecpjgeaigjkaa
open Go.RowKit
set_option linter.unusedVariables false

set_option maxHeartbeats 400000 in
set_option maxRecDepth 20000 in
/-- slices.Clone over nodes. -/
theorem clone_any (a : Option Addr) (cap : Nat) (ns : List Nd) (w : World) (hl : ns.length ≤ 1048576) (ha : AddrN a cap) (hr : RowN w.heap.size w a ns) :
    Calls Try.prog 127 #[.slice a ns.length cap] w fun e w' => ∃ v, e = .returned v ∧ OwnN w.heap.size w' v ns ∧ Below w.heap.size w w' := by
  obtain ⟨i0, hi, hz0, hz1, hz2⟩ := info_parts infoNode
  have HR : Hid (RowN w.heap.size w a ns) := hr
  clear hr
  have HB0 : Hid (Below w.heap.size w (w.alloc (.cells #[] 110))) := (Below.refl _ _).alloc (Nat.le_refl _) _
  have HO : Hid (OwnN w.heap.size (w.alloc (.cells #[] 110)) (.slice (some ⟨w.heap.size, 0, none⟩) 0 0) []) := own_new (base := w.heap.size) w (Nat.le_refl _)
  rcases ha with ⟨rfl, rfl⟩ | ⟨b, off, rfl⟩
  · rcases HR.out with h0 | ⟨_, _, e, _⟩
    · subst h0
      have hq := Lib.run_eql_slice_nil (P := Try.prog) w 28 _ none 0 0 0 0 Try.underlying28
      go_enter Try.func127, Try.ntmps127
      go_wp2
      go_ret
      exact ⟨_, rfl, ⟨rfl, .inl ⟨rfl, rfl⟩⟩, Below.refl _ _⟩
    · cases e
  · have hq := Lib.run_eql_slice_nil (P := Try.prog) w 28 _ (some ⟨b, off, none⟩) ns.length cap 0 0 Try.underlying28
    go_enter Try.func127, Try.ntmps127
    go_wp2_with (at_builtin; refine wpList_append_own _ rfl _ _ 28 rfl w.heap.size 110 i0 _ 4 32 Try.underlying28 hi hz0 hz1 hz2 rfl (by decide) _ 0 _ rfl HO.out ⟨b, off, none⟩ ns.length cap (cellsN ns) rfl (cellsN_len ns) ?c1 (cells_one ns) ?c3 ?c4 ?c5 ?_)
    case c1 => exact (HR.out.later HB0.out).cells
    case c3 => unfold maxLen; omega
    case c4 => omega
    case c5 => simp
    · intro v' w2 hown' hgrow _
      have HO2 : Hid (OwnN w.heap.size w2 v' ns) := by
        show OwnN w.heap.size w2 v' ns
        have e : cellsN [] ++ cellsN ns = cellsN ns := rfl
        rw [e] at hown'; unfold OwnN; simpa using hown'
      have HB2 : Hid (Below w.heap.size w w2) := HB0.out.grown hgrow (by simp) (fun k hk => by simp [Value.ownBlock] at hk; omega)
      clear hown' hgrow
      obtain ⟨a2, cap2, rfl, _, _⟩ := HO2.out.row
      go_wp2
      go_ret
      exact ⟨_, rfl, HO2.out, HB2.out⟩

theorem hasOne_any (kind : Int) (w : World) : Calls Try.prog 140 #[.int .i64 kind] w fun e w' => e = .returned (.bool (oneK kind)) ∧ w = w' := by
  by_cases h3 : kind = 3
  · have e : oneK kind = true := by unfold oneK; simp [h3]
    have h3' : (kind == 3) = true := by simp [h3]
    rw [e]
    clear e h3
    go_enter Try.func140, Try.ntmps140
    go_wp2
    go_ret
    exact ⟨rfl, rfl⟩
  · have h3' : (kind == 3) = false := by simp [h3]
    have e : oneK kind = (kind == 6) := by unfold oneK; rw [decide_eq_false h3]; exact Bool.eq_iff_iff.2 (by simp)
    rw [e]
    clear e h3
    go_enter Try.func140, Try.ntmps140
    go_wp2
    go_ret
    exact ⟨rfl, rfl⟩
/-- A kind that is made of any two. -/
def anyK (kind : Int) : Bool := decide (kind ≠ 1) && decide (kind ≠ 7)
theorem nodeSize' : (Try.prog.info? 110).map (·.size) = some 4 := by kernel_rfl
set_option maxHeartbeats 400000 in
theorem nodeOf_any (kind x y : Int) (w : World) : Calls Try.prog 121 #[.int .i64 kind, .int .i64 x, .int .i64 y] w fun e w' => e = .returned (.agg #[.int .i64 (mkNd kind x y).k, .int .i64 (mkNd kind x y).n, .int .i64 (mkNd kind x y).a, .int .i64 (mkNd kind x y).b]) ∧ Below w.heap.size w w' := by
  have hb0 : Below w.heap.size w (w.alloc (.cells #[.int .i64 0, .int .i64 0, .int .i64 0, .int .i64 0] 110)) := (Below.refl _ _).alloc (Nat.le_refl _) _
  have hN1 := heap_alloc_new w (.cells #[.int .i64 0, .int .i64 0, .int .i64 0, .int .i64 0] 110)
  cases ho : oneK kind with
  | true =>
    have em : mkNd kind x y = ⟨kind, 0, x, 0⟩ := by unfold mkNd; rw [if_pos ho]
    rw [em]
    have HO : Hid (oneK kind = true) := ho
    clear ho em
    go_enter Try.func121, Try.ntmps121
    go_wp2_with fail
    generalize w.alloc (.cells #[.int .i64 0, .int .i64 0, .int .i64 0, .int .i64 0] 110) = w1 at hb0 hN1 ⊢
    refine (hasOne_any kind _).mono ?_
    rintro e w2 ⟨rfl, rfl⟩
    rw [HO.out]
    have n0 : w1.cell? ⟨w.heap.size, 0, none⟩ = some (.int .i64 0) := (cell_of_row w1 _ 0 _ _ _ hN1).trans rfl
    have n1 : w1.cell? ⟨w.heap.size, 1, none⟩ = some (.int .i64 0) := (cell_of_row w1 _ 1 _ _ _ hN1).trans rfl
    have n2 : w1.cell? ⟨w.heap.size, 2, none⟩ = some (.int .i64 0) := (cell_of_row w1 _ 2 _ _ _ hN1).trans rfl
    have n3 : w1.cell? ⟨w.heap.size, 3, none⟩ = some (.int .i64 0) := (cell_of_row w1 _ 3 _ _ _ hN1).trans rfl
    have m0 : w1.frozen? ⟨w.heap.size, 0, none⟩ = false := frozen_of_row w1 _ 0 _ _ hN1
    have m1 : w1.frozen? ⟨w.heap.size, 1, none⟩ = false := frozen_of_row w1 _ 1 _ _ hN1
    have m2 : w1.frozen? ⟨w.heap.size, 2, none⟩ = false := frozen_of_row w1 _ 2 _ _ hN1
    have m3 : w1.frozen? ⟨w.heap.size, 3, none⟩ = false := frozen_of_row w1 _ 3 _ _ hN1
    have HBL : Hid _ := store4 hN1 (.int .i64 kind) (.int .i64 0) (.int .i64 x) (.int .i64 0)
    have HB : Hid _ := below4 (g := w.heap.size) hb0 (Nat.le_refl _) (.int .i64 kind) (.int .i64 0) (.int .i64 x) (.int .i64 0)
    clear hb0 hN1 HO
    go_wp2
    refine bodyPost_ret (results_cell_row rfl _ _ w.heap.size 110 #[.int .i64 kind, .int .i64 0, .int .i64 x, .int .i64 0] (0, 0) _ rfl ?_ Try.underlying110 rfl nodeSize') rfl ?_
    · exact HBL.out
    · exact ⟨rfl, HB.out⟩
  | false =>
    have em : mkNd kind x y = ⟨kind, 0, x, y⟩ := by unfold mkNd; rw [if_neg (by simp [ho])]
    rw [em]
    have HO : Hid (oneK kind = false) := ho
    clear ho em
    go_enter Try.func121, Try.ntmps121
    go_wp2_with fail
    generalize w.alloc (.cells #[.int .i64 0, .int .i64 0, .int .i64 0, .int .i64 0] 110) = w1 at hb0 hN1 ⊢
    refine (hasOne_any kind _).mono ?_
    rintro e w2 ⟨rfl, rfl⟩
    rw [HO.out]
    have n0 : w1.cell? ⟨w.heap.size, 0, none⟩ = some (.int .i64 0) := (cell_of_row w1 _ 0 _ _ _ hN1).trans rfl
    have n1 : w1.cell? ⟨w.heap.size, 1, none⟩ = some (.int .i64 0) := (cell_of_row w1 _ 1 _ _ _ hN1).trans rfl
    have n2 : w1.cell? ⟨w.heap.size, 2, none⟩ = some (.int .i64 0) := (cell_of_row w1 _ 2 _ _ _ hN1).trans rfl
    have n3 : w1.cell? ⟨w.heap.size, 3, none⟩ = some (.int .i64 0) := (cell_of_row w1 _ 3 _ _ _ hN1).trans rfl
    have m0 : w1.frozen? ⟨w.heap.size, 0, none⟩ = false := frozen_of_row w1 _ 0 _ _ hN1
    have m1 : w1.frozen? ⟨w.heap.size, 1, none⟩ = false := frozen_of_row w1 _ 1 _ _ hN1
    have m2 : w1.frozen? ⟨w.heap.size, 2, none⟩ = false := frozen_of_row w1 _ 2 _ _ hN1
    have m3 : w1.frozen? ⟨w.heap.size, 3, none⟩ = false := frozen_of_row w1 _ 3 _ _ hN1
    have HBL : Hid _ := store4 hN1 (.int .i64 kind) (.int .i64 0) (.int .i64 x) (.int .i64 y)
    have HB : Hid _ := below4 (g := w.heap.size) hb0 (Nat.le_refl _) (.int .i64 kind) (.int .i64 0) (.int .i64 x) (.int .i64 y)
    clear hb0 hN1 HO
    go_wp2
    refine bodyPost_ret (results_cell_row rfl _ _ w.heap.size 110 #[.int .i64 kind, .int .i64 0, .int .i64 x, .int .i64 y] (0, 0) _ rfl ?_ Try.underlying110 rfl nodeSize') rfl ?_
    · exact HBL.out
    · exact ⟨rfl, HB.out⟩

theorem makeA_len {ns : List Nd} {kind x y : Int} (h : ns.length ≤ 1048576) : (makeA ns kind x y).length ≤ 1048577 := by
  unfold makeA
  split
  · omega
  · exact putA_len h
end Go.Proofs.Ytlecpjgeaigjkaa

namespace Go.Proofs.Ytlecpjgeaigjkaa
open Go.RowKit Go.PlainAid
set_option linter.unusedVariables false

/-- TermText. -/
def txB (ns : List Nd) (k : Int) : Bool := inB (sizeN ns k) 1 2000
def txS (ns : List Nd) (k : Int) : ByteArray := if txB ns k = true then strOfNums (tx ns k.toNat) else ByteArray.empty
/-- Bytes in their order. -/
theorem cmpB_range : ∀ a b : List UInt8, Lib.compareBytes a b = -1 ∨ Lib.compareBytes a b = 0 ∨ Lib.compareBytes a b = 1
  | [], [] => .inr (.inl rfl)
  | [], _ :: _ => .inl rfl
  | _ :: _, [] => .inr (.inr rfl)
  | x :: a, y :: b => by
    rw [Lib.compareBytes]
    split
    · exact .inl rfl
    · split
      · exact .inr (.inr rfl)
      · exact cmpB_range a b
theorem cmpB_zero : ∀ a b : List UInt8, Lib.compareBytes a b = 0 ↔ a = b
  | [], [] => by simp [Lib.compareBytes]
  | [], _ :: _ => by simp [Lib.compareBytes]
  | _ :: _, [] => by simp [Lib.compareBytes]
  | x :: a, y :: b => by
    rw [Lib.compareBytes]
    by_cases h1 : x < y
    · rw [if_pos h1]
      constructor
      · intro h; omega
      · intro h; simp only [List.cons.injEq] at h; rw [h.1] at h1; exact absurd h1 (UInt8.lt_irrefl y)
    · rw [if_neg h1]
      by_cases h2 : y < x
      · rw [if_pos h2]
        constructor
        · intro h; omega
        · intro h; simp only [List.cons.injEq] at h; rw [h.1] at h2; exact absurd h2 (UInt8.lt_irrefl y)
      · rw [if_neg h2, cmpB_zero a b, List.cons.injEq]
        have hxy : x = y := UInt8.le_antisymm (UInt8.not_lt.1 h2) (UInt8.not_lt.1 h1)
        exact ⟨fun h => ⟨hxy, h⟩, fun h => h.2⟩
theorem cmpB_less : ∀ a b : List UInt8, Op.bytesLess a b = decide (Lib.compareBytes a b = -1)
  | [], [] => rfl
  | [], _ :: _ => rfl
  | _ :: _, [] => rfl
  | x :: a, y :: b => by
    rw [Lib.compareBytes, Op.bytesLess]
    by_cases h1 : x < y
    · simp [h1]
    · rw [if_neg h1]
      by_cases h2 : y < x
      · have hne : (x == y) = false := by
          rw [beq_eq_false_iff_ne]; intro e; rw [e] at h2; exact UInt8.lt_irrefl y h2
        simp [h1, h2, hne]
      · have hxy : x = y := UInt8.le_antisymm (UInt8.not_lt.1 h2) (UInt8.not_lt.1 h1)
        rw [if_neg h2, cmpB_less a b]
        simp [hxy]
/-- How two texts compare. -/
def cmpS (s t : ByteArray) : Int := Lib.compareBytes s.data.toList t.data.toList
theorem cmpS_range (s t : ByteArray) : cmpS s t = -1 ∨ cmpS s t = 0 ∨ cmpS s t = 1 := cmpB_range _ _
theorem cmpS_eq (s t : ByteArray) : (s.toList == t.toList) = decide (cmpS s t = 0) := by
  unfold cmpS
  rw [ByteArray.toList_eq, ByteArray.toList_eq, Bool.eq_iff_iff, beq_iff_eq, decide_eq_true_iff]
  exact (cmpB_zero _ _).symm
theorem cmpS_gt (s t : ByteArray) : (!(Op.bytesLess s.toList t.toList || s.toList == t.toList)) = decide (cmpS s t = 1) := by
  rw [cmpS_eq, ByteArray.toList_eq, ByteArray.toList_eq, cmpB_less]
  have := cmpS_range s t
  unfold cmpS at this ⊢
  rcases this with h | h | h <;> rw [h] <;> rfl
theorem cmpS_less (s t : ByteArray) : Op.bytesLess s.toList t.toList = decide (cmpS s t = -1) := by
  rw [ByteArray.toList_eq, ByteArray.toList_eq, cmpB_less]; rfl
/-- Are the two to change places? -/
def swapB (ns : List Nd) (x y : Int) : Bool := decide (cmpS (txS ns x) (txS ns y) = 1) || (decide (cmpS (txS ns x) (txS ns y) = 0) && decide (y < x))

/-- How two integers compare. -/
def cmpI (x y : Int) : Int := if x < y then -1 else if y < x then 1 else 0
end Go.Proofs.Ytlecpjgeaigjkaa

namespace Go.Proofs.Ytlecpjgeaigjkaa
open Go.RowKit Go.PlainAid
set_option linter.unusedVariables false
theorem swap_is (ns : List Nd) (x y : Int) : decide (0 < (if cmpS (txS ns x) (txS ns y) = 0 then cmpI x y else cmpS (txS ns x) (txS ns y))) = swapB ns x y := by
  unfold swapB cmpI
  rcases cmpS_range (txS ns x) (txS ns y) with h | h | h <;> rw [h]
  · rfl
  · by_cases h1 : x < y
    · simp [h1]; omega
    · by_cases h2 : y < x
      · simp [h1, h2]
      · simp [h1, h2]
  · rfl
/-- DhOf. -/
def dhB (ns : List Nd) (x pub : Int) : Bool := isK ns pub 6 && okAt ns x
def dhN (ns : List Nd) (x pub : Int) : Nd := ⟨7, 0, if swapB ns x (ndAt ns pub).a = true then (ndAt ns pub).a else x, if swapB ns x (ndAt ns pub).a = true then x else (ndAt ns pub).a⟩
def dhA (ns : List Nd) (x pub : Int) : List Nd := if dhB ns x pub = true then putA ns (dhN ns x pub) else ns
def dhK (ns : List Nd) (x pub : Int) : Int := if dhB ns x pub = true then putK ns (dhN ns x pub) else -1
theorem dhK_neg {ns : List Nd} {x pub : Int} (h : dhK ns x pub < 0) : dhK ns x pub = -1 := by
  unfold dhK at h ⊢
  split
  · rename_i h1; rw [if_pos h1] at h; exact putK_neg h
  · rfl
theorem dhA_neg {ns : List Nd} {x pub : Int} (h : dhK ns x pub < 0) : dhA ns x pub = ns := by
  unfold dhK at h
  unfold dhA
  split
  · rename_i h1; rw [if_pos h1] at h; exact putA_neg h
  · rfl
theorem dhA_len {ns : List Nd} {x pub : Int} (h : ns.length ≤ 1048576) : (dhA ns x pub).length ≤ 1048577 := by
  unfold dhA
  split
  · exact putA_len h
  · omega
end Go.Proofs.Ytlecpjgeaigjkaa
