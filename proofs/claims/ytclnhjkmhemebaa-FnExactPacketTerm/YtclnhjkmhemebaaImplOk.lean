/- The contracts of chapter 3's NodeOk and placeFor, the program's. -/
import Derived.Test.YtclnhjkmhemebaaImplR
import Derived.WalkKit
import Derived.WalkLawsBesides
import Derived.WalkSpells
import Derived.Test.YtclnhjkmhemebaaLawArena2
import Derived.Test.YtclnhjkmhemebaaPlainPlaces
import Derived.Laws.OwnMore
import Derived.Laws.MakeOwn
import Derived.Laws.AppendOwnNone
import Derived.Laws.Rows
import Derived.Laws.ResultCell
import Derived.Deep.QuietTactic
import Derived.BigQuiet
import Derived.Deep.RegionLaw
import Derived.OwnWalk
import Derived.BigRegion
import Derived.OneCell
import Derived.Deep.AppendLies
namespace Go.Proofs.Ytclnhjkmhemebaa
open Go.RowKit
set_option linter.unusedVariables false

theorem implOk_no (a : Option Addr) (cap : Nat) (ns : List Nd) (k : Int) (w : World) (hl : ns.length ≤ 1048576) (h : inB k 0 ((ns.length : Int) - 1) = false) :
    Calls Try.prog 154 #[.agg #[.slice a ns.length cap], .int .i64 k] w fun e w' => e = .returned (.bool false) ∧ Below w.heap.size w w' := by
  go_enter Try.func154, Try.ntmps154
  go_wp2_with fail
  refine (ahead_any _ _ _).mono ?_
  rintro e w' ⟨rfl, rfl⟩
  rw [h]
  go_wp2
  go_ret
  exact ⟨rfl, (Below.refl _ _).alloc (Nat.le_refl _) _⟩
theorem implOk_yes (a : Option Addr) (cap : Nat) (ns : List Nd) (i : Nat) (w : World) (hl : ns.length ≤ 1048576) (hi : i < ns.length) (hr : RowN w.heap.size w a ns) :
    Calls Try.prog 154 #[.agg #[.slice a ns.length cap], .int .i64 (i : Int)] w fun e w' => e = .returned (.bool (nodeB (ns.getD i Nd.zero) i)) ∧ Below w.heap.size w w' := by
  have H : Hid (inB (i : Int) 0 ((ns.length : Int) - 1) = true) := by show _ = _; unfold inB; simp; omega
  obtain ⟨b, off, rfl⟩ := hr.addr hi
  obtain ⟨hb, c0, c1, c2, c3⟩ := hr.at (Below.refl _ _) hi
  have hi0 : (0 : Int) ≤ (i : Int) := by omega
  have hi1 : (i : Int) < (ns.length : Int) := by omega
  clear hr
  generalize ns.getD i Nd.zero = y at c0 c1 c2 c3 ⊢
  go_enter Try.func154, Try.ntmps154
  go_wp2_with fail
  refine (ahead_any _ _ _).mono ?_
  rintro e w' ⟨rfl, rfl⟩
  rw [H.out]
  go_wp2_with fail
  refine (right_any y i _).mono ?_
  rintro e w' ⟨v, rfl, hb1⟩
  go_wp2
  go_ret
  exact ⟨rfl, ((Below.refl _ _).alloc (Nat.le_refl _) _).trans (hb1.mono (by simp))⟩
theorem implOk_any (a : Option Addr) (cap : Nat) (ns : List Nd) (k : Int) (w : World) (hl : ns.length ≤ 1048576) (hr : RowN w.heap.size w a ns) :
    Calls Try.prog 154 #[.agg #[.slice a ns.length cap], .int .i64 k] w fun e w' => e = .returned (.bool (okAt ns k)) ∧ Below w.heap.size w w' := by
  cases h : inB k 0 ((ns.length : Int) - 1) with
  | false =>
    have e : okAt ns k = false := by unfold okAt; rw [h]; rfl
    rw [e]
    exact implOk_no a cap ns k w hl h
  | true =>
    have h' := h
    unfold inB at h'
    simp at h'
    obtain ⟨i, rfl⟩ : ∃ i : Nat, k = (i : Int) := ⟨k.toNat, by omega⟩
    have e : okAt ns (i : Int) = nodeB (ns.getD i Nd.zero) i := by unfold okAt; rw [h]; simp
    rw [e]
    exact implOk_yes a cap ns i w hl (by omega) hr

/-- Where a node comes to stand among e nodes, f the first that is it. -/
def placeB (x : Nd) (e f mx : Int) : Int := if nodeB x e = true then (if 0 ≤ f then f else if mx ≤ e then -1 else e) else -1
theorem placeFor_any (x : Nd) (e f mx : Int) (w : World) :
    Calls Try.prog 149 #[.agg #[.int .i64 x.k, .int .i64 x.n, .int .i64 x.a, .int .i64 x.b], .int .i64 e, .int .i64 f, .int .i64 mx] w fun r w' => r = .returned (.int .i64 (placeB x e f mx)) ∧ Below w.heap.size w w' := by
  obtain ⟨d, HD⟩ : ∃ d, Hid (nodeB x e = d) := ⟨_, rfl⟩
  have HP : Hid (placeB x e f mx = if d = true then (if 0 ≤ f then f else if mx ≤ e then -1 else e) else -1) := by show _ = _; unfold placeB; rw [HD.out]
  cases d
  · go_enter Try.func149, Try.ntmps149
    go_wp2_with fail
    refine (right_any x e _).mono ?_
    rintro r w1 ⟨v, rfl, hb1⟩
    rw [HD.out]
    go_wp2
    go_ret
    exact ⟨by rw [HP.out]; rfl, ((Below.refl _ _).alloc (Nat.le_refl _) _).trans (hb1.mono (by simp))⟩
  · by_cases h0 : 0 ≤ f
    · have HQ : Hid (placeB x e f mx = f) := by show _ = _; rw [HP.out, if_pos rfl, if_pos h0]
      go_enter Try.func149, Try.ntmps149
      go_wp2_with fail
      refine (right_any x e _).mono ?_
      rintro r w1 ⟨v, rfl, hb1⟩
      rw [HD.out]
      go_wp2
      go_ret
      exact ⟨by rw [HQ.out]; rfl, ((Below.refl _ _).alloc (Nat.le_refl _) _).trans (hb1.mono (by simp))⟩
    · by_cases h1 : mx ≤ e
      · have HQ : Hid (placeB x e f mx = -1) := by show _ = _; rw [HP.out, if_pos rfl, if_neg h0, if_pos h1]
        go_enter Try.func149, Try.ntmps149
        go_wp2_with fail
        refine (right_any x e _).mono ?_
        rintro r w1 ⟨v, rfl, hb1⟩
        rw [HD.out]
        go_wp2
        go_ret
        exact ⟨by rw [HQ.out]; rfl, ((Below.refl _ _).alloc (Nat.le_refl _) _).trans (hb1.mono (by simp))⟩
      · have HQ : Hid (placeB x e f mx = e) := by show _ = _; rw [HP.out, if_pos rfl, if_neg h0, if_neg h1]
        go_enter Try.func149, Try.ntmps149
        go_wp2_with fail
        refine (right_any x e _).mono ?_
        rintro r w1 ⟨v, rfl, hb1⟩
        rw [HD.out]
        go_wp2
        go_ret
        exact ⟨by rw [HQ.out]; rfl, ((Below.refl _ _).alloc (Nat.le_refl _) _).trans (hb1.mono (by simp))⟩
/-- Put where there is room for as many as mx tells. -/
def putAm (mx : Nat) (ns : List Nd) (x : Nd) : List Nd := if nodeB x ns.length = true ∧ findN ns x = -1 ∧ ns.length < mx then ns ++ [x] else ns
def putKm (mx : Nat) (ns : List Nd) (x : Nd) : Int := if nodeB x ns.length = true then (if findN ns x = -1 ∧ ns.length < mx then (ns.length : Int) else findN ns x) else -1
theorem putAm_is (ns : List Nd) (x : Nd) : putAm 3000 ns x = putA ns x := rfl
theorem putKm_is (ns : List Nd) (x : Nd) : putKm 3000 ns x = putK ns x := rfl
/-- placeFor, at the first place of the node: as Put says. -/
theorem placeB_put (mx : Nat) (ns : List Nd) (x : Nd) : placeB x ns.length (findN ns x) (mx : Int) = putKm mx ns x := by
  unfold placeB putKm
  cases nodeB x (ns.length : Int)
  · rfl
  · have := findN_range ns x
    simp only [if_true]
    by_cases h0 : 0 ≤ findN ns x
    · rw [if_pos h0, if_neg (by omega)]
    · rw [if_neg h0]
      by_cases h1 : (mx : Int) ≤ ns.length
      · rw [if_pos h1, if_neg (by omega)]; omega
      · rw [if_neg h1, if_pos (by omega)]
end Go.Proofs.Ytclnhjkmhemebaa

namespace Go.Proofs.Ytclnhjkmhemebaa
open Go.RowKit
set_option linter.unusedVariables false

/-- A copy into room that was made for one more. -/
theorem made_copy (a : Option Addr) (cap : Nat) (ns : List Nd) (W : World) (hl : ns.length ≤ 1048576) (ha : AddrN a cap) (hr : RowN W.heap.size W a ns) :
    ∃ w2 w3, (Instr.makeSlice 48 (.int .i64 0) (.int .i64 ((ns.length : Int) + 1))).run Try.prog W = .ok (.slice (some ⟨W.heap.size, 0, none⟩) 0 (ns.length + 1)) w2 ∧
      (∀ ty, (Builtin.append_ #[48, 48] ty #[.slice (some ⟨W.heap.size, 0, none⟩) 0 (ns.length + 1), .slice a ns.length cap]).run Try.prog w2 = .ok (.slice (some ⟨W.heap.size, 0, none⟩) ns.length (ns.length + 1)) w3) ∧
      OwnN W.heap.size w3 (.slice (some ⟨W.heap.size, 0, none⟩) ns.length (ns.length + 1)) ns ∧ Below W.heap.size W w2 ∧ Below W.heap.size W w3 := by
  obtain ⟨i0, hi, hz0, hz1, hz2⟩ := info_parts infoNode
  obtain ⟨w2, h2, ho2, hg2⟩ := run_make_own (P := Try.prog) W W.heap.size 48 142 i0 _ 4 Try.underlying48 hi hz0 hz1 .i64 .i64 (ns.length + 1) (by rw [hz2]; omega) (by unfold maxLen; omega) (Nat.le_refl _)
  have hb2 : Below W.heap.size W w2 := (Below.refl _ _).grown hg2 (Nat.le_refl _) (by simp)
  rw [show ((ns.length + 1 : Nat) : Int) = (ns.length : Int) + 1 by omega] at h2
  rcases ha with ⟨rfl, rfl⟩ | ⟨b, off, rfl⟩
  · rcases hr with h0 | ⟨_, _, e, _⟩
    · subst h0
      exact ⟨w2, w2, h2, fun ty => run_append_owned_none (P := Try.prog) w2 W.heap.size _ ty 142 i0 4 Try.underlying48 hi _ 0 [] ho2, ho2, hb2, hb2⟩
    · cases e
  · have hf := fun ty => run_append_fits (P := Try.prog) w2 W.heap.size 48 ty 142 i0 4 Try.underlying48 hi hz1 W.heap.size 0 (ns.length + 1) [] ho2 ⟨b, off, none⟩ ns.length cap (cellsN ns) (cellsN_len ns) (hr.later hb2).cells (cells_one ns) (by omega)
    obtain ⟨w3, h3, ho3, hg3⟩ := hf 0
    refine ⟨w2, w3, h2, fun ty => ?_, ?_, hb2, hb2.grown hg3 hb2.size (fun k hk => by cases hk; exact Nat.le_refl _)⟩
    · have := h3
      rw [Nat.zero_add] at this
      exact this
    · unfold OwnN
      simpa using ho3

/-- An append whose run is known, inside a region that draws. -/
theorem step_append_run {P : Program} {ops : Array Oper} {o : Oper} {a : Act} {w w' : World} {v : Value} {K : Act → World → Prop} {Q : Exit → Act → World → Prop} {E : Prop} (hgd : o.guard = none) (s x : Operand) (t u : TypeId)
    (ho : o.op = .call { callee := .builtin .append, args := #[s, x], argTypes := #[t, u] }) (hrun : (Builtin.append_ #[t, u] o.type #[a.eval s, a.eval x]).run P w = .ok v w') (h : K (a.put o.dst v) w') :
    if Region.wanted o (yielded ops a.tmps) = true then Oper.wp P o a w K Q else E := by
  have hw : Region.wanted o (yielded ops a.tmps) = true := by simp [Region.wanted, hgd]
  rw [if_pos hw]
  unfold Oper.wp
  simp [execOp, ho, resolve, invoke, builtin, hrun, Result.andThen]
  exact h
end Go.Proofs.Ytclnhjkmhemebaa

namespace Go.Proofs.Ytclnhjkmhemebaa
open Go.RowKit
set_option linter.unusedVariables false

theorem putK_new {ns : List Nd} {x : Nd} : putK ns x = (ns.length : Int) ↔ (nodeB x ns.length = true ∧ findN ns x = -1 ∧ ns.length < 3000) := by
  unfold putK
  have hr := findN_range ns x
  split
  · rename_i h
    split
    · rename_i h2; exact ⟨fun _ => ⟨h, h2⟩, fun _ => rfl⟩
    · rename_i h2; constructor
      · intro e; omega
      · intro e; exact absurd e.2 h2
  · rename_i h; constructor
    · intro e; omega
    · intro e; exact absurd e.1 h
theorem putA_new {ns : List Nd} {x : Nd} (h : putK ns x = (ns.length : Int)) : putA ns x = ns ++ [x] := by
  unfold putA; rw [if_pos (putK_new.1 h)]
theorem putA_old {ns : List Nd} {x : Nd} (h : putK ns x ≠ (ns.length : Int)) : putA ns x = ns := by
  unfold putA; rw [if_neg (fun e => h (putK_new.2 e))]

end Go.Proofs.Ytclnhjkmhemebaa
