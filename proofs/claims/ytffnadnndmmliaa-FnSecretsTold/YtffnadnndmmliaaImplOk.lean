/- The contracts of chapter 3's NodeOk and placeFor, the program's. -/
import Derived.Test.YtffnadnndmmliaaImplR
import Derived.WalkKit
import Derived.WalkLawsBesides
import Derived.WalkSpells
namespace Go.Proofs.Ytffnadnndmmliaa
open Go.RowKit
set_option linter.unusedVariables false

theorem implOk_no (a : Option Addr) (cap : Nat) (ns : List Nd) (k : Int) (w : World) (hl : ns.length ≤ 1048576) (h : inB k 0 ((ns.length : Int) - 1) = false) :
    Calls Try.prog 37 #[.agg #[.slice a ns.length cap], .int .i64 k] w fun e w' => e = .returned (.bool false) ∧ Below w.heap.size w w' := by
  go_enter Try.func37, Try.ntmps37
  go_wp2_with fail
  refine (ahead_any _ _ _).mono ?_
  rintro e w' ⟨rfl, rfl⟩
  rw [h]
  go_wp2
  go_ret
  exact ⟨rfl, (Below.refl _ _).alloc (Nat.le_refl _) _⟩
theorem implOk_yes (a : Option Addr) (cap : Nat) (ns : List Nd) (i : Nat) (w : World) (hl : ns.length ≤ 1048576) (hi : i < ns.length) (hr : RowN w.heap.size w a ns) :
    Calls Try.prog 37 #[.agg #[.slice a ns.length cap], .int .i64 (i : Int)] w fun e w' => e = .returned (.bool (nodeB (ns.getD i Nd.zero) i)) ∧ Below w.heap.size w w' := by
  have H : Hid (inB (i : Int) 0 ((ns.length : Int) - 1) = true) := by show _ = _; unfold inB; simp; omega
  obtain ⟨b, off, rfl⟩ := hr.addr hi
  obtain ⟨hb, c0, c1, c2, c3⟩ := hr.at (Below.refl _ _) hi
  have hi0 : (0 : Int) ≤ (i : Int) := by omega
  have hi1 : (i : Int) < (ns.length : Int) := by omega
  clear hr
  generalize ns.getD i Nd.zero = y at c0 c1 c2 c3 ⊢
  go_enter Try.func37, Try.ntmps37
  go_wp2_with fail
  refine (ahead_any _ _ _).mono ?_
  rintro e w' ⟨rfl, rfl⟩
  rw [H.out]
  go_wp2_with fail
  refine (right_any y i _).mono ?_
  rintro e w' ⟨v, rfl, hb1⟩
  go_wp2
  go_ret
  exact ⟨rfl, ((Below.refl _ _).alloc (Nat.le_refl _) _).trans (hb1.mono (by simp))⟩
theorem implOk_any (a : Option Addr) (cap : Nat) (ns : List Nd) (k : Int) (w : World) (hl : ns.length ≤ 1048576) (hr : RowN w.heap.size w a ns) :
    Calls Try.prog 37 #[.agg #[.slice a ns.length cap], .int .i64 k] w fun e w' => e = .returned (.bool (okAt ns k)) ∧ Below w.heap.size w w' := by
  cases h : inB k 0 ((ns.length : Int) - 1) with
  | false =>
    have e : okAt ns k = false := by unfold okAt; rw [h]; rfl
    rw [e]
    exact implOk_no a cap ns k w hl h
  | true =>
    have h' := h
    unfold inB at h'
    simp at h'
    obtain ⟨i, rfl⟩ : ∃ i : Nat, k = (i : Int) := ⟨k.toNat, by omega⟩
    have e : okAt ns (i : Int) = nodeB (ns.getD i Nd.zero) i := by unfold okAt; rw [h]; simp
    rw [e]
    exact implOk_yes a cap ns i w hl (by omega) hr

/-- Where a node comes to stand among e nodes, f the first that is it. -/
def placeB (x : Nd) (e f mx : Int) : Int := if nodeB x e = true then (if 0 ≤ f then f else if mx ≤ e then -1 else e) else -1
theorem placeFor_any (x : Nd) (e f mx : Int) (w : World) :
    Calls Try.prog 157 #[.agg #[.int .i64 x.k, .int .i64 x.n, .int .i64 x.a, .int .i64 x.b], .int .i64 e, .int .i64 f, .int .i64 mx] w fun r w' => r = .returned (.int .i64 (placeB x e f mx)) ∧ Below w.heap.size w w' := by
  obtain ⟨d, HD⟩ : ∃ d, Hid (nodeB x e = d) := ⟨_, rfl⟩
  have HP : Hid (placeB x e f mx = if d = true then (if 0 ≤ f then f else if mx ≤ e then -1 else e) else -1) := by show _ = _; unfold placeB; rw [HD.out]
  cases d
  · go_enter Try.func157, Try.ntmps157
    go_wp2_with fail
    refine (right_any x e _).mono ?_
    rintro r w1 ⟨v, rfl, hb1⟩
    rw [HD.out]
    go_wp2
    go_ret
    exact ⟨by rw [HP.out]; rfl, ((Below.refl _ _).alloc (Nat.le_refl _) _).trans (hb1.mono (by simp))⟩
  · by_cases h0 : 0 ≤ f
    · have HQ : Hid (placeB x e f mx = f) := by show _ = _; rw [HP.out, if_pos rfl, if_pos h0]
      go_enter Try.func157, Try.ntmps157
      go_wp2_with fail
      refine (right_any x e _).mono ?_
      rintro r w1 ⟨v, rfl, hb1⟩
      rw [HD.out]
      go_wp2
      go_ret
      exact ⟨by rw [HQ.out]; rfl, ((Below.refl _ _).alloc (Nat.le_refl _) _).trans (hb1.mono (by simp))⟩
    · by_cases h1 : mx ≤ e
      · have HQ : Hid (placeB x e f mx = -1) := by show _ = _; rw [HP.out, if_pos rfl, if_neg h0, if_pos h1]
        go_enter Try.func157, Try.ntmps157
        go_wp2_with fail
        refine (right_any x e _).mono ?_
        rintro r w1 ⟨v, rfl, hb1⟩
        rw [HD.out]
        go_wp2
        go_ret
        exact ⟨by rw [HQ.out]; rfl, ((Below.refl _ _).alloc (Nat.le_refl _) _).trans (hb1.mono (by simp))⟩
      · have HQ : Hid (placeB x e f mx = e) := by show _ = _; rw [HP.out, if_pos rfl, if_neg h0, if_neg h1]
        go_enter Try.func157, Try.ntmps157
        go_wp2_with fail
        refine (right_any x e _).mono ?_
        rintro r w1 ⟨v, rfl, hb1⟩
        rw [HD.out]
        go_wp2
        go_ret
        exact ⟨by rw [HQ.out]; rfl, ((Below.refl _ _).alloc (Nat.le_refl _) _).trans (hb1.mono (by simp))⟩
/-- Put where there is room for as many as mx tells. -/
def putAm (mx : Nat) (ns : List Nd) (x : Nd) : List Nd := if nodeB x ns.length = true ∧ findN ns x = -1 ∧ ns.length < mx then ns ++ [x] else ns
def putKm (mx : Nat) (ns : List Nd) (x : Nd) : Int := if nodeB x ns.length = true then (if findN ns x = -1 ∧ ns.length < mx then (ns.length : Int) else findN ns x) else -1
theorem putAm_is (ns : List Nd) (x : Nd) : putAm 3000 ns x = putA ns x := rfl
theorem putKm_is (ns : List Nd) (x : Nd) : putKm 3000 ns x = putK ns x := rfl
/-- placeFor, at the first place of the node: as Put says. -/
theorem placeB_put (mx : Nat) (ns : List Nd) (x : Nd) : placeB x ns.length (findN ns x) (mx : Int) = putKm mx ns x := by
  unfold placeB putKm
  cases nodeB x (ns.length : Int)
  · rfl
  · have := findN_range ns x
    simp only [if_true]
    by_cases h0 : 0 ≤ findN ns x
    · rw [if_pos h0, if_neg (by omega)]
    · rw [if_neg h0]
      by_cases h1 : (mx : Int) ≤ ns.length
      · rw [if_pos h1, if_neg (by omega)]; omega
      · rw [if_neg h1, if_pos (by omega)]
end Go.Proofs.Ytffnadnndmmliaa
