/- The contracts of chapter 3's rightTerm and NodeOk, the program's. -/
import Derived.Test.YtffnadnndmmliaaImplT
import Derived.WalkKit
import Derived.WalkLawsBesides
import Derived.WalkSpells
namespace Go.Proofs.Ytffnadnndmmliaa
open Go.RowKit

theorem as_atomTerm_atomTerm (v : Value) (w : World) : (Instr.typeAssert (.iface 154 v) 98 154 true).run Try.prog w = .ok (.tuple #[v, .bool true]) w := by kernel_rfl
theorem as_atomTerm_oneTerm (v : Value) (w : World) : (Instr.typeAssert (.iface 154 v) 98 156 true).run Try.prog w = .ok (.tuple #[.agg #[.int .i64 0, .int .i64 0], .bool false]) w := by kernel_rfl
theorem as_atomTerm_twoTerm (v : Value) (w : World) : (Instr.typeAssert (.iface 154 v) 98 158 true).run Try.prog w = .ok (.tuple #[.agg #[.int .i64 0, .int .i64 0, .int .i64 0], .bool false]) w := by kernel_rfl
theorem as_oneTerm_atomTerm (v : Value) (w : World) : (Instr.typeAssert (.iface 156 v) 98 154 true).run Try.prog w = .ok (.tuple #[.agg #[.int .i64 0], .bool false]) w := by kernel_rfl
theorem as_oneTerm_oneTerm (v : Value) (w : World) : (Instr.typeAssert (.iface 156 v) 98 156 true).run Try.prog w = .ok (.tuple #[v, .bool true]) w := by kernel_rfl
theorem as_oneTerm_twoTerm (v : Value) (w : World) : (Instr.typeAssert (.iface 156 v) 98 158 true).run Try.prog w = .ok (.tuple #[.agg #[.int .i64 0, .int .i64 0, .int .i64 0], .bool false]) w := by kernel_rfl
theorem as_twoTerm_atomTerm (v : Value) (w : World) : (Instr.typeAssert (.iface 158 v) 98 154 true).run Try.prog w = .ok (.tuple #[.agg #[.int .i64 0], .bool false]) w := by kernel_rfl
theorem as_twoTerm_oneTerm (v : Value) (w : World) : (Instr.typeAssert (.iface 158 v) 98 156 true).run Try.prog w = .ok (.tuple #[.agg #[.int .i64 0, .int .i64 0], .bool false]) w := by kernel_rfl
theorem as_twoTerm_twoTerm (v : Value) (w : World) : (Instr.typeAssert (.iface 158 v) 98 158 true).run Try.prog w = .ok (.tuple #[v, .bool true]) w := by kernel_rfl
theorem as_nil_atomTerm (w : World) : (Instr.typeAssert .nilIface 98 154 true).run Try.prog w = .ok (.tuple #[.agg #[.int .i64 0], .bool false]) w := by kernel_rfl
theorem as_nil_oneTerm (w : World) : (Instr.typeAssert .nilIface 98 156 true).run Try.prog w = .ok (.tuple #[.agg #[.int .i64 0, .int .i64 0], .bool false]) w := by kernel_rfl
theorem as_nil_twoTerm (w : World) : (Instr.typeAssert .nilIface 98 158 true).run Try.prog w = .ok (.tuple #[.agg #[.int .i64 0, .int .i64 0, .int .i64 0], .bool false]) w := by kernel_rfl

/-- rightTerm of an atom. -/
theorem right_atom (k n a b p : Int) (w : World) (hk : k = 1) :
    Calls Try.prog 95 #[.agg #[.int .i64 k, .int .i64 n, .int .i64 a, .int .i64 b], .int .i64 p] w fun e w' => e = .returned (.tuple #[.iface 154 (.agg #[.int .i64 n]), .bool (nodeB ⟨k, n, a, b⟩ p)]) ∧ Below w.heap.size w w' := by
  have HV : Hid (nodeB ⟨k, n, a, b⟩ p = ((decide (0 = a) && decide (0 = b)) && (decide (0 ≤ n) && decide (n ≤ 999999)))) := by
    show _ = _
    subst hk
    unfold nodeB
    simp only [inB]
    by_cases ha : a = 0 <;> by_cases hb : b = 0 <;> simp [ha, hb, eq_comm]
  subst hk
  have fin : ∀ r : Bool, (decide (0 ≤ n) && decide (n ≤ 999999)) = r → ((r = true ∧ 0 ≤ n ∧ n ≤ 999999) ∨ (r = false ∧ n < 0) ∨ (r = false ∧ 0 ≤ n ∧ decide (n ≤ 999999) = false)) := fun r h => by
    subst h; simp; omega
  obtain ⟨d, HD⟩ : ∃ d, Hid ((decide (0 = a) && decide (0 = b)) = d) := ⟨_, rfl⟩
  obtain ⟨r, HE⟩ : ∃ r, Hid ((decide (0 ≤ n) && decide (n ≤ 999999)) = r) := ⟨_, rfl⟩
  have ha := as_atomTerm_atomTerm
  cases d
  all_goals
    rcases fin r HE.out with ⟨rfl, h0, h1⟩ | ⟨rfl, h0⟩ | ⟨rfl, h0, h1⟩
    all_goals
      clear fin
      go_enter Try.func95, Try.ntmps95
      go_wp2_with fail
      refine (termOf_atom 1 n a b _ rfl).mono ?_
      rintro e w1 ⟨rfl, hb1⟩
      rw [HD.out]
      go_wp2_with fail
      go_ret2
      exact ⟨by rw [HV.out, HD.out, HE.out]; rfl, (((Below.refl _ _).alloc (Nat.le_refl _) _).trans (hb1.mono (by simp))).alloc (by have := hb1.size; simp at this; omega) _⟩

/-- rightTerm of a term with one. -/
theorem right_one (k n a b p : Int) (w : World) (hk : oneK k = true) :
    Calls Try.prog 95 #[.agg #[.int .i64 k, .int .i64 n, .int .i64 a, .int .i64 b], .int .i64 p] w fun e w' => e = .returned (.tuple #[.iface 156 (.agg #[.int .i64 k, .int .i64 a]), .bool (nodeB ⟨k, n, a, b⟩ p)]) ∧ Below w.heap.size w w' := by
  have hk' : k = 3 ∨ k = 6 := by unfold oneK at hk; simpa using hk
  have HV : Hid (nodeB ⟨k, n, a, b⟩ p = ((decide (0 = n) && decide (0 = b)) && inB a 0 (p - 1))) := by
    show _ = _
    have h1 : inB k 1 9 = true := by unfold inB; simp; omega
    have h2 : ¬ k = 1 := by omega
    unfold nodeB
    simp only [h1, h2, hk]
    cases h3 : inB a 0 (p - 1) <;> by_cases hb : b = 0 <;> by_cases hn : n = 0 <;> simp [hb, hn, eq_comm]
  clear hk
  obtain ⟨d, HD⟩ : ∃ d, Hid ((decide (0 = n) && decide (0 = b)) = d) := ⟨_, rfl⟩
  obtain ⟨r, HE⟩ : ∃ r, Hid (inB a 0 (p - 1) = r) := ⟨_, rfl⟩
  have ha := as_oneTerm_atomTerm
  have ho := as_oneTerm_oneTerm
  cases d
  all_goals
    cases r
    all_goals
      go_enter Try.func95, Try.ntmps95
      go_wp2_with fail
      refine (termOf_one k n a b _ hk').mono ?_
      rintro e w1 ⟨rfl, hb1⟩
      rw [HD.out]
      clear hk'
      go_wp2_with (go_at_call 94; refine (ahead_any _ _ _).mono ?_; rintro e w' ⟨rfl, rfl⟩; rw [HE.out])
      go_ret2
      exact ⟨by rw [HV.out, HD.out, HE.out]; rfl, (((Below.refl _ _).alloc (Nat.le_refl _) _).trans (hb1.mono (by simp))).alloc (by have := hb1.size; simp at this; omega) _⟩

set_option maxHeartbeats 2000000 in
theorem right_two (k n a b p : Int) (w : World) (h1 : inB k 1 9 = true) (h2 : ¬ k = 1) (hk : oneK k = false) :
    Calls Try.prog 95 #[.agg #[.int .i64 k, .int .i64 n, .int .i64 a, .int .i64 b], .int .i64 p] w fun e w' => e = .returned (.tuple #[.iface 158 (.agg #[.int .i64 k, .int .i64 a, .int .i64 b]), .bool (nodeB ⟨k, n, a, b⟩ p)]) ∧ Below w.heap.size w w' := by
  have hk' : k = 2 ∨ k = 4 ∨ k = 5 ∨ k = 7 ∨ k = 8 ∨ k = 9 := by unfold oneK at hk; unfold inB at h1; simp at hk h1; omega
  have HV : Hid (nodeB ⟨k, n, a, b⟩ p = (decide (0 = n) && (inB a 0 (p - 1) && inB b 0 (p - 1)))) := by
    show _ = _
    unfold nodeB
    simp only [h1, h2, hk]
    cases h3 : inB a 0 (p - 1) <;> cases h4 : inB b 0 (p - 1) <;> by_cases hn : n = 0 <;> simp [hn, eq_comm]
  clear hk h1 h2
  obtain ⟨d, HD⟩ : ∃ d, Hid ((decide (0 = n)) = d) := ⟨_, rfl⟩
  obtain ⟨r, HE⟩ : ∃ r, Hid (inB a 0 (p - 1) = r) := ⟨_, rfl⟩
  obtain ⟨q, HF⟩ : ∃ q, Hid (inB b 0 (p - 1) = q) := ⟨_, rfl⟩
  have ha := as_twoTerm_atomTerm
  have ho := as_twoTerm_oneTerm
  have ht := as_twoTerm_twoTerm
  cases d
  all_goals
    cases r
    all_goals
      cases q
      all_goals
        go_enter Try.func95, Try.ntmps95
        go_wp2_with fail
        refine (termOf_two k n a b _ hk').mono ?_
        rintro e w1 ⟨rfl, hb1⟩
        rw [HD.out]
        clear hk'
        go_wp2_with (go_at_call 94; refine (ahead_any _ _ _).mono ?_; rintro e w' ⟨rfl, rfl⟩; first | rw [HE.out] | rw [HF.out])
        go_ret2
        exact ⟨by rw [HV.out, HD.out, HE.out, HF.out]; rfl, (((Below.refl _ _).alloc (Nat.le_refl _) _).trans (hb1.mono (by simp))).alloc (by have := hb1.size; simp at this; omega) _⟩

/-- rightTerm of no term. -/
theorem right_none (k n a b p : Int) (w : World) (hk : inB k 1 9 = false) :
    Calls Try.prog 95 #[.agg #[.int .i64 k, .int .i64 n, .int .i64 a, .int .i64 b], .int .i64 p] w fun e w' => e = .returned (.tuple #[.nilIface, .bool (nodeB ⟨k, n, a, b⟩ p)]) ∧ Below w.heap.size w w' := by
  have HV : Hid (nodeB ⟨k, n, a, b⟩ p = false) := by
    show _ = _
    unfold nodeB
    simp only [hk]; rfl
  have HK : Hid _ := hk
  clear hk
  have ha := as_nil_atomTerm
  have ho := as_nil_oneTerm
  have ht := as_nil_twoTerm
  go_enter Try.func95, Try.ntmps95
  go_wp2_with fail
  refine (termOf_none k n a b _ HK.out).mono ?_
  rintro e w1 ⟨rfl, hb1⟩
  go_wp2_with fail
  go_ret2
  exact ⟨by rw [HV.out]; rfl, ((Below.refl _ _).alloc (Nat.le_refl _) _).trans (hb1.mono (by simp))⟩

/-- rightTerm, whatever the node: its second answer. -/
theorem right_any (x : Nd) (p : Int) (w : World) :
    Calls Try.prog 95 #[.agg #[.int .i64 x.k, .int .i64 x.n, .int .i64 x.a, .int .i64 x.b], .int .i64 p] w fun e w' => ∃ v, e = .returned (.tuple #[v, .bool (nodeB x p)]) ∧ Below w.heap.size w w' := by
  cases h1 : inB x.k 1 9 with
  | false => exact (right_none x.k x.n x.a x.b p w h1).mono fun _ _ ⟨he, hb⟩ => ⟨_, he, hb⟩
  | true =>
    by_cases h2 : x.k = 1
    · exact (right_atom x.k x.n x.a x.b p w h2).mono fun _ _ ⟨he, hb⟩ => ⟨_, he, hb⟩
    · cases h3 : oneK x.k with
      | true => exact (right_one x.k x.n x.a x.b p w h3).mono fun _ _ ⟨he, hb⟩ => ⟨_, he, hb⟩
      | false => exact (right_two x.k x.n x.a x.b p w h1 h2 h3).mono fun _ _ ⟨he, hb⟩ => ⟨_, he, hb⟩
end Go.Proofs.Ytffnadnndmmliaa

namespace Go.Proofs.Ytffnadnndmmliaa
open Go.RowKit
set_option linter.unusedVariables false

theorem implOk_no (a : Option Addr) (cap : Nat) (ns : List Nd) (k : Int) (w : World) (hl : ns.length ≤ 1048576) (h : inB k 0 ((ns.length : Int) - 1) = false) :
    Calls Try.prog 37 #[.agg #[.slice a ns.length cap], .int .i64 k] w fun e w' => e = .returned (.bool false) ∧ Below w.heap.size w w' := by
  go_enter Try.func37, Try.ntmps37
  go_wp2_with fail
  refine (ahead_any _ _ _).mono ?_
  rintro e w' ⟨rfl, rfl⟩
  rw [h]
  go_wp2
  go_ret
  exact ⟨rfl, (Below.refl _ _).alloc (Nat.le_refl _) _⟩
theorem implOk_yes (a : Option Addr) (cap : Nat) (ns : List Nd) (i : Nat) (w : World) (hl : ns.length ≤ 1048576) (hi : i < ns.length) (hr : RowN w.heap.size w a ns) :
    Calls Try.prog 37 #[.agg #[.slice a ns.length cap], .int .i64 (i : Int)] w fun e w' => e = .returned (.bool (nodeB (ns.getD i Nd.zero) i)) ∧ Below w.heap.size w w' := by
  have H : Hid (inB (i : Int) 0 ((ns.length : Int) - 1) = true) := by show _ = _; unfold inB; simp; omega
  obtain ⟨b, off, rfl⟩ := hr.addr hi
  obtain ⟨hb, c0, c1, c2, c3⟩ := hr.at (Below.refl _ _) hi
  have hi0 : (0 : Int) ≤ (i : Int) := by omega
  have hi1 : (i : Int) < (ns.length : Int) := by omega
  clear hr
  generalize ns.getD i Nd.zero = y at c0 c1 c2 c3 ⊢
  go_enter Try.func37, Try.ntmps37
  go_wp2_with fail
  refine (ahead_any _ _ _).mono ?_
  rintro e w' ⟨rfl, rfl⟩
  rw [H.out]
  go_wp2_with fail
  refine (right_any y i _).mono ?_
  rintro e w' ⟨v, rfl, hb1⟩
  go_wp2
  go_ret
  exact ⟨rfl, ((Below.refl _ _).alloc (Nat.le_refl _) _).trans (hb1.mono (by simp))⟩
theorem implOk_any (a : Option Addr) (cap : Nat) (ns : List Nd) (k : Int) (w : World) (hl : ns.length ≤ 1048576) (hr : RowN w.heap.size w a ns) :
    Calls Try.prog 37 #[.agg #[.slice a ns.length cap], .int .i64 k] w fun e w' => e = .returned (.bool (okAt ns k)) ∧ Below w.heap.size w w' := by
  cases h : inB k 0 ((ns.length : Int) - 1) with
  | false =>
    have e : okAt ns k = false := by unfold okAt; rw [h]; rfl
    rw [e]
    exact implOk_no a cap ns k w hl h
  | true =>
    have h' := h
    unfold inB at h'
    simp at h'
    obtain ⟨i, rfl⟩ : ∃ i : Nat, k = (i : Int) := ⟨k.toNat, by omega⟩
    have e : okAt ns (i : Int) = nodeB (ns.getD i Nd.zero) i := by unfold okAt; rw [h]; simp
    rw [e]
    exact implOk_yes a cap ns i w hl (by omega) hr

/-- Where a node comes to stand among e nodes, f the first that is it. -/
def placeB (x : Nd) (e f mx : Int) : Int := if nodeB x e = true then (if 0 ≤ f then f else if mx ≤ e then -1 else e) else -1
theorem placeFor_any (x : Nd) (e f mx : Int) (w : World) :
    Calls Try.prog 157 #[.agg #[.int .i64 x.k, .int .i64 x.n, .int .i64 x.a, .int .i64 x.b], .int .i64 e, .int .i64 f, .int .i64 mx] w fun r w' => r = .returned (.int .i64 (placeB x e f mx)) ∧ Below w.heap.size w w' := by
  obtain ⟨d, HD⟩ : ∃ d, Hid (nodeB x e = d) := ⟨_, rfl⟩
  have HP : Hid (placeB x e f mx = if d = true then (if 0 ≤ f then f else if mx ≤ e then -1 else e) else -1) := by show _ = _; unfold placeB; rw [HD.out]
  cases d
  · go_enter Try.func157, Try.ntmps157
    go_wp2_with fail
    refine (right_any x e _).mono ?_
    rintro r w1 ⟨v, rfl, hb1⟩
    rw [HD.out]
    go_wp2
    go_ret
    exact ⟨by rw [HP.out]; rfl, ((Below.refl _ _).alloc (Nat.le_refl _) _).trans (hb1.mono (by simp))⟩
  · by_cases h0 : 0 ≤ f
    · have HQ : Hid (placeB x e f mx = f) := by show _ = _; rw [HP.out, if_pos rfl, if_pos h0]
      go_enter Try.func157, Try.ntmps157
      go_wp2_with fail
      refine (right_any x e _).mono ?_
      rintro r w1 ⟨v, rfl, hb1⟩
      rw [HD.out]
      go_wp2
      go_ret
      exact ⟨by rw [HQ.out]; rfl, ((Below.refl _ _).alloc (Nat.le_refl _) _).trans (hb1.mono (by simp))⟩
    · by_cases h1 : mx ≤ e
      · have HQ : Hid (placeB x e f mx = -1) := by show _ = _; rw [HP.out, if_pos rfl, if_neg h0, if_pos h1]
        go_enter Try.func157, Try.ntmps157
        go_wp2_with fail
        refine (right_any x e _).mono ?_
        rintro r w1 ⟨v, rfl, hb1⟩
        rw [HD.out]
        go_wp2
        go_ret
        exact ⟨by rw [HQ.out]; rfl, ((Below.refl _ _).alloc (Nat.le_refl _) _).trans (hb1.mono (by simp))⟩
      · have HQ : Hid (placeB x e f mx = e) := by show _ = _; rw [HP.out, if_pos rfl, if_neg h0, if_neg h1]
        go_enter Try.func157, Try.ntmps157
        go_wp2_with fail
        refine (right_any x e _).mono ?_
        rintro r w1 ⟨v, rfl, hb1⟩
        rw [HD.out]
        go_wp2
        go_ret
        exact ⟨by rw [HQ.out]; rfl, ((Below.refl _ _).alloc (Nat.le_refl _) _).trans (hb1.mono (by simp))⟩
/-- Put where there is room for as many as mx tells. -/
def putAm (mx : Nat) (ns : List Nd) (x : Nd) : List Nd := if nodeB x ns.length = true ∧ findN ns x = -1 ∧ ns.length < mx then ns ++ [x] else ns
def putKm (mx : Nat) (ns : List Nd) (x : Nd) : Int := if nodeB x ns.length = true then (if findN ns x = -1 ∧ ns.length < mx then (ns.length : Int) else findN ns x) else -1
theorem putAm_is (ns : List Nd) (x : Nd) : putAm 3000 ns x = putA ns x := rfl
theorem putKm_is (ns : List Nd) (x : Nd) : putKm 3000 ns x = putK ns x := rfl
/-- placeFor, at the first place of the node: as Put says. -/
theorem placeB_put (mx : Nat) (ns : List Nd) (x : Nd) : placeB x ns.length (findN ns x) (mx : Int) = putKm mx ns x := by
  unfold placeB putKm
  cases nodeB x (ns.length : Int)
  · rfl
  · have := findN_range ns x
    simp only [if_true]
    by_cases h0 : 0 ≤ findN ns x
    · rw [if_pos h0, if_neg (by omega)]
    · rw [if_neg h0]
      by_cases h1 : (mx : Int) ≤ ns.length
      · rw [if_pos h1, if_neg (by omega)]; omega
      · rw [if_neg h1, if_pos (by omega)]
end Go.Proofs.Ytffnadnndmmliaa
