/- Plain mathematics of first places (chapter 3): where a node stands first, how many unlike there are; ArenaOk by them. -/
import Derived.Test.YtffnadnndmmliaaPlainTerm
import Derived.Test.YtffnadnndmmliaaPlainText
namespace Go.Proofs.Ytffnadnndmmliaa
open Go.RowKit

theorem findFrom_append (y : Nd) : ∀ (l m : List Nd) (i : Nat), findFrom y (l ++ m) i = if 0 ≤ findFrom y l i then findFrom y l i else findFrom y m (i + l.length)
  | [], m, i => by simp [findFrom]
  | x :: l, m, i => by
    rw [List.cons_append, findFrom, findFrom]
    by_cases h : x = y
    · simp only [if_pos h]; rw [if_pos (by omega)]
    · simp only [if_neg h]
      rw [findFrom_append y l m (i + 1), List.length_cons, show i + (l.length + 1) = i + 1 + l.length by omega]
theorem findN_snoc (ns : List Nd) (x y : Nd) : findN (ns ++ [x]) y = if 0 ≤ findN ns y then findN ns y else if x = y then (ns.length : Int) else -1 := by
  unfold findN
  rw [findFrom_append, Nat.zero_add]; rfl
theorem findFrom_at (y : Nd) : ∀ (l : List Nd) (i k : Nat), findFrom y l i = (k : Int) → i ≤ k ∧ l[k - i]? = some y
  | [], i, k, h => by simp [findFrom] at h
  | x :: l, i, k, h => by
    rw [findFrom] at h
    split at h
    · rename_i e
      have : i = k := by omega
      subst this
      exact ⟨Nat.le_refl _, by simp [e]⟩
    · obtain ⟨h1, h2⟩ := findFrom_at y l (i + 1) k h
      refine ⟨by omega, ?_⟩
      rw [show k - i = (k - (i + 1)) + 1 by omega, List.getElem?_cons_succ]; exact h2
theorem findN_at {ns : List Nd} {y : Nd} {k : Nat} (h : findN ns y = (k : Int)) : ns[k]? = some y := (findFrom_at y ns 0 k h).2
theorem findN_getD {ns : List Nd} {y : Nd} (h : 0 ≤ findN ns y) : ns.getD (findN ns y).toNat Nd.zero = y := by
  have := findN_at (ns := ns) (y := y) (k := (findN ns y).toNat) (by omega)
  rw [List.getD_eq_getElem?_getD, this]; rfl
theorem findN_none {ns : List Nd} {y : Nd} (h : findN ns y = -1) : ∀ i, i < ns.length → ns.getD i Nd.zero ≠ y := by
  have go : ∀ (l : List Nd) (j : Nat), findFrom y l j = -1 → ∀ i, i < l.length → l.getD i Nd.zero ≠ y := by
    intro l
    induction l with
    | nil => intro j _ i hi; simp at hi
    | cons x l ih =>
      intro j hj i hi
      rw [findFrom] at hj
      split at hj
      · omega
      · rename_i hne
        cases i with
        | zero => simpa using hne
        | succ i => simpa using ih (j + 1) hj i (by simpa using hi)
  exact go ns 0 h
theorem findN_some {ns : List Nd} {i : Nat} (h : i < ns.length) : 0 ≤ findN ns (ns.getD i Nd.zero) := by
  rcases findN_range ns (ns.getD i Nd.zero) with e | e
  · exact absurd rfl (findN_none e i h)
  · exact e.1
theorem findN_take {ns : List Nd} {y : Nd} (k : Nat) : findN ns y = if 0 ≤ findN (ns.take k) y then findN (ns.take k) y else findFrom y (ns.drop k) (ns.take k).length := by
  have : ns = ns.take k ++ ns.drop k := (List.take_append_drop k ns).symm
  conv => lhs; rw [this]
  unfold findN
  rw [findFrom_append, Nat.zero_add]

/-- How many of the first k stand there first. -/
def dcN (ns : List Nd) : Nat → Nat
  | 0 => 0
  | k + 1 => dcN ns k + if findN (ns.take k) (ns.getD k Nd.zero) = -1 then 1 else 0
theorem dcN_le (ns : List Nd) : ∀ k, dcN ns k ≤ k
  | 0 => Nat.le_refl _
  | k + 1 => by have := dcN_le ns k; rw [dcN]; split <;> omega
theorem dcN_all {ns : List Nd} : ∀ k, dcN ns k = k ↔ ∀ i, i < k → findN (ns.take i) (ns.getD i Nd.zero) = -1
  | 0 => by simp [dcN]
  | k + 1 => by
    have ih := dcN_all (ns := ns) k
    have hl := dcN_le ns k
    rw [dcN]
    constructor
    · intro h i hi
      split at h
      · by_cases e : i = k
        · subst e; assumption
        · exact ih.1 (by omega) i (by omega)
      · omega
    · intro h
      rw [if_pos (h k (by omega)), ih.2 (fun i hi => h i (by omega))]
theorem dcN_take (ns ms : List Nd) : ∀ k, k ≤ ns.length → dcN (ns ++ ms) k = dcN ns k
  | 0, _ => rfl
  | k + 1, h => by
    rw [dcN, dcN, dcN_take ns ms k (by omega), List.take_append_of_le_length (by omega)]
    rw [List.getD_eq_getElem?_getD, List.getElem?_append_left (by omega), ← List.getD_eq_getElem?_getD]
theorem dcN_snoc (ns : List Nd) (x : Nd) : dcN (ns ++ [x]) (ns ++ [x]).length = dcN ns ns.length + if findN ns x = -1 then 1 else 0 := by
  rw [List.length_append, List.length_singleton, dcN, dcN_take ns [x] ns.length (Nat.le_refl _), List.take_left]
  rw [List.getD_eq_getElem?_getD, List.getElem?_append_right (Nat.le_refl _), Nat.sub_self]; rfl

theorem first_iff {ns : List Nd} {i : Nat} (h : i < ns.length) : findN ns (ns.getD i Nd.zero) = (i : Int) ↔ findN (ns.take i) (ns.getD i Nd.zero) = -1 := by
  have hr := findN_range (ns.take i) (ns.getD i Nd.zero)
  have hl : (ns.take i).length = i := by rw [List.length_take]; omega
  have e := findN_take (ns := ns) (y := ns.getD i Nd.zero) i
  have hd : findFrom (ns.getD i Nd.zero) (ns.drop i) (ns.take i).length = (i : Int) := by
    rw [hl, find_drop ns _ i h, if_pos rfl]
  rw [e]
  constructor
  · intro h2
    rcases hr with h3 | h3
    · exact h3
    · rw [if_pos h3.1, hl] at *; omega
  · intro h2
    rw [h2, if_neg (by omega), hd]
theorem allFrom_iff (ns : List Nd) : ∀ (l : List Nd) (i : Nat), allFrom ns l i = true ↔ ∀ j, j < l.length → nodeB (l.getD j Nd.zero) ((i + j : Nat) : Int) = true ∧ findN ns (l.getD j Nd.zero) = ((i + j : Nat) : Int)
  | [], i => by simp [allFrom]
  | x :: l, i => by
    have ih := allFrom_iff ns l (i + 1)
    rw [allFrom, Bool.and_eq_true, Bool.and_eq_true, ih]
    constructor
    · rintro ⟨h1, h2, h3⟩ j hj
      cases j with
      | zero => exact ⟨by simpa using h1, by simpa using h2⟩
      | succ j =>
        have := h3 j (by simpa using hj)
        rw [show i + 1 + j = i + (j + 1) by omega] at this
        simpa using this
    · intro h
      refine ⟨by simpa using (h 0 (by simp)).1, by simpa using (h 0 (by simp)).2, fun j hj => ?_⟩
      have := h (j + 1) (by simpa using hj)
      rw [show i + (j + 1) = i + 1 + j by omega] at this
      simpa using this
/-- ArenaOk, by the nodes' being right and their count. -/
theorem arena_iff (ns : List Nd) : allFrom ns ns 0 = true ↔ (∀ i, i < ns.length → nodeB (ns.getD i Nd.zero) (i : Int) = true) ∧ dcN ns ns.length = ns.length := by
  rw [allFrom_iff, dcN_all]
  constructor
  · intro h
    exact ⟨fun i hi => by have := (h i hi).1; rw [Nat.zero_add] at this; exact this, fun i hi => (first_iff hi).1 (by have := (h i hi).2; rw [Nat.zero_add] at this; exact this)⟩
  · rintro ⟨h1, h2⟩ j hj
    rw [Nat.zero_add]
    exact ⟨h1 j hj, (first_iff hj).2 (h2 j hj)⟩
end Go.Proofs.Ytffnadnndmmliaa

namespace Go.Proofs.Ytffnadnndmmliaa
open Go.RowKit
set_option linter.unusedVariables false
/-- Right and no two the same: kept by what is put. -/
theorem all_put {ns : List Nd} {x : Nd} (h : allFrom ns ns 0 = true) : allFrom (putA ns x) (putA ns x) 0 = true := by
  unfold putA
  split
  · rename_i hx
    rw [arena_iff] at h ⊢
    refine ⟨fun i hi => ?_, ?_⟩
    · by_cases e : i < ns.length
      · have := h.1 i e
        rw [List.getD_eq_getElem?_getD, List.getElem?_append_left e, ← List.getD_eq_getElem?_getD]; exact this
      · have hi' : i = ns.length := by simp at hi; omega
        subst hi'
        rw [List.getD_eq_getElem?_getD, List.getElem?_append_right (Nat.le_refl _), Nat.sub_self]
        exact hx.1
    · rw [dcN_snoc, h.2, if_pos hx.2.1]; simp
  · exact h
theorem put_len {ns : List Nd} {x : Nd} : (putA ns x).length ≤ ns.length + 1 ∧ ns.length ≤ (putA ns x).length := by
  unfold putA; split <;> simp
theorem put_pos {ns : List Nd} {x : Nd} (h : nodeB x ns.length = true) (hl : ns.length < 3000) : 1 ≤ (putA ns x).length := by
  unfold putA
  split
  · simp
  · rename_i hn
    rcases findN_range ns x with e | e
    · exact absurd ⟨h, e, hl⟩ hn
    · omega
theorem atomB {z : Int} (h0 : 0 ≤ z) (h1 : z ≤ 999999) (k : Int) : nodeB ⟨1, z, 0, 0⟩ k = true := by
  unfold nodeB; simp [inB]; omega
theorem right_fits {x : Nd} {k : Int} (h : nodeB x k = true) (hk : k ≤ 1000000) : x.Fits := by
  unfold Nd.Fits
  rcases nodeB_true h with h | h | h <;> omega
theorem all_fits {ns : List Nd} (h : allFrom ns ns 0 = true) (hl : ns.length ≤ 3000) : ∀ y ∈ ns, y.Fits := by
  intro y hy
  obtain ⟨i, hi, rfl⟩ := List.getElem_of_mem hy
  have := ((arena_iff ns).1 h).1 i hi
  rw [List.getD_eq_getElem?_getD, List.getElem?_eq_getElem hi] at this
  exact right_fits this (by omega)
end Go.Proofs.Ytffnadnndmmliaa
