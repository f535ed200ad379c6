/- Plain mathematics of the texts of terms (chapter 3): sizes, texts, reading; over no dump. -/
import Derived.Test.YtaanophnnkmkbaaGreatPlainTerm
import Derived.Test.YtaanophnnkmkbaaGreatPlain
import Derived.Test.YtaanophnnkmkbaaGreatTermPut
import Derived.WalkKit
import Derived.WalkLawsBesides
import Derived.WalkSpells
import Derived.Maps.Own
import Derived.Maps.OwnOps
import Derived.Maps.OwnSet
import Derived.DeepKeys4
import Derived.WalkArith
namespace Go.Proofs.YtaanophnnkmkbaaGreat
open Go.RowKit Go.PlainAid

theorem inB_true {x lo hi : Int} (h : inB x lo hi = true) : lo ≤ x ∧ x ≤ hi := by unfold inB at h; simpa using h
theorem inB_mk {x lo hi : Int} (h : lo ≤ x ∧ x ≤ hi) : inB x lo hi = true := by unfold inB; simpa using h
theorem inB_false {x lo hi : Int} (h : inB x lo hi = false) : x < lo ∨ hi < x := by
  unfold inB at h; simp at h; omega
theorem one_no {k : Int} (h : oneK k = false) : ¬ oneK k = true := by rw [h]; simp
/-- What a right node is. -/
theorem nodeB_true {x : Nd} {k : Int} (h : nodeB x k = true) : (x.k = 1 ∧ 0 ≤ x.n ∧ x.n ≤ 999999 ∧ x.a = 0 ∧ x.b = 0) ∨ (2 ≤ x.k ∧ x.k ≤ 9 ∧ x.n = 0 ∧ 0 ≤ x.a ∧ x.a < k ∧ oneK x.k = true ∧ x.b = 0) ∨ (2 ≤ x.k ∧ x.k ≤ 9 ∧ x.n = 0 ∧ 0 ≤ x.a ∧ x.a < k ∧ oneK x.k = false ∧ 0 ≤ x.b ∧ x.b < k) := by
  unfold nodeB at h
  split at h
  · simp at h
  · rename_i h1
    have h1' := inB_true (by simpa using h1 : inB x.k 1 9 = true)
    split at h
    · rename_i h2
      simp at h
      have := inB_true h.1
      exact .inl ⟨h2, this.1, this.2, h.2.1, h.2.2⟩
    · rename_i h2
      split at h
      · simp at h
      · rename_i h3
        have h4 : x.n = 0 ∧ inB x.a 0 (k - 1) = true := by
          constructor
          · exact Classical.byContradiction fun e => h3 (.inl e)
          · cases e : inB x.a 0 (k - 1) with
            | true => rfl
            | false => exact absurd (.inr e) h3
        have h5 := inB_true h4.2
        split at h
        · rename_i h6
          simp at h
          exact .inr (.inl ⟨by omega, h1'.2, h4.1, h5.1, by omega, h6, h⟩)
        · rename_i h6
          have := inB_true h
          exact .inr (.inr ⟨by omega, h1'.2, h4.1, h5.1, by omega, by simpa using h6, this.1, by omega⟩)

/-- All nodes up to k are right, and k is one. -/
def Good (ns : List Nd) (k : Nat) : Prop := k < ns.length ∧ ∀ i, i ≤ k → nodeB (ns.getD i Nd.zero) i = true
theorem Good.down {ns : List Nd} {k j : Nat} (h : Good ns k) (hj : j ≤ k) : Good ns j := ⟨by have := h.1; omega, fun i hi => h.2 i (by omega)⟩

/-- The size of the term at k. -/
def szv (ns : List Nd) (k : Nat) : Int := (sizesN ns (k + 1)).getD k 0
theorem szv_at (ns : List Nd) : ∀ m k, k < m → (sizesN ns m).getD k 0 = szv ns k
  | m + 1, k, h => by
    by_cases e : k = m
    · subst e; rfl
    · rw [sizesN, List.getD_eq_getElem?_getD, List.getElem?_append_left (by rw [sizesN_len]; omega), ← List.getD_eq_getElem?_getD]
      exact szv_at ns m k (by omega)
theorem szv_eq (ns : List Nd) (k : Nat) : szv ns k = szOne (sizesN ns k) k (ns.getD k Nd.zero) := by
  unfold szv
  rw [sizesN, List.getD_eq_getElem?_getD, List.getElem?_append_right (by rw [sizesN_len]; exact Nat.le_refl _), sizesN_len, Nat.sub_self]; rfl
/-- The summands. -/
def szSum (ns : List Nd) (x : Nd) : Int := if x.k = 1 then 1 else if oneK x.k = true then 1 + szv ns x.a.toNat else 1 + szv ns x.a.toNat + szv ns x.b.toNat
theorem szv_bad {ns : List Nd} {k : Nat} (h : nodeB (ns.getD k Nd.zero) k = false) : szv ns k = 0 := by
  rw [szv_eq, szOne, if_pos (.inl h)]
theorem szv_prev {ns : List Nd} {k : Nat} (h : szv ns k = 0) : szv ns (k + 1) = 0 := by
  rw [szv_eq, szOne, if_pos (.inr ⟨by omega, by rw [show k + 1 - 1 = k by omega, szv_at ns (k + 1) k (by omega)]; exact h⟩)]
theorem szv_zero_up {ns : List Nd} {j : Nat} (h : szv ns j = 0) : ∀ k, j ≤ k → szv ns k = 0 := by
  intro k hk
  induction k with
  | zero => obtain rfl : j = 0 := by omega
            exact h
  | succ k ih =>
    by_cases e : j = k + 1
    · subst e; exact h
    · exact szv_prev (ih (by omega))
theorem sz_kids {ns : List Nd} {k : Nat} (h : nodeB (ns.getD k Nd.zero) k = true) : (if (ns.getD k Nd.zero).k = 1 then (1 : Int) else if oneK (ns.getD k Nd.zero).k = true then 1 + (sizesN ns k).getD (ns.getD k Nd.zero).a.toNat 0 else 1 + (sizesN ns k).getD (ns.getD k Nd.zero).a.toNat 0 + (sizesN ns k).getD (ns.getD k Nd.zero).b.toNat 0) = szSum ns (ns.getD k Nd.zero) := by
  unfold szSum
  rcases nodeB_true h with ⟨h1, _⟩ | ⟨h1, _, _, h2, h3, h4, _⟩ | ⟨h1, _, _, h2, h3, h4, h5, h6⟩
  · rw [if_pos h1, if_pos h1]
  · have hk : ¬ (ns.getD k Nd.zero).k = 1 := by omega
    simp only [if_neg hk, if_pos h4]; rw [szv_at ns k _ (by omega)]
  · have hk : ¬ (ns.getD k Nd.zero).k = 1 := by omega
    have ho := one_no h4
    simp only [if_neg hk, if_neg ho]; rw [szv_at ns k _ (by omega), szv_at ns k _ (by omega)]
/-- The size of a right term, from those of its own ones. -/
theorem szv_good {ns : List Nd} {k : Nat} (h : nodeB (ns.getD k Nd.zero) k = true) (hp : 0 < k → szv ns (k - 1) ≠ 0) : szv ns k = if 100000 < szSum ns (ns.getD k Nd.zero) then 100000 else szSum ns (ns.getD k Nd.zero) := by
  rw [szv_eq, szOne, if_neg]
  · simp only [sz_kids h]
  · rintro (e | ⟨e1, e2⟩)
    · rw [h] at e; simp at e
    · rw [szv_at ns k _ (by omega)] at e2
      exact hp e1 e2
theorem szv_range (ns : List Nd) : ∀ k, (∀ i, i ≤ k → nodeB (ns.getD i Nd.zero) i = true) → 1 ≤ szv ns k ∧ szv ns k ≤ 100000 := by
  intro k
  induction k using Nat.strongRecOn with
  | ind k ih =>
    intro h
    have e := szv_good (h k (Nat.le_refl _)) (fun h0 => by have := ih (k - 1) (by omega) (fun i hi => h i (by omega)); omega)
    have hs : 1 ≤ szSum ns (ns.getD k Nd.zero) := by
      unfold szSum
      rcases nodeB_true (h k (Nat.le_refl _)) with ⟨h1, _⟩ | ⟨h1, _, _, h2, h3, h4, _⟩ | ⟨h1, _, _, h2, h3, h4, h5, h6⟩
      · rw [if_pos h1]; omega
      · have := ih (ns.getD k Nd.zero).a.toNat (by omega) (fun i hi => h i (by omega))
        rw [if_neg (by omega), if_pos h4]; omega
      · have := ih (ns.getD k Nd.zero).a.toNat (by omega) (fun i hi => h i (by omega))
        have := ih (ns.getD k Nd.zero).b.toNat (by omega) (fun i hi => h i (by omega))
        rw [if_neg (by omega), if_neg (one_no h4)]; omega
    rw [e]
    split <;> omega
theorem szv_le (ns : List Nd) (k : Nat) : 0 ≤ szv ns k ∧ szv ns k ≤ 100000 := by
  by_cases h : ∀ i, i ≤ k → nodeB (ns.getD i Nd.zero) i = true
  · have := szv_range ns k h; omega
  · have h' : ∃ i, i ≤ k ∧ nodeB (ns.getD i Nd.zero) i = false := by
      apply Classical.byContradiction
      intro e
      apply h
      intro i hi
      cases hb : nodeB (ns.getD i Nd.zero) i with
      | true => rfl
      | false => exact absurd ⟨i, hi, hb⟩ e
    obtain ⟨i, hi, hb⟩ := h'
    have := szv_zero_up (szv_bad hb) k hi
    omega
theorem szv_ne {ns : List Nd} {k : Nat} (h : szv ns k ≠ 0) : ∀ i, i ≤ k → nodeB (ns.getD i Nd.zero) i = true := by
  intro i hi
  cases hb : nodeB (ns.getD i Nd.zero) i with
  | true => rfl
  | false => exact absurd (szv_zero_up (szv_bad hb) k hi) h
/-- SizeOf at a place, by the size there. -/
theorem sizeN_in (ns : List Nd) (k : Nat) (h : k < ns.length) : sizeN ns (k : Int) = szv ns k := by
  unfold sizeN
  rw [if_pos (inB_mk (by omega))]; rfl
theorem sizeN_out {ns : List Nd} {k : Int} (h : inB k 0 ((ns.length : Int) - 1) = false) : sizeN ns k = 0 := by
  unfold sizeN; rw [if_neg (by simp [h])]
theorem sizeN_good {ns : List Nd} {k : Int} (h : sizeN ns k ≠ 0) : ∃ i : Nat, k = (i : Int) ∧ Good ns i ∧ sizeN ns k = szv ns i := by
  cases e : inB k 0 ((ns.length : Int) - 1) with
  | false => exact absurd (sizeN_out e) h
  | true =>
    have hb := inB_true e
    have hk : k = (k.toNat : Int) := by omega
    have hl : k.toNat < ns.length := by omega
    have hs := sizeN_in ns k.toNat hl
    rw [← hk] at hs
    exact ⟨k.toNat, hk, ⟨hl, szv_ne (by rw [← hs]; exact h)⟩, hs⟩
theorem sizeN_range (ns : List Nd) (k : Int) : 0 ≤ sizeN ns k ∧ sizeN ns k ≤ 100000 := by
  by_cases h : sizeN ns k = 0
  · omega
  · obtain ⟨i, _, _, e⟩ := sizeN_good h
    rw [e]; exact szv_le ns i

/-- The text of the term at k, as numbers; enough fuel: k + 1. -/
def txt (ns : List Nd) : Nat → Nat → List Int
  | 0, _ => []
  | f + 1, k => vb (ns.getD k Nd.zero).k.toNat ++ (if (ns.getD k Nd.zero).k = 1 then vb (ns.getD k Nd.zero).n.toNat else txt ns f (ns.getD k Nd.zero).a.toNat ++ (if oneK (ns.getD k Nd.zero).k = true then [] else txt ns f (ns.getD k Nd.zero).b.toNat))
theorem txt_fuel {ns : List Nd} : ∀ (k f g : Nat), Good ns k → k < f → k < g → txt ns f k = txt ns g k := by
  intro k
  induction k using Nat.strongRecOn with
  | ind k ih =>
    intro f g h hf hg
    obtain ⟨f, rfl⟩ : ∃ f', f = f' + 1 := ⟨f - 1, by omega⟩
    obtain ⟨g, rfl⟩ : ∃ g', g = g' + 1 := ⟨g - 1, by omega⟩
    rw [txt, txt]
    rcases nodeB_true (h.2 k (Nat.le_refl _)) with ⟨h1, _⟩ | ⟨h1, _, _, h2, h3, h4, _⟩ | ⟨h1, _, _, h2, h3, h4, h5, h6⟩
    · rw [if_pos h1, if_pos h1]
    · have hk : ¬ (ns.getD k Nd.zero).k = 1 := by omega
      simp only [if_neg hk, if_pos h4]
      rw [ih _ (by omega) f g (h.down (by omega)) (by omega) (by omega)]
    · have hk : ¬ (ns.getD k Nd.zero).k = 1 := by omega
      simp only [if_neg hk, if_neg (one_no h4)]
      rw [ih _ (by omega) f g (h.down (by omega)) (by omega) (by omega), ih (ns.getD k Nd.zero).b.toNat (by omega) f g (h.down (by omega)) (by omega) (by omega)]
def tx (ns : List Nd) (k : Nat) : List Int := txt ns (k + 1) k
theorem tx_atom {ns : List Nd} {k : Nat} (h1 : (ns.getD k Nd.zero).k = 1) : tx ns k = vb 1 ++ vb (ns.getD k Nd.zero).n.toNat := by
  unfold tx; rw [txt, if_pos h1, h1]; rfl
theorem tx_one {ns : List Nd} {k : Nat} (h : Good ns k) (h1 : 2 ≤ (ns.getD k Nd.zero).k) (h4 : oneK (ns.getD k Nd.zero).k = true) : tx ns k = vb (ns.getD k Nd.zero).k.toNat ++ tx ns (ns.getD k Nd.zero).a.toNat := by
  unfold tx
  rw [txt, if_neg (by omega), if_pos h4, List.append_nil]
  rcases nodeB_true (h.2 k (Nat.le_refl _)) with ⟨h1', _⟩ | ⟨_, _, _, h2, h3, h4, _⟩ | ⟨_, _, _, h2, h3, h4, h5, h6⟩
  · omega
  · rw [txt_fuel _ k ((ns.getD k Nd.zero).a.toNat + 1) (h.down (by omega)) (by omega) (by omega)]
  · rw [txt_fuel _ k ((ns.getD k Nd.zero).a.toNat + 1) (h.down (by omega)) (by omega) (by omega)]
theorem tx_two {ns : List Nd} {k : Nat} (h : Good ns k) (h1 : 2 ≤ (ns.getD k Nd.zero).k) (h4 : oneK (ns.getD k Nd.zero).k = false) : tx ns k = vb (ns.getD k Nd.zero).k.toNat ++ (tx ns (ns.getD k Nd.zero).a.toNat ++ tx ns (ns.getD k Nd.zero).b.toNat) := by
  unfold tx
  rw [txt, if_neg (by omega), if_neg (one_no h4)]
  rcases nodeB_true (h.2 k (Nat.le_refl _)) with ⟨h1', _⟩ | ⟨_, _, _, h2, h3, h4', _⟩ | ⟨_, _, _, h2, h3, _, h5, h6⟩
  · omega
  · rw [h4] at h4'; simp at h4'
  · rw [txt_fuel _ k ((ns.getD k Nd.zero).a.toNat + 1) (h.down (by omega)) (by omega) (by omega), txt_fuel _ k ((ns.getD k Nd.zero).b.toNat + 1) (h.down (by omega)) (by omega) (by omega)]
theorem vb_one : vb 1 = [1] := by rw [vb_small (by omega)]; rfl
theorem vb_k {x : Int} (h0 : 1 ≤ x) (h1 : x ≤ 9) : vb x.toNat = [x] := by rw [vb_small (by omega)]; congr 1; omega
theorem vb_len3 (n : Nat) (h : n ≤ 999999) : (vb n).length ≤ 3 := vb_len 2 n (by omega)
theorem tx_len {ns : List Nd} : ∀ k, Good ns k → szv ns k ≤ 2000 → ((tx ns k).length : Int) ≤ 4 * szv ns k := by
  intro k
  induction k using Nat.strongRecOn with
  | ind k ih =>
    intro h hz
    have hp : 0 < k → szv ns (k - 1) ≠ 0 := fun h0 => by have := szv_range ns (k - 1) (h.down (show k - 1 ≤ k by omega)).2; omega
    have e := szv_good (h.2 k (Nat.le_refl _)) hp
    have e2 : szv ns k = szSum ns (ns.getD k Nd.zero) := by
      rw [e] at hz ⊢
      split at hz
      · omega
      · rw [if_neg (by assumption)]
    unfold szSum at e2
    rcases nodeB_true (h.2 k (Nat.le_refl _)) with ⟨h1, h2, h3, _⟩ | ⟨h1, h9, _, h2, h3, h4, _⟩ | ⟨h1, h9, _, h2, h3, h4, h5, h6⟩
    · rw [if_pos h1] at e2
      rw [tx_atom h1, vb_one, e2]
      have := vb_len3 (ns.getD k Nd.zero).n.toNat (by omega)
      simp only [List.length_append, List.length_cons, List.length_nil]; omega
    · rw [if_neg (by omega), if_pos h4] at e2
      have ga := h.down (show (ns.getD k Nd.zero).a.toNat ≤ k by omega)
      have := ih _ (by omega) ga (by have := szv_range ns _ ga.2; omega)
      rw [tx_one h h1 h4, vb_k (by omega) h9]
      simp only [List.length_append, List.length_cons, List.length_nil]; omega
    · rw [if_neg (by omega), if_neg (one_no h4)] at e2
      have ga := h.down (show (ns.getD k Nd.zero).a.toNat ≤ k by omega)
      have gb := h.down (show (ns.getD k Nd.zero).b.toNat ≤ k by omega)
      have ra := szv_range ns _ ga.2
      have rb := szv_range ns _ gb.2
      have := ih _ (by omega) ga (by omega)
      have := ih (ns.getD k Nd.zero).b.toNat (by omega) gb (by omega)
      rw [tx_two h h1 h4, vb_k (by omega) h9]
      simp only [List.length_append, List.length_cons, List.length_nil]; omega
theorem tx_range (ns : List Nd) : ∀ f k, ∀ x ∈ txt ns f k, 0 ≤ x ∧ x ≤ 255
  | 0, _ => by simp [txt]
  | f + 1, k => by
    intro x hx
    rw [txt] at hx
    rcases List.mem_append.mp hx with hx | hx
    · exact vb_range _ x hx
    · split at hx
      · exact vb_range _ x hx
      · rcases List.mem_append.mp hx with hx | hx
        · exact tx_range ns f _ x hx
        · split at hx
          · simp at hx
          · exact tx_range ns f _ x hx
end Go.Proofs.YtaanophnnkmkbaaGreat

namespace Go.Proofs.YtaanophnnkmkbaaGreat
set_option linter.unusedVariables false
theorem all_at {ns : List Nd} (h : allFrom ns ns 0 = true) {i : Nat} (hi : i < ns.length) : nodeB (ns.getD i Nd.zero) i = true ∧ findN ns (ns.getD i Nd.zero) = (i : Int) := by
  have key : ∀ j, j ≤ ns.length → allFrom ns (ns.drop j) j = true := by
    intro j
    induction j with
    | zero => intro _; simpa using h
    | succ j ih =>
      intro hj
      have h1 := ih (by omega)
      rw [all_drop ns j (by omega)] at h1
      simp only [Bool.and_eq_true] at h1
      exact h1.2.2
  have h1 := key i (by omega)
  rw [all_drop ns i hi] at h1
  simp only [Bool.and_eq_true, decide_eq_true_eq] at h1
  exact ⟨h1.1, h1.2.1⟩
theorem all_good {ns : List Nd} (h : allFrom ns ns 0 = true) {k : Nat} (hk : k < ns.length) : Good ns k := ⟨hk, fun i hi => (all_at h (by omega)).1⟩
/-- A node that is right is right further behind. -/
theorem nodeB_mono {x : Nd} {k l : Int} (h : nodeB x k = true) (hl : k ≤ l) : nodeB x l = true := by
  rcases nodeB_true h with h1 | h1 | h1
  · obtain ⟨h2, h3, h4, h5, h6⟩ := h1
    unfold nodeB
    rw [if_neg (by rw [h2]; decide), if_pos h2, inB_mk ⟨h3, h4⟩, h5, h6]; rfl
  · obtain ⟨h2, h3, h4, h5, h6, h7, h8⟩ := h1
    unfold nodeB
    rw [if_neg (by rw [inB_mk ⟨by omega, h3⟩]; simp), if_neg (by omega), if_neg (by rintro (e | e); exact e h4; rw [inB_mk ⟨h5, by omega⟩] at e; simp at e), if_pos h7, h8]; rfl
  · obtain ⟨h2, h3, h4, h5, h6, h7, h8, h9⟩ := h1
    unfold nodeB
    rw [if_neg (by rw [inB_mk ⟨by omega, h3⟩]; simp), if_neg (by omega), if_neg (by rintro (e | e); exact e h4; rw [inB_mk ⟨h5, by omega⟩] at e; simp at e), if_neg (by rw [h7]; simp)]
    exact inB_mk ⟨h8, by omega⟩
theorem put_self {ns : List Nd} (h : allFrom ns ns 0 = true) {k : Nat} (hk : k < ns.length) : putA ns (ns.getD k Nd.zero) = ns ∧ putK ns (ns.getD k Nd.zero) = (k : Int) := by
  obtain ⟨h1, h2⟩ := all_at h hk
  have h3 := nodeB_mono h1 (show (k : Int) ≤ (ns.length : Int) by omega)
  constructor
  · unfold putA; rw [if_neg (by rw [h2]; omega)]
  · unfold putK; rw [if_pos h3, if_neg (by rw [h2]; omega), h2]
end Go.Proofs.YtaanophnnkmkbaaGreat

namespace Go.Proofs.YtaanophnnkmkbaaGreat
open Go.RowKit

theorem findFrom_append (y : Nd) : ∀ (l m : List Nd) (i : Nat), findFrom y (l ++ m) i = if 0 ≤ findFrom y l i then findFrom y l i else findFrom y m (i + l.length)
  | [], m, i => by simp [findFrom]
  | x :: l, m, i => by
    rw [List.cons_append, findFrom, findFrom]
    by_cases h : x = y
    · simp only [if_pos h]; rw [if_pos (by omega)]
    · simp only [if_neg h]
      rw [findFrom_append y l m (i + 1), List.length_cons, show i + (l.length + 1) = i + 1 + l.length by omega]
theorem findN_snoc (ns : List Nd) (x y : Nd) : findN (ns ++ [x]) y = if 0 ≤ findN ns y then findN ns y else if x = y then (ns.length : Int) else -1 := by
  unfold findN
  rw [findFrom_append, Nat.zero_add]; rfl
theorem findFrom_at (y : Nd) : ∀ (l : List Nd) (i k : Nat), findFrom y l i = (k : Int) → i ≤ k ∧ l[k - i]? = some y
  | [], i, k, h => by simp [findFrom] at h
  | x :: l, i, k, h => by
    rw [findFrom] at h
    split at h
    · rename_i e
      have : i = k := by omega
      subst this
      exact ⟨Nat.le_refl _, by simp [e]⟩
    · obtain ⟨h1, h2⟩ := findFrom_at y l (i + 1) k h
      refine ⟨by omega, ?_⟩
      rw [show k - i = (k - (i + 1)) + 1 by omega, List.getElem?_cons_succ]; exact h2
theorem findN_at {ns : List Nd} {y : Nd} {k : Nat} (h : findN ns y = (k : Int)) : ns[k]? = some y := (findFrom_at y ns 0 k h).2
theorem findN_getD {ns : List Nd} {y : Nd} (h : 0 ≤ findN ns y) : ns.getD (findN ns y).toNat Nd.zero = y := by
  have := findN_at (ns := ns) (y := y) (k := (findN ns y).toNat) (by omega)
  rw [List.getD_eq_getElem?_getD, this]; rfl
theorem findN_none {ns : List Nd} {y : Nd} (h : findN ns y = -1) : ∀ i, i < ns.length → ns.getD i Nd.zero ≠ y := by
  have go : ∀ (l : List Nd) (j : Nat), findFrom y l j = -1 → ∀ i, i < l.length → l.getD i Nd.zero ≠ y := by
    intro l
    induction l with
    | nil => intro j _ i hi; simp at hi
    | cons x l ih =>
      intro j hj i hi
      rw [findFrom] at hj
      split at hj
      · omega
      · rename_i hne
        cases i with
        | zero => simpa using hne
        | succ i => simpa using ih (j + 1) hj i (by simpa using hi)
  exact go ns 0 h
theorem findN_some {ns : List Nd} {i : Nat} (h : i < ns.length) : 0 ≤ findN ns (ns.getD i Nd.zero) := by
  rcases findN_range ns (ns.getD i Nd.zero) with e | e
  · exact absurd rfl (findN_none e i h)
  · exact e.1
theorem findN_take {ns : List Nd} {y : Nd} (k : Nat) : findN ns y = if 0 ≤ findN (ns.take k) y then findN (ns.take k) y else findFrom y (ns.drop k) (ns.take k).length := by
  have : ns = ns.take k ++ ns.drop k := (List.take_append_drop k ns).symm
  conv => lhs; rw [this]
  unfold findN
  rw [findFrom_append, Nat.zero_add]

/-- How many of the first k stand there first. -/
def dcN (ns : List Nd) : Nat → Nat
  | 0 => 0
  | k + 1 => dcN ns k + if findN (ns.take k) (ns.getD k Nd.zero) = -1 then 1 else 0
theorem dcN_le (ns : List Nd) : ∀ k, dcN ns k ≤ k
  | 0 => Nat.le_refl _
  | k + 1 => by have := dcN_le ns k; rw [dcN]; split <;> omega
theorem dcN_all {ns : List Nd} : ∀ k, dcN ns k = k ↔ ∀ i, i < k → findN (ns.take i) (ns.getD i Nd.zero) = -1
  | 0 => by simp [dcN]
  | k + 1 => by
    have ih := dcN_all (ns := ns) k
    have hl := dcN_le ns k
    rw [dcN]
    constructor
    · intro h i hi
      split at h
      · by_cases e : i = k
        · subst e; assumption
        · exact ih.1 (by omega) i (by omega)
      · omega
    · intro h
      rw [if_pos (h k (by omega)), ih.2 (fun i hi => h i (by omega))]
theorem dcN_take (ns ms : List Nd) : ∀ k, k ≤ ns.length → dcN (ns ++ ms) k = dcN ns k
  | 0, _ => rfl
  | k + 1, h => by
    rw [dcN, dcN, dcN_take ns ms k (by omega), List.take_append_of_le_length (by omega)]
    rw [List.getD_eq_getElem?_getD, List.getElem?_append_left (by omega), ← List.getD_eq_getElem?_getD]
theorem dcN_snoc (ns : List Nd) (x : Nd) : dcN (ns ++ [x]) (ns ++ [x]).length = dcN ns ns.length + if findN ns x = -1 then 1 else 0 := by
  rw [List.length_append, List.length_singleton, dcN, dcN_take ns [x] ns.length (Nat.le_refl _), List.take_left]
  rw [List.getD_eq_getElem?_getD, List.getElem?_append_right (Nat.le_refl _), Nat.sub_self]; rfl

theorem first_iff {ns : List Nd} {i : Nat} (h : i < ns.length) : findN ns (ns.getD i Nd.zero) = (i : Int) ↔ findN (ns.take i) (ns.getD i Nd.zero) = -1 := by
  have hr := findN_range (ns.take i) (ns.getD i Nd.zero)
  have hl : (ns.take i).length = i := by rw [List.length_take]; omega
  have e := findN_take (ns := ns) (y := ns.getD i Nd.zero) i
  have hd : findFrom (ns.getD i Nd.zero) (ns.drop i) (ns.take i).length = (i : Int) := by
    rw [hl, find_drop ns _ i h, if_pos rfl]
  rw [e]
  constructor
  · intro h2
    rcases hr with h3 | h3
    · exact h3
    · rw [if_pos h3.1, hl] at *; omega
  · intro h2
    rw [h2, if_neg (by omega), hd]
theorem allFrom_iff (ns : List Nd) : ∀ (l : List Nd) (i : Nat), allFrom ns l i = true ↔ ∀ j, j < l.length → nodeB (l.getD j Nd.zero) ((i + j : Nat) : Int) = true ∧ findN ns (l.getD j Nd.zero) = ((i + j : Nat) : Int)
  | [], i => by simp [allFrom]
  | x :: l, i => by
    have ih := allFrom_iff ns l (i + 1)
    rw [allFrom, Bool.and_eq_true, Bool.and_eq_true, ih]
    constructor
    · rintro ⟨h1, h2, h3⟩ j hj
      cases j with
      | zero => exact ⟨by simpa using h1, by simpa using h2⟩
      | succ j =>
        have := h3 j (by simpa using hj)
        rw [show i + 1 + j = i + (j + 1) by omega] at this
        simpa using this
    · intro h
      refine ⟨by simpa using (h 0 (by simp)).1, by simpa using (h 0 (by simp)).2, fun j hj => ?_⟩
      have := h (j + 1) (by simpa using hj)
      rw [show i + (j + 1) = i + 1 + j by omega] at this
      simpa using this
/-- ArenaOk, by the nodes' being right and their count. -/
theorem arena_iff (ns : List Nd) : allFrom ns ns 0 = true ↔ (∀ i, i < ns.length → nodeB (ns.getD i Nd.zero) (i : Int) = true) ∧ dcN ns ns.length = ns.length := by
  rw [allFrom_iff, dcN_all]
  constructor
  · intro h
    exact ⟨fun i hi => by have := (h i hi).1; rw [Nat.zero_add] at this; exact this, fun i hi => (first_iff hi).1 (by have := (h i hi).2; rw [Nat.zero_add] at this; exact this)⟩
  · rintro ⟨h1, h2⟩ j hj
    rw [Nat.zero_add]
    exact ⟨h1 j hj, (first_iff hj).2 (h2 j hj)⟩
end Go.Proofs.YtaanophnnkmkbaaGreat

namespace Go.Proofs.YtaanophnnkmkbaaGreat
open Go.RowKit
set_option linter.unusedVariables false
/-- Right and no two the same: kept by what is put. -/
theorem all_put {ns : List Nd} {x : Nd} (h : allFrom ns ns 0 = true) : allFrom (putA ns x) (putA ns x) 0 = true := by
  unfold putA
  split
  · rename_i hx
    rw [arena_iff] at h ⊢
    refine ⟨fun i hi => ?_, ?_⟩
    · by_cases e : i < ns.length
      · have := h.1 i e
        rw [List.getD_eq_getElem?_getD, List.getElem?_append_left e, ← List.getD_eq_getElem?_getD]; exact this
      · have hi' : i = ns.length := by simp at hi; omega
        subst hi'
        rw [List.getD_eq_getElem?_getD, List.getElem?_append_right (Nat.le_refl _), Nat.sub_self]
        exact hx.1
    · rw [dcN_snoc, h.2, if_pos hx.2.1]; simp
  · exact h
theorem put_len {ns : List Nd} {x : Nd} : (putA ns x).length ≤ ns.length + 1 ∧ ns.length ≤ (putA ns x).length := by
  unfold putA; split <;> simp
theorem put_pos {ns : List Nd} {x : Nd} (h : nodeB x ns.length = true) (hl : ns.length < 3000) : 1 ≤ (putA ns x).length := by
  unfold putA
  split
  · simp
  · rename_i hn
    rcases findN_range ns x with e | e
    · exact absurd ⟨h, e, hl⟩ hn
    · omega
theorem atomB {z : Int} (h0 : 0 ≤ z) (h1 : z ≤ 999999) (k : Int) : nodeB ⟨1, z, 0, 0⟩ k = true := by
  unfold nodeB; simp [inB]; omega
theorem right_fits {x : Nd} {k : Int} (h : nodeB x k = true) (hk : k ≤ 1000000) : x.Fits := by
  unfold Nd.Fits
  rcases nodeB_true h with h | h | h <;> omega
theorem all_fits {ns : List Nd} (h : allFrom ns ns 0 = true) (hl : ns.length ≤ 3000) : ∀ y ∈ ns, y.Fits := by
  intro y hy
  obtain ⟨i, hi, rfl⟩ := List.getElem_of_mem hy
  have := ((arena_iff ns).1 h).1 i hi
  rw [List.getD_eq_getElem?_getD, List.getElem?_eq_getElem hi] at this
  exact right_fits this (by omega)
end Go.Proofs.YtaanophnnkmkbaaGreat

namespace Go.Proofs.YtaanophnnkmkbaaGreat
open Go.RowKit Go.Maps
set_option linter.unusedVariables false

theorem laidOutP : laidOutB Tryz.prog = true := by kernel_rfl
theorem nodeKeyed : Keyed Tryz.prog 86 := Keyed.of_law (deep_law_laid laidOutP (m := 3) (by omega) (of_decide_eq_true (by kernel_rfl)) (by kernel_rfl) (by kernel_rfl))
theorem keyTypeN (k n a b : Int) : (Tryz.prog.keyType 86 && (Value.agg #[.int .i64 k, .int .i64 n, .int .i64 a, .int .i64 b]).formed Tryz.prog 86) = true := by kernel_rfl
theorem cellsINode : Tryz.prog.cellsOf 86 = 4 := by kernel_rfl
theorem cellsIInt : Tryz.prog.cellsOf 3 = 1 := by kernel_rfl
theorem typesPos : ∃ d, Tryz.prog.types.size + 1 = d + 1 + 1 := ⟨Tryz.prog.types.size - 1, by have : 0 < Tryz.prog.types.size := of_decide_eq_true (by kernel_rfl); omega⟩
theorem key_any (x : Nd) (hf : x.Fits) : ∃ l, keyOf Tryz.prog 86 (.agg #[.int .i64 x.k, .int .i64 x.n, .int .i64 x.a, .int .i64 x.b]) = some l := by
  obtain ⟨⟨a0, a1⟩, ⟨b0, b1⟩, ⟨c0, c1⟩, ⟨d0, d1⟩⟩ := hf
  have w0 : (Lit.int .i64 x.k).wf = true := WalkArith.wf_i64 ⟨a0, a1⟩
  have w1 : (Lit.int .i64 x.n).wf = true := WalkArith.wf_i64 ⟨b0, b1⟩
  have w2 : (Lit.int .i64 x.a).wf = true := WalkArith.wf_i64 ⟨c0, c1⟩
  have w3 : (Lit.int .i64 x.b).wf = true := WalkArith.wf_i64 ⟨d0, d1⟩
  unfold keyOf
  rw [Tryz.underlying86]
  simp only []
  rw [if_pos (keyTypeN _ _ _ _)]
  obtain ⟨d, hd⟩ := typesPos
  rw [hd]
  simp [Program.keyLits, Tryz.underlying86, Tryz.underlying3, Value.cells, cellsINode, cellsIInt, w0, w1, w2, w3]

/-- What a node reads as, as a key. -/
noncomputable def keyN (x : Nd) : Lit := (keyOf Tryz.prog 86 (.agg #[.int .i64 x.k, .int .i64 x.n, .int .i64 x.a, .int .i64 x.b])).getD (.bool false)
theorem key_of {x : Nd} (hf : x.Fits) : keyOf Tryz.prog 86 (.agg #[.int .i64 x.k, .int .i64 x.n, .int .i64 x.a, .int .i64 x.b]) = some (keyN x) := by
  obtain ⟨l, h⟩ := key_any x hf
  unfold keyN; rw [h]; rfl
theorem keyN_inj {x y : Nd} (hx : x.Fits) (hy : y.Fits) (h : keyN x = keyN y) : x = y := by
  have h1 := key_of hx
  rw [h] at h1
  have h2 := nodeKeyed.inj h1 (key_of hy)
  simp only [Value.agg.injEq, Array.mk.injEq, List.cons.injEq, Value.int.injEq, true_and, and_true] at h2
  exact (nd_eq x y).2 ⟨h2.1, h2.2.1, h2.2.2.1, h2.2.2.2⟩
set_option maxRecDepth 100000 in
theorem keyN_key {x : Nd} (hx : x.Fits) : WideAt.IsKeyLit (keyN x) := nodeKeyed.key (key_of hx)

/-- What the map of first places holds of the nodes ns. -/
structure PlacesD (ns : List Nd) (D : DataW Unit) : Prop where
  tidy : Tidy D
  has : ∀ x : Nd, x.Fits → Maps.has D (keyN x) = decide (0 ≤ findN ns x)
  at' : ∀ x : Nd, x.Fits → 0 ≤ findN ns x → ∀ z, D.atKey (keyN x) z = .lit (.int .i64 (findN ns x))
  size : Maps.size D = dcN ns ns.length
theorem PlacesD.start : PlacesD [] (.map []) := ⟨tidy_empty, fun x _ => by simp [Maps.has, findN, findFrom], fun x _ h => by simp [findN, findFrom] at h, rfl⟩
set_option maxRecDepth 100000 in
theorem PlacesD.new {ns : List Nd} {D : DataW Unit} {x : Nd} (h : PlacesD ns D) (hx : x.Fits) (hn : findN ns x = -1) : PlacesD (ns ++ [x]) (D.put (keyN x) (.lit (.int .i64 (ns.length : Int)))) := by
  refine ⟨h.tidy.put (keyN_key hx) _, fun y hy => ?_, fun y hy h0 z => ?_, ?_⟩
  · rw [findN_snoc]
    by_cases e : x = y
    · subst e
      rw [has_put_same h.tidy.isMap (keyN_key hx), hn]; simp
    · rw [has_put_other (fun e2 => e (keyN_inj hy hx e2).symm), h.has y hy]
      by_cases h0 : 0 ≤ findN ns y
      · rw [if_pos h0]
      · rw [if_neg h0, if_neg e]; simp; omega
  · rw [findN_snoc] at h0 ⊢
    by_cases e : x = y
    · subst e
      rw [atKey_put_same h.tidy.isMap (keyN_key hx), hn]; simp
    · rw [atKey_put_other (fun e2 => e (keyN_inj hy hx e2).symm)]
      by_cases h1 : 0 ≤ findN ns y
      · rw [if_pos h1]; exact h.at' y hy h1 z
      · rw [if_neg h1, if_neg e] at h0; omega
  · rw [size_put h.tidy, h.has x hx, dcN_snoc, hn, h.size]; simp
theorem PlacesD.old {ns : List Nd} {D : DataW Unit} {x : Nd} (h : PlacesD ns D) (hn : 0 ≤ findN ns x) : PlacesD (ns ++ [x]) D := by
  have e : ∀ y, findN (ns ++ [x]) y = findN ns y := fun y => by
    rw [findN_snoc]
    by_cases h0 : 0 ≤ findN ns y
    · rw [if_pos h0]
    · rw [if_neg h0, if_neg (fun e : x = y => h0 (e ▸ hn))]
      have := findN_range ns y
      omega
  exact ⟨h.tidy, fun y hy => by rw [e, h.has y hy], fun y hy h0 z => by rw [e] at h0 ⊢; exact h.at' y hy h0 z, by rw [dcN_snoc, if_neg (by omega), h.size]; rfl⟩

theorem zeroInt (w : World) : (zeroValue 3).run Tryz.prog w = .ok (.int .i64 0) w := by kernel_rfl
theorem make_places (n : Int) (w : World) : (Instr.makeMap 106 (some (.int .i64 n))).run Tryz.prog w = .ok (.map (some w.heap.size)) (w.alloc (.map #[] 0)) := by kernel_rfl
theorem take_next (ns : List Nd) (k : Nat) (h : k < ns.length) : ns.take (k + 1) = ns.take k ++ [ns.getD k Nd.zero] := by
  rw [List.take_succ_eq_append_getElem h, List.getD_eq_getElem?_getD, List.getElem?_eq_getElem h]; rfl
theorem getD_mem (ns : List Nd) (k : Nat) (h : k < ns.length) : ns.getD k Nd.zero ∈ ns := by
  rw [List.getD_eq_getElem?_getD, List.getElem?_eq_getElem h]; exact List.getElem_mem _
set_option maxHeartbeats 1600000 in
set_option maxRecDepth 100000 in
theorem placesOf_any (a : Option Addr) (cap : Nat) (ns : List Nd) (w : World) (hl : ns.length ≤ 1048576) (hf : ∀ y ∈ ns, y.Fits) (hr : RowN w.heap.size w a ns) :
    Calls Tryz.prog 98 #[.slice a ns.length cap] w fun e w' => ∃ D, e = .returned (.map (some w.heap.size)) ∧ w'.ownsMap Tryz.prog 86 (plainElem Tryz.prog 3) w.heap.size ns.length D ∧ PlacesD ns D ∧ Below w.heap.size w w' := by
  have HR : Hid (RowN w.heap.size w a ns) := hr
  have HF : Hid (∀ y ∈ ns, y.Fits) := hf
  clear hr hf
  have hmm := make_places
  go_enter Tryz.func98, Tryz.ntmps98
  go_wp2
  go_loopw [13] (fun i wr => ∃ (k : Nat) (D : DataW Unit), k ≤ ns.length ∧ i = .int .i64 (k : Int) ∧ wr.ownsMap Tryz.prog 86 (plainElem Tryz.prog 3) w.heap.size k D ∧ PlacesD (ns.take k) D ∧ Below w.heap.size w wr)
    (fun i _ => ns.length - (intOf i).toNat)
  case atStart => exact ⟨0, .map [], Nat.zero_le _, rfl, World.ownsMap_made _ _ _ _, PlacesD.start, (Below.refl _ _).alloc (Nat.le_refl _) _⟩
  case round =>
    obtain ⟨k, D, hk, rfl, hown, hpd, hbel⟩ := hrel
    by_cases hlt : k < ns.length
    · obtain ⟨b, off, rfl⟩ := HR.out.addr hlt
      obtain ⟨hb, c0, c1, c2, c3⟩ := HR.out.at hbel hlt
      have hi0 : (0 : Int) ≤ (k : Int) := by omega
      have hi1 : (k : Int) < (ns.length : Int) := by omega
      have hfy := HF.out _ (getD_mem ns k hlt)
      have HT : Hid (ns.take (k + 1) = ns.take k ++ [ns.getD k Nd.zero]) := take_next ns k hlt
      generalize ns.getD k Nd.zero = y at c0 c1 c2 c3 HT hfy
      have HK : Hid _ := key_of hfy
      have hh := hpd.has y hfy
      have HP : Hid (PlacesD (ns.take k) D) := hpd
      have HY : Hid y.Fits := hfy
      have HL : Hid ((ns.take k).length = k) := by show _ = _; rw [List.length_take]; omega
      have hbs := hbel.size
      clear hpd hfy
      by_cases hfi : 0 ≤ findN (ns.take k) y
      · have hhas : Maps.has D (keyN y) = true := by rw [hh]; simpa using hfi
        have HN : Hid (PlacesD (ns.take (k + 1)) D) := by show PlacesD _ _; rw [HT.out]; exact HP.out.old hfi
        clear hh hfi
        go_wp2_with (at_lookup; refine wpList_lookup_own_ok_int _ rfl _ _ 106 rfl 86 3 .i64 nodeKeyed Tryz.underlying106 Tryz.underlying3 (zeroInt _) w.heap.size k D rfl (hown.alloc _) _ _ rfl HK.out ?_; intro c hat hwc)
        go_roundw
        case rel => exact ⟨k + 1, D, by omega, by go_num, (hown.alloc _).mono (by omega), HN.out, hbel.alloc hbs _⟩
        case measure => simp [intOf]; omega
      · have hhas : Maps.has D (keyN y) = false := by rw [hh]; simpa using hfi
        have hm1 : findN (ns.take k) y = -1 := by have := findN_range (ns.take k) y; omega
        have HN : Hid (PlacesD (ns.take (k + 1)) (D.put (keyN y) (.lit (.int .i64 (k : Int))))) := by
          show PlacesD _ _
          have := HP.out.new HY.out hm1
          rw [HL.out] at this
          rw [HT.out]; exact this
        clear hh hfi hm1
        go_wp2_with (first | (at_lookup; refine wpList_lookup_own_ok_int _ rfl _ _ 106 rfl 86 3 .i64 nodeKeyed Tryz.underlying106 Tryz.underlying3 (zeroInt _) w.heap.size k D rfl (hown.alloc _) _ _ rfl HK.out ?_; intro c hat hwc) | (at_mapUpdate; refine wpList_mapUpdate_own _ rfl _ _ _ 106 rfl 86 3 nodeKeyed Tryz.underlying106 _ w.heap.size k D rfl (hown.alloc _) ?c1 _ _ _ rfl rfl HK.out _ [] (plainElem_int Tryz.underlying3 ?c2) ?_; rotate_left 2; intro w1 hown1 hgrow1))
        case c1 => unfold maxLen; omega
        case c2 => exact WalkArith.wf_i64 (by omega)
        go_roundw
        case rel => exact ⟨k + 1, _, by omega, by go_num, hown1, HN.out, (hbel.alloc hbs _).grown hgrow1 (by simp; omega) (fun j hj => by cases hj; exact Nat.le_refl _)⟩
        case measure => simp [intOf]; omega
    · obtain rfl : k = ns.length := by omega
      rw [List.take_length] at hpd
      go_wp2
      go_ret
      exact ⟨D, rfl, hown, hpd, hbel⟩
end Go.Proofs.YtaanophnnkmkbaaGreat
