/- Plain mathematics of the texts of terms (chapter 3): sizes, texts, reading; over no dump. -/
import Derived.Test.YtffnadnndmmliaaPlainTerm
import Derived.Test.YtffnadnndmmliaaPlainRead
import Derived.Test.YtffnadnndmmliaaHeldQ
namespace Go.Proofs.Ytffnadnndmmliaa
open Go.RowKit Go.PlainAid

theorem inB_true {x lo hi : Int} (h : inB x lo hi = true) : lo ≤ x ∧ x ≤ hi := by unfold inB at h; simpa using h
theorem inB_mk {x lo hi : Int} (h : lo ≤ x ∧ x ≤ hi) : inB x lo hi = true := by unfold inB; simpa using h
theorem inB_false {x lo hi : Int} (h : inB x lo hi = false) : x < lo ∨ hi < x := by
  unfold inB at h; simp at h; omega
theorem one_no {k : Int} (h : oneK k = false) : ¬ oneK k = true := by rw [h]; simp
/-- What a right node is. -/
theorem nodeB_true {x : Nd} {k : Int} (h : nodeB x k = true) : (x.k = 1 ∧ 0 ≤ x.n ∧ x.n ≤ 999999 ∧ x.a = 0 ∧ x.b = 0) ∨ (2 ≤ x.k ∧ x.k ≤ 9 ∧ x.n = 0 ∧ 0 ≤ x.a ∧ x.a < k ∧ oneK x.k = true ∧ x.b = 0) ∨ (2 ≤ x.k ∧ x.k ≤ 9 ∧ x.n = 0 ∧ 0 ≤ x.a ∧ x.a < k ∧ oneK x.k = false ∧ 0 ≤ x.b ∧ x.b < k) := by
  unfold nodeB at h
  split at h
  · simp at h
  · rename_i h1
    have h1' := inB_true (by simpa using h1 : inB x.k 1 9 = true)
    split at h
    · rename_i h2
      simp at h
      have := inB_true h.1
      exact .inl ⟨h2, this.1, this.2, h.2.1, h.2.2⟩
    · rename_i h2
      split at h
      · simp at h
      · rename_i h3
        have h4 : x.n = 0 ∧ inB x.a 0 (k - 1) = true := by
          constructor
          · exact Classical.byContradiction fun e => h3 (.inl e)
          · cases e : inB x.a 0 (k - 1) with
            | true => rfl
            | false => exact absurd (.inr e) h3
        have h5 := inB_true h4.2
        split at h
        · rename_i h6
          simp at h
          exact .inr (.inl ⟨by omega, h1'.2, h4.1, h5.1, by omega, h6, h⟩)
        · rename_i h6
          have := inB_true h
          exact .inr (.inr ⟨by omega, h1'.2, h4.1, h5.1, by omega, by simpa using h6, this.1, by omega⟩)

/-- All nodes up to k are right, and k is one. -/
def Good (ns : List Nd) (k : Nat) : Prop := k < ns.length ∧ ∀ i, i ≤ k → nodeB (ns.getD i Nd.zero) i = true
theorem Good.down {ns : List Nd} {k j : Nat} (h : Good ns k) (hj : j ≤ k) : Good ns j := ⟨by have := h.1; omega, fun i hi => h.2 i (by omega)⟩

/-- The size of the term at k. -/
def szv (ns : List Nd) (k : Nat) : Int := (sizesN ns (k + 1)).getD k 0
theorem szv_at (ns : List Nd) : ∀ m k, k < m → (sizesN ns m).getD k 0 = szv ns k
  | m + 1, k, h => by
    by_cases e : k = m
    · subst e; rfl
    · rw [sizesN, List.getD_eq_getElem?_getD, List.getElem?_append_left (by rw [sizesN_len]; omega), ← List.getD_eq_getElem?_getD]
      exact szv_at ns m k (by omega)
theorem szv_eq (ns : List Nd) (k : Nat) : szv ns k = szOne (sizesN ns k) k (ns.getD k Nd.zero) := by
  unfold szv
  rw [sizesN, List.getD_eq_getElem?_getD, List.getElem?_append_right (by rw [sizesN_len]; exact Nat.le_refl _), sizesN_len, Nat.sub_self]; rfl
/-- The summands. -/
def szSum (ns : List Nd) (x : Nd) : Int := if x.k = 1 then 1 else if oneK x.k = true then 1 + szv ns x.a.toNat else 1 + szv ns x.a.toNat + szv ns x.b.toNat
theorem szv_bad {ns : List Nd} {k : Nat} (h : nodeB (ns.getD k Nd.zero) k = false) : szv ns k = 0 := by
  rw [szv_eq, szOne, if_pos (.inl h)]
theorem szv_prev {ns : List Nd} {k : Nat} (h : szv ns k = 0) : szv ns (k + 1) = 0 := by
  rw [szv_eq, szOne, if_pos (.inr ⟨by omega, by rw [show k + 1 - 1 = k by omega, szv_at ns (k + 1) k (by omega)]; exact h⟩)]
theorem szv_zero_up {ns : List Nd} {j : Nat} (h : szv ns j = 0) : ∀ k, j ≤ k → szv ns k = 0 := by
  intro k hk
  induction k with
  | zero => obtain rfl : j = 0 := by omega
            exact h
  | succ k ih =>
    by_cases e : j = k + 1
    · subst e; exact h
    · exact szv_prev (ih (by omega))
theorem sz_kids {ns : List Nd} {k : Nat} (h : nodeB (ns.getD k Nd.zero) k = true) : (if (ns.getD k Nd.zero).k = 1 then (1 : Int) else if oneK (ns.getD k Nd.zero).k = true then 1 + (sizesN ns k).getD (ns.getD k Nd.zero).a.toNat 0 else 1 + (sizesN ns k).getD (ns.getD k Nd.zero).a.toNat 0 + (sizesN ns k).getD (ns.getD k Nd.zero).b.toNat 0) = szSum ns (ns.getD k Nd.zero) := by
  unfold szSum
  rcases nodeB_true h with ⟨h1, _⟩ | ⟨h1, _, _, h2, h3, h4, _⟩ | ⟨h1, _, _, h2, h3, h4, h5, h6⟩
  · rw [if_pos h1, if_pos h1]
  · have hk : ¬ (ns.getD k Nd.zero).k = 1 := by omega
    simp only [if_neg hk, if_pos h4]; rw [szv_at ns k _ (by omega)]
  · have hk : ¬ (ns.getD k Nd.zero).k = 1 := by omega
    have ho := one_no h4
    simp only [if_neg hk, if_neg ho]; rw [szv_at ns k _ (by omega), szv_at ns k _ (by omega)]
/-- The size of a right term, from those of its own ones. -/
theorem szv_good {ns : List Nd} {k : Nat} (h : nodeB (ns.getD k Nd.zero) k = true) (hp : 0 < k → szv ns (k - 1) ≠ 0) : szv ns k = if 100000 < szSum ns (ns.getD k Nd.zero) then 100000 else szSum ns (ns.getD k Nd.zero) := by
  rw [szv_eq, szOne, if_neg]
  · simp only [sz_kids h]
  · rintro (e | ⟨e1, e2⟩)
    · rw [h] at e; simp at e
    · rw [szv_at ns k _ (by omega)] at e2
      exact hp e1 e2
theorem szv_range (ns : List Nd) : ∀ k, (∀ i, i ≤ k → nodeB (ns.getD i Nd.zero) i = true) → 1 ≤ szv ns k ∧ szv ns k ≤ 100000 := by
  intro k
  induction k using Nat.strongRecOn with
  | ind k ih =>
    intro h
    have e := szv_good (h k (Nat.le_refl _)) (fun h0 => by have := ih (k - 1) (by omega) (fun i hi => h i (by omega)); omega)
    have hs : 1 ≤ szSum ns (ns.getD k Nd.zero) := by
      unfold szSum
      rcases nodeB_true (h k (Nat.le_refl _)) with ⟨h1, _⟩ | ⟨h1, _, _, h2, h3, h4, _⟩ | ⟨h1, _, _, h2, h3, h4, h5, h6⟩
      · rw [if_pos h1]; omega
      · have := ih (ns.getD k Nd.zero).a.toNat (by omega) (fun i hi => h i (by omega))
        rw [if_neg (by omega), if_pos h4]; omega
      · have := ih (ns.getD k Nd.zero).a.toNat (by omega) (fun i hi => h i (by omega))
        have := ih (ns.getD k Nd.zero).b.toNat (by omega) (fun i hi => h i (by omega))
        rw [if_neg (by omega), if_neg (one_no h4)]; omega
    rw [e]
    split <;> omega
theorem szv_le (ns : List Nd) (k : Nat) : 0 ≤ szv ns k ∧ szv ns k ≤ 100000 := by
  by_cases h : ∀ i, i ≤ k → nodeB (ns.getD i Nd.zero) i = true
  · have := szv_range ns k h; omega
  · have h' : ∃ i, i ≤ k ∧ nodeB (ns.getD i Nd.zero) i = false := by
      apply Classical.byContradiction
      intro e
      apply h
      intro i hi
      cases hb : nodeB (ns.getD i Nd.zero) i with
      | true => rfl
      | false => exact absurd ⟨i, hi, hb⟩ e
    obtain ⟨i, hi, hb⟩ := h'
    have := szv_zero_up (szv_bad hb) k hi
    omega
theorem szv_ne {ns : List Nd} {k : Nat} (h : szv ns k ≠ 0) : ∀ i, i ≤ k → nodeB (ns.getD i Nd.zero) i = true := by
  intro i hi
  cases hb : nodeB (ns.getD i Nd.zero) i with
  | true => rfl
  | false => exact absurd (szv_zero_up (szv_bad hb) k hi) h
/-- SizeOf at a place, by the size there. -/
theorem sizeN_in (ns : List Nd) (k : Nat) (h : k < ns.length) : sizeN ns (k : Int) = szv ns k := by
  unfold sizeN
  rw [if_pos (inB_mk (by omega))]; rfl
theorem sizeN_out {ns : List Nd} {k : Int} (h : inB k 0 ((ns.length : Int) - 1) = false) : sizeN ns k = 0 := by
  unfold sizeN; rw [if_neg (by simp [h])]
theorem sizeN_good {ns : List Nd} {k : Int} (h : sizeN ns k ≠ 0) : ∃ i : Nat, k = (i : Int) ∧ Good ns i ∧ sizeN ns k = szv ns i := by
  cases e : inB k 0 ((ns.length : Int) - 1) with
  | false => exact absurd (sizeN_out e) h
  | true =>
    have hb := inB_true e
    have hk : k = (k.toNat : Int) := by omega
    have hl : k.toNat < ns.length := by omega
    have hs := sizeN_in ns k.toNat hl
    rw [← hk] at hs
    exact ⟨k.toNat, hk, ⟨hl, szv_ne (by rw [← hs]; exact h)⟩, hs⟩
theorem sizeN_range (ns : List Nd) (k : Int) : 0 ≤ sizeN ns k ∧ sizeN ns k ≤ 100000 := by
  by_cases h : sizeN ns k = 0
  · omega
  · obtain ⟨i, _, _, e⟩ := sizeN_good h
    rw [e]; exact szv_le ns i

/-- The text of the term at k, as numbers; enough fuel: k + 1. -/
def txt (ns : List Nd) : Nat → Nat → List Int
  | 0, _ => []
  | f + 1, k => vb (ns.getD k Nd.zero).k.toNat ++ (if (ns.getD k Nd.zero).k = 1 then vb (ns.getD k Nd.zero).n.toNat else txt ns f (ns.getD k Nd.zero).a.toNat ++ (if oneK (ns.getD k Nd.zero).k = true then [] else txt ns f (ns.getD k Nd.zero).b.toNat))
theorem txt_fuel {ns : List Nd} : ∀ (k f g : Nat), Good ns k → k < f → k < g → txt ns f k = txt ns g k := by
  intro k
  induction k using Nat.strongRecOn with
  | ind k ih =>
    intro f g h hf hg
    obtain ⟨f, rfl⟩ : ∃ f', f = f' + 1 := ⟨f - 1, by omega⟩
    obtain ⟨g, rfl⟩ : ∃ g', g = g' + 1 := ⟨g - 1, by omega⟩
    rw [txt, txt]
    rcases nodeB_true (h.2 k (Nat.le_refl _)) with ⟨h1, _⟩ | ⟨h1, _, _, h2, h3, h4, _⟩ | ⟨h1, _, _, h2, h3, h4, h5, h6⟩
    · rw [if_pos h1, if_pos h1]
    · have hk : ¬ (ns.getD k Nd.zero).k = 1 := by omega
      simp only [if_neg hk, if_pos h4]
      rw [ih _ (by omega) f g (h.down (by omega)) (by omega) (by omega)]
    · have hk : ¬ (ns.getD k Nd.zero).k = 1 := by omega
      simp only [if_neg hk, if_neg (one_no h4)]
      rw [ih _ (by omega) f g (h.down (by omega)) (by omega) (by omega), ih (ns.getD k Nd.zero).b.toNat (by omega) f g (h.down (by omega)) (by omega) (by omega)]
def tx (ns : List Nd) (k : Nat) : List Int := txt ns (k + 1) k
theorem tx_atom {ns : List Nd} {k : Nat} (h1 : (ns.getD k Nd.zero).k = 1) : tx ns k = vb 1 ++ vb (ns.getD k Nd.zero).n.toNat := by
  unfold tx; rw [txt, if_pos h1, h1]; rfl
theorem tx_one {ns : List Nd} {k : Nat} (h : Good ns k) (h1 : 2 ≤ (ns.getD k Nd.zero).k) (h4 : oneK (ns.getD k Nd.zero).k = true) : tx ns k = vb (ns.getD k Nd.zero).k.toNat ++ tx ns (ns.getD k Nd.zero).a.toNat := by
  unfold tx
  rw [txt, if_neg (by omega), if_pos h4, List.append_nil]
  rcases nodeB_true (h.2 k (Nat.le_refl _)) with ⟨h1', _⟩ | ⟨_, _, _, h2, h3, h4, _⟩ | ⟨_, _, _, h2, h3, h4, h5, h6⟩
  · omega
  · rw [txt_fuel _ k ((ns.getD k Nd.zero).a.toNat + 1) (h.down (by omega)) (by omega) (by omega)]
  · rw [txt_fuel _ k ((ns.getD k Nd.zero).a.toNat + 1) (h.down (by omega)) (by omega) (by omega)]
theorem tx_two {ns : List Nd} {k : Nat} (h : Good ns k) (h1 : 2 ≤ (ns.getD k Nd.zero).k) (h4 : oneK (ns.getD k Nd.zero).k = false) : tx ns k = vb (ns.getD k Nd.zero).k.toNat ++ (tx ns (ns.getD k Nd.zero).a.toNat ++ tx ns (ns.getD k Nd.zero).b.toNat) := by
  unfold tx
  rw [txt, if_neg (by omega), if_neg (one_no h4)]
  rcases nodeB_true (h.2 k (Nat.le_refl _)) with ⟨h1', _⟩ | ⟨_, _, _, h2, h3, h4', _⟩ | ⟨_, _, _, h2, h3, _, h5, h6⟩
  · omega
  · rw [h4] at h4'; simp at h4'
  · rw [txt_fuel _ k ((ns.getD k Nd.zero).a.toNat + 1) (h.down (by omega)) (by omega) (by omega), txt_fuel _ k ((ns.getD k Nd.zero).b.toNat + 1) (h.down (by omega)) (by omega) (by omega)]
theorem vb_one : vb 1 = [1] := by rw [vb_small (by omega)]; rfl
theorem vb_k {x : Int} (h0 : 1 ≤ x) (h1 : x ≤ 9) : vb x.toNat = [x] := by rw [vb_small (by omega)]; congr 1; omega
theorem vb_len3 (n : Nat) (h : n ≤ 999999) : (vb n).length ≤ 3 := vb_len 2 n (by omega)
theorem tx_len {ns : List Nd} : ∀ k, Good ns k → szv ns k ≤ 2000 → ((tx ns k).length : Int) ≤ 4 * szv ns k := by
  intro k
  induction k using Nat.strongRecOn with
  | ind k ih =>
    intro h hz
    have hp : 0 < k → szv ns (k - 1) ≠ 0 := fun h0 => by have := szv_range ns (k - 1) (h.down (show k - 1 ≤ k by omega)).2; omega
    have e := szv_good (h.2 k (Nat.le_refl _)) hp
    have e2 : szv ns k = szSum ns (ns.getD k Nd.zero) := by
      rw [e] at hz ⊢
      split at hz
      · omega
      · rw [if_neg (by assumption)]
    unfold szSum at e2
    rcases nodeB_true (h.2 k (Nat.le_refl _)) with ⟨h1, h2, h3, _⟩ | ⟨h1, h9, _, h2, h3, h4, _⟩ | ⟨h1, h9, _, h2, h3, h4, h5, h6⟩
    · rw [if_pos h1] at e2
      rw [tx_atom h1, vb_one, e2]
      have := vb_len3 (ns.getD k Nd.zero).n.toNat (by omega)
      simp only [List.length_append, List.length_cons, List.length_nil]; omega
    · rw [if_neg (by omega), if_pos h4] at e2
      have ga := h.down (show (ns.getD k Nd.zero).a.toNat ≤ k by omega)
      have := ih _ (by omega) ga (by have := szv_range ns _ ga.2; omega)
      rw [tx_one h h1 h4, vb_k (by omega) h9]
      simp only [List.length_append, List.length_cons, List.length_nil]; omega
    · rw [if_neg (by omega), if_neg (one_no h4)] at e2
      have ga := h.down (show (ns.getD k Nd.zero).a.toNat ≤ k by omega)
      have gb := h.down (show (ns.getD k Nd.zero).b.toNat ≤ k by omega)
      have ra := szv_range ns _ ga.2
      have rb := szv_range ns _ gb.2
      have := ih _ (by omega) ga (by omega)
      have := ih (ns.getD k Nd.zero).b.toNat (by omega) gb (by omega)
      rw [tx_two h h1 h4, vb_k (by omega) h9]
      simp only [List.length_append, List.length_cons, List.length_nil]; omega
theorem tx_range (ns : List Nd) : ∀ f k, ∀ x ∈ txt ns f k, 0 ≤ x ∧ x ≤ 255
  | 0, _ => by simp [txt]
  | f + 1, k => by
    intro x hx
    rw [txt] at hx
    rcases List.mem_append.mp hx with hx | hx
    · exact vb_range _ x hx
    · split at hx
      · exact vb_range _ x hx
      · rcases List.mem_append.mp hx with hx | hx
        · exact tx_range ns f _ x hx
        · split at hx
          · simp at hx
          · exact tx_range ns f _ x hx
end Go.Proofs.Ytffnadnndmmliaa

namespace Go.Proofs.Ytffnadnndmmliaa
set_option linter.unusedVariables false
theorem all_at {ns : List Nd} (h : allFrom ns ns 0 = true) {i : Nat} (hi : i < ns.length) : nodeB (ns.getD i Nd.zero) i = true ∧ findN ns (ns.getD i Nd.zero) = (i : Int) := by
  have key : ∀ j, j ≤ ns.length → allFrom ns (ns.drop j) j = true := by
    intro j
    induction j with
    | zero => intro _; simpa using h
    | succ j ih =>
      intro hj
      have h1 := ih (by omega)
      rw [all_drop ns j (by omega)] at h1
      simp only [Bool.and_eq_true] at h1
      exact h1.2.2
  have h1 := key i (by omega)
  rw [all_drop ns i hi] at h1
  simp only [Bool.and_eq_true, decide_eq_true_eq] at h1
  exact ⟨h1.1, h1.2.1⟩
theorem all_good {ns : List Nd} (h : allFrom ns ns 0 = true) {k : Nat} (hk : k < ns.length) : Good ns k := ⟨hk, fun i hi => (all_at h (by omega)).1⟩
/-- A node that is right is right further behind. -/
theorem nodeB_mono {x : Nd} {k l : Int} (h : nodeB x k = true) (hl : k ≤ l) : nodeB x l = true := by
  rcases nodeB_true h with h1 | h1 | h1
  · obtain ⟨h2, h3, h4, h5, h6⟩ := h1
    unfold nodeB
    rw [if_neg (by rw [h2]; decide), if_pos h2, inB_mk ⟨h3, h4⟩, h5, h6]; rfl
  · obtain ⟨h2, h3, h4, h5, h6, h7, h8⟩ := h1
    unfold nodeB
    rw [if_neg (by rw [inB_mk ⟨by omega, h3⟩]; simp), if_neg (by omega), if_neg (by rintro (e | e); exact e h4; rw [inB_mk ⟨h5, by omega⟩] at e; simp at e), if_pos h7, h8]; rfl
  · obtain ⟨h2, h3, h4, h5, h6, h7, h8, h9⟩ := h1
    unfold nodeB
    rw [if_neg (by rw [inB_mk ⟨by omega, h3⟩]; simp), if_neg (by omega), if_neg (by rintro (e | e); exact e h4; rw [inB_mk ⟨h5, by omega⟩] at e; simp at e), if_neg (by rw [h7]; simp)]
    exact inB_mk ⟨h8, by omega⟩
theorem put_self {ns : List Nd} (h : allFrom ns ns 0 = true) {k : Nat} (hk : k < ns.length) : putA ns (ns.getD k Nd.zero) = ns ∧ putK ns (ns.getD k Nd.zero) = (k : Int) := by
  obtain ⟨h1, h2⟩ := all_at h hk
  have h3 := nodeB_mono h1 (show (k : Int) ≤ (ns.length : Int) by omega)
  constructor
  · unfold putA; rw [if_neg (by rw [h2]; omega)]
  · unfold putK; rw [if_pos h3, if_neg (by rw [h2]; omega), h2]
end Go.Proofs.Ytffnadnndmmliaa
