/- Plain mathematics of the texts of terms (chapter 3): sizes, texts, reading; over no dump. -/
import Derived.Test.YtgmlanmblabgfaaPlainTerm
import Derived.Test.YtgmlanmblabgfaaPlain
import Derived.Test.YtgmlanmblabgfaaHeldQ
namespace Go.Proofs.Ytgmlanmblabgfaa
open Go.RowKit Go.PlainAid

theorem inB_true {x lo hi : Int} (h : inB x lo hi = true) : lo ≤ x ∧ x ≤ hi := by unfold inB at h; simpa using h
theorem inB_mk {x lo hi : Int} (h : lo ≤ x ∧ x ≤ hi) : inB x lo hi = true := by unfold inB; simpa using h
theorem inB_false {x lo hi : Int} (h : inB x lo hi = false) : x < lo ∨ hi < x := by
  unfold inB at h; simp at h; omega
theorem one_no {k : Int} (h : oneK k = false) : ¬ oneK k = true := by rw [h]; simp
/-- What a right node is. -/
theorem nodeB_true {x : Nd} {k : Int} (h : nodeB x k = true) : (x.k = 1 ∧ 0 ≤ x.n ∧ x.n ≤ 999999 ∧ x.a = 0 ∧ x.b = 0) ∨ (2 ≤ x.k ∧ x.k ≤ 9 ∧ x.n = 0 ∧ 0 ≤ x.a ∧ x.a < k ∧ oneK x.k = true ∧ x.b = 0) ∨ (2 ≤ x.k ∧ x.k ≤ 9 ∧ x.n = 0 ∧ 0 ≤ x.a ∧ x.a < k ∧ oneK x.k = false ∧ 0 ≤ x.b ∧ x.b < k) := by
  unfold nodeB at h
  split at h
  · simp at h
  · rename_i h1
    have h1' := inB_true (by simpa using h1 : inB x.k 1 9 = true)
    split at h
    · rename_i h2
      simp at h
      have := inB_true h.1
      exact .inl ⟨h2, this.1, this.2, h.2.1, h.2.2⟩
    · rename_i h2
      split at h
      · simp at h
      · rename_i h3
        have h4 : x.n = 0 ∧ inB x.a 0 (k - 1) = true := by
          constructor
          · exact Classical.byContradiction fun e => h3 (.inl e)
          · cases e : inB x.a 0 (k - 1) with
            | true => rfl
            | false => exact absurd (.inr e) h3
        have h5 := inB_true h4.2
        split at h
        · rename_i h6
          simp at h
          exact .inr (.inl ⟨by omega, h1'.2, h4.1, h5.1, by omega, h6, h⟩)
        · rename_i h6
          have := inB_true h
          exact .inr (.inr ⟨by omega, h1'.2, h4.1, h5.1, by omega, by simpa using h6, this.1, by omega⟩)

/-- All nodes up to k are right, and k is one. -/
def Good (ns : List Nd) (k : Nat) : Prop := k < ns.length ∧ ∀ i, i ≤ k → nodeB (ns.getD i Nd.zero) i = true
theorem Good.down {ns : List Nd} {k j : Nat} (h : Good ns k) (hj : j ≤ k) : Good ns j := ⟨by have := h.1; omega, fun i hi => h.2 i (by omega)⟩

/-- The size of the term at k. -/
def szv (ns : List Nd) (k : Nat) : Int := (sizesN ns (k + 1)).getD k 0
theorem szv_at (ns : List Nd) : ∀ m k, k < m → (sizesN ns m).getD k 0 = szv ns k
  | m + 1, k, h => by
    by_cases e : k = m
    · subst e; rfl
    · rw [sizesN, List.getD_eq_getElem?_getD, List.getElem?_append_left (by rw [sizesN_len]; omega), ← List.getD_eq_getElem?_getD]
      exact szv_at ns m k (by omega)
theorem szv_eq (ns : List Nd) (k : Nat) : szv ns k = szOne (sizesN ns k) k (ns.getD k Nd.zero) := by
  unfold szv
  rw [sizesN, List.getD_eq_getElem?_getD, List.getElem?_append_right (by rw [sizesN_len]; exact Nat.le_refl _), sizesN_len, Nat.sub_self]; rfl
/-- The summands. -/
def szSum (ns : List Nd) (x : Nd) : Int := if x.k = 1 then 1 else if oneK x.k = true then 1 + szv ns x.a.toNat else 1 + szv ns x.a.toNat + szv ns x.b.toNat
theorem szv_bad {ns : List Nd} {k : Nat} (h : nodeB (ns.getD k Nd.zero) k = false) : szv ns k = 0 := by
  rw [szv_eq, szOne, if_pos (.inl h)]
theorem szv_prev {ns : List Nd} {k : Nat} (h : szv ns k = 0) : szv ns (k + 1) = 0 := by
  rw [szv_eq, szOne, if_pos (.inr ⟨by omega, by rw [show k + 1 - 1 = k by omega, szv_at ns (k + 1) k (by omega)]; exact h⟩)]
theorem szv_zero_up {ns : List Nd} {j : Nat} (h : szv ns j = 0) : ∀ k, j ≤ k → szv ns k = 0 := by
  intro k hk
  induction k with
  | zero => obtain rfl : j = 0 := by omega
            exact h
  | succ k ih =>
    by_cases e : j = k + 1
    · subst e; exact h
    · exact szv_prev (ih (by omega))
theorem sz_kids {ns : List Nd} {k : Nat} (h : nodeB (ns.getD k Nd.zero) k = true) : (if (ns.getD k Nd.zero).k = 1 then (1 : Int) else if oneK (ns.getD k Nd.zero).k = true then 1 + (sizesN ns k).getD (ns.getD k Nd.zero).a.toNat 0 else 1 + (sizesN ns k).getD (ns.getD k Nd.zero).a.toNat 0 + (sizesN ns k).getD (ns.getD k Nd.zero).b.toNat 0) = szSum ns (ns.getD k Nd.zero) := by
  unfold szSum
  rcases nodeB_true h with ⟨h1, _⟩ | ⟨h1, _, _, h2, h3, h4, _⟩ | ⟨h1, _, _, h2, h3, h4, h5, h6⟩
  · rw [if_pos h1, if_pos h1]
  · have hk : ¬ (ns.getD k Nd.zero).k = 1 := by omega
    simp only [if_neg hk, if_pos h4]; rw [szv_at ns k _ (by omega)]
  · have hk : ¬ (ns.getD k Nd.zero).k = 1 := by omega
    have ho := one_no h4
    simp only [if_neg hk, if_neg ho]; rw [szv_at ns k _ (by omega), szv_at ns k _ (by omega)]
/-- The size of a right term, from those of its own ones. -/
theorem szv_good {ns : List Nd} {k : Nat} (h : nodeB (ns.getD k Nd.zero) k = true) (hp : 0 < k → szv ns (k - 1) ≠ 0) : szv ns k = if 100000 < szSum ns (ns.getD k Nd.zero) then 100000 else szSum ns (ns.getD k Nd.zero) := by
  rw [szv_eq, szOne, if_neg]
  · simp only [sz_kids h]
  · rintro (e | ⟨e1, e2⟩)
    · rw [h] at e; simp at e
    · rw [szv_at ns k _ (by omega)] at e2
      exact hp e1 e2
theorem szv_range (ns : List Nd) : ∀ k, (∀ i, i ≤ k → nodeB (ns.getD i Nd.zero) i = true) → 1 ≤ szv ns k ∧ szv ns k ≤ 100000 := by
  intro k
  induction k using Nat.strongRecOn with
  | ind k ih =>
    intro h
    have e := szv_good (h k (Nat.le_refl _)) (fun h0 => by have := ih (k - 1) (by omega) (fun i hi => h i (by omega)); omega)
    have hs : 1 ≤ szSum ns (ns.getD k Nd.zero) := by
      unfold szSum
      rcases nodeB_true (h k (Nat.le_refl _)) with ⟨h1, _⟩ | ⟨h1, _, _, h2, h3, h4, _⟩ | ⟨h1, _, _, h2, h3, h4, h5, h6⟩
      · rw [if_pos h1]; omega
      · have := ih (ns.getD k Nd.zero).a.toNat (by omega) (fun i hi => h i (by omega))
        rw [if_neg (by omega), if_pos h4]; omega
      · have := ih (ns.getD k Nd.zero).a.toNat (by omega) (fun i hi => h i (by omega))
        have := ih (ns.getD k Nd.zero).b.toNat (by omega) (fun i hi => h i (by omega))
        rw [if_neg (by omega), if_neg (one_no h4)]; omega
    rw [e]
    split <;> omega
theorem szv_le (ns : List Nd) (k : Nat) : 0 ≤ szv ns k ∧ szv ns k ≤ 100000 := by
  by_cases h : ∀ i, i ≤ k → nodeB (ns.getD i Nd.zero) i = true
  · have := szv_range ns k h; omega
  · have h' : ∃ i, i ≤ k ∧ nodeB (ns.getD i Nd.zero) i = false := by
      apply Classical.byContradiction
      intro e
      apply h
      intro i hi
      cases hb : nodeB (ns.getD i Nd.zero) i with
      | true => rfl
      | false => exact absurd ⟨i, hi, hb⟩ e
    obtain ⟨i, hi, hb⟩ := h'
    have := szv_zero_up (szv_bad hb) k hi
    omega
theorem szv_ne {ns : List Nd} {k : Nat} (h : szv ns k ≠ 0) : ∀ i, i ≤ k → nodeB (ns.getD i Nd.zero) i = true := by
  intro i hi
  cases hb : nodeB (ns.getD i Nd.zero) i with
  | true => rfl
  | false => exact absurd (szv_zero_up (szv_bad hb) k hi) h
/-- SizeOf at a place, by the size there. -/
theorem sizeN_in (ns : List Nd) (k : Nat) (h : k < ns.length) : sizeN ns (k : Int) = szv ns k := by
  unfold sizeN
  rw [if_pos (inB_mk (by omega))]; rfl
theorem sizeN_out {ns : List Nd} {k : Int} (h : inB k 0 ((ns.length : Int) - 1) = false) : sizeN ns k = 0 := by
  unfold sizeN; rw [if_neg (by simp [h])]
theorem sizeN_good {ns : List Nd} {k : Int} (h : sizeN ns k ≠ 0) : ∃ i : Nat, k = (i : Int) ∧ Good ns i ∧ sizeN ns k = szv ns i := by
  cases e : inB k 0 ((ns.length : Int) - 1) with
  | false => exact absurd (sizeN_out e) h
  | true =>
    have hb := inB_true e
    have hk : k = (k.toNat : Int) := by omega
    have hl : k.toNat < ns.length := by omega
    have hs := sizeN_in ns k.toNat hl
    rw [← hk] at hs
    exact ⟨k.toNat, hk, ⟨hl, szv_ne (by rw [← hs]; exact h)⟩, hs⟩
theorem sizeN_range (ns : List Nd) (k : Int) : 0 ≤ sizeN ns k ∧ sizeN ns k ≤ 100000 := by
  by_cases h : sizeN ns k = 0
  · omega
  · obtain ⟨i, _, _, e⟩ := sizeN_good h
    rw [e]; exact szv_le ns i

/-- The text of the term at k, as numbers; enough fuel: k + 1. -/
def txt (ns : List Nd) : Nat → Nat → List Int
  | 0, _ => []
  | f + 1, k => vb (ns.getD k Nd.zero).k.toNat ++ (if (ns.getD k Nd.zero).k = 1 then vb (ns.getD k Nd.zero).n.toNat else txt ns f (ns.getD k Nd.zero).a.toNat ++ (if oneK (ns.getD k Nd.zero).k = true then [] else txt ns f (ns.getD k Nd.zero).b.toNat))
theorem txt_fuel {ns : List Nd} : ∀ (k f g : Nat), Good ns k → k < f → k < g → txt ns f k = txt ns g k := by
  intro k
  induction k using Nat.strongRecOn with
  | ind k ih =>
    intro f g h hf hg
    obtain ⟨f, rfl⟩ : ∃ f', f = f' + 1 := ⟨f - 1, by omega⟩
    obtain ⟨g, rfl⟩ : ∃ g', g = g' + 1 := ⟨g - 1, by omega⟩
    rw [txt, txt]
    rcases nodeB_true (h.2 k (Nat.le_refl _)) with ⟨h1, _⟩ | ⟨h1, _, _, h2, h3, h4, _⟩ | ⟨h1, _, _, h2, h3, h4, h5, h6⟩
    · rw [if_pos h1, if_pos h1]
    · have hk : ¬ (ns.getD k Nd.zero).k = 1 := by omega
      simp only [if_neg hk, if_pos h4]
      rw [ih _ (by omega) f g (h.down (by omega)) (by omega) (by omega)]
    · have hk : ¬ (ns.getD k Nd.zero).k = 1 := by omega
      simp only [if_neg hk, if_neg (one_no h4)]
      rw [ih _ (by omega) f g (h.down (by omega)) (by omega) (by omega), ih (ns.getD k Nd.zero).b.toNat (by omega) f g (h.down (by omega)) (by omega) (by omega)]
def tx (ns : List Nd) (k : Nat) : List Int := txt ns (k + 1) k
theorem tx_atom {ns : List Nd} {k : Nat} (h1 : (ns.getD k Nd.zero).k = 1) : tx ns k = vb 1 ++ vb (ns.getD k Nd.zero).n.toNat := by
  unfold tx; rw [txt, if_pos h1, h1]; rfl
theorem tx_one {ns : List Nd} {k : Nat} (h : Good ns k) (h1 : 2 ≤ (ns.getD k Nd.zero).k) (h4 : oneK (ns.getD k Nd.zero).k = true) : tx ns k = vb (ns.getD k Nd.zero).k.toNat ++ tx ns (ns.getD k Nd.zero).a.toNat := by
  unfold tx
  rw [txt, if_neg (by omega), if_pos h4, List.append_nil]
  rcases nodeB_true (h.2 k (Nat.le_refl _)) with ⟨h1', _⟩ | ⟨_, _, _, h2, h3, h4, _⟩ | ⟨_, _, _, h2, h3, h4, h5, h6⟩
  · omega
  · rw [txt_fuel _ k ((ns.getD k Nd.zero).a.toNat + 1) (h.down (by omega)) (by omega) (by omega)]
  · rw [txt_fuel _ k ((ns.getD k Nd.zero).a.toNat + 1) (h.down (by omega)) (by omega) (by omega)]
theorem tx_two {ns : List Nd} {k : Nat} (h : Good ns k) (h1 : 2 ≤ (ns.getD k Nd.zero).k) (h4 : oneK (ns.getD k Nd.zero).k = false) : tx ns k = vb (ns.getD k Nd.zero).k.toNat ++ (tx ns (ns.getD k Nd.zero).a.toNat ++ tx ns (ns.getD k Nd.zero).b.toNat) := by
  unfold tx
  rw [txt, if_neg (by omega), if_neg (one_no h4)]
  rcases nodeB_true (h.2 k (Nat.le_refl _)) with ⟨h1', _⟩ | ⟨_, _, _, h2, h3, h4', _⟩ | ⟨_, _, _, h2, h3, _, h5, h6⟩
  · omega
  · rw [h4] at h4'; simp at h4'
  · rw [txt_fuel _ k ((ns.getD k Nd.zero).a.toNat + 1) (h.down (by omega)) (by omega) (by omega), txt_fuel _ k ((ns.getD k Nd.zero).b.toNat + 1) (h.down (by omega)) (by omega) (by omega)]
theorem vb_one : vb 1 = [1] := by rw [vb_small (by omega)]; rfl
theorem vb_k {x : Int} (h0 : 1 ≤ x) (h1 : x ≤ 9) : vb x.toNat = [x] := by rw [vb_small (by omega)]; congr 1; omega
theorem vb_len3 (n : Nat) (h : n ≤ 999999) : (vb n).length ≤ 3 := vb_len 2 n (by omega)
theorem tx_len {ns : List Nd} : ∀ k, Good ns k → szv ns k ≤ 2000 → ((tx ns k).length : Int) ≤ 4 * szv ns k := by
  intro k
  induction k using Nat.strongRecOn with
  | ind k ih =>
    intro h hz
    have hp : 0 < k → szv ns (k - 1) ≠ 0 := fun h0 => by have := szv_range ns (k - 1) (h.down (show k - 1 ≤ k by omega)).2; omega
    have e := szv_good (h.2 k (Nat.le_refl _)) hp
    have e2 : szv ns k = szSum ns (ns.getD k Nd.zero) := by
      rw [e] at hz ⊢
      split at hz
      · omega
      · rw [if_neg (by assumption)]
    unfold szSum at e2
    rcases nodeB_true (h.2 k (Nat.le_refl _)) with ⟨h1, h2, h3, _⟩ | ⟨h1, h9, _, h2, h3, h4, _⟩ | ⟨h1, h9, _, h2, h3, h4, h5, h6⟩
    · rw [if_pos h1] at e2
      rw [tx_atom h1, vb_one, e2]
      have := vb_len3 (ns.getD k Nd.zero).n.toNat (by omega)
      simp only [List.length_append, List.length_cons, List.length_nil]; omega
    · rw [if_neg (by omega), if_pos h4] at e2
      have ga := h.down (show (ns.getD k Nd.zero).a.toNat ≤ k by omega)
      have := ih _ (by omega) ga (by have := szv_range ns _ ga.2; omega)
      rw [tx_one h h1 h4, vb_k (by omega) h9]
      simp only [List.length_append, List.length_cons, List.length_nil]; omega
    · rw [if_neg (by omega), if_neg (one_no h4)] at e2
      have ga := h.down (show (ns.getD k Nd.zero).a.toNat ≤ k by omega)
      have gb := h.down (show (ns.getD k Nd.zero).b.toNat ≤ k by omega)
      have ra := szv_range ns _ ga.2
      have rb := szv_range ns _ gb.2
      have := ih _ (by omega) ga (by omega)
      have := ih (ns.getD k Nd.zero).b.toNat (by omega) gb (by omega)
      rw [tx_two h h1 h4, vb_k (by omega) h9]
      simp only [List.length_append, List.length_cons, List.length_nil]; omega
theorem tx_range (ns : List Nd) : ∀ f k, ∀ x ∈ txt ns f k, 0 ≤ x ∧ x ≤ 255
  | 0, _ => by simp [txt]
  | f + 1, k => by
    intro x hx
    rw [txt] at hx
    rcases List.mem_append.mp hx with hx | hx
    · exact vb_range _ x hx
    · split at hx
      · exact vb_range _ x hx
      · rcases List.mem_append.mp hx with hx | hx
        · exact tx_range ns f _ x hx
        · split at hx
          · simp at hx
          · exact tx_range ns f _ x hx
end Go.Proofs.Ytgmlanmblabgfaa

namespace Go.Proofs.Ytgmlanmblabgfaa
set_option linter.unusedVariables false
theorem all_at {ns : List Nd} (h : allFrom ns ns 0 = true) {i : Nat} (hi : i < ns.length) : nodeB (ns.getD i Nd.zero) i = true ∧ findN ns (ns.getD i Nd.zero) = (i : Int) := by
  have key : ∀ j, j ≤ ns.length → allFrom ns (ns.drop j) j = true := by
    intro j
    induction j with
    | zero => intro _; simpa using h
    | succ j ih =>
      intro hj
      have h1 := ih (by omega)
      rw [all_drop ns j (by omega)] at h1
      simp only [Bool.and_eq_true] at h1
      exact h1.2.2
  have h1 := key i (by omega)
  rw [all_drop ns i hi] at h1
  simp only [Bool.and_eq_true, decide_eq_true_eq] at h1
  exact ⟨h1.1, h1.2.1⟩
theorem all_good {ns : List Nd} (h : allFrom ns ns 0 = true) {k : Nat} (hk : k < ns.length) : Good ns k := ⟨hk, fun i hi => (all_at h (by omega)).1⟩
/-- A node that is right is right further behind. -/
theorem nodeB_mono {x : Nd} {k l : Int} (h : nodeB x k = true) (hl : k ≤ l) : nodeB x l = true := by
  rcases nodeB_true h with h1 | h1 | h1
  · obtain ⟨h2, h3, h4, h5, h6⟩ := h1
    unfold nodeB
    rw [if_neg (by rw [h2]; decide), if_pos h2, inB_mk ⟨h3, h4⟩, h5, h6]; rfl
  · obtain ⟨h2, h3, h4, h5, h6, h7, h8⟩ := h1
    unfold nodeB
    rw [if_neg (by rw [inB_mk ⟨by omega, h3⟩]; simp), if_neg (by omega), if_neg (by rintro (e | e); exact e h4; rw [inB_mk ⟨h5, by omega⟩] at e; simp at e), if_pos h7, h8]; rfl
  · obtain ⟨h2, h3, h4, h5, h6, h7, h8, h9⟩ := h1
    unfold nodeB
    rw [if_neg (by rw [inB_mk ⟨by omega, h3⟩]; simp), if_neg (by omega), if_neg (by rintro (e | e); exact e h4; rw [inB_mk ⟨h5, by omega⟩] at e; simp at e), if_neg (by rw [h7]; simp)]
    exact inB_mk ⟨h8, by omega⟩
theorem put_self {ns : List Nd} (h : allFrom ns ns 0 = true) {k : Nat} (hk : k < ns.length) : putA ns (ns.getD k Nd.zero) = ns ∧ putK ns (ns.getD k Nd.zero) = (k : Int) := by
  obtain ⟨h1, h2⟩ := all_at h hk
  have h3 := nodeB_mono h1 (show (k : Int) ≤ (ns.length : Int) by omega)
  constructor
  · unfold putA; rw [if_neg (by rw [h2]; omega)]
  · unfold putK; rw [if_pos h3, if_neg (by rw [h2]; omega), h2]
end Go.Proofs.Ytgmlanmblabgfaa

namespace Go.Proofs.Ytgmlanmblabgfaa
set_option linter.unusedVariables false

/-- What holds of all that is known, and of whatever can be made of what it holds of. -/
structure HadBy (ns : List Nd) (K P : Nat → Prop) : Prop where
  known : ∀ {k : Nat}, k < ns.length → K k → P k
  atom : ∀ {k : Nat}, k < ns.length → (ns.getD k Nd.zero).k = 1 → (ns.getD k Nd.zero).n < 1000 → P k
  one : ∀ {k : Nat}, k < ns.length → oneK (ns.getD k Nd.zero).k = true → P (ns.getD k Nd.zero).a.toNat → P k
  two : ∀ {k : Nat}, k < ns.length → (ns.getD k Nd.zero).k ≠ 1 → (ns.getD k Nd.zero).k ≠ 7 → oneK (ns.getD k Nd.zero).k = false → P (ns.getD k Nd.zero).a.toNat → P (ns.getD k Nd.zero).b.toNat → P k
  dhA : ∀ {k p : Nat}, k < ns.length → (ns.getD k Nd.zero).k = 7 → P (ns.getD k Nd.zero).a.toNat → p < ns.length → (ns.getD p Nd.zero).k = 6 → (ns.getD p Nd.zero).a = (ns.getD k Nd.zero).b → P p → P k
  dhB : ∀ {k p : Nat}, k < ns.length → (ns.getD k Nd.zero).k = 7 → P (ns.getD k Nd.zero).b.toNat → p < ns.length → (ns.getD p Nd.zero).k = 6 → (ns.getD p Nd.zero).a = (ns.getD k Nd.zero).a → P p → P k
  pairA : ∀ {k : Nat}, k < ns.length → (ns.getD k Nd.zero).k = 2 → P k → P (ns.getD k Nd.zero).a.toNat
  pairB : ∀ {k : Nat}, k < ns.length → (ns.getD k Nd.zero).k = 2 → P k → P (ns.getD k Nd.zero).b.toNat
  sign : ∀ {k : Nat}, k < ns.length → (ns.getD k Nd.zero).k = 8 → P k → P (ns.getD k Nd.zero).b.toNat
  sealed : ∀ {k : Nat}, k < ns.length → (ns.getD k Nd.zero).k = 5 → P k → P (ns.getD k Nd.zero).a.toNat → P (ns.getD k Nd.zero).b.toNat
/-- What can be had of the known ones. -/
def Had (ns : List Nd) (K : Nat → Prop) (k : Nat) : Prop := ∀ P : Nat → Prop, HadBy ns K P → P k
theorem Had.known {ns : List Nd} {K : Nat → Prop} {k : Nat} (h0 : k < ns.length) (h1 : K k) : Had ns K k := fun P hp => hp.known h0 h1
theorem Had.atom {ns : List Nd} {K : Nat → Prop} {k : Nat} (h0 : k < ns.length) (h1 : (ns.getD k Nd.zero).k = 1) (h2 : (ns.getD k Nd.zero).n < 1000) : Had ns K k := fun P hp => hp.atom h0 h1 h2
theorem Had.one {ns : List Nd} {K : Nat → Prop} {k : Nat} (h0 : k < ns.length) (h1 : oneK (ns.getD k Nd.zero).k = true) (h2 : Had ns K (ns.getD k Nd.zero).a.toNat) : Had ns K k := fun P hp => hp.one h0 h1 (h2 P hp)
theorem Had.two {ns : List Nd} {K : Nat → Prop} {k : Nat} (h0 : k < ns.length) (h1 : (ns.getD k Nd.zero).k ≠ 1) (h2 : (ns.getD k Nd.zero).k ≠ 7) (h3 : oneK (ns.getD k Nd.zero).k = false) (h4 : Had ns K (ns.getD k Nd.zero).a.toNat) (h5 : Had ns K (ns.getD k Nd.zero).b.toNat) : Had ns K k := fun P hp => hp.two h0 h1 h2 h3 (h4 P hp) (h5 P hp)
theorem Had.dhA {ns : List Nd} {K : Nat → Prop} {k p : Nat} (h0 : k < ns.length) (h1 : (ns.getD k Nd.zero).k = 7) (h2 : Had ns K (ns.getD k Nd.zero).a.toNat) (h3 : p < ns.length) (h4 : (ns.getD p Nd.zero).k = 6) (h5 : (ns.getD p Nd.zero).a = (ns.getD k Nd.zero).b) (h6 : Had ns K p) : Had ns K k := fun P hp => hp.dhA h0 h1 (h2 P hp) h3 h4 h5 (h6 P hp)
theorem Had.dhB {ns : List Nd} {K : Nat → Prop} {k p : Nat} (h0 : k < ns.length) (h1 : (ns.getD k Nd.zero).k = 7) (h2 : Had ns K (ns.getD k Nd.zero).b.toNat) (h3 : p < ns.length) (h4 : (ns.getD p Nd.zero).k = 6) (h5 : (ns.getD p Nd.zero).a = (ns.getD k Nd.zero).a) (h6 : Had ns K p) : Had ns K k := fun P hp => hp.dhB h0 h1 (h2 P hp) h3 h4 h5 (h6 P hp)
theorem Had.pairA {ns : List Nd} {K : Nat → Prop} {k : Nat} (h0 : k < ns.length) (h1 : (ns.getD k Nd.zero).k = 2) (h2 : Had ns K k) : Had ns K (ns.getD k Nd.zero).a.toNat := fun P hp => hp.pairA h0 h1 (h2 P hp)
theorem Had.pairB {ns : List Nd} {K : Nat → Prop} {k : Nat} (h0 : k < ns.length) (h1 : (ns.getD k Nd.zero).k = 2) (h2 : Had ns K k) : Had ns K (ns.getD k Nd.zero).b.toNat := fun P hp => hp.pairB h0 h1 (h2 P hp)
theorem Had.sign {ns : List Nd} {K : Nat → Prop} {k : Nat} (h0 : k < ns.length) (h1 : (ns.getD k Nd.zero).k = 8) (h2 : Had ns K k) : Had ns K (ns.getD k Nd.zero).b.toNat := fun P hp => hp.sign h0 h1 (h2 P hp)
theorem Had.sealed {ns : List Nd} {K : Nat → Prop} {k : Nat} (h0 : k < ns.length) (h1 : (ns.getD k Nd.zero).k = 5) (h2 : Had ns K k) (h3 : Had ns K (ns.getD k Nd.zero).a.toNat) : Had ns K (ns.getD k Nd.zero).b.toNat := fun P hp => hp.sealed h0 h1 (h2 P hp) (h3 P hp)
/-- By what came ahead. -/
theorem Had.ind {ns : List Nd} {K : Nat → Prop} {motive : (k : Nat) → Had ns K k → Prop}
    (known : ∀ {k : Nat} (h0 : k < ns.length) (h1 : K k), motive k (Had.known h0 h1))
    (atom : ∀ {k : Nat} (h0 : k < ns.length) (h1 : (ns.getD k Nd.zero).k = 1) (h2 : (ns.getD k Nd.zero).n < 1000), motive k (Had.atom h0 h1 h2))
    (one : ∀ {k : Nat} (h0 : k < ns.length) (h1 : oneK (ns.getD k Nd.zero).k = true) (h2 : Had ns K (ns.getD k Nd.zero).a.toNat), motive (ns.getD k Nd.zero).a.toNat h2 → motive k (Had.one h0 h1 h2))
    (two : ∀ {k : Nat} (h0 : k < ns.length) (h1 : (ns.getD k Nd.zero).k ≠ 1) (h2 : (ns.getD k Nd.zero).k ≠ 7) (h3 : oneK (ns.getD k Nd.zero).k = false) (h4 : Had ns K (ns.getD k Nd.zero).a.toNat) (h5 : Had ns K (ns.getD k Nd.zero).b.toNat), motive (ns.getD k Nd.zero).a.toNat h4 → motive (ns.getD k Nd.zero).b.toNat h5 → motive k (Had.two h0 h1 h2 h3 h4 h5))
    (dhA : ∀ {k p : Nat} (h0 : k < ns.length) (h1 : (ns.getD k Nd.zero).k = 7) (h2 : Had ns K (ns.getD k Nd.zero).a.toNat) (h3 : p < ns.length) (h4 : (ns.getD p Nd.zero).k = 6) (h5 : (ns.getD p Nd.zero).a = (ns.getD k Nd.zero).b) (h6 : Had ns K p), motive (ns.getD k Nd.zero).a.toNat h2 → motive p h6 → motive k (Had.dhA h0 h1 h2 h3 h4 h5 h6))
    (dhB : ∀ {k p : Nat} (h0 : k < ns.length) (h1 : (ns.getD k Nd.zero).k = 7) (h2 : Had ns K (ns.getD k Nd.zero).b.toNat) (h3 : p < ns.length) (h4 : (ns.getD p Nd.zero).k = 6) (h5 : (ns.getD p Nd.zero).a = (ns.getD k Nd.zero).a) (h6 : Had ns K p), motive (ns.getD k Nd.zero).b.toNat h2 → motive p h6 → motive k (Had.dhB h0 h1 h2 h3 h4 h5 h6))
    (pairA : ∀ {k : Nat} (h0 : k < ns.length) (h1 : (ns.getD k Nd.zero).k = 2) (h2 : Had ns K k), motive k h2 → motive (ns.getD k Nd.zero).a.toNat (Had.pairA h0 h1 h2))
    (pairB : ∀ {k : Nat} (h0 : k < ns.length) (h1 : (ns.getD k Nd.zero).k = 2) (h2 : Had ns K k), motive k h2 → motive (ns.getD k Nd.zero).b.toNat (Had.pairB h0 h1 h2))
    (sign : ∀ {k : Nat} (h0 : k < ns.length) (h1 : (ns.getD k Nd.zero).k = 8) (h2 : Had ns K k), motive k h2 → motive (ns.getD k Nd.zero).b.toNat (Had.sign h0 h1 h2))
    (sealed : ∀ {k : Nat} (h0 : k < ns.length) (h1 : (ns.getD k Nd.zero).k = 5) (h2 : Had ns K k) (h3 : Had ns K (ns.getD k Nd.zero).a.toNat), motive k h2 → motive (ns.getD k Nd.zero).a.toNat h3 → motive (ns.getD k Nd.zero).b.toNat (Had.sealed h0 h1 h2 h3))
    {k : Nat} (h : Had ns K k) : motive k h := by
  have hp : HadBy ns K (fun k => ∃ h : Had ns K k, motive k h) := by
    constructor
    · exact fun {k} h0 h1 => ⟨Had.known h0 h1, known h0 h1⟩
    · exact fun {k} h0 h1 h2 => ⟨Had.atom h0 h1 h2, atom h0 h1 h2⟩
    · exact fun {k} h0 h1 ⟨h2, i2⟩ => ⟨Had.one h0 h1 h2, one h0 h1 h2 i2⟩
    · exact fun {k} h0 h1 h2 h3 ⟨h4, i4⟩ ⟨h5, i5⟩ => ⟨Had.two h0 h1 h2 h3 h4 h5, two h0 h1 h2 h3 h4 h5 i4 i5⟩
    · exact fun {k} {p} h0 h1 ⟨h2, i2⟩ h3 h4 h5 ⟨h6, i6⟩ => ⟨Had.dhA h0 h1 h2 h3 h4 h5 h6, dhA h0 h1 h2 h3 h4 h5 h6 i2 i6⟩
    · exact fun {k} {p} h0 h1 ⟨h2, i2⟩ h3 h4 h5 ⟨h6, i6⟩ => ⟨Had.dhB h0 h1 h2 h3 h4 h5 h6, dhB h0 h1 h2 h3 h4 h5 h6 i2 i6⟩
    · exact fun {k} h0 h1 ⟨h2, i2⟩ => ⟨Had.pairA h0 h1 h2, pairA h0 h1 h2 i2⟩
    · exact fun {k} h0 h1 ⟨h2, i2⟩ => ⟨Had.pairB h0 h1 h2, pairB h0 h1 h2 i2⟩
    · exact fun {k} h0 h1 ⟨h2, i2⟩ => ⟨Had.sign h0 h1 h2, sign h0 h1 h2 i2⟩
    · exact fun {k} h0 h1 ⟨h2, i2⟩ ⟨h3, i3⟩ => ⟨Had.sealed h0 h1 h2 h3, sealed h0 h1 h2 h3 i2 i3⟩
  obtain ⟨_, h2⟩ := h _ hp
  exact h2
/-- The place of a term's pub: the last one found below m; -1 without one. -/
def pubN (ns : List Nd) (a : Nat) : Nat → Int
  | 0 => -1
  | m + 1 => if (ns.getD m Nd.zero).k = 6 ∧ (ns.getD m Nd.zero).a.toNat = a then (m : Int) else pubN ns a m
theorem pubN_range (ns : List Nd) (a : Nat) : ∀ m, -1 ≤ pubN ns a m ∧ pubN ns a m < (m : Int)
  | 0 => by simp [pubN]
  | m + 1 => by
    have := pubN_range ns a m
    rw [pubN]; split <;> omega
theorem pubN_is {ns : List Nd} {a : Nat} : ∀ {m : Nat}, 0 ≤ pubN ns a m → (ns.getD (pubN ns a m).toNat Nd.zero).k = 6 ∧ (ns.getD (pubN ns a m).toNat Nd.zero).a.toNat = a
  | 0, h => by simp [pubN] at h
  | m + 1, h => by
    rw [pubN] at h ⊢
    split at h
    · rename_i h1
      rw [if_pos h1]
      simpa using h1
    · rename_i h1
      rw [if_neg h1]
      exact pubN_is h
theorem pubN_some {ns : List Nd} {a p : Nat} : ∀ {m : Nat}, p < m → (ns.getD p Nd.zero).k = 6 → (ns.getD p Nd.zero).a.toNat = a → 0 ≤ pubN ns a m
  | 0, h, _, _ => by omega
  | m + 1, h, h6, ha => by
    rw [pubN]
    split
    · omega
    · rename_i h1
      refine pubN_some (p := p) ?_ h6 ha
      rcases Nat.lt_succ_iff_lt_or_eq.1 h with e | e
      · exact e
      · subst e; exact absurd ⟨h6, ha⟩ h1
/-- In a right arena a term has one pub. -/
theorem pub_one {ns : List Nd} (h : allFrom ns ns 0 = true) {p q : Nat} (hp : p < ns.length) (hq : q < ns.length) (p6 : (ns.getD p Nd.zero).k = 6) (q6 : (ns.getD q Nd.zero).k = 6) (e : (ns.getD p Nd.zero).a.toNat = (ns.getD q Nd.zero).a.toNat) : p = q := by
  obtain ⟨n1, f1⟩ := all_at h hp
  obtain ⟨n2, f2⟩ := all_at h hq
  have key : ns.getD p Nd.zero = ns.getD q Nd.zero := by
    generalize ns.getD p Nd.zero = x at *
    generalize ns.getD q Nd.zero = y at *
    obtain ⟨xk, xn, xa, xb⟩ := x
    obtain ⟨yk, yn, ya, yb⟩ := y
    simp only at p6 q6 e
    subst p6 q6
    rcases nodeB_true n1 with h1 | h1 | h1
    · simp at h1
    · rcases nodeB_true n2 with h2 | h2 | h2
      · simp at h2
      · simp only at h1 h2
        have : xa = ya := by omega
        rw [this, h1.2.2.1, h2.2.2.1, h1.2.2.2.2.2.2, h2.2.2.2.2.2.2]
      · have := h2.2.2.2.2.2.1; simp [oneK] at this
    · have := h1.2.2.2.2.2.1; simp [oneK] at this
  rw [key, f2] at f1
  omega
/-- Can a node be made of what is had? -/
def madeB (ns : List Nd) (bs : List Bool) (x : Nd) : Bool :=
  if x.k = 1 then decide (x.n < 1000)
  else if oneK x.k = true then bs.getD x.a.toNat false
  else if x.k = 7 then
    (bs.getD x.a.toNat false && (decide (0 ≤ pubN ns x.b.toNat ns.length) && bs.getD (pubN ns x.b.toNat ns.length).toNat false))
      || (bs.getD x.b.toNat false && (decide (0 ≤ pubN ns x.a.toNat ns.length) && bs.getD (pubN ns x.a.toNat ns.length).toNat false))
  else bs.getD x.a.toNat false && bs.getD x.b.toNat false
def Sound (ns : List Nd) (K : Nat → Prop) (bs : List Bool) : Prop := bs.length = ns.length ∧ ∀ k, bs.getD k false = true → Had ns K k
theorem Sound.set {ns : List Nd} {K : Nat → Prop} {bs : List Bool} (h : Sound ns K bs) {k : Nat} (hk : Had ns K k) : Sound ns K (bs.set k true) := by
  refine ⟨by simp [h.1], fun j hj => ?_⟩
  by_cases e : k = j
  · subst e; exact hk
  · rw [List.getD_eq_getElem?_getD, List.getElem?_set_ne e, ← List.getD_eq_getElem?_getD] at hj
    exact h.2 j hj
theorem Had.lt {ns : List Nd} (ha : allFrom ns ns 0 = true) {K : Nat → Prop} {k : Nat} (h : Had ns K k) : k < ns.length := by
  induction h using Had.ind with
  | known h _ => exact h
  | atom h _ _ => exact h
  | one h _ _ => exact h
  | two h _ _ _ _ _ => exact h
  | dhA h _ _ _ _ _ _ => exact h
  | dhB h _ _ _ _ _ _ => exact h
  | pairA h h2 _ => have := nodeB_true (all_at ha h).1; omega
  | pairB h h2 _ =>
    rcases nodeB_true (all_at ha h).1 with h1 | h1 | h1
    · omega
    · have := h1.2.2.2.2.2.1; rw [h2] at this; simp [oneK] at this
    · omega
  | sign h h2 _ =>
    rcases nodeB_true (all_at ha h).1 with h1 | h1 | h1
    · omega
    · have := h1.2.2.2.2.2.1; rw [h2] at this; simp [oneK] at this
    · omega
  | sealed h h2 _ _ =>
    rcases nodeB_true (all_at ha h).1 with h1 | h1 | h1
    · omega
    · have := h1.2.2.2.2.2.1; rw [h2] at this; simp [oneK] at this
    · omega
/-- What is made of what can be had can be had. -/
theorem made_had {ns : List Nd} (ha : allFrom ns ns 0 = true) {K : Nat → Prop} {bs : List Bool} (h : Sound ns K bs) {k : Nat} (hk : k < ns.length) (hm : madeB ns bs (ns.getD k Nd.zero) = true) : Had ns K k := by
  have hn := (all_at ha hk).1
  unfold madeB at hm
  split at hm
  · rename_i h1
    exact .atom hk h1 (by simpa using hm)
  · rename_i h1
    split at hm
    · rename_i h2
      exact .one hk h2 (h.2 _ hm)
    · rename_i h2
      split at hm
      · rename_i h7
        simp only [Bool.or_eq_true, Bool.and_eq_true, decide_eq_true_eq] at hm
        rcases hm with ⟨q1, q2, q3⟩ | ⟨q1, q2, q3⟩
        · have hp := h.2 _ q3
          obtain ⟨p6, pa⟩ := pubN_is q2
          refine .dhA hk h7 (h.2 _ q1) (hp.lt ha) p6 ?_ hp
          have hnp := nodeB_true (all_at ha (hp.lt ha)).1
          rcases nodeB_true hn with h3 | h3 | h3
          · exact absurd h3.1 h1
          · exact absurd h3.2.2.2.2.2.1 h2
          · omega
        · have hp := h.2 _ q3
          obtain ⟨p6, pa⟩ := pubN_is q2
          refine .dhB hk h7 (h.2 _ q1) (hp.lt ha) p6 ?_ hp
          have hnp := nodeB_true (all_at ha (hp.lt ha)).1
          rcases nodeB_true hn with h3 | h3 | h3
          · exact absurd h3.1 h1
          · exact absurd h3.2.2.2.2.2.1 h2
          · omega
      · rename_i h7
        simp only [Bool.and_eq_true] at hm
        exact .two hk h1 h7 (by simpa using h2) (h.2 _ hm.1) (h.2 _ hm.2)
/-- Nothing more comes: every node that can be made is had, and so are the parts that can be had by one that is. -/
structure Closed (ns : List Nd) (bs : List Bool) : Prop where
  made : ∀ k, k < ns.length → madeB ns bs (ns.getD k Nd.zero) = true → bs.getD k false = true
  pair : ∀ k, k < ns.length → bs.getD k false = true → (ns.getD k Nd.zero).k = 2 → bs.getD (ns.getD k Nd.zero).a.toNat false = true ∧ bs.getD (ns.getD k Nd.zero).b.toNat false = true
  sign : ∀ k, k < ns.length → bs.getD k false = true → (ns.getD k Nd.zero).k = 8 → bs.getD (ns.getD k Nd.zero).b.toNat false = true
  sealed : ∀ k, k < ns.length → bs.getD k false = true → (ns.getD k Nd.zero).k = 5 → bs.getD (ns.getD k Nd.zero).a.toNat false = true → bs.getD (ns.getD k Nd.zero).b.toNat false = true
/-- Then all that can be had is had. -/
theorem closed_all {ns : List Nd} (ha : allFrom ns ns 0 = true) {K : Nat → Prop} {bs : List Bool} (hc : Closed ns bs) (hK : ∀ k, k < ns.length → K k → bs.getD k false = true) {k : Nat} (h : Had ns K k) : bs.getD k false = true := by
  induction h using Had.ind with
  | known h h1 => exact hK _ h h1
  | atom h h1 h2 => refine hc.made _ h ?_; unfold madeB; rw [if_pos h1]; simpa using h2
  | one h h1 _ ih =>
    refine hc.made _ h ?_
    unfold madeB
    rw [if_neg (fun e => by rw [e] at h1; simp [oneK] at h1), if_pos h1]; exact ih
  | two h h1 h7 ho _ _ ia ib =>
    refine hc.made _ h ?_
    unfold madeB
    rw [if_neg h1, if_neg (by rw [ho]; simp), if_neg h7, ia, ib]; rfl
  | @dhA k p h h7 _ hp p6 pa _ ia ip =>
    refine hc.made _ h ?_
    have h0 := pubN_some (ns := ns) (a := (ns.getD k Nd.zero).b.toNat) hp p6 (by rw [pa])
    have hr := pubN_range ns (ns.getD k Nd.zero).b.toNat ns.length
    obtain ⟨q6, qa⟩ := pubN_is h0
    have e := pub_one ha hp (show (pubN ns (ns.getD k Nd.zero).b.toNat ns.length).toNat < ns.length by omega) p6 q6 (by rw [qa, pa])
    unfold madeB
    rw [if_neg (by rw [h7]; decide), if_neg (by rw [h7]; decide), if_pos h7, ia, ← e, ip, decide_eq_true h0]
    rfl
  | @dhB k p h h7 _ hp p6 pa _ ia ip =>
    refine hc.made _ h ?_
    have h0 := pubN_some (ns := ns) (a := (ns.getD k Nd.zero).a.toNat) hp p6 (by rw [pa])
    have hr := pubN_range ns (ns.getD k Nd.zero).a.toNat ns.length
    obtain ⟨q6, qa⟩ := pubN_is h0
    have e := pub_one ha hp (show (pubN ns (ns.getD k Nd.zero).a.toNat ns.length).toNat < ns.length by omega) p6 q6 (by rw [qa, pa])
    unfold madeB
    rw [if_neg (by rw [h7]; decide), if_neg (by rw [h7]; decide), if_pos h7, ia, ← e, ip, decide_eq_true h0, Bool.or_comm]
    rfl
  | pairA h h2 _ ih => exact (hc.pair _ h ih h2).1
  | pairB h h2 _ ih => exact (hc.pair _ h ih h2).2
  | sign h h2 _ ih => exact hc.sign _ h ih h2
  | sealed h h2 _ _ ih ia => exact hc.sealed _ h ih h2 ia
end Go.Proofs.Ytgmlanmblabgfaa
