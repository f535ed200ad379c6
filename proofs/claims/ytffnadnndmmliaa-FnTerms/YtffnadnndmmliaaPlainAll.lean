/- A right arena: what stands at a place is right there, and stands there first. -/
import Derived.Test.YtffnadnndmmliaaPlainText
import Derived.Test.YtffnadnndmmliaaHeldQ
namespace Go.Proofs.Ytffnadnndmmliaa
set_option linter.unusedVariables false
theorem all_at {ns : List Nd} (h : allFrom ns ns 0 = true) {i : Nat} (hi : i < ns.length) : nodeB (ns.getD i Nd.zero) i = true ∧ findN ns (ns.getD i Nd.zero) = (i : Int) := by
  have key : ∀ j, j ≤ ns.length → allFrom ns (ns.drop j) j = true := by
    intro j
    induction j with
    | zero => intro _; simpa using h
    | succ j ih =>
      intro hj
      have h1 := ih (by omega)
      rw [all_drop ns j (by omega)] at h1
      simp only [Bool.and_eq_true] at h1
      exact h1.2.2
  have h1 := key i (by omega)
  rw [all_drop ns i hi] at h1
  simp only [Bool.and_eq_true, decide_eq_true_eq] at h1
  exact ⟨h1.1, h1.2.1⟩
theorem all_good {ns : List Nd} (h : allFrom ns ns 0 = true) {k : Nat} (hk : k < ns.length) : Good ns k := ⟨hk, fun i hi => (all_at h (by omega)).1⟩
/-- A node that is right is right further behind. -/
theorem nodeB_mono {x : Nd} {k l : Int} (h : nodeB x k = true) (hl : k ≤ l) : nodeB x l = true := by
  rcases nodeB_true h with h1 | h1 | h1
  · obtain ⟨h2, h3, h4, h5, h6⟩ := h1
    unfold nodeB
    rw [if_neg (by rw [h2]; decide), if_pos h2, inB_mk ⟨h3, h4⟩, h5, h6]; rfl
  · obtain ⟨h2, h3, h4, h5, h6, h7, h8⟩ := h1
    unfold nodeB
    rw [if_neg (by rw [inB_mk ⟨by omega, h3⟩]; simp), if_neg (by omega), if_neg (by rintro (e | e); exact e h4; rw [inB_mk ⟨h5, by omega⟩] at e; simp at e), if_pos h7, h8]; rfl
  · obtain ⟨h2, h3, h4, h5, h6, h7, h8, h9⟩ := h1
    unfold nodeB
    rw [if_neg (by rw [inB_mk ⟨by omega, h3⟩]; simp), if_neg (by omega), if_neg (by rintro (e | e); exact e h4; rw [inB_mk ⟨h5, by omega⟩] at e; simp at e), if_neg (by rw [h7]; simp)]
    exact inB_mk ⟨h8, by omega⟩
theorem put_self {ns : List Nd} (h : allFrom ns ns 0 = true) {k : Nat} (hk : k < ns.length) : putA ns (ns.getD k Nd.zero) = ns ∧ putK ns (ns.getD k Nd.zero) = (k : Int) := by
  obtain ⟨h1, h2⟩ := all_at h hk
  have h3 := nodeB_mono h1 (show (k : Int) ≤ (ns.length : Int) by omega)
  constructor
  · unfold putA; rw [if_neg (by rw [h2]; omega)]
  · unfold putK; rw [if_pos h3, if_neg (by rw [h2]; omega), h2]
end Go.Proofs.Ytffnadnndmmliaa
