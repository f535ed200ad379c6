/- A region that draws its order and in which some operations (calls that turn memory) come one behind another: what holds of the world hangs on how many of them were done; all others only read. -/
import Derived.Test.YtagjdhiicpglaaaRegionN
namespace Go.Proofs.Ytagjdhiicpglaaa
open Go.RowKit
set_option linter.unusedVariables false
variable {P : Program} {ops : Array Oper}
/-- Each of the chain waits for the one ahead. -/
def chainB (ops : Array Oper) (n : Nat) : List Nat → Bool
  | [] => true
  | [_] => true
  | c :: d :: cs => waitsB ops c n d && chainB ops n (d :: cs)
def cntC (chain : List Nat) (l : Array Bool) : Nat := (chain.filter (fun c => l.getD c false)).length
theorem chain_down {n : Nat} {l : Array Bool} (hc : ClosedR ops l) : ∀ (cs : List Nat) (c : Nat), chainB ops n (c :: cs) = true → ∀ x ∈ cs, l.getD x false = true → l.getD c false = true
  | [], c, _, x, hx, _ => by cases hx
  | d :: ds, c, h, x, hx, hl => by
    rw [chainB, Bool.and_eq_true] at h
    have hd : l.getD d false = true := by
      rcases List.mem_cons.1 hx with rfl | h1
      · exact hl
      · exact chain_down hc ds d h.2 x h1 hl
    exact waits_spec hc n d h.1 hd
theorem chain_tail {n : Nat} {c : Nat} {cs : List Nat} (h : chainB ops n (c :: cs) = true) : chainB ops n cs = true := by
  cases cs with
  | nil => rfl
  | cons d ds => rw [chainB, Bool.and_eq_true] at h; exact h.2
theorem not_true {l : Array Bool} {c : Nat} (h : l.getD c true = false) : l.getD c false = false := by
  rcases Nat.lt_or_ge c l.size with h' | h'
  · simp [h'] at h ⊢; exact h
  · simp [Array.getElem?_eq_none h'] at h
theorem cnt_zero {n : Nat} {l : Array Bool} (hc : ClosedR ops l) : ∀ (cs : List Nat) (c : Nat), chainB ops n (c :: cs) = true → l.getD c false = false → cntC (c :: cs) l = 0 := fun cs c h hf => by
  unfold cntC
  rw [List.length_eq_zero_iff, List.filter_eq_nil_iff]
  intro x hx hl
  have hl' : l.getD x false = true := by simpa using hl
  rcases List.mem_cons.1 hx with rfl | h1
  · rw [hf] at hl'; cases hl'
  · have := chain_down hc cs c h x h1 hl'; rw [hf] at this; cases this
/-- The one at place j is not done, the one ahead of it is: so many are done. -/
theorem cnt_at {n : Nat} {l : Array Bool} (hc : ClosedR ops l) : ∀ (chain : List Nat) (j c : Nat), chainB ops n chain = true → chain.Nodup → chain[j]? = some c → l.getD c true = false → c < l.size → (∀ i d, j = i + 1 → chain[i]? = some d → l.getD d false = true) → cntC chain l = j ∧ cntC chain (l.setIfInBounds c true) = j + 1
  | [], j, c, _, _, h, _, _, _ => by simp at h
  | d :: cs, 0, c, h, hn, hj, hf, hs, _ => by
    simp at hj
    subst hj
    refine ⟨cnt_zero hc cs d h (not_true hf), ?_⟩
    have h0 := cnt_zero hc cs d h (not_true hf)
    unfold cntC at h0 ⊢
    rw [List.filter_cons_of_pos (by simp [hs])]
    have e : cs.filter (fun x => (l.setIfInBounds d true).getD x false) = cs.filter (fun x => l.getD x false) := by
      apply List.filter_congr
      intro x hx
      rw [set_other (fun e : d = x => (List.nodup_cons.1 hn).1 (by rw [e]; exact hx))]
    rw [List.filter_cons_of_neg (by simp [hs]; simpa [hs] using hf)] at h0
    rw [List.length_cons, e, h0]
  | d :: cs, j + 1, c, h, hn, hj, hf, hs, hp => by
    have hd : l.getD d false = true := by
      cases j with
      | zero => exact hp 0 d rfl rfl
      | succ k =>
        have hj' : cs[k + 1]? = some c := by simpa using hj
        obtain ⟨y, hy⟩ : ∃ y, cs[k]? = some y := ⟨_, List.getElem?_eq_getElem (by have := (List.getElem?_eq_some_iff.1 hj').1; omega)⟩
        exact chain_down hc cs d h y (List.mem_of_getElem? hy) (hp (k + 1) y rfl (by simpa using hy))
    have ih := cnt_at hc cs j c (chain_tail h) (List.nodup_cons.1 hn).2 (by simpa using hj) hf hs (fun i y e hy => hp (i + 1) y (by omega) (by simpa using hy))
    have hcd : c ≠ d := fun e => by rw [e] at hf; rw [not_true hf] at hd; cases hd
    unfold cntC at ih ⊢
    rw [List.filter_cons_of_pos (by simpa using hd), List.filter_cons_of_pos (by rw [set_other hcd]; simpa using hd)]
    simp only [List.length_cons]
    omega
theorem cnt_other {chain : List Nat} {l : Array Bool} {i : Nat} (h : i ∉ chain) : cntC chain (l.setIfInBounds i true) = cntC chain l := by
  unfold cntC
  congr 1
  apply List.filter_congr
  intro x hx
  rw [set_other (fun e : i = x => h (by rw [e]; exact hx))]
theorem cnt_none {chain : List Nat} {k : Nat} : cntC chain (Array.replicate k false) = 0 := by
  unfold cntC
  rw [List.length_eq_zero_iff, List.filter_eq_nil_iff]
  intro x _ hx
  rcases Nat.lt_or_ge x k with h | h
  · simp [h] at hx
  · simp [Array.getElem?_eq_none (show (Array.replicate k false).size ≤ x by simpa using h)] at hx
theorem cnt_all {chain : List Nat} {l : Array Bool} (h : ∀ c ∈ chain, l.getD c false = true) : cntC chain l = chain.length := by
  unfold cntC
  rw [List.filter_eq_self.2 (fun c hc => by simpa using h c hc)]
/-- What holds at the stage. -/
def Stg (Ws : List (Act → World → Prop)) (chain : List Nat) (l : Array Bool) (a : Act) (w : World) : Prop := ∃ p, Ws[cntC chain l]? = some p ∧ p a w
theorem Stg.read {Ws : List (Act → World → Prop)} {chain : List Nat} {l : Array Bool} {a : Act} {w : World} (h : Stg Ws chain l a w) {i : Nat} (hi : i ∉ chain) {d : Option Nat} {v : Value} (hst : ∀ p ∈ Ws, p a w → p (a.put d v) w) : Stg Ws chain (l.setIfInBounds i true) (a.put d v) w := by
  obtain ⟨p, h1, h2⟩ := h
  exact ⟨p, by rw [cnt_other hi]; exact h1, hst p (List.mem_of_getElem? h1) h2⟩
theorem Stg.every {Ws : List (Act → World → Prop)} {chain : List Nat} {l : Array Bool} {a : Act} {w : World} (h : Stg Ws chain l a w) {X : World → Prop} (hx : ∀ p ∈ Ws, ∀ a w, p a w → X w) : X w := by
  obtain ⟨p, h1, h2⟩ := h
  exact hx p (List.mem_of_getElem? h1) a w h2
theorem Stg.here {Ws : List (Act → World → Prop)} {chain : List Nat} {l : Array Bool} {a : Act} {w : World} (h : Stg Ws chain l a w) {j : Nat} (hj : cntC chain l = j) {p : Act → World → Prop} (hp : Ws[j]? = some p) : p a w := by
  obtain ⟨q, h1, h2⟩ := h
  rw [hj, hp] at h1
  cases h1
  exact h2
theorem Stg.mk' {Ws : List (Act → World → Prop)} {chain : List Nat} {l : Array Bool} {a : Act} {w : World} {j : Nat} (hj : cntC chain l = j) {p : Act → World → Prop} (hp : Ws[j]? = some p) (h : p a w) : Stg Ws chain l a w := ⟨p, by rw [hj]; exact hp, h⟩
/-- What an operation that is ready waits for was done. -/
theorem pre_done {l : Array Bool} {after : Array Edge} {c : Nat} (h : ∀ e ∈ after, Region.binds .any e = true → l.getD e.on false = true) (hc : (after.any fun e => Region.binds .any e && e.on == c) = true) : l.getD c false = true := by
  obtain ⟨e, he, h7⟩ := Array.any_eq_true'.1 hc
  rw [Bool.and_eq_true, beq_iff_eq] at h7
  have := h e he h7.1
  rw [h7.2] at this
  exact this
end Go.Proofs.Ytagjdhiicpglaaa
