/- Chapter 5 in plain words: the parts that come of a node, how many are still wanted, and the answer as a row that is one alone. -/
import Derived.Test.YtffnadnndmmliaaPlainReach
namespace Go.Proofs.Ytffnadnndmmliaa
set_option linter.unusedVariables false

/-- What is had behind the parts of a node that is had. -/
def givesB (bs : List Bool) (x : Nd) : List Bool :=
  if x.k = 2 then (bs.set x.a.toNat true).set x.b.toNat true
  else if x.k = 8 then bs.set x.b.toNat true
  else if x.k = 5 then (if bs.getD x.a.toNat false = true then bs.set x.b.toNat true else bs)
  else bs
/-- Did one come? -/
def givesT (bs : List Bool) (x : Nd) : Bool :=
  if x.k = 2 then !bs.getD x.a.toNat false || !bs.getD x.b.toNat false
  else if x.k = 8 then !bs.getD x.b.toNat false
  else if x.k = 5 then bs.getD x.a.toNat false && !bs.getD x.b.toNat false
  else false
theorem givesB_len (bs : List Bool) (x : Nd) : (givesB bs x).length = bs.length := by
  unfold givesB
  repeat' split
  all_goals simp
theorem getD_setT (bs : List Bool) (k j : Nat) : (bs.set k true).getD j false = if k = j ∧ k < bs.length then true else bs.getD j false := by
  rw [List.getD_eq_getElem?_getD, List.getElem?_set, List.getD_eq_getElem?_getD]
  by_cases e : k = j
  · subst e
    by_cases h : k < bs.length
    · simp [h]
    · simp [h]
  · simp [e]
theorem set_same {bs : List Bool} {k : Nat} (h : bs.getD k false = true) : bs.set k true = bs := by
  apply List.ext_getElem?
  intro j
  rw [List.getElem?_set]
  by_cases e : k = j
  · subst e
    by_cases hk : k < bs.length
    · rw [List.getD_eq_getElem?_getD, List.getElem?_eq_getElem hk] at h
      simp only [Option.getD_some] at h
      simp [hk, h]
    · rw [List.getD_eq_getElem?_getD, List.getElem?_eq_none (by omega)] at h
      simp at h
  · simp [e]
theorem set_mono {bs : List Bool} {k j : Nat} (h : bs.getD j false = true) : (bs.set k true).getD j false = true := by
  rw [getD_setT]
  split
  · rfl
  · exact h
/-- How many are still wanted. -/
def cnt : List Bool → Nat
  | [] => 0
  | b :: bs => (if b = true then 0 else 1) + cnt bs
theorem cnt_set : ∀ {bs : List Bool} {k : Nat}, k < bs.length → bs.getD k false = false → cnt (bs.set k true) < cnt bs
  | [], _, h, _ => by simp at h
  | b :: bs, 0, _, h => by simp at h; subst h; simp [cnt]
  | b :: bs, k + 1, h, hb => by
    have := cnt_set (bs := bs) (k := k) (by simpa using h) (by simpa using hb)
    simp only [List.set_cons_succ, cnt]; omega
theorem cnt_set_le : ∀ (bs : List Bool) (k : Nat), cnt (bs.set k true) ≤ cnt bs
  | [], _ => by simp [cnt]
  | b :: bs, 0 => by simp only [List.set_cons_zero, cnt]; cases b <;> simp
  | b :: bs, k + 1 => by
    have := cnt_set_le bs k
    simp only [List.set_cons_succ, cnt]; omega
theorem givesB_same {bs : List Bool} {x : Nd} (h : givesT bs x = false) : givesB bs x = bs := by
  unfold givesT at h
  unfold givesB
  by_cases h2 : x.k = 2
  · rw [if_pos h2] at h ⊢
    simp only [Bool.or_eq_false_iff, Bool.not_eq_false'] at h
    rw [set_same h.1, set_same h.2]
  · rw [if_neg h2] at h ⊢
    by_cases h8 : x.k = 8
    · rw [if_pos h8] at h ⊢
      exact set_same (by simpa using h)
    · rw [if_neg h8] at h ⊢
      by_cases h5 : x.k = 5
      · rw [if_pos h5] at h ⊢
        by_cases hA : bs.getD x.a.toNat false = true
        · rw [if_pos hA]
          rw [hA] at h
          exact set_same (by simpa using h)
        · rw [if_neg hA]
      · rw [if_neg h5]
theorem gives_cnt {bs : List Bool} {x : Nd} (h : givesT bs x = true) (ha : x.a.toNat < bs.length) (hb : x.b.toNat < bs.length) : cnt (givesB bs x) < cnt bs := by
  unfold givesT at h
  unfold givesB
  by_cases h2 : x.k = 2
  · rw [if_pos h2] at h ⊢
    by_cases hA : bs.getD x.a.toNat false = true
    · rw [set_same hA]
      rw [hA] at h
      exact cnt_set hb (by simpa using h)
    · exact Nat.lt_of_le_of_lt (cnt_set_le _ _) (cnt_set ha (by simpa using hA))
  · rw [if_neg h2] at h ⊢
    by_cases h8 : x.k = 8
    · rw [if_pos h8] at h ⊢
      exact cnt_set hb (by simpa using h)
    · rw [if_neg h8] at h ⊢
      by_cases h5 : x.k = 5
      · rw [if_pos h5] at h ⊢
        simp only [Bool.and_eq_true, Bool.not_eq_true'] at h
        rw [if_pos h.1]
        exact cnt_set hb h.2
      · rw [if_neg h5] at h; simp at h
theorem gives_mono {bs : List Bool} (x : Nd) {j : Nat} (h : bs.getD j false = true) : (givesB bs x).getD j false = true := by
  unfold givesB
  repeat' split
  · exact set_mono (set_mono h)
  · exact set_mono h
  · exact set_mono h
  · exact h
  · exact h
theorem gives_sound {ns : List Nd} {K : Nat → Prop} {bs : List Bool} {k : Nat} (h : Sound ns K bs) (hk : k < ns.length) (hb : bs.getD k false = true) : Sound ns K (givesB bs (ns.getD k Nd.zero)) := by
  have hh := h.2 k hb
  unfold givesB
  split
  · rename_i h2
    exact (h.set (.pairA hk h2 hh)).set (.pairB hk h2 hh)
  · split
    · rename_i h8
      exact h.set (.sign hk h8 hh)
    · split
      · rename_i h5
        split
        · rename_i hA
          exact h.set (.sealed hk h5 hh (h.2 _ hA))
        · exact h
      · exact h
theorem closed_of {ns : List Nd} {bs : List Bool} (hm : ∀ k, k < ns.length → madeB ns bs (ns.getD k Nd.zero) = true → bs.getD k false = true) (hp : ∀ k, k < ns.length → bs.getD k false = true → givesT bs (ns.getD k Nd.zero) = false) : Closed ns bs where
  made := hm
  pair := fun k hk hb h2 => by
    have := hp k hk hb
    unfold givesT at this
    rw [if_pos h2] at this
    simpa using this
  sign := fun k hk hb h8 => by
    have := hp k hk hb
    unfold givesT at this
    rw [if_neg (by omega), if_pos h8] at this
    simpa using this
  sealed := fun k hk hb h5 hA => by
    have := hp k hk hb
    unfold givesT at this
    rw [if_neg (by omega), if_neg (by omega), if_pos h5, hA] at this
    simpa using this
/-- The answer: of each node whether it can be had. -/
structure IsReach (ns : List Nd) (xs : List Int) (bs : List Bool) : Prop where
  len : bs.length = ns.length
  iff : ∀ k, k < ns.length → (bs.getD k false = true ↔ Had ns (fun j => (j : Int) ∈ xs) k)
theorem IsReach.one {ns : List Nd} {xs : List Int} {bs cs : List Bool} (h : IsReach ns xs bs) (h' : IsReach ns xs cs) : bs = cs := by
  apply List.ext_getElem (by rw [h.len, h'.len])
  intro k h1 h2
  have hk : k < ns.length := by rw [← h.len]; exact h1
  have e := (h.iff k hk).trans (h'.iff k hk).symm
  rw [List.getD_eq_getElem?_getD, List.getElem?_eq_getElem h1, List.getD_eq_getElem?_getD, List.getElem?_eq_getElem h2] at e
  simp only [Option.getD_some] at e
  exact Bool.eq_iff_iff.2 e
theorem IsReach.of {ns : List Nd} (ha : allFrom ns ns 0 = true) {xs : List Int} {bs : List Bool} (hs : Sound ns (fun j => (j : Int) ∈ xs) bs) (hc : Closed ns bs) (hK : ∀ k, k < ns.length → (k : Int) ∈ xs → bs.getD k false = true) : IsReach ns xs bs :=
  ⟨hs.1, fun k hk => ⟨fun h => hs.2 k h, fun h => closed_all ha hc hK h⟩⟩
/-- Who knows more has no less. -/
theorem Had.more {ns : List Nd} {K L : Nat → Prop} (hKL : ∀ k, K k → L k) {k : Nat} (h : Had ns K k) : Had ns L k := by
  induction h using Had.ind with
  | known h h1 => exact .known h (hKL _ h1)
  | atom h h1 h2 => exact .atom h h1 h2
  | one h h1 _ ih => exact .one h h1 ih
  | two h h1 h7 ho _ _ ia ib => exact .two h h1 h7 ho ia ib
  | dhA h h7 _ hp p6 pa _ ia ip => exact .dhA h h7 ia hp p6 pa ip
  | dhB h h7 _ hp p6 pa _ ia ip => exact .dhB h h7 ia hp p6 pa ip
  | pairA h h2 _ ih => exact .pairA h h2 ih
  | pairB h h2 _ ih => exact .pairB h h2 ih
  | sign h h2 _ ih => exact .sign h h2 ih
  | sealed h h2 _ _ ih ia => exact .sealed h h2 ih ia
/-- Who knows what can be had can have no more. -/
theorem Had.again {ns : List Nd} {K L : Nat → Prop} (hKL : ∀ k, L k → Had ns K k) {k : Nat} (h : Had ns L k) : Had ns K k := by
  induction h using Had.ind with
  | known h h1 => exact hKL _ h1
  | atom h h1 h2 => exact .atom h h1 h2
  | one h h1 _ ih => exact .one h h1 ih
  | two h h1 h7 ho _ _ ia ib => exact .two h h1 h7 ho ia ib
  | dhA h h7 _ hp p6 pa _ ia ip => exact .dhA h h7 ia hp p6 pa ip
  | dhB h h7 _ hp p6 pa _ ia ip => exact .dhB h h7 ia hp p6 pa ip
  | pairA h h2 _ ih => exact .pairA h h2 ih
  | pairB h h2 _ ih => exact .pairB h h2 ih
  | sign h h2 _ ih => exact .sign h h2 ih
  | sealed h h2 _ _ ih ia => exact .sealed h h2 ih ia
end Go.Proofs.Ytffnadnndmmliaa
