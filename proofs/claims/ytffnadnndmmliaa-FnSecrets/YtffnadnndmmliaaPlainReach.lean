/- Chapter 5 in plain words: what can be had of known terms, as the least that holds them and is closed; the specification's way of finding it, a step at a time. -/
import Derived.Test.YtffnadnndmmliaaPlainText
namespace Go.Proofs.Ytffnadnndmmliaa
set_option linter.unusedVariables false

/-- What holds of all that is known, and of whatever can be made of what it holds of. -/
structure HadBy (ns : List Nd) (K P : Nat → Prop) : Prop where
  known : ∀ {k : Nat}, k < ns.length → K k → P k
  atom : ∀ {k : Nat}, k < ns.length → (ns.getD k Nd.zero).k = 1 → (ns.getD k Nd.zero).n < 1000 → P k
  one : ∀ {k : Nat}, k < ns.length → oneK (ns.getD k Nd.zero).k = true → P (ns.getD k Nd.zero).a.toNat → P k
  two : ∀ {k : Nat}, k < ns.length → (ns.getD k Nd.zero).k ≠ 1 → (ns.getD k Nd.zero).k ≠ 7 → oneK (ns.getD k Nd.zero).k = false → P (ns.getD k Nd.zero).a.toNat → P (ns.getD k Nd.zero).b.toNat → P k
  dhA : ∀ {k p : Nat}, k < ns.length → (ns.getD k Nd.zero).k = 7 → P (ns.getD k Nd.zero).a.toNat → p < ns.length → (ns.getD p Nd.zero).k = 6 → (ns.getD p Nd.zero).a = (ns.getD k Nd.zero).b → P p → P k
  dhB : ∀ {k p : Nat}, k < ns.length → (ns.getD k Nd.zero).k = 7 → P (ns.getD k Nd.zero).b.toNat → p < ns.length → (ns.getD p Nd.zero).k = 6 → (ns.getD p Nd.zero).a = (ns.getD k Nd.zero).a → P p → P k
  pairA : ∀ {k : Nat}, k < ns.length → (ns.getD k Nd.zero).k = 2 → P k → P (ns.getD k Nd.zero).a.toNat
  pairB : ∀ {k : Nat}, k < ns.length → (ns.getD k Nd.zero).k = 2 → P k → P (ns.getD k Nd.zero).b.toNat
  sign : ∀ {k : Nat}, k < ns.length → (ns.getD k Nd.zero).k = 8 → P k → P (ns.getD k Nd.zero).b.toNat
  sealed : ∀ {k : Nat}, k < ns.length → (ns.getD k Nd.zero).k = 5 → P k → P (ns.getD k Nd.zero).a.toNat → P (ns.getD k Nd.zero).b.toNat
/-- What can be had of the known ones. -/
def Had (ns : List Nd) (K : Nat → Prop) (k : Nat) : Prop := ∀ P : Nat → Prop, HadBy ns K P → P k
theorem Had.known {ns : List Nd} {K : Nat → Prop} {k : Nat} (h0 : k < ns.length) (h1 : K k) : Had ns K k := fun P hp => hp.known h0 h1
theorem Had.atom {ns : List Nd} {K : Nat → Prop} {k : Nat} (h0 : k < ns.length) (h1 : (ns.getD k Nd.zero).k = 1) (h2 : (ns.getD k Nd.zero).n < 1000) : Had ns K k := fun P hp => hp.atom h0 h1 h2
theorem Had.one {ns : List Nd} {K : Nat → Prop} {k : Nat} (h0 : k < ns.length) (h1 : oneK (ns.getD k Nd.zero).k = true) (h2 : Had ns K (ns.getD k Nd.zero).a.toNat) : Had ns K k := fun P hp => hp.one h0 h1 (h2 P hp)
theorem Had.two {ns : List Nd} {K : Nat → Prop} {k : Nat} (h0 : k < ns.length) (h1 : (ns.getD k Nd.zero).k ≠ 1) (h2 : (ns.getD k Nd.zero).k ≠ 7) (h3 : oneK (ns.getD k Nd.zero).k = false) (h4 : Had ns K (ns.getD k Nd.zero).a.toNat) (h5 : Had ns K (ns.getD k Nd.zero).b.toNat) : Had ns K k := fun P hp => hp.two h0 h1 h2 h3 (h4 P hp) (h5 P hp)
theorem Had.dhA {ns : List Nd} {K : Nat → Prop} {k p : Nat} (h0 : k < ns.length) (h1 : (ns.getD k Nd.zero).k = 7) (h2 : Had ns K (ns.getD k Nd.zero).a.toNat) (h3 : p < ns.length) (h4 : (ns.getD p Nd.zero).k = 6) (h5 : (ns.getD p Nd.zero).a = (ns.getD k Nd.zero).b) (h6 : Had ns K p) : Had ns K k := fun P hp => hp.dhA h0 h1 (h2 P hp) h3 h4 h5 (h6 P hp)
theorem Had.dhB {ns : List Nd} {K : Nat → Prop} {k p : Nat} (h0 : k < ns.length) (h1 : (ns.getD k Nd.zero).k = 7) (h2 : Had ns K (ns.getD k Nd.zero).b.toNat) (h3 : p < ns.length) (h4 : (ns.getD p Nd.zero).k = 6) (h5 : (ns.getD p Nd.zero).a = (ns.getD k Nd.zero).a) (h6 : Had ns K p) : Had ns K k := fun P hp => hp.dhB h0 h1 (h2 P hp) h3 h4 h5 (h6 P hp)
theorem Had.pairA {ns : List Nd} {K : Nat → Prop} {k : Nat} (h0 : k < ns.length) (h1 : (ns.getD k Nd.zero).k = 2) (h2 : Had ns K k) : Had ns K (ns.getD k Nd.zero).a.toNat := fun P hp => hp.pairA h0 h1 (h2 P hp)
theorem Had.pairB {ns : List Nd} {K : Nat → Prop} {k : Nat} (h0 : k < ns.length) (h1 : (ns.getD k Nd.zero).k = 2) (h2 : Had ns K k) : Had ns K (ns.getD k Nd.zero).b.toNat := fun P hp => hp.pairB h0 h1 (h2 P hp)
theorem Had.sign {ns : List Nd} {K : Nat → Prop} {k : Nat} (h0 : k < ns.length) (h1 : (ns.getD k Nd.zero).k = 8) (h2 : Had ns K k) : Had ns K (ns.getD k Nd.zero).b.toNat := fun P hp => hp.sign h0 h1 (h2 P hp)
theorem Had.sealed {ns : List Nd} {K : Nat → Prop} {k : Nat} (h0 : k < ns.length) (h1 : (ns.getD k Nd.zero).k = 5) (h2 : Had ns K k) (h3 : Had ns K (ns.getD k Nd.zero).a.toNat) : Had ns K (ns.getD k Nd.zero).b.toNat := fun P hp => hp.sealed h0 h1 (h2 P hp) (h3 P hp)
/-- By what came ahead. -/
theorem Had.ind {ns : List Nd} {K : Nat → Prop} {motive : (k : Nat) → Had ns K k → Prop}
    (known : ∀ {k : Nat} (h0 : k < ns.length) (h1 : K k), motive k (Had.known h0 h1))
    (atom : ∀ {k : Nat} (h0 : k < ns.length) (h1 : (ns.getD k Nd.zero).k = 1) (h2 : (ns.getD k Nd.zero).n < 1000), motive k (Had.atom h0 h1 h2))
    (one : ∀ {k : Nat} (h0 : k < ns.length) (h1 : oneK (ns.getD k Nd.zero).k = true) (h2 : Had ns K (ns.getD k Nd.zero).a.toNat), motive (ns.getD k Nd.zero).a.toNat h2 → motive k (Had.one h0 h1 h2))
    (two : ∀ {k : Nat} (h0 : k < ns.length) (h1 : (ns.getD k Nd.zero).k ≠ 1) (h2 : (ns.getD k Nd.zero).k ≠ 7) (h3 : oneK (ns.getD k Nd.zero).k = false) (h4 : Had ns K (ns.getD k Nd.zero).a.toNat) (h5 : Had ns K (ns.getD k Nd.zero).b.toNat), motive (ns.getD k Nd.zero).a.toNat h4 → motive (ns.getD k Nd.zero).b.toNat h5 → motive k (Had.two h0 h1 h2 h3 h4 h5))
    (dhA : ∀ {k p : Nat} (h0 : k < ns.length) (h1 : (ns.getD k Nd.zero).k = 7) (h2 : Had ns K (ns.getD k Nd.zero).a.toNat) (h3 : p < ns.length) (h4 : (ns.getD p Nd.zero).k = 6) (h5 : (ns.getD p Nd.zero).a = (ns.getD k Nd.zero).b) (h6 : Had ns K p), motive (ns.getD k Nd.zero).a.toNat h2 → motive p h6 → motive k (Had.dhA h0 h1 h2 h3 h4 h5 h6))
    (dhB : ∀ {k p : Nat} (h0 : k < ns.length) (h1 : (ns.getD k Nd.zero).k = 7) (h2 : Had ns K (ns.getD k Nd.zero).b.toNat) (h3 : p < ns.length) (h4 : (ns.getD p Nd.zero).k = 6) (h5 : (ns.getD p Nd.zero).a = (ns.getD k Nd.zero).a) (h6 : Had ns K p), motive (ns.getD k Nd.zero).b.toNat h2 → motive p h6 → motive k (Had.dhB h0 h1 h2 h3 h4 h5 h6))
    (pairA : ∀ {k : Nat} (h0 : k < ns.length) (h1 : (ns.getD k Nd.zero).k = 2) (h2 : Had ns K k), motive k h2 → motive (ns.getD k Nd.zero).a.toNat (Had.pairA h0 h1 h2))
    (pairB : ∀ {k : Nat} (h0 : k < ns.length) (h1 : (ns.getD k Nd.zero).k = 2) (h2 : Had ns K k), motive k h2 → motive (ns.getD k Nd.zero).b.toNat (Had.pairB h0 h1 h2))
    (sign : ∀ {k : Nat} (h0 : k < ns.length) (h1 : (ns.getD k Nd.zero).k = 8) (h2 : Had ns K k), motive k h2 → motive (ns.getD k Nd.zero).b.toNat (Had.sign h0 h1 h2))
    (sealed : ∀ {k : Nat} (h0 : k < ns.length) (h1 : (ns.getD k Nd.zero).k = 5) (h2 : Had ns K k) (h3 : Had ns K (ns.getD k Nd.zero).a.toNat), motive k h2 → motive (ns.getD k Nd.zero).a.toNat h3 → motive (ns.getD k Nd.zero).b.toNat (Had.sealed h0 h1 h2 h3))
    {k : Nat} (h : Had ns K k) : motive k h := by
  have hp : HadBy ns K (fun k => ∃ h : Had ns K k, motive k h) := by
    constructor
    · exact fun {k} h0 h1 => ⟨Had.known h0 h1, known h0 h1⟩
    · exact fun {k} h0 h1 h2 => ⟨Had.atom h0 h1 h2, atom h0 h1 h2⟩
    · exact fun {k} h0 h1 ⟨h2, i2⟩ => ⟨Had.one h0 h1 h2, one h0 h1 h2 i2⟩
    · exact fun {k} h0 h1 h2 h3 ⟨h4, i4⟩ ⟨h5, i5⟩ => ⟨Had.two h0 h1 h2 h3 h4 h5, two h0 h1 h2 h3 h4 h5 i4 i5⟩
    · exact fun {k} {p} h0 h1 ⟨h2, i2⟩ h3 h4 h5 ⟨h6, i6⟩ => ⟨Had.dhA h0 h1 h2 h3 h4 h5 h6, dhA h0 h1 h2 h3 h4 h5 h6 i2 i6⟩
    · exact fun {k} {p} h0 h1 ⟨h2, i2⟩ h3 h4 h5 ⟨h6, i6⟩ => ⟨Had.dhB h0 h1 h2 h3 h4 h5 h6, dhB h0 h1 h2 h3 h4 h5 h6 i2 i6⟩
    · exact fun {k} h0 h1 ⟨h2, i2⟩ => ⟨Had.pairA h0 h1 h2, pairA h0 h1 h2 i2⟩
    · exact fun {k} h0 h1 ⟨h2, i2⟩ => ⟨Had.pairB h0 h1 h2, pairB h0 h1 h2 i2⟩
    · exact fun {k} h0 h1 ⟨h2, i2⟩ => ⟨Had.sign h0 h1 h2, sign h0 h1 h2 i2⟩
    · exact fun {k} h0 h1 ⟨h2, i2⟩ ⟨h3, i3⟩ => ⟨Had.sealed h0 h1 h2 h3, sealed h0 h1 h2 h3 i2 i3⟩
  obtain ⟨_, h2⟩ := h _ hp
  exact h2
/-- The place of a term's pub: the last one found below m; -1 without one. -/
def pubN (ns : List Nd) (a : Nat) : Nat → Int
  | 0 => -1
  | m + 1 => if (ns.getD m Nd.zero).k = 6 ∧ (ns.getD m Nd.zero).a.toNat = a then (m : Int) else pubN ns a m
theorem pubN_range (ns : List Nd) (a : Nat) : ∀ m, -1 ≤ pubN ns a m ∧ pubN ns a m < (m : Int)
  | 0 => by simp [pubN]
  | m + 1 => by
    have := pubN_range ns a m
    rw [pubN]; split <;> omega
theorem pubN_is {ns : List Nd} {a : Nat} : ∀ {m : Nat}, 0 ≤ pubN ns a m → (ns.getD (pubN ns a m).toNat Nd.zero).k = 6 ∧ (ns.getD (pubN ns a m).toNat Nd.zero).a.toNat = a
  | 0, h => by simp [pubN] at h
  | m + 1, h => by
    rw [pubN] at h ⊢
    split at h
    · rename_i h1
      rw [if_pos h1]
      simpa using h1
    · rename_i h1
      rw [if_neg h1]
      exact pubN_is h
theorem pubN_some {ns : List Nd} {a p : Nat} : ∀ {m : Nat}, p < m → (ns.getD p Nd.zero).k = 6 → (ns.getD p Nd.zero).a.toNat = a → 0 ≤ pubN ns a m
  | 0, h, _, _ => by omega
  | m + 1, h, h6, ha => by
    rw [pubN]
    split
    · omega
    · rename_i h1
      refine pubN_some (p := p) ?_ h6 ha
      rcases Nat.lt_succ_iff_lt_or_eq.1 h with e | e
      · exact e
      · subst e; exact absurd ⟨h6, ha⟩ h1
/-- In a right arena a term has one pub. -/
theorem pub_one {ns : List Nd} (h : allFrom ns ns 0 = true) {p q : Nat} (hp : p < ns.length) (hq : q < ns.length) (p6 : (ns.getD p Nd.zero).k = 6) (q6 : (ns.getD q Nd.zero).k = 6) (e : (ns.getD p Nd.zero).a.toNat = (ns.getD q Nd.zero).a.toNat) : p = q := by
  obtain ⟨n1, f1⟩ := all_at h hp
  obtain ⟨n2, f2⟩ := all_at h hq
  have key : ns.getD p Nd.zero = ns.getD q Nd.zero := by
    generalize ns.getD p Nd.zero = x at *
    generalize ns.getD q Nd.zero = y at *
    obtain ⟨xk, xn, xa, xb⟩ := x
    obtain ⟨yk, yn, ya, yb⟩ := y
    simp only at p6 q6 e
    subst p6 q6
    rcases nodeB_true n1 with h1 | h1 | h1
    · simp at h1
    · rcases nodeB_true n2 with h2 | h2 | h2
      · simp at h2
      · simp only at h1 h2
        have : xa = ya := by omega
        rw [this, h1.2.2.1, h2.2.2.1, h1.2.2.2.2.2.2, h2.2.2.2.2.2.2]
      · have := h2.2.2.2.2.2.1; simp [oneK] at this
    · have := h1.2.2.2.2.2.1; simp [oneK] at this
  rw [key, f2] at f1
  omega
/-- Can a node be made of what is had? -/
def madeB (ns : List Nd) (bs : List Bool) (x : Nd) : Bool :=
  if x.k = 1 then decide (x.n < 1000)
  else if oneK x.k = true then bs.getD x.a.toNat false
  else if x.k = 7 then
    (bs.getD x.a.toNat false && (decide (0 ≤ pubN ns x.b.toNat ns.length) && bs.getD (pubN ns x.b.toNat ns.length).toNat false))
      || (bs.getD x.b.toNat false && (decide (0 ≤ pubN ns x.a.toNat ns.length) && bs.getD (pubN ns x.a.toNat ns.length).toNat false))
  else bs.getD x.a.toNat false && bs.getD x.b.toNat false
def Sound (ns : List Nd) (K : Nat → Prop) (bs : List Bool) : Prop := bs.length = ns.length ∧ ∀ k, bs.getD k false = true → Had ns K k
theorem Sound.set {ns : List Nd} {K : Nat → Prop} {bs : List Bool} (h : Sound ns K bs) {k : Nat} (hk : Had ns K k) : Sound ns K (bs.set k true) := by
  refine ⟨by simp [h.1], fun j hj => ?_⟩
  by_cases e : k = j
  · subst e; exact hk
  · rw [List.getD_eq_getElem?_getD, List.getElem?_set_ne e, ← List.getD_eq_getElem?_getD] at hj
    exact h.2 j hj
theorem Had.lt {ns : List Nd} (ha : allFrom ns ns 0 = true) {K : Nat → Prop} {k : Nat} (h : Had ns K k) : k < ns.length := by
  induction h using Had.ind with
  | known h _ => exact h
  | atom h _ _ => exact h
  | one h _ _ => exact h
  | two h _ _ _ _ _ => exact h
  | dhA h _ _ _ _ _ _ => exact h
  | dhB h _ _ _ _ _ _ => exact h
  | pairA h h2 _ => have := nodeB_true (all_at ha h).1; omega
  | pairB h h2 _ =>
    rcases nodeB_true (all_at ha h).1 with h1 | h1 | h1
    · omega
    · have := h1.2.2.2.2.2.1; rw [h2] at this; simp [oneK] at this
    · omega
  | sign h h2 _ =>
    rcases nodeB_true (all_at ha h).1 with h1 | h1 | h1
    · omega
    · have := h1.2.2.2.2.2.1; rw [h2] at this; simp [oneK] at this
    · omega
  | sealed h h2 _ _ =>
    rcases nodeB_true (all_at ha h).1 with h1 | h1 | h1
    · omega
    · have := h1.2.2.2.2.2.1; rw [h2] at this; simp [oneK] at this
    · omega
/-- What is made of what can be had can be had. -/
theorem made_had {ns : List Nd} (ha : allFrom ns ns 0 = true) {K : Nat → Prop} {bs : List Bool} (h : Sound ns K bs) {k : Nat} (hk : k < ns.length) (hm : madeB ns bs (ns.getD k Nd.zero) = true) : Had ns K k := by
  have hn := (all_at ha hk).1
  unfold madeB at hm
  split at hm
  · rename_i h1
    exact .atom hk h1 (by simpa using hm)
  · rename_i h1
    split at hm
    · rename_i h2
      exact .one hk h2 (h.2 _ hm)
    · rename_i h2
      split at hm
      · rename_i h7
        simp only [Bool.or_eq_true, Bool.and_eq_true, decide_eq_true_eq] at hm
        rcases hm with ⟨q1, q2, q3⟩ | ⟨q1, q2, q3⟩
        · have hp := h.2 _ q3
          obtain ⟨p6, pa⟩ := pubN_is q2
          refine .dhA hk h7 (h.2 _ q1) (hp.lt ha) p6 ?_ hp
          have hnp := nodeB_true (all_at ha (hp.lt ha)).1
          rcases nodeB_true hn with h3 | h3 | h3
          · exact absurd h3.1 h1
          · exact absurd h3.2.2.2.2.2.1 h2
          · omega
        · have hp := h.2 _ q3
          obtain ⟨p6, pa⟩ := pubN_is q2
          refine .dhB hk h7 (h.2 _ q1) (hp.lt ha) p6 ?_ hp
          have hnp := nodeB_true (all_at ha (hp.lt ha)).1
          rcases nodeB_true hn with h3 | h3 | h3
          · exact absurd h3.1 h1
          · exact absurd h3.2.2.2.2.2.1 h2
          · omega
      · rename_i h7
        simp only [Bool.and_eq_true] at hm
        exact .two hk h1 h7 (by simpa using h2) (h.2 _ hm.1) (h.2 _ hm.2)
/-- Nothing more comes: every node that can be made is had, and so are the parts that can be had by one that is. -/
structure Closed (ns : List Nd) (bs : List Bool) : Prop where
  made : ∀ k, k < ns.length → madeB ns bs (ns.getD k Nd.zero) = true → bs.getD k false = true
  pair : ∀ k, k < ns.length → bs.getD k false = true → (ns.getD k Nd.zero).k = 2 → bs.getD (ns.getD k Nd.zero).a.toNat false = true ∧ bs.getD (ns.getD k Nd.zero).b.toNat false = true
  sign : ∀ k, k < ns.length → bs.getD k false = true → (ns.getD k Nd.zero).k = 8 → bs.getD (ns.getD k Nd.zero).b.toNat false = true
  sealed : ∀ k, k < ns.length → bs.getD k false = true → (ns.getD k Nd.zero).k = 5 → bs.getD (ns.getD k Nd.zero).a.toNat false = true → bs.getD (ns.getD k Nd.zero).b.toNat false = true
/-- Then all that can be had is had. -/
theorem closed_all {ns : List Nd} (ha : allFrom ns ns 0 = true) {K : Nat → Prop} {bs : List Bool} (hc : Closed ns bs) (hK : ∀ k, k < ns.length → K k → bs.getD k false = true) {k : Nat} (h : Had ns K k) : bs.getD k false = true := by
  induction h using Had.ind with
  | known h h1 => exact hK _ h h1
  | atom h h1 h2 => refine hc.made _ h ?_; unfold madeB; rw [if_pos h1]; simpa using h2
  | one h h1 _ ih =>
    refine hc.made _ h ?_
    unfold madeB
    rw [if_neg (fun e => by rw [e] at h1; simp [oneK] at h1), if_pos h1]; exact ih
  | two h h1 h7 ho _ _ ia ib =>
    refine hc.made _ h ?_
    unfold madeB
    rw [if_neg h1, if_neg (by rw [ho]; simp), if_neg h7, ia, ib]; rfl
  | @dhA k p h h7 _ hp p6 pa _ ia ip =>
    refine hc.made _ h ?_
    have h0 := pubN_some (ns := ns) (a := (ns.getD k Nd.zero).b.toNat) hp p6 (by rw [pa])
    have hr := pubN_range ns (ns.getD k Nd.zero).b.toNat ns.length
    obtain ⟨q6, qa⟩ := pubN_is h0
    have e := pub_one ha hp (show (pubN ns (ns.getD k Nd.zero).b.toNat ns.length).toNat < ns.length by omega) p6 q6 (by rw [qa, pa])
    unfold madeB
    rw [if_neg (by rw [h7]; decide), if_neg (by rw [h7]; decide), if_pos h7, ia, ← e, ip, decide_eq_true h0]
    rfl
  | @dhB k p h h7 _ hp p6 pa _ ia ip =>
    refine hc.made _ h ?_
    have h0 := pubN_some (ns := ns) (a := (ns.getD k Nd.zero).a.toNat) hp p6 (by rw [pa])
    have hr := pubN_range ns (ns.getD k Nd.zero).a.toNat ns.length
    obtain ⟨q6, qa⟩ := pubN_is h0
    have e := pub_one ha hp (show (pubN ns (ns.getD k Nd.zero).a.toNat ns.length).toNat < ns.length by omega) p6 q6 (by rw [qa, pa])
    unfold madeB
    rw [if_neg (by rw [h7]; decide), if_neg (by rw [h7]; decide), if_pos h7, ia, ← e, ip, decide_eq_true h0, Bool.or_comm]
    rfl
  | pairA h h2 _ ih => exact (hc.pair _ h ih h2).1
  | pairB h h2 _ ih => exact (hc.pair _ h ih h2).2
  | sign h h2 _ ih => exact hc.sign _ h ih h2
  | sealed h h2 _ _ ih ia => exact hc.sealed _ h ih h2 ia
end Go.Proofs.Ytffnadnndmmliaa
