/- Chapter 5 in plain words: what can be had of known terms, as the least that holds them and is closed; the specification's way of finding it, a step at a time. -/
import Derived.Test.YtaanophnnkmkbaaGreatPlainText
namespace Go.Proofs.YtaanophnnkmkbaaGreat
set_option linter.unusedVariables false

/-- What holds of all that is known, and of whatever can be made of what it holds of. -/
structure HadBy (ns : List Nd) (K P : Nat → Prop) : Prop where
  known : ∀ {k : Nat}, k < ns.length → K k → P k
  atom : ∀ {k : Nat}, k < ns.length → (ns.getD k Nd.zero).k = 1 → (ns.getD k Nd.zero).n < 1000 → P k
  one : ∀ {k : Nat}, k < ns.length → oneK (ns.getD k Nd.zero).k = true → P (ns.getD k Nd.zero).a.toNat → P k
  two : ∀ {k : Nat}, k < ns.length → (ns.getD k Nd.zero).k ≠ 1 → (ns.getD k Nd.zero).k ≠ 7 → oneK (ns.getD k Nd.zero).k = false → P (ns.getD k Nd.zero).a.toNat → P (ns.getD k Nd.zero).b.toNat → P k
  dhA : ∀ {k p : Nat}, k < ns.length → (ns.getD k Nd.zero).k = 7 → P (ns.getD k Nd.zero).a.toNat → p < ns.length → (ns.getD p Nd.zero).k = 6 → (ns.getD p Nd.zero).a = (ns.getD k Nd.zero).b → P p → P k
  dhB : ∀ {k p : Nat}, k < ns.length → (ns.getD k Nd.zero).k = 7 → P (ns.getD k Nd.zero).b.toNat → p < ns.length → (ns.getD p Nd.zero).k = 6 → (ns.getD p Nd.zero).a = (ns.getD k Nd.zero).a → P p → P k
  pairA : ∀ {k : Nat}, k < ns.length → (ns.getD k Nd.zero).k = 2 → P k → P (ns.getD k Nd.zero).a.toNat
  pairB : ∀ {k : Nat}, k < ns.length → (ns.getD k Nd.zero).k = 2 → P k → P (ns.getD k Nd.zero).b.toNat
  sign : ∀ {k : Nat}, k < ns.length → (ns.getD k Nd.zero).k = 8 → P k → P (ns.getD k Nd.zero).b.toNat
  sealed : ∀ {k : Nat}, k < ns.length → (ns.getD k Nd.zero).k = 5 → P k → P (ns.getD k Nd.zero).a.toNat → P (ns.getD k Nd.zero).b.toNat
/-- What can be had of the known ones. -/
def Had (ns : List Nd) (K : Nat → Prop) (k : Nat) : Prop := ∀ P : Nat → Prop, HadBy ns K P → P k
theorem Had.known {ns : List Nd} {K : Nat → Prop} {k : Nat} (h0 : k < ns.length) (h1 : K k) : Had ns K k := fun P hp => hp.known h0 h1
theorem Had.atom {ns : List Nd} {K : Nat → Prop} {k : Nat} (h0 : k < ns.length) (h1 : (ns.getD k Nd.zero).k = 1) (h2 : (ns.getD k Nd.zero).n < 1000) : Had ns K k := fun P hp => hp.atom h0 h1 h2
theorem Had.one {ns : List Nd} {K : Nat → Prop} {k : Nat} (h0 : k < ns.length) (h1 : oneK (ns.getD k Nd.zero).k = true) (h2 : Had ns K (ns.getD k Nd.zero).a.toNat) : Had ns K k := fun P hp => hp.one h0 h1 (h2 P hp)
theorem Had.two {ns : List Nd} {K : Nat → Prop} {k : Nat} (h0 : k < ns.length) (h1 : (ns.getD k Nd.zero).k ≠ 1) (h2 : (ns.getD k Nd.zero).k ≠ 7) (h3 : oneK (ns.getD k Nd.zero).k = false) (h4 : Had ns K (ns.getD k Nd.zero).a.toNat) (h5 : Had ns K (ns.getD k Nd.zero).b.toNat) : Had ns K k := fun P hp => hp.two h0 h1 h2 h3 (h4 P hp) (h5 P hp)
theorem Had.dhA {ns : List Nd} {K : Nat → Prop} {k p : Nat} (h0 : k < ns.length) (h1 : (ns.getD k Nd.zero).k = 7) (h2 : Had ns K (ns.getD k Nd.zero).a.toNat) (h3 : p < ns.length) (h4 : (ns.getD p Nd.zero).k = 6) (h5 : (ns.getD p Nd.zero).a = (ns.getD k Nd.zero).b) (h6 : Had ns K p) : Had ns K k := fun P hp => hp.dhA h0 h1 (h2 P hp) h3 h4 h5 (h6 P hp)
theorem Had.dhB {ns : List Nd} {K : Nat → Prop} {k p : Nat} (h0 : k < ns.length) (h1 : (ns.getD k Nd.zero).k = 7) (h2 : Had ns K (ns.getD k Nd.zero).b.toNat) (h3 : p < ns.length) (h4 : (ns.getD p Nd.zero).k = 6) (h5 : (ns.getD p Nd.zero).a = (ns.getD k Nd.zero).a) (h6 : Had ns K p) : Had ns K k := fun P hp => hp.dhB h0 h1 (h2 P hp) h3 h4 h5 (h6 P hp)
theorem Had.pairA {ns : List Nd} {K : Nat → Prop} {k : Nat} (h0 : k < ns.length) (h1 : (ns.getD k Nd.zero).k = 2) (h2 : Had ns K k) : Had ns K (ns.getD k Nd.zero).a.toNat := fun P hp => hp.pairA h0 h1 (h2 P hp)
theorem Had.pairB {ns : List Nd} {K : Nat → Prop} {k : Nat} (h0 : k < ns.length) (h1 : (ns.getD k Nd.zero).k = 2) (h2 : Had ns K k) : Had ns K (ns.getD k Nd.zero).b.toNat := fun P hp => hp.pairB h0 h1 (h2 P hp)
theorem Had.sign {ns : List Nd} {K : Nat → Prop} {k : Nat} (h0 : k < ns.length) (h1 : (ns.getD k Nd.zero).k = 8) (h2 : Had ns K k) : Had ns K (ns.getD k Nd.zero).b.toNat := fun P hp => hp.sign h0 h1 (h2 P hp)
theorem Had.sealed {ns : List Nd} {K : Nat → Prop} {k : Nat} (h0 : k < ns.length) (h1 : (ns.getD k Nd.zero).k = 5) (h2 : Had ns K k) (h3 : Had ns K (ns.getD k Nd.zero).a.toNat) : Had ns K (ns.getD k Nd.zero).b.toNat := fun P hp => hp.sealed h0 h1 (h2 P hp) (h3 P hp)
/-- By what came ahead. -/
theorem Had.ind {ns : List Nd} {K : Nat → Prop} {motive : (k : Nat) → Had ns K k → Prop}
    (known : ∀ {k : Nat} (h0 : k < ns.length) (h1 : K k), motive k (Had.known h0 h1))
    (atom : ∀ {k : Nat} (h0 : k < ns.length) (h1 : (ns.getD k Nd.zero).k = 1) (h2 : (ns.getD k Nd.zero).n < 1000), motive k (Had.atom h0 h1 h2))
    (one : ∀ {k : Nat} (h0 : k < ns.length) (h1 : oneK (ns.getD k Nd.zero).k = true) (h2 : Had ns K (ns.getD k Nd.zero).a.toNat), motive (ns.getD k Nd.zero).a.toNat h2 → motive k (Had.one h0 h1 h2))
    (two : ∀ {k : Nat} (h0 : k < ns.length) (h1 : (ns.getD k Nd.zero).k ≠ 1) (h2 : (ns.getD k Nd.zero).k ≠ 7) (h3 : oneK (ns.getD k Nd.zero).k = false) (h4 : Had ns K (ns.getD k Nd.zero).a.toNat) (h5 : Had ns K (ns.getD k Nd.zero).b.toNat), motive (ns.getD k Nd.zero).a.toNat h4 → motive (ns.getD k Nd.zero).b.toNat h5 → motive k (Had.two h0 h1 h2 h3 h4 h5))
    (dhA : ∀ {k p : Nat} (h0 : k < ns.length) (h1 : (ns.getD k Nd.zero).k = 7) (h2 : Had ns K (ns.getD k Nd.zero).a.toNat) (h3 : p < ns.length) (h4 : (ns.getD p Nd.zero).k = 6) (h5 : (ns.getD p Nd.zero).a = (ns.getD k Nd.zero).b) (h6 : Had ns K p), motive (ns.getD k Nd.zero).a.toNat h2 → motive p h6 → motive k (Had.dhA h0 h1 h2 h3 h4 h5 h6))
    (dhB : ∀ {k p : Nat} (h0 : k < ns.length) (h1 : (ns.getD k Nd.zero).k = 7) (h2 : Had ns K (ns.getD k Nd.zero).b.toNat) (h3 : p < ns.length) (h4 : (ns.getD p Nd.zero).k = 6) (h5 : (ns.getD p Nd.zero).a = (ns.getD k Nd.zero).a) (h6 : Had ns K p), motive (ns.getD k Nd.zero).b.toNat h2 → motive p h6 → motive k (Had.dhB h0 h1 h2 h3 h4 h5 h6))
    (pairA : ∀ {k : Nat} (h0 : k < ns.length) (h1 : (ns.getD k Nd.zero).k = 2) (h2 : Had ns K k), motive k h2 → motive (ns.getD k Nd.zero).a.toNat (Had.pairA h0 h1 h2))
    (pairB : ∀ {k : Nat} (h0 : k < ns.length) (h1 : (ns.getD k Nd.zero).k = 2) (h2 : Had ns K k), motive k h2 → motive (ns.getD k Nd.zero).b.toNat (Had.pairB h0 h1 h2))
    (sign : ∀ {k : Nat} (h0 : k < ns.length) (h1 : (ns.getD k Nd.zero).k = 8) (h2 : Had ns K k), motive k h2 → motive (ns.getD k Nd.zero).b.toNat (Had.sign h0 h1 h2))
    (sealed : ∀ {k : Nat} (h0 : k < ns.length) (h1 : (ns.getD k Nd.zero).k = 5) (h2 : Had ns K k) (h3 : Had ns K (ns.getD k Nd.zero).a.toNat), motive k h2 → motive (ns.getD k Nd.zero).a.toNat h3 → motive (ns.getD k Nd.zero).b.toNat (Had.sealed h0 h1 h2 h3))
    {k : Nat} (h : Had ns K k) : motive k h := by
  have hp : HadBy ns K (fun k => ∃ h : Had ns K k, motive k h) := by
    constructor
    · exact fun {k} h0 h1 => ⟨Had.known h0 h1, known h0 h1⟩
    · exact fun {k} h0 h1 h2 => ⟨Had.atom h0 h1 h2, atom h0 h1 h2⟩
    · exact fun {k} h0 h1 ⟨h2, i2⟩ => ⟨Had.one h0 h1 h2, one h0 h1 h2 i2⟩
    · exact fun {k} h0 h1 h2 h3 ⟨h4, i4⟩ ⟨h5, i5⟩ => ⟨Had.two h0 h1 h2 h3 h4 h5, two h0 h1 h2 h3 h4 h5 i4 i5⟩
    · exact fun {k} {p} h0 h1 ⟨h2, i2⟩ h3 h4 h5 ⟨h6, i6⟩ => ⟨Had.dhA h0 h1 h2 h3 h4 h5 h6, dhA h0 h1 h2 h3 h4 h5 h6 i2 i6⟩
    · exact fun {k} {p} h0 h1 ⟨h2, i2⟩ h3 h4 h5 ⟨h6, i6⟩ => ⟨Had.dhB h0 h1 h2 h3 h4 h5 h6, dhB h0 h1 h2 h3 h4 h5 h6 i2 i6⟩
    · exact fun {k} h0 h1 ⟨h2, i2⟩ => ⟨Had.pairA h0 h1 h2, pairA h0 h1 h2 i2⟩
    · exact fun {k} h0 h1 ⟨h2, i2⟩ => ⟨Had.pairB h0 h1 h2, pairB h0 h1 h2 i2⟩
    · exact fun {k} h0 h1 ⟨h2, i2⟩ => ⟨Had.sign h0 h1 h2, sign h0 h1 h2 i2⟩
    · exact fun {k} h0 h1 ⟨h2, i2⟩ ⟨h3, i3⟩ => ⟨Had.sealed h0 h1 h2 h3, sealed h0 h1 h2 h3 i2 i3⟩
  obtain ⟨_, h2⟩ := h _ hp
  exact h2
/-- The place of a term's pub: the last one found below m; -1 without one. -/
def pubN (ns : List Nd) (a : Nat) : Nat → Int
  | 0 => -1
  | m + 1 => if (ns.getD m Nd.zero).k = 6 ∧ (ns.getD m Nd.zero).a.toNat = a then (m : Int) else pubN ns a m
theorem pubN_range (ns : List Nd) (a : Nat) : ∀ m, -1 ≤ pubN ns a m ∧ pubN ns a m < (m : Int)
  | 0 => by simp [pubN]
  | m + 1 => by
    have := pubN_range ns a m
    rw [pubN]; split <;> omega
theorem pubN_is {ns : List Nd} {a : Nat} : ∀ {m : Nat}, 0 ≤ pubN ns a m → (ns.getD (pubN ns a m).toNat Nd.zero).k = 6 ∧ (ns.getD (pubN ns a m).toNat Nd.zero).a.toNat = a
  | 0, h => by simp [pubN] at h
  | m + 1, h => by
    rw [pubN] at h ⊢
    split at h
    · rename_i h1
      rw [if_pos h1]
      simpa using h1
    · rename_i h1
      rw [if_neg h1]
      exact pubN_is h
theorem pubN_some {ns : List Nd} {a p : Nat} : ∀ {m : Nat}, p < m → (ns.getD p Nd.zero).k = 6 → (ns.getD p Nd.zero).a.toNat = a → 0 ≤ pubN ns a m
  | 0, h, _, _ => by omega
  | m + 1, h, h6, ha => by
    rw [pubN]
    split
    · omega
    · rename_i h1
      refine pubN_some (p := p) ?_ h6 ha
      rcases Nat.lt_succ_iff_lt_or_eq.1 h with e | e
      · exact e
      · subst e; exact absurd ⟨h6, ha⟩ h1
/-- In a right arena a term has one pub. -/
theorem pub_one {ns : List Nd} (h : allFrom ns ns 0 = true) {p q : Nat} (hp : p < ns.length) (hq : q < ns.length) (p6 : (ns.getD p Nd.zero).k = 6) (q6 : (ns.getD q Nd.zero).k = 6) (e : (ns.getD p Nd.zero).a.toNat = (ns.getD q Nd.zero).a.toNat) : p = q := by
  obtain ⟨n1, f1⟩ := all_at h hp
  obtain ⟨n2, f2⟩ := all_at h hq
  have key : ns.getD p Nd.zero = ns.getD q Nd.zero := by
    generalize ns.getD p Nd.zero = x at *
    generalize ns.getD q Nd.zero = y at *
    obtain ⟨xk, xn, xa, xb⟩ := x
    obtain ⟨yk, yn, ya, yb⟩ := y
    simp only at p6 q6 e
    subst p6 q6
    rcases nodeB_true n1 with h1 | h1 | h1
    · simp at h1
    · rcases nodeB_true n2 with h2 | h2 | h2
      · simp at h2
      · simp only at h1 h2
        have : xa = ya := by omega
        rw [this, h1.2.2.1, h2.2.2.1, h1.2.2.2.2.2.2, h2.2.2.2.2.2.2]
      · have := h2.2.2.2.2.2.1; simp [oneK] at this
    · have := h1.2.2.2.2.2.1; simp [oneK] at this
  rw [key, f2] at f1
  omega
/-- Can a node be made of what is had? -/
def madeB (ns : List Nd) (bs : List Bool) (x : Nd) : Bool :=
  if x.k = 1 then decide (x.n < 1000)
  else if oneK x.k = true then bs.getD x.a.toNat false
  else if x.k = 7 then
    (bs.getD x.a.toNat false && (decide (0 ≤ pubN ns x.b.toNat ns.length) && bs.getD (pubN ns x.b.toNat ns.length).toNat false))
      || (bs.getD x.b.toNat false && (decide (0 ≤ pubN ns x.a.toNat ns.length) && bs.getD (pubN ns x.a.toNat ns.length).toNat false))
  else bs.getD x.a.toNat false && bs.getD x.b.toNat false
def Sound (ns : List Nd) (K : Nat → Prop) (bs : List Bool) : Prop := bs.length = ns.length ∧ ∀ k, bs.getD k false = true → Had ns K k
theorem Sound.set {ns : List Nd} {K : Nat → Prop} {bs : List Bool} (h : Sound ns K bs) {k : Nat} (hk : Had ns K k) : Sound ns K (bs.set k true) := by
  refine ⟨by simp [h.1], fun j hj => ?_⟩
  by_cases e : k = j
  · subst e; exact hk
  · rw [List.getD_eq_getElem?_getD, List.getElem?_set_ne e, ← List.getD_eq_getElem?_getD] at hj
    exact h.2 j hj
theorem Had.lt {ns : List Nd} (ha : allFrom ns ns 0 = true) {K : Nat → Prop} {k : Nat} (h : Had ns K k) : k < ns.length := by
  induction h using Had.ind with
  | known h _ => exact h
  | atom h _ _ => exact h
  | one h _ _ => exact h
  | two h _ _ _ _ _ => exact h
  | dhA h _ _ _ _ _ _ => exact h
  | dhB h _ _ _ _ _ _ => exact h
  | pairA h h2 _ => have := nodeB_true (all_at ha h).1; omega
  | pairB h h2 _ =>
    rcases nodeB_true (all_at ha h).1 with h1 | h1 | h1
    · omega
    · have := h1.2.2.2.2.2.1; rw [h2] at this; simp [oneK] at this
    · omega
  | sign h h2 _ =>
    rcases nodeB_true (all_at ha h).1 with h1 | h1 | h1
    · omega
    · have := h1.2.2.2.2.2.1; rw [h2] at this; simp [oneK] at this
    · omega
  | sealed h h2 _ _ =>
    rcases nodeB_true (all_at ha h).1 with h1 | h1 | h1
    · omega
    · have := h1.2.2.2.2.2.1; rw [h2] at this; simp [oneK] at this
    · omega
/-- What is made of what can be had can be had. -/
theorem made_had {ns : List Nd} (ha : allFrom ns ns 0 = true) {K : Nat → Prop} {bs : List Bool} (h : Sound ns K bs) {k : Nat} (hk : k < ns.length) (hm : madeB ns bs (ns.getD k Nd.zero) = true) : Had ns K k := by
  have hn := (all_at ha hk).1
  unfold madeB at hm
  split at hm
  · rename_i h1
    exact .atom hk h1 (by simpa using hm)
  · rename_i h1
    split at hm
    · rename_i h2
      exact .one hk h2 (h.2 _ hm)
    · rename_i h2
      split at hm
      · rename_i h7
        simp only [Bool.or_eq_true, Bool.and_eq_true, decide_eq_true_eq] at hm
        rcases hm with ⟨q1, q2, q3⟩ | ⟨q1, q2, q3⟩
        · have hp := h.2 _ q3
          obtain ⟨p6, pa⟩ := pubN_is q2
          refine .dhA hk h7 (h.2 _ q1) (hp.lt ha) p6 ?_ hp
          have hnp := nodeB_true (all_at ha (hp.lt ha)).1
          rcases nodeB_true hn with h3 | h3 | h3
          · exact absurd h3.1 h1
          · exact absurd h3.2.2.2.2.2.1 h2
          · omega
        · have hp := h.2 _ q3
          obtain ⟨p6, pa⟩ := pubN_is q2
          refine .dhB hk h7 (h.2 _ q1) (hp.lt ha) p6 ?_ hp
          have hnp := nodeB_true (all_at ha (hp.lt ha)).1
          rcases nodeB_true hn with h3 | h3 | h3
          · exact absurd h3.1 h1
          · exact absurd h3.2.2.2.2.2.1 h2
          · omega
      · rename_i h7
        simp only [Bool.and_eq_true] at hm
        exact .two hk h1 h7 (by simpa using h2) (h.2 _ hm.1) (h.2 _ hm.2)
/-- Nothing more comes: every node that can be made is had, and so are the parts that can be had by one that is. -/
structure Closed (ns : List Nd) (bs : List Bool) : Prop where
  made : ∀ k, k < ns.length → madeB ns bs (ns.getD k Nd.zero) = true → bs.getD k false = true
  pair : ∀ k, k < ns.length → bs.getD k false = true → (ns.getD k Nd.zero).k = 2 → bs.getD (ns.getD k Nd.zero).a.toNat false = true ∧ bs.getD (ns.getD k Nd.zero).b.toNat false = true
  sign : ∀ k, k < ns.length → bs.getD k false = true → (ns.getD k Nd.zero).k = 8 → bs.getD (ns.getD k Nd.zero).b.toNat false = true
  sealed : ∀ k, k < ns.length → bs.getD k false = true → (ns.getD k Nd.zero).k = 5 → bs.getD (ns.getD k Nd.zero).a.toNat false = true → bs.getD (ns.getD k Nd.zero).b.toNat false = true
/-- Then all that can be had is had. -/
theorem closed_all {ns : List Nd} (ha : allFrom ns ns 0 = true) {K : Nat → Prop} {bs : List Bool} (hc : Closed ns bs) (hK : ∀ k, k < ns.length → K k → bs.getD k false = true) {k : Nat} (h : Had ns K k) : bs.getD k false = true := by
  induction h using Had.ind with
  | known h h1 => exact hK _ h h1
  | atom h h1 h2 => refine hc.made _ h ?_; unfold madeB; rw [if_pos h1]; simpa using h2
  | one h h1 _ ih =>
    refine hc.made _ h ?_
    unfold madeB
    rw [if_neg (fun e => by rw [e] at h1; simp [oneK] at h1), if_pos h1]; exact ih
  | two h h1 h7 ho _ _ ia ib =>
    refine hc.made _ h ?_
    unfold madeB
    rw [if_neg h1, if_neg (by rw [ho]; simp), if_neg h7, ia, ib]; rfl
  | @dhA k p h h7 _ hp p6 pa _ ia ip =>
    refine hc.made _ h ?_
    have h0 := pubN_some (ns := ns) (a := (ns.getD k Nd.zero).b.toNat) hp p6 (by rw [pa])
    have hr := pubN_range ns (ns.getD k Nd.zero).b.toNat ns.length
    obtain ⟨q6, qa⟩ := pubN_is h0
    have e := pub_one ha hp (show (pubN ns (ns.getD k Nd.zero).b.toNat ns.length).toNat < ns.length by omega) p6 q6 (by rw [qa, pa])
    unfold madeB
    rw [if_neg (by rw [h7]; decide), if_neg (by rw [h7]; decide), if_pos h7, ia, ← e, ip, decide_eq_true h0]
    rfl
  | @dhB k p h h7 _ hp p6 pa _ ia ip =>
    refine hc.made _ h ?_
    have h0 := pubN_some (ns := ns) (a := (ns.getD k Nd.zero).a.toNat) hp p6 (by rw [pa])
    have hr := pubN_range ns (ns.getD k Nd.zero).a.toNat ns.length
    obtain ⟨q6, qa⟩ := pubN_is h0
    have e := pub_one ha hp (show (pubN ns (ns.getD k Nd.zero).a.toNat ns.length).toNat < ns.length by omega) p6 q6 (by rw [qa, pa])
    unfold madeB
    rw [if_neg (by rw [h7]; decide), if_neg (by rw [h7]; decide), if_pos h7, ia, ← e, ip, decide_eq_true h0, Bool.or_comm]
    rfl
  | pairA h h2 _ ih => exact (hc.pair _ h ih h2).1
  | pairB h h2 _ ih => exact (hc.pair _ h ih h2).2
  | sign h h2 _ ih => exact hc.sign _ h ih h2
  | sealed h h2 _ _ ih ia => exact hc.sealed _ h ih h2 ia
end Go.Proofs.YtaanophnnkmkbaaGreat

namespace Go.Proofs.YtaanophnnkmkbaaGreat
set_option linter.unusedVariables false

/-- What is had behind the parts of a node that is had. -/
def givesB (bs : List Bool) (x : Nd) : List Bool :=
  if x.k = 2 then (bs.set x.a.toNat true).set x.b.toNat true
  else if x.k = 8 then bs.set x.b.toNat true
  else if x.k = 5 then (if bs.getD x.a.toNat false = true then bs.set x.b.toNat true else bs)
  else bs
/-- Did one come? -/
def givesT (bs : List Bool) (x : Nd) : Bool :=
  if x.k = 2 then !bs.getD x.a.toNat false || !bs.getD x.b.toNat false
  else if x.k = 8 then !bs.getD x.b.toNat false
  else if x.k = 5 then bs.getD x.a.toNat false && !bs.getD x.b.toNat false
  else false
theorem givesB_len (bs : List Bool) (x : Nd) : (givesB bs x).length = bs.length := by
  unfold givesB
  repeat' split
  all_goals simp
theorem getD_setT (bs : List Bool) (k j : Nat) : (bs.set k true).getD j false = if k = j ∧ k < bs.length then true else bs.getD j false := by
  rw [List.getD_eq_getElem?_getD, List.getElem?_set, List.getD_eq_getElem?_getD]
  by_cases e : k = j
  · subst e
    by_cases h : k < bs.length
    · simp [h]
    · simp [h]
  · simp [e]
theorem set_same {bs : List Bool} {k : Nat} (h : bs.getD k false = true) : bs.set k true = bs := by
  apply List.ext_getElem?
  intro j
  rw [List.getElem?_set]
  by_cases e : k = j
  · subst e
    by_cases hk : k < bs.length
    · rw [List.getD_eq_getElem?_getD, List.getElem?_eq_getElem hk] at h
      simp only [Option.getD_some] at h
      simp [hk, h]
    · rw [List.getD_eq_getElem?_getD, List.getElem?_eq_none (by omega)] at h
      simp at h
  · simp [e]
theorem set_mono {bs : List Bool} {k j : Nat} (h : bs.getD j false = true) : (bs.set k true).getD j false = true := by
  rw [getD_setT]
  split
  · rfl
  · exact h
/-- How many are still wanted. -/
def cnt : List Bool → Nat
  | [] => 0
  | b :: bs => (if b = true then 0 else 1) + cnt bs
theorem cnt_set : ∀ {bs : List Bool} {k : Nat}, k < bs.length → bs.getD k false = false → cnt (bs.set k true) < cnt bs
  | [], _, h, _ => by simp at h
  | b :: bs, 0, _, h => by simp at h; subst h; simp [cnt]
  | b :: bs, k + 1, h, hb => by
    have := cnt_set (bs := bs) (k := k) (by simpa using h) (by simpa using hb)
    simp only [List.set_cons_succ, cnt]; omega
theorem cnt_set_le : ∀ (bs : List Bool) (k : Nat), cnt (bs.set k true) ≤ cnt bs
  | [], _ => by simp [cnt]
  | b :: bs, 0 => by simp only [List.set_cons_zero, cnt]; cases b <;> simp
  | b :: bs, k + 1 => by
    have := cnt_set_le bs k
    simp only [List.set_cons_succ, cnt]; omega
theorem givesB_same {bs : List Bool} {x : Nd} (h : givesT bs x = false) : givesB bs x = bs := by
  unfold givesT at h
  unfold givesB
  by_cases h2 : x.k = 2
  · rw [if_pos h2] at h ⊢
    simp only [Bool.or_eq_false_iff, Bool.not_eq_false'] at h
    rw [set_same h.1, set_same h.2]
  · rw [if_neg h2] at h ⊢
    by_cases h8 : x.k = 8
    · rw [if_pos h8] at h ⊢
      exact set_same (by simpa using h)
    · rw [if_neg h8] at h ⊢
      by_cases h5 : x.k = 5
      · rw [if_pos h5] at h ⊢
        by_cases hA : bs.getD x.a.toNat false = true
        · rw [if_pos hA]
          rw [hA] at h
          exact set_same (by simpa using h)
        · rw [if_neg hA]
      · rw [if_neg h5]
theorem gives_cnt {bs : List Bool} {x : Nd} (h : givesT bs x = true) (ha : x.a.toNat < bs.length) (hb : x.b.toNat < bs.length) : cnt (givesB bs x) < cnt bs := by
  unfold givesT at h
  unfold givesB
  by_cases h2 : x.k = 2
  · rw [if_pos h2] at h ⊢
    by_cases hA : bs.getD x.a.toNat false = true
    · rw [set_same hA]
      rw [hA] at h
      exact cnt_set hb (by simpa using h)
    · exact Nat.lt_of_le_of_lt (cnt_set_le _ _) (cnt_set ha (by simpa using hA))
  · rw [if_neg h2] at h ⊢
    by_cases h8 : x.k = 8
    · rw [if_pos h8] at h ⊢
      exact cnt_set hb (by simpa using h)
    · rw [if_neg h8] at h ⊢
      by_cases h5 : x.k = 5
      · rw [if_pos h5] at h ⊢
        simp only [Bool.and_eq_true, Bool.not_eq_true'] at h
        rw [if_pos h.1]
        exact cnt_set hb h.2
      · rw [if_neg h5] at h; simp at h
theorem gives_mono {bs : List Bool} (x : Nd) {j : Nat} (h : bs.getD j false = true) : (givesB bs x).getD j false = true := by
  unfold givesB
  repeat' split
  · exact set_mono (set_mono h)
  · exact set_mono h
  · exact set_mono h
  · exact h
  · exact h
theorem gives_sound {ns : List Nd} {K : Nat → Prop} {bs : List Bool} {k : Nat} (h : Sound ns K bs) (hk : k < ns.length) (hb : bs.getD k false = true) : Sound ns K (givesB bs (ns.getD k Nd.zero)) := by
  have hh := h.2 k hb
  unfold givesB
  split
  · rename_i h2
    exact (h.set (.pairA hk h2 hh)).set (.pairB hk h2 hh)
  · split
    · rename_i h8
      exact h.set (.sign hk h8 hh)
    · split
      · rename_i h5
        split
        · rename_i hA
          exact h.set (.sealed hk h5 hh (h.2 _ hA))
        · exact h
      · exact h
theorem closed_of {ns : List Nd} {bs : List Bool} (hm : ∀ k, k < ns.length → madeB ns bs (ns.getD k Nd.zero) = true → bs.getD k false = true) (hp : ∀ k, k < ns.length → bs.getD k false = true → givesT bs (ns.getD k Nd.zero) = false) : Closed ns bs where
  made := hm
  pair := fun k hk hb h2 => by
    have := hp k hk hb
    unfold givesT at this
    rw [if_pos h2] at this
    simpa using this
  sign := fun k hk hb h8 => by
    have := hp k hk hb
    unfold givesT at this
    rw [if_neg (by omega), if_pos h8] at this
    simpa using this
  sealed := fun k hk hb h5 hA => by
    have := hp k hk hb
    unfold givesT at this
    rw [if_neg (by omega), if_neg (by omega), if_pos h5, hA] at this
    simpa using this
/-- The answer: of each node whether it can be had. -/
structure IsReach (ns : List Nd) (xs : List Int) (bs : List Bool) : Prop where
  len : bs.length = ns.length
  iff : ∀ k, k < ns.length → (bs.getD k false = true ↔ Had ns (fun j => (j : Int) ∈ xs) k)
theorem IsReach.one {ns : List Nd} {xs : List Int} {bs cs : List Bool} (h : IsReach ns xs bs) (h' : IsReach ns xs cs) : bs = cs := by
  apply List.ext_getElem (by rw [h.len, h'.len])
  intro k h1 h2
  have hk : k < ns.length := by rw [← h.len]; exact h1
  have e := (h.iff k hk).trans (h'.iff k hk).symm
  rw [List.getD_eq_getElem?_getD, List.getElem?_eq_getElem h1, List.getD_eq_getElem?_getD, List.getElem?_eq_getElem h2] at e
  simp only [Option.getD_some] at e
  exact Bool.eq_iff_iff.2 e
theorem IsReach.of {ns : List Nd} (ha : allFrom ns ns 0 = true) {xs : List Int} {bs : List Bool} (hs : Sound ns (fun j => (j : Int) ∈ xs) bs) (hc : Closed ns bs) (hK : ∀ k, k < ns.length → (k : Int) ∈ xs → bs.getD k false = true) : IsReach ns xs bs :=
  ⟨hs.1, fun k hk => ⟨fun h => hs.2 k h, fun h => closed_all ha hc hK h⟩⟩
/-- Who knows more has no less. -/
theorem Had.more {ns : List Nd} {K L : Nat → Prop} (hKL : ∀ k, K k → L k) {k : Nat} (h : Had ns K k) : Had ns L k := by
  induction h using Had.ind with
  | known h h1 => exact .known h (hKL _ h1)
  | atom h h1 h2 => exact .atom h h1 h2
  | one h h1 _ ih => exact .one h h1 ih
  | two h h1 h7 ho _ _ ia ib => exact .two h h1 h7 ho ia ib
  | dhA h h7 _ hp p6 pa _ ia ip => exact .dhA h h7 ia hp p6 pa ip
  | dhB h h7 _ hp p6 pa _ ia ip => exact .dhB h h7 ia hp p6 pa ip
  | pairA h h2 _ ih => exact .pairA h h2 ih
  | pairB h h2 _ ih => exact .pairB h h2 ih
  | sign h h2 _ ih => exact .sign h h2 ih
  | sealed h h2 _ _ ih ia => exact .sealed h h2 ih ia
/-- Who knows what can be had can have no more. -/
theorem Had.again {ns : List Nd} {K L : Nat → Prop} (hKL : ∀ k, L k → Had ns K k) {k : Nat} (h : Had ns L k) : Had ns K k := by
  induction h using Had.ind with
  | known h h1 => exact hKL _ h1
  | atom h h1 h2 => exact .atom h h1 h2
  | one h h1 _ ih => exact .one h h1 ih
  | two h h1 h7 ho _ _ ia ib => exact .two h h1 h7 ho ia ib
  | dhA h h7 _ hp p6 pa _ ia ip => exact .dhA h h7 ia hp p6 pa ip
  | dhB h h7 _ hp p6 pa _ ia ip => exact .dhB h h7 ia hp p6 pa ip
  | pairA h h2 _ ih => exact .pairA h h2 ih
  | pairB h h2 _ ih => exact .pairB h h2 ih
  | sign h h2 _ ih => exact .sign h h2 ih
  | sealed h h2 _ _ ih ia => exact .sealed h h2 ih ia
end Go.Proofs.YtaanophnnkmkbaaGreat

namespace Go.Proofs.YtaanophnnkmkbaaGreat
set_option linter.unusedVariables false
/-- Is a node put together of what is marked? -/
def goodF (xs : List Int) (bs : List Bool) (j : Nat) (x : Nd) : Bool :=
  if x.k = 1 then decide (x.n < 1000) || decide ((j : Int) ∈ xs)
  else if oneK x.k = true then bs.getD x.a.toNat false
  else bs.getD x.a.toNat false && bs.getD x.b.toNat false
/-- The marks of the first m nodes. -/
def goodL (ns : List Nd) (xs : List Int) : Nat → List Bool
  | 0 => []
  | m + 1 => goodL ns xs m ++ [goodF xs (goodL ns xs m) m (ns.getD m Nd.zero)]
theorem goodL_len (ns : List Nd) (xs : List Int) : ∀ m, (goodL ns xs m).length = m
  | 0 => rfl
  | m + 1 => by rw [goodL, List.length_append, goodL_len ns xs m]; rfl
theorem goodL_get (ns : List Nd) (xs : List Int) {j : Nat} : ∀ {m : Nat}, j < m → (goodL ns xs m).getD j false = goodF xs (goodL ns xs j) j (ns.getD j Nd.zero)
  | 0, h => by omega
  | m + 1, h => by
    rw [goodL, List.getD_eq_getElem?_getD]
    by_cases e : j = m
    · subst e
      rw [List.getElem?_append_right (by rw [goodL_len]; omega), goodL_len]
      simp
    · rw [List.getElem?_append_left (by rw [goodL_len]; omega), ← List.getD_eq_getElem?_getD]
      exact goodL_get ns xs (by omega)
theorem goodL_same (ns : List Nd) (xs : List Int) {j m : Nat} (h : j < m) {n : Nat} (hn : j < n) : (goodL ns xs m).getD j false = (goodL ns xs n).getD j false := by rw [goodL_get ns xs h, goodL_get ns xs hn]
/-- Where only Atoms are known, what can be had is marked. -/
theorem had_good {ns : List Nd} {xs : List Int} (ha : allFrom ns ns 0 = true) (hx : ∀ j : Nat, j < ns.length → (j : Int) ∈ xs → (ns.getD j Nd.zero).k = 1) {k : Nat} (h : Had ns (fun j => (j : Int) ∈ xs) k) : (goodL ns xs ns.length).getD k false = true := by
  have one : ∀ {k : Nat}, k < ns.length → oneK (ns.getD k Nd.zero).k = true → (goodL ns xs ns.length).getD k false = (goodL ns xs ns.length).getD (ns.getD k Nd.zero).a.toNat false := fun {k} hk h1 => by
    have hn1 : (ns.getD k Nd.zero).k ≠ 1 := fun e => by rw [e] at h1; simp [oneK] at h1
    have hb := nodeB_true (all_at ha hk).1
    rw [goodL_get ns xs hk]
    unfold goodF
    rw [if_neg hn1, if_pos h1]
    exact goodL_same ns xs (by omega) (by omega)
  have two : ∀ {k : Nat}, k < ns.length → (ns.getD k Nd.zero).k ≠ 1 → oneK (ns.getD k Nd.zero).k = false → (goodL ns xs ns.length).getD k false = ((goodL ns xs ns.length).getD (ns.getD k Nd.zero).a.toNat false && (goodL ns xs ns.length).getD (ns.getD k Nd.zero).b.toNat false) := fun {k} hk hn1 h1 => by
    have hb := nodeB_true (all_at ha hk).1
    rw [h1] at hb
    rw [goodL_get ns xs hk]
    unfold goodF
    rw [if_neg hn1, if_neg (by rw [h1]; simp)]
    rw [goodL_same ns xs (j := (ns.getD k Nd.zero).a.toNat) (m := k) (n := ns.length) (by omega) (by omega), goodL_same ns xs (j := (ns.getD k Nd.zero).b.toNat) (m := k) (n := ns.length) (by omega) (by omega)]
  refine h (fun k => (goodL ns xs ns.length).getD k false = true) ⟨?_, ?_, ?_, ?_, ?_, ?_, ?_, ?_, ?_, ?_⟩
  · intro k hk hm
    rw [goodL_get ns xs hk]
    unfold goodF
    rw [if_pos (hx k hk hm), decide_eq_true hm, Bool.or_true]
  · intro k hk h1 h2
    rw [goodL_get ns xs hk]
    unfold goodF
    rw [if_pos h1, decide_eq_true h2, Bool.true_or]
  · intro k hk h1 h2
    rw [one hk h1]; exact h2
  · intro k hk h1 h2 h3 h4 h5
    rw [two hk h1 h3, h4, h5]; rfl
  · intro k p hk h1 h2 hp h3 h4 h5
    rw [one hp (by rw [h3]; rfl), h4] at h5
    rw [two hk (by omega) (by rw [h1]; rfl), h2, h5]; rfl
  · intro k p hk h1 h2 hp h3 h4 h5
    rw [one hp (by rw [h3]; rfl), h4] at h5
    rw [two hk (by omega) (by rw [h1]; rfl), h2, h5]; rfl
  · intro k hk h1 h2
    rw [two hk (by omega) (by rw [h1]; rfl), Bool.and_eq_true] at h2
    exact h2.1
  · intro k hk h1 h2
    rw [two hk (by omega) (by rw [h1]; rfl), Bool.and_eq_true] at h2
    exact h2.2
  · intro k hk h1 h2
    rw [two hk (by omega) (by rw [h1]; rfl), Bool.and_eq_true] at h2
    exact h2.2
  · intro k hk h1 h2 _
    rw [two hk (by omega) (by rw [h1]; rfl), Bool.and_eq_true] at h2
    exact h2.2
/-- An Atom that is not open and not known can't be had, nor what is made of it by two. -/
theorem atom_not {ns : List Nd} {xs : List Int} (ha : allFrom ns ns 0 = true) (hx : ∀ j : Nat, j < ns.length → (j : Int) ∈ xs → (ns.getD j Nd.zero).k = 1) {c : Nat} (hc : c < ns.length) (h1 : (ns.getD c Nd.zero).k = 1) (h2 : 1000 ≤ (ns.getD c Nd.zero).n) (h3 : ¬ (c : Int) ∈ xs) : (goodL ns xs ns.length).getD c false = false := by
  rw [goodL_get ns xs hc]
  unfold goodF
  rw [if_pos h1, decide_eq_false h3, decide_eq_false (by omega), Bool.or_false]
theorem two_not {ns : List Nd} {xs : List Int} (ha : allFrom ns ns 0 = true) (hx : ∀ j : Nat, j < ns.length → (j : Int) ∈ xs → (ns.getD j Nd.zero).k = 1) {k : Nat} (hk : k < ns.length) (h1 : (ns.getD k Nd.zero).k ≠ 1) (h4 : oneK (ns.getD k Nd.zero).k = false) (h5 : (goodL ns xs ns.length).getD (ns.getD k Nd.zero).a.toNat false = false) : ¬ Had ns (fun j => (j : Int) ∈ xs) k := fun h => by
  have hg := had_good ha hx h
  have hb := nodeB_true (all_at ha hk).1
  rw [h4] at hb
  rw [goodL_get ns xs hk] at hg
  unfold goodF at hg
  rw [if_neg h1, if_neg (by rw [h4]; simp), goodL_same ns xs (j := (ns.getD k Nd.zero).a.toNat) (m := k) (n := ns.length) (by omega) (by omega), h5] at hg
  simp at hg
end Go.Proofs.YtaanophnnkmkbaaGreat
