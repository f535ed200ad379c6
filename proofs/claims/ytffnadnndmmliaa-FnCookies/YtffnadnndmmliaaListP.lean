/- Lists in plain words: what a List has, also in an arena that goes on. -/
import Derived.Test.YtffnadnndmmliaaPlainFM
import Derived.Test.YtffnadnndmmliaaPlainPlaces
import Derived.Test.YtffnadnndmmliaaListLit
namespace Go.Proofs.Ytffnadnndmmliaa
open Go.RowKit
set_option linter.unusedVariables false
theorem isK_pre {ns ms : List Nd} (h : ns <+: ms) {k j : Int} (hk : isK ns k j = true) : isK ms k j = true ∧ ndAt ms k = ndAt ns k ∧ 0 ≤ k ∧ k < (ns.length : Int) := by
  unfold isK okAt at hk
  simp only [Bool.and_eq_true, decide_eq_true_eq] at hk
  obtain ⟨⟨h1, h2⟩, h3⟩ := hk
  have h4 := inB_true h1
  have e := ndAt_pre h h4.1 (show k < (ns.length : Int) by omega)
  have hl := h.length_le
  refine ⟨?_, e, h4.1, by omega⟩
  unfold isK okAt
  rw [e, inB_mk ⟨h4.1, by omega⟩, show ms.getD k.toNat Nd.zero = ns.getD k.toNat Nd.zero from e, h2, decide_eq_true h3]; rfl
theorem partsN_pre {ns ms : List Nd} (h : ns <+: ms) : ∀ (m : Nat) (k : Int) (xs : List Int), partsN ns m k = some xs → partsN ms m k = some xs
  | 0, k, xs, hp => by
    rw [partsN] at hp ⊢
    split at hp
    · rename_i hk
      obtain ⟨h1, h2, -, -⟩ := isK_pre h hk.1
      rw [if_pos ⟨h1, by rw [h2]; exact hk.2⟩]; exact hp
    · cases hp
  | m + 1, k, xs, hp => by
    rw [partsN] at hp ⊢
    split at hp
    · rename_i hk
      obtain ⟨h1, h2, -, -⟩ := isK_pre h hk
      rw [if_pos h1, h2]
      cases hq : partsN ns m (ndAt ns k).b with
      | none => rw [hq] at hp; cases hp
      | some ys => rw [partsN_pre h m _ ys hq]; rw [hq] at hp; exact hp
    · cases hp
/-- What a List gives. -/
structure Lst (ns ms : List Nd) (k : Int) (xs : List Int) : Prop where
  all : allFrom ms ms 0 = true
  pre : ns <+: ms
  len : ms.length ≤ ns.length + xs.length + 1
  k0 : 0 ≤ k
  k1 : k < (ms.length : Int)
  parts : partsN ms xs.length k = some xs
theorem lst {ns : List Nd} (h : allFrom ns ns 0 = true) : ∀ (xs : List Int), (∀ x ∈ xs, 0 ≤ x ∧ x < (ns.length : Int)) → ns.length + xs.length < 2999 → Lst ns (listF xs ns).1 (listF xs ns).2 xs
  | [], _, hr => by
    have p := put1 h (x := ⟨1, 0, 0, 0⟩) (atom_ok (by decide)) (by simp at hr; omega)
    rw [listF_nil]
    refine ⟨p.all, p.pre, by have := p.len; simpa using this, p.k0, p.k1, ?_⟩
    show partsN _ 0 _ = _
    rw [partsN, if_pos ⟨by rw [isK_of p.all p.k0 p.k1]; exact decide_eq_true (by rw [p.nd]), by rw [p.nd]⟩]
  | x :: xs, hx, hr => by
    have q := lst h xs (fun y hy => hx y (List.mem_cons_of_mem _ hy)) (by simp at hr; omega)
    have hl := q.len
    have hi := q.pre.length_le
    have hx0 := hx x (List.mem_cons_self ..)
    have hr' : ns.length + xs.length + 1 < 2999 := by simpa [Nat.add_assoc] using hr
    have k0 := q.k0
    have k1 := q.k1
    have p := put1 q.all (x := ⟨2, 0, x, (listF xs ns).2⟩) (two_ok (by decide) (by decide) (by omega) (by omega)) (by omega)
    rw [listF_cons]
    simp only [(makeK2 _ _ _).1, (makeK2 _ _ _).2]
    refine ⟨p.all, q.pre.trans p.pre, by have := p.len; simp; omega, p.k0, p.k1, ?_⟩
    have hk : isK (putA (listF xs ns).1 ⟨2, 0, x, (listF xs ns).2⟩) (putK (listF xs ns).1 ⟨2, 0, x, (listF xs ns).2⟩) 2 = true := by rw [isK_of p.all p.k0 p.k1]; exact decide_eq_true (by rw [p.nd])
    show partsN _ (xs.length + 1) _ = _
    rw [partsN_next hk, p.nd]
    simp only
    rw [partsN_pre p.pre _ _ _ q.parts]
    rfl
theorem Lst.parts' {ns ms m2 : List Nd} {k : Int} {xs : List Int} (h : Lst ns ms k xs) (hp : ms <+: m2) {n : Int} (hn : n = (xs.length : Int)) : partsV m2 k n = xs ∧ partsB m2 k n = true := by
  refine parts_some ?_
  unfold partsR
  rw [if_neg (by omega), hn, Int.toNat_natCast]
  exact partsN_pre hp _ _ _ h.parts
/-- A put of a kind with two terms, one with one term, an Atom. -/
theorem mk2 {ns : List Nd} {kind x y : Int} (h : allFrom ns ns 0 = true) (hk : kind = 2 ∨ kind = 4 ∨ kind = 5 ∨ kind = 8 ∨ kind = 9) (hx : 0 ≤ x ∧ x < (ns.length : Int)) (hy : 0 ≤ y ∧ y < (ns.length : Int)) (hr : ns.length < 3000) : Put1 ns (makeA ns kind x y) (makeK ns kind x y) ⟨kind, 0, x, y⟩ := by
  have ho : oneK kind = false := by rcases hk with rfl | rfl | rfl | rfl | rfl <;> rfl
  obtain ⟨e1, e2⟩ := mk_two (ns := ns) (kind := kind) (x := x) (y := y) (by omega) (by omega) ho
  rw [e1, e2]
  exact put1 h (two_ok (by omega) ho hx hy) hr
theorem mk1 {ns : List Nd} {kind x y : Int} (h : allFrom ns ns 0 = true) (hk : kind = 3 ∨ kind = 6) (hx : 0 ≤ x ∧ x < (ns.length : Int)) (hr : ns.length < 3000) : Put1 ns (makeA ns kind x y) (makeK ns kind x y) ⟨kind, 0, x, 0⟩ := by
  have ho : oneK kind = true := by rcases hk with rfl | rfl <;> rfl
  obtain ⟨e1, e2⟩ := mk_one (ns := ns) (kind := kind) (x := x) (y := y) (by omega) (by omega) ho
  rw [e1, e2]
  exact put1 h (one_ok (by omega) ho hx) hr
theorem atom1 {ns : List Nd} {n : Int} (h : allFrom ns ns 0 = true) (hn : 0 ≤ n ∧ n ≤ 999999) (hr : ns.length < 3000) : Put1 ns (putA ns ⟨1, n, 0, 0⟩) (putK ns ⟨1, n, 0, 0⟩) ⟨1, n, 0, 0⟩ := put1 h (atom_ok hn) hr
/-- What a put gives, further on. -/
theorem Put1.isK {ns ms m2 : List Nd} {k : Int} {x : Nd} (h : Put1 ns ms k x) (hp : ms <+: m2) : isK m2 k x.k = true ∧ ndAt m2 k = x := by
  have h1 : Go.Proofs.Ytffnadnndmmliaa.isK ms k x.k = true := by rw [isK_of h.all h.k0 h.k1]; exact decide_eq_true (by rw [h.nd])
  obtain ⟨q1, q2, -, -⟩ := isK_pre hp h1
  exact ⟨q1, q2.trans h.nd⟩
theorem Put1.num {ns ms m2 : List Nd} {k n : Int} (h : Put1 ns ms k ⟨1, n, 0, 0⟩) (hp : ms <+: m2) : Go.Proofs.Ytffnadnndmmliaa.isK m2 k 1 = true ∧ numV m2 k = n := by
  obtain ⟨h1, h2⟩ := h.isK hp
  refine ⟨h1, ?_⟩
  unfold numV
  rw [if_pos h1, h2]
/-- Nodes that are put fit. -/
theorem putA_fits {ns : List Nd} {x : Nd} (hf : ∀ y ∈ ns, y.Fits) (hl : ns.length ≤ 1048576) : ∀ y ∈ putA ns x, y.Fits := by
  unfold putA
  split
  · rename_i h
    intro y hy
    rcases List.mem_append.1 hy with hy | hy
    · exact hf y hy
    · rw [List.mem_singleton.1 hy]
      exact right_fits h.1 (by omega)
  · exact hf
theorem makeA_fits {ns : List Nd} {k x y : Int} (hf : ∀ y ∈ ns, y.Fits) (hl : ns.length ≤ 1048576) : ∀ z ∈ makeA ns k x y, z.Fits := by
  unfold makeA; split
  · exact hf
  · exact putA_fits hf hl
theorem listF_fits (xs : List Int) {ns : List Nd} (hf : ∀ y ∈ ns, y.Fits) (hl : ns.length ≤ 1048576) : ∀ z ∈ (listF xs ns).1, z.Fits := by
  induction xs with
  | nil => rw [listF_nil]; exact putA_fits hf hl
  | cons x xs ih => rw [listF_cons]; simp only; exact makeA_fits ih (listF_le xs hl)
end Go.Proofs.Ytffnadnndmmliaa

namespace Go.Proofs.Ytffnadnndmmliaa
open Go.RowKit
set_option linter.unusedVariables false
/-- In an arena that is right a node stands once. -/
theorem nd_one {ms : List Nd} (h : allFrom ms ms 0 = true) {i j : Int} (hi : 0 ≤ i ∧ i < (ms.length : Int)) (hj : 0 ≤ j ∧ j < (ms.length : Int)) (e : ndAt ms i = ndAt ms j) : i = j := by
  have f1 := (all_at h (show i.toNat < ms.length by omega)).2
  have f2 := (all_at h (show j.toNat < ms.length by omega)).2
  unfold ndAt at e
  rw [e] at f1
  omega
theorem isK_at {ms : List Nd} {k j : Int} (h : isK ms k j = true) : (0 ≤ k ∧ k < (ms.length : Int)) ∧ (ndAt ms k).k = j ∧ nodeB (ndAt ms k) k = true := by
  unfold isK okAt at h
  simp only [Bool.and_eq_true, decide_eq_true_eq] at h
  obtain ⟨⟨h1, h2⟩, h3⟩ := h
  refine ⟨?_, h3, h2⟩
  unfold inB at h1
  simp at h1
  omega
theorem atom_is {ms : List Nd} {k : Int} (h : isK ms k 1 = true) : ndAt ms k = ⟨1, (ndAt ms k).n, 0, 0⟩ := by
  obtain ⟨_, h1, h2⟩ := isK_at h
  generalize ndAt ms k = x at *
  obtain ⟨xk, xn, xa, xb⟩ := x
  simp only at h1
  subst h1
  unfold nodeB at h2
  simp [inB] at h2
  obtain ⟨_, h3, h4⟩ := h2
  rw [h3, h4]
theorem pair_is {ms : List Nd} {k : Int} (h : isK ms k 2 = true) : ndAt ms k = ⟨2, 0, (ndAt ms k).a, (ndAt ms k).b⟩ := by
  obtain ⟨_, h1, h2⟩ := isK_at h
  generalize ndAt ms k = x at *
  obtain ⟨xk, xn, xa, xb⟩ := x
  simp only at h1
  subst h1
  unfold nodeB at h2
  simp [inB, oneK] at h2
  rw [h2.1.1]
/-- A List is had once, too. -/
theorem parts_one {ms : List Nd} (h : allFrom ms ms 0 = true) : ∀ (m : Nat) (i j : Int) (xs : List Int), partsN ms m i = some xs → partsN ms m j = some xs → i = j
  | 0, i, j, xs, h1, h2 => by
    rw [partsN] at h1 h2
    split at h1
    · split at h2
      · rename_i q1 q2
        refine nd_one h (isK_at q1.1).1 (isK_at q2.1).1 ?_
        rw [atom_is q1.1, atom_is q2.1, q1.2, q2.2]
      · cases h2
    · cases h1
  | m + 1, i, j, xs, h1, h2 => by
    rw [partsN] at h1 h2
    split at h1
    · split at h2
      · rename_i q1 q2
        cases e1 : partsN ms m (ndAt ms i).b with
        | none => rw [e1] at h1; cases h1
        | some y1 =>
          cases e2 : partsN ms m (ndAt ms j).b with
          | none => rw [e2] at h2; cases h2
          | some y2 =>
            rw [e1] at h1
            rw [e2] at h2
            simp only [Option.map_some, Option.some.injEq] at h1 h2
            rw [← h2] at h1
            simp only [List.cons.injEq] at h1
            obtain ⟨ea, rfl⟩ := h1
            have eb := parts_one h m _ _ _ e1 e2
            refine nd_one h (isK_at q1).1 (isK_at q2).1 ?_
            rw [pair_is q1, pair_is q2, ea, eb]
      · cases h2
    · cases h1
/-- The term at k is the cookie of these. -/
def Ck (ms : List Nd) (k s d h : Int) : Prop := ∃ k1 kl k2 k3, (isK ms k 9 = true ∧ ndAt ms k = ⟨9, 0, k1, kl⟩) ∧ (isK ms k1 1 = true ∧ ndAt ms k1 = ⟨1, s, 0, 0⟩) ∧ partsN ms 2 kl = some [k2, k3] ∧ (isK ms k2 1 = true ∧ ndAt ms k2 = ⟨1, d, 0, 0⟩) ∧ (isK ms k3 3 = true ∧ ndAt ms k3 = ⟨3, 0, h, 0⟩)
theorem Ck.on {ns ms : List Nd} {k s d h : Int} (hp : ns <+: ms) (c : Ck ns k s d h) : Ck ms k s d h := by
  obtain ⟨k1, kl, k2, k3, ⟨a0, b0⟩, ⟨a1, b1⟩, p, ⟨a2, b2⟩, ⟨a3, b3⟩⟩ := c
  obtain ⟨q0, r0, -⟩ := isK_pre hp a0
  obtain ⟨q1, r1, -⟩ := isK_pre hp a1
  obtain ⟨q2, r2, -⟩ := isK_pre hp a2
  obtain ⟨q3, r3, -⟩ := isK_pre hp a3
  exact ⟨k1, kl, k2, k3, ⟨q0, r0.trans b0⟩, ⟨q1, r1.trans b1⟩, partsN_pre hp _ _ _ p, ⟨q2, r2.trans b2⟩, ⟨q3, r3.trans b3⟩⟩
theorem Ck.tells {ms : List Nd} {k s d h s' d' h' : Int} (c : Ck ms k s d h) (c' : Ck ms k s' d' h') : s = s' ∧ d = d' ∧ h = h' := by
  obtain ⟨k1, kl, k2, k3, ⟨_, b0⟩, ⟨_, b1⟩, p, ⟨_, b2⟩, ⟨_, b3⟩⟩ := c
  obtain ⟨j1, jl, j2, j3, ⟨_, e0⟩, ⟨_, e1⟩, q, ⟨_, e2⟩, ⟨_, e3⟩⟩ := c'
  rw [b0] at e0
  simp only [Nd.mk.injEq, true_and] at e0
  obtain ⟨rfl, rfl⟩ := e0
  rw [p] at q
  simp only [Option.some.injEq, List.cons.injEq, and_true] at q
  obtain ⟨rfl, rfl⟩ := q
  rw [b1] at e1
  rw [b2] at e2
  rw [b3] at e3
  simp only [Nd.mk.injEq, true_and, and_true] at e1 e2 e3
  exact ⟨e1, e2, e3⟩
theorem Ck.once {ms : List Nd} (ha : allFrom ms ms 0 = true) {i j s d h : Int} (c : Ck ms i s d h) (c' : Ck ms j s d h) : i = j := by
  obtain ⟨k1, kl, k2, k3, ⟨a0, b0⟩, ⟨a1, b1⟩, p, ⟨a2, b2⟩, ⟨a3, b3⟩⟩ := c
  obtain ⟨j1, jl, j2, j3, ⟨d0, e0⟩, ⟨d1, e1⟩, q, ⟨d2, e2⟩, ⟨d3, e3⟩⟩ := c'
  obtain rfl := nd_one ha (isK_at a1).1 (isK_at d1).1 (b1.trans e1.symm)
  obtain rfl := nd_one ha (isK_at a2).1 (isK_at d2).1 (b2.trans e2.symm)
  obtain rfl := nd_one ha (isK_at a3).1 (isK_at d3).1 (b3.trans e3.symm)
  obtain rfl := parts_one ha _ _ _ _ p q
  exact nd_one ha (isK_at a0).1 (isK_at d0).1 (b0.trans e0.symm)
/-- What CookieOf gives in an arena that is right, with room. -/
theorem ck_made {ns : List Nd} {s d h : Int} (ha : allFrom ns ns 0 = true) (hl : ns.length < 2000) (hs : 0 ≤ s ∧ s ≤ 999999) (hd : 0 ≤ d ∧ d ≤ 999999) (hh : 0 ≤ h ∧ h < (ns.length : Int)) :
    allFrom (ckA ns s d h) (ckA ns s d h) 0 = true ∧ (ckA ns s d h).length ≤ ns.length + 7 ∧ ns <+: ckA ns s d h ∧ 0 ≤ ckK ns s d h ∧ ckK ns s d h < ((ckA ns s d h).length : Int) ∧ Ck (ckA ns s d h) (ckK ns s d h) s d h := by
  have p1 := atom1 ha (n := s) hs (by omega)
  have l1 := p1.len
  have i1 := p1.pre.length_le
  have p2 := atom1 p1.all (n := d) hd (by omega)
  have l2 := p2.len
  have i2 := p2.pre.length_le
  have p3 := mk1 p2.all (kind := 3) (x := h) (y := 0) (.inl rfl) ⟨hh.1, by omega⟩ (by omega)
  have l3 := p3.len
  have i3 := p3.pre.length_le
  have a1 : 0 ≤ ckK1 ns s := p1.k0
  have b1 : ckK1 ns s < _ := p1.k1
  have a2 : 0 ≤ ckK2 ns s d := p2.k0
  have b2 : ckK2 ns s d < _ := p2.k1
  have a3 : 0 ≤ ckK3 ns s d h := p3.k0
  have b3 : ckK3 ns s d h < _ := p3.k1
  have t := lst p3.all [ckK2 ns s d, ckK3 ns s d h] (fun x hx => by
    simp only [List.mem_cons, List.not_mem_nil, or_false] at hx
    rcases hx with rfl | rfl
    · exact ⟨a2, by omega⟩
    · exact ⟨a3, b3⟩) (by simp; omega)
  have lt := t.len
  have it := t.pre.length_le
  have at0 := t.k0
  have at1 := t.k1
  simp only [List.length_cons, List.length_nil] at lt
  have p5 := mk2 t.all (kind := 9) (x := ckK1 ns s) (y := (ckL ns s d h).2) (by omega) ⟨a1, by omega⟩ ⟨at0, at1⟩ (by omega)
  have l5 := p5.len
  have r4 := p5.pre
  have r3 := t.pre.trans r4
  have r2 := p3.pre.trans r3
  have r1 := p2.pre.trans r2
  have r0 := p1.pre.trans r1
  refine ⟨p5.all, by have h9 : (ckA ns s d h).length ≤ _ := l5; omega, r0, p5.k0, p5.k1, ?_⟩
  have n5 := p5.isK (List.prefix_refl _)
  have n1 := p1.isK r1
  have n2 := p2.isK r2
  have n3 := p3.isK r3
  have nt := partsN_pre r4 _ _ _ t.parts
  exact ⟨ckK1 ns s, (ckL ns s d h).2, ckK2 ns s d, ckK3 ns s d h, n5, n1, nt, n2, n3⟩
/-- A cookie is right at its own address, for its own hello, and nowhere else. -/
theorem ck_back {ns : List Nd} {s d h : Int} (ha : allFrom ns ns 0 = true) (hl : ns.length < 1000) (hs : 0 ≤ s ∧ s ≤ 999999) (hd : 0 ≤ d ∧ d ≤ 999999) (hh : 0 ≤ h ∧ h < (ns.length : Int)) :
    0 ≤ ckK ns s d h ∧ (ckA ns s d h).length ≤ ns.length + 7 ∧ allFrom (ckA ns s d h) (ckA ns s d h) 0 = true ∧
    ∀ s' d' h', (0 ≤ s' ∧ s' ≤ 999999) → (0 ≤ d' ∧ d' ≤ 999999) → (0 ≤ h' ∧ h' < (ns.length : Int)) → ckOk (ckA ns s d h) s' d' h' (ckK ns s d h) = decide (s' = s ∧ d' = d ∧ h' = h) := by
  obtain ⟨q1, q2, q3, q4, q5, q6⟩ := ck_made ha (by omega) hs hd hh
  refine ⟨q4, q2, q1, fun s' d' h' hs' hd' hh' => ?_⟩
  have hi := q3.length_le
  obtain ⟨t1, t2, t3, t4, t5, t6⟩ := ck_made (s := s') (d := d') (h := h') q1 (by omega) hs' hd' ⟨hh'.1, by omega⟩
  have c := q6.on t3
  unfold ckOk
  rw [decide_eq_true t4, Bool.true_and]
  by_cases e : s' = s ∧ d' = d ∧ h' = h
  · rw [decide_eq_true e]
    obtain ⟨rfl, rfl, rfl⟩ := e
    exact decide_eq_true (Ck.once t1 t6 c)
  · rw [decide_eq_false e]
    refine decide_eq_false (fun hk => e ?_)
    rw [hk] at t6
    exact t6.tells c
end Go.Proofs.Ytffnadnndmmliaa
