/- Lists in plain words: what a List has, also in an arena that goes on. -/
import Derived.Test.YtffnadnndmmliaaPlainFM
import Derived.Test.YtffnadnndmmliaaPlainPlaces
import Derived.Test.YtffnadnndmmliaaKeptS
import Derived.Test.YtffnadnndmmliaaLawClip
import Derived.Test.YtffnadnndmmliaaCert10
import Derived.Test.YtffnadnndmmliaaPlainReach2
import Derived.Test.YtffnadnndmmliaaSpecReach5
namespace Go.Proofs.Ytffnadnndmmliaa
open Go.RowKit
set_option linter.unusedVariables false
theorem isK_pre {ns ms : List Nd} (h : ns <+: ms) {k j : Int} (hk : isK ns k j = true) : isK ms k j = true ∧ ndAt ms k = ndAt ns k ∧ 0 ≤ k ∧ k < (ns.length : Int) := by
  unfold isK okAt at hk
  simp only [Bool.and_eq_true, decide_eq_true_eq] at hk
  obtain ⟨⟨h1, h2⟩, h3⟩ := hk
  have h4 := inB_true h1
  have e := ndAt_pre h h4.1 (show k < (ns.length : Int) by omega)
  have hl := h.length_le
  refine ⟨?_, e, h4.1, by omega⟩
  unfold isK okAt
  rw [e, inB_mk ⟨h4.1, by omega⟩, show ms.getD k.toNat Nd.zero = ns.getD k.toNat Nd.zero from e, h2, decide_eq_true h3]; rfl
theorem partsN_pre {ns ms : List Nd} (h : ns <+: ms) : ∀ (m : Nat) (k : Int) (xs : List Int), partsN ns m k = some xs → partsN ms m k = some xs
  | 0, k, xs, hp => by
    rw [partsN] at hp ⊢
    split at hp
    · rename_i hk
      obtain ⟨h1, h2, -, -⟩ := isK_pre h hk.1
      rw [if_pos ⟨h1, by rw [h2]; exact hk.2⟩]; exact hp
    · cases hp
  | m + 1, k, xs, hp => by
    rw [partsN] at hp ⊢
    split at hp
    · rename_i hk
      obtain ⟨h1, h2, -, -⟩ := isK_pre h hk
      rw [if_pos h1, h2]
      cases hq : partsN ns m (ndAt ns k).b with
      | none => rw [hq] at hp; cases hp
      | some ys => rw [partsN_pre h m _ ys hq]; rw [hq] at hp; exact hp
    · cases hp
/-- What a List gives. -/
structure Lst (ns ms : List Nd) (k : Int) (xs : List Int) : Prop where
  all : allFrom ms ms 0 = true
  pre : ns <+: ms
  len : ms.length ≤ ns.length + xs.length + 1
  k0 : 0 ≤ k
  k1 : k < (ms.length : Int)
  parts : partsN ms xs.length k = some xs
theorem lst {ns : List Nd} (h : allFrom ns ns 0 = true) : ∀ (xs : List Int), (∀ x ∈ xs, 0 ≤ x ∧ x < (ns.length : Int)) → ns.length + xs.length < 2999 → Lst ns (listF xs ns).1 (listF xs ns).2 xs
  | [], _, hr => by
    have p := put1 h (x := ⟨1, 0, 0, 0⟩) (atom_ok (by decide)) (by simp at hr; omega)
    rw [listF_nil]
    refine ⟨p.all, p.pre, by have := p.len; simpa using this, p.k0, p.k1, ?_⟩
    show partsN _ 0 _ = _
    rw [partsN, if_pos ⟨by rw [isK_of p.all p.k0 p.k1]; exact decide_eq_true (by rw [p.nd]), by rw [p.nd]⟩]
  | x :: xs, hx, hr => by
    have q := lst h xs (fun y hy => hx y (List.mem_cons_of_mem _ hy)) (by simp at hr; omega)
    have hl := q.len
    have hi := q.pre.length_le
    have hx0 := hx x (List.mem_cons_self ..)
    have hr' : ns.length + xs.length + 1 < 2999 := by simpa [Nat.add_assoc] using hr
    have k0 := q.k0
    have k1 := q.k1
    have p := put1 q.all (x := ⟨2, 0, x, (listF xs ns).2⟩) (two_ok (by decide) (by decide) (by omega) (by omega)) (by omega)
    rw [listF_cons]
    simp only [(makeK2 _ _ _).1, (makeK2 _ _ _).2]
    refine ⟨p.all, q.pre.trans p.pre, by have := p.len; simp; omega, p.k0, p.k1, ?_⟩
    have hk : isK (putA (listF xs ns).1 ⟨2, 0, x, (listF xs ns).2⟩) (putK (listF xs ns).1 ⟨2, 0, x, (listF xs ns).2⟩) 2 = true := by rw [isK_of p.all p.k0 p.k1]; exact decide_eq_true (by rw [p.nd])
    show partsN _ (xs.length + 1) _ = _
    rw [partsN_next hk, p.nd]
    simp only
    rw [partsN_pre p.pre _ _ _ q.parts]
    rfl
theorem Lst.parts' {ns ms m2 : List Nd} {k : Int} {xs : List Int} (h : Lst ns ms k xs) (hp : ms <+: m2) {n : Int} (hn : n = (xs.length : Int)) : partsV m2 k n = xs ∧ partsB m2 k n = true := by
  refine parts_some ?_
  unfold partsR
  rw [if_neg (by omega), hn, Int.toNat_natCast]
  exact partsN_pre hp _ _ _ h.parts
/-- A put of a kind with two terms, one with one term, an Atom. -/
theorem mk2 {ns : List Nd} {kind x y : Int} (h : allFrom ns ns 0 = true) (hk : kind = 2 ∨ kind = 4 ∨ kind = 5 ∨ kind = 8 ∨ kind = 9) (hx : 0 ≤ x ∧ x < (ns.length : Int)) (hy : 0 ≤ y ∧ y < (ns.length : Int)) (hr : ns.length < 3000) : Put1 ns (makeA ns kind x y) (makeK ns kind x y) ⟨kind, 0, x, y⟩ := by
  have ho : oneK kind = false := by rcases hk with rfl | rfl | rfl | rfl | rfl <;> rfl
  obtain ⟨e1, e2⟩ := mk_two (ns := ns) (kind := kind) (x := x) (y := y) (by omega) (by omega) ho
  rw [e1, e2]
  exact put1 h (two_ok (by omega) ho hx hy) hr
theorem mk1 {ns : List Nd} {kind x y : Int} (h : allFrom ns ns 0 = true) (hk : kind = 3 ∨ kind = 6) (hx : 0 ≤ x ∧ x < (ns.length : Int)) (hr : ns.length < 3000) : Put1 ns (makeA ns kind x y) (makeK ns kind x y) ⟨kind, 0, x, 0⟩ := by
  have ho : oneK kind = true := by rcases hk with rfl | rfl <;> rfl
  obtain ⟨e1, e2⟩ := mk_one (ns := ns) (kind := kind) (x := x) (y := y) (by omega) (by omega) ho
  rw [e1, e2]
  exact put1 h (one_ok (by omega) ho hx) hr
theorem atom1 {ns : List Nd} {n : Int} (h : allFrom ns ns 0 = true) (hn : 0 ≤ n ∧ n ≤ 999999) (hr : ns.length < 3000) : Put1 ns (putA ns ⟨1, n, 0, 0⟩) (putK ns ⟨1, n, 0, 0⟩) ⟨1, n, 0, 0⟩ := put1 h (atom_ok hn) hr
/-- What a put gives, further on. -/
theorem Put1.isK {ns ms m2 : List Nd} {k : Int} {x : Nd} (h : Put1 ns ms k x) (hp : ms <+: m2) : isK m2 k x.k = true ∧ ndAt m2 k = x := by
  have h1 : Go.Proofs.Ytffnadnndmmliaa.isK ms k x.k = true := by rw [isK_of h.all h.k0 h.k1]; exact decide_eq_true (by rw [h.nd])
  obtain ⟨q1, q2, -, -⟩ := isK_pre hp h1
  exact ⟨q1, q2.trans h.nd⟩
theorem Put1.num {ns ms m2 : List Nd} {k n : Int} (h : Put1 ns ms k ⟨1, n, 0, 0⟩) (hp : ms <+: m2) : Go.Proofs.Ytffnadnndmmliaa.isK m2 k 1 = true ∧ numV m2 k = n := by
  obtain ⟨h1, h2⟩ := h.isK hp
  refine ⟨h1, ?_⟩
  unfold numV
  rw [if_pos h1, h2]
/-- Nodes that are put fit. -/
theorem putA_fits {ns : List Nd} {x : Nd} (hf : ∀ y ∈ ns, y.Fits) (hl : ns.length ≤ 1048576) : ∀ y ∈ putA ns x, y.Fits := by
  unfold putA
  split
  · rename_i h
    intro y hy
    rcases List.mem_append.1 hy with hy | hy
    · exact hf y hy
    · rw [List.mem_singleton.1 hy]
      exact right_fits h.1 (by omega)
  · exact hf
theorem makeA_fits {ns : List Nd} {k x y : Int} (hf : ∀ y ∈ ns, y.Fits) (hl : ns.length ≤ 1048576) : ∀ z ∈ makeA ns k x y, z.Fits := by
  unfold makeA; split
  · exact hf
  · exact putA_fits hf hl
theorem listF_fits (xs : List Int) {ns : List Nd} (hf : ∀ y ∈ ns, y.Fits) (hl : ns.length ≤ 1048576) : ∀ z ∈ (listF xs ns).1, z.Fits := by
  induction xs with
  | nil => rw [listF_nil]; exact putA_fits hf hl
  | cons x xs ih => rw [listF_cons]; simp only; exact makeA_fits ih (listF_le xs hl)
end Go.Proofs.Ytffnadnndmmliaa

namespace Go.Proofs.Ytffnadnndmmliaa
open Go.RowKit
set_option linter.unusedVariables false
/-- In an arena that is right a node stands once. -/
theorem nd_one {ms : List Nd} (h : allFrom ms ms 0 = true) {i j : Int} (hi : 0 ≤ i ∧ i < (ms.length : Int)) (hj : 0 ≤ j ∧ j < (ms.length : Int)) (e : ndAt ms i = ndAt ms j) : i = j := by
  have f1 := (all_at h (show i.toNat < ms.length by omega)).2
  have f2 := (all_at h (show j.toNat < ms.length by omega)).2
  unfold ndAt at e
  rw [e] at f1
  omega
theorem isK_at {ms : List Nd} {k j : Int} (h : isK ms k j = true) : (0 ≤ k ∧ k < (ms.length : Int)) ∧ (ndAt ms k).k = j ∧ nodeB (ndAt ms k) k = true := by
  unfold isK okAt at h
  simp only [Bool.and_eq_true, decide_eq_true_eq] at h
  obtain ⟨⟨h1, h2⟩, h3⟩ := h
  refine ⟨?_, h3, h2⟩
  unfold inB at h1
  simp at h1
  omega
theorem atom_is {ms : List Nd} {k : Int} (h : isK ms k 1 = true) : ndAt ms k = ⟨1, (ndAt ms k).n, 0, 0⟩ := by
  obtain ⟨_, h1, h2⟩ := isK_at h
  generalize ndAt ms k = x at *
  obtain ⟨xk, xn, xa, xb⟩ := x
  simp only at h1
  subst h1
  unfold nodeB at h2
  simp [inB] at h2
  obtain ⟨_, h3, h4⟩ := h2
  rw [h3, h4]
theorem pair_is {ms : List Nd} {k : Int} (h : isK ms k 2 = true) : ndAt ms k = ⟨2, 0, (ndAt ms k).a, (ndAt ms k).b⟩ := by
  obtain ⟨_, h1, h2⟩ := isK_at h
  generalize ndAt ms k = x at *
  obtain ⟨xk, xn, xa, xb⟩ := x
  simp only at h1
  subst h1
  unfold nodeB at h2
  simp [inB, oneK] at h2
  rw [h2.1.1]
/-- A List is had once, too. -/
theorem parts_one {ms : List Nd} (h : allFrom ms ms 0 = true) : ∀ (m : Nat) (i j : Int) (xs : List Int), partsN ms m i = some xs → partsN ms m j = some xs → i = j
  | 0, i, j, xs, h1, h2 => by
    rw [partsN] at h1 h2
    split at h1
    · split at h2
      · rename_i q1 q2
        refine nd_one h (isK_at q1.1).1 (isK_at q2.1).1 ?_
        rw [atom_is q1.1, atom_is q2.1, q1.2, q2.2]
      · cases h2
    · cases h1
  | m + 1, i, j, xs, h1, h2 => by
    rw [partsN] at h1 h2
    split at h1
    · split at h2
      · rename_i q1 q2
        cases e1 : partsN ms m (ndAt ms i).b with
        | none => rw [e1] at h1; cases h1
        | some y1 =>
          cases e2 : partsN ms m (ndAt ms j).b with
          | none => rw [e2] at h2; cases h2
          | some y2 =>
            rw [e1] at h1
            rw [e2] at h2
            simp only [Option.map_some, Option.some.injEq] at h1 h2
            rw [← h2] at h1
            simp only [List.cons.injEq] at h1
            obtain ⟨ea, rfl⟩ := h1
            have eb := parts_one h m _ _ _ e1 e2
            refine nd_one h (isK_at q1).1 (isK_at q2).1 ?_
            rw [pair_is q1, pair_is q2, ea, eb]
      · cases h2
    · cases h1
/-- The term at k is the cookie of these. -/
def Ck (ms : List Nd) (k s d h : Int) : Prop := ∃ k1 kl k2 k3, (isK ms k 9 = true ∧ ndAt ms k = ⟨9, 0, k1, kl⟩) ∧ (isK ms k1 1 = true ∧ ndAt ms k1 = ⟨1, s, 0, 0⟩) ∧ partsN ms 2 kl = some [k2, k3] ∧ (isK ms k2 1 = true ∧ ndAt ms k2 = ⟨1, d, 0, 0⟩) ∧ (isK ms k3 3 = true ∧ ndAt ms k3 = ⟨3, 0, h, 0⟩)
theorem Ck.on {ns ms : List Nd} {k s d h : Int} (hp : ns <+: ms) (c : Ck ns k s d h) : Ck ms k s d h := by
  obtain ⟨k1, kl, k2, k3, ⟨a0, b0⟩, ⟨a1, b1⟩, p, ⟨a2, b2⟩, ⟨a3, b3⟩⟩ := c
  obtain ⟨q0, r0, -⟩ := isK_pre hp a0
  obtain ⟨q1, r1, -⟩ := isK_pre hp a1
  obtain ⟨q2, r2, -⟩ := isK_pre hp a2
  obtain ⟨q3, r3, -⟩ := isK_pre hp a3
  exact ⟨k1, kl, k2, k3, ⟨q0, r0.trans b0⟩, ⟨q1, r1.trans b1⟩, partsN_pre hp _ _ _ p, ⟨q2, r2.trans b2⟩, ⟨q3, r3.trans b3⟩⟩
theorem Ck.tells {ms : List Nd} {k s d h s' d' h' : Int} (c : Ck ms k s d h) (c' : Ck ms k s' d' h') : s = s' ∧ d = d' ∧ h = h' := by
  obtain ⟨k1, kl, k2, k3, ⟨_, b0⟩, ⟨_, b1⟩, p, ⟨_, b2⟩, ⟨_, b3⟩⟩ := c
  obtain ⟨j1, jl, j2, j3, ⟨_, e0⟩, ⟨_, e1⟩, q, ⟨_, e2⟩, ⟨_, e3⟩⟩ := c'
  rw [b0] at e0
  simp only [Nd.mk.injEq, true_and] at e0
  obtain ⟨rfl, rfl⟩ := e0
  rw [p] at q
  simp only [Option.some.injEq, List.cons.injEq, and_true] at q
  obtain ⟨rfl, rfl⟩ := q
  rw [b1] at e1
  rw [b2] at e2
  rw [b3] at e3
  simp only [Nd.mk.injEq, true_and, and_true] at e1 e2 e3
  exact ⟨e1, e2, e3⟩
theorem Ck.once {ms : List Nd} (ha : allFrom ms ms 0 = true) {i j s d h : Int} (c : Ck ms i s d h) (c' : Ck ms j s d h) : i = j := by
  obtain ⟨k1, kl, k2, k3, ⟨a0, b0⟩, ⟨a1, b1⟩, p, ⟨a2, b2⟩, ⟨a3, b3⟩⟩ := c
  obtain ⟨j1, jl, j2, j3, ⟨d0, e0⟩, ⟨d1, e1⟩, q, ⟨d2, e2⟩, ⟨d3, e3⟩⟩ := c'
  obtain rfl := nd_one ha (isK_at a1).1 (isK_at d1).1 (b1.trans e1.symm)
  obtain rfl := nd_one ha (isK_at a2).1 (isK_at d2).1 (b2.trans e2.symm)
  obtain rfl := nd_one ha (isK_at a3).1 (isK_at d3).1 (b3.trans e3.symm)
  obtain rfl := parts_one ha _ _ _ _ p q
  exact nd_one ha (isK_at a0).1 (isK_at d0).1 (b0.trans e0.symm)
/-- What CookieOf gives in an arena that is right, with room. -/
theorem ck_made {ns : List Nd} {s d h : Int} (ha : allFrom ns ns 0 = true) (hl : ns.length < 2000) (hs : 0 ≤ s ∧ s ≤ 999999) (hd : 0 ≤ d ∧ d ≤ 999999) (hh : 0 ≤ h ∧ h < (ns.length : Int)) :
    allFrom (ckA ns s d h) (ckA ns s d h) 0 = true ∧ (ckA ns s d h).length ≤ ns.length + 7 ∧ ns <+: ckA ns s d h ∧ 0 ≤ ckK ns s d h ∧ ckK ns s d h < ((ckA ns s d h).length : Int) ∧ Ck (ckA ns s d h) (ckK ns s d h) s d h := by
  have p1 := atom1 ha (n := s) hs (by omega)
  have l1 := p1.len
  have i1 := p1.pre.length_le
  have p2 := atom1 p1.all (n := d) hd (by omega)
  have l2 := p2.len
  have i2 := p2.pre.length_le
  have p3 := mk1 p2.all (kind := 3) (x := h) (y := 0) (.inl rfl) ⟨hh.1, by omega⟩ (by omega)
  have l3 := p3.len
  have i3 := p3.pre.length_le
  have a1 : 0 ≤ ckK1 ns s := p1.k0
  have b1 : ckK1 ns s < _ := p1.k1
  have a2 : 0 ≤ ckK2 ns s d := p2.k0
  have b2 : ckK2 ns s d < _ := p2.k1
  have a3 : 0 ≤ ckK3 ns s d h := p3.k0
  have b3 : ckK3 ns s d h < _ := p3.k1
  have t := lst p3.all [ckK2 ns s d, ckK3 ns s d h] (fun x hx => by
    simp only [List.mem_cons, List.not_mem_nil, or_false] at hx
    rcases hx with rfl | rfl
    · exact ⟨a2, by omega⟩
    · exact ⟨a3, b3⟩) (by simp; omega)
  have lt := t.len
  have it := t.pre.length_le
  have at0 := t.k0
  have at1 := t.k1
  simp only [List.length_cons, List.length_nil] at lt
  have p5 := mk2 t.all (kind := 9) (x := ckK1 ns s) (y := (ckL ns s d h).2) (by omega) ⟨a1, by omega⟩ ⟨at0, at1⟩ (by omega)
  have l5 := p5.len
  have r4 := p5.pre
  have r3 := t.pre.trans r4
  have r2 := p3.pre.trans r3
  have r1 := p2.pre.trans r2
  have r0 := p1.pre.trans r1
  refine ⟨p5.all, by have h9 : (ckA ns s d h).length ≤ _ := l5; omega, r0, p5.k0, p5.k1, ?_⟩
  have n5 := p5.isK (List.prefix_refl _)
  have n1 := p1.isK r1
  have n2 := p2.isK r2
  have n3 := p3.isK r3
  have nt := partsN_pre r4 _ _ _ t.parts
  exact ⟨ckK1 ns s, (ckL ns s d h).2, ckK2 ns s d, ckK3 ns s d h, n5, n1, nt, n2, n3⟩
/-- A cookie is right at its own address, for its own hello, and nowhere else. -/
theorem ck_back {ns : List Nd} {s d h : Int} (ha : allFrom ns ns 0 = true) (hl : ns.length < 1000) (hs : 0 ≤ s ∧ s ≤ 999999) (hd : 0 ≤ d ∧ d ≤ 999999) (hh : 0 ≤ h ∧ h < (ns.length : Int)) :
    0 ≤ ckK ns s d h ∧ (ckA ns s d h).length ≤ ns.length + 7 ∧ allFrom (ckA ns s d h) (ckA ns s d h) 0 = true ∧
    ∀ s' d' h', (0 ≤ s' ∧ s' ≤ 999999) → (0 ≤ d' ∧ d' ≤ 999999) → (0 ≤ h' ∧ h' < (ns.length : Int)) → ckOk (ckA ns s d h) s' d' h' (ckK ns s d h) = decide (s' = s ∧ d' = d ∧ h' = h) := by
  obtain ⟨q1, q2, q3, q4, q5, q6⟩ := ck_made ha (by omega) hs hd hh
  refine ⟨q4, q2, q1, fun s' d' h' hs' hd' hh' => ?_⟩
  have hi := q3.length_le
  obtain ⟨t1, t2, t3, t4, t5, t6⟩ := ck_made (s := s') (d := d') (h := h') q1 (by omega) hs' hd' ⟨hh'.1, by omega⟩
  have c := q6.on t3
  unfold ckOk
  rw [decide_eq_true t4, Bool.true_and]
  by_cases e : s' = s ∧ d' = d ∧ h' = h
  · rw [decide_eq_true e]
    obtain ⟨rfl, rfl, rfl⟩ := e
    exact decide_eq_true (Ck.once t1 t6 c)
  · rw [decide_eq_false e]
    refine decide_eq_false (fun hk => e ?_)
    rw [hk] at t6
    exact t6.tells c
end Go.Proofs.Ytffnadnndmmliaa

namespace Go.Proofs.Ytffnadnndmmliaa
open Go.RowKit
set_option linter.unusedVariables false
/-- The term at k is the certificate of n, with the pub at p of the secret at s. -/
structure Cr (ms : List Nd) (k n c p s : Int) : Prop where
  top : ∃ L w1 w2, (isK ms k 8 = true ∧ ndAt ms k = ⟨8, 0, c, L⟩) ∧ partsN ms 3 L = some [w1, w2, p] ∧ (isK ms w1 1 = true ∧ ndAt ms w1 = ⟨1, 60, 0, 0⟩) ∧ (isK ms w2 1 = true ∧ ndAt ms w2 = ⟨1, n, 0, 0⟩)
  ca : isK ms c 1 = true ∧ ndAt ms c = ⟨1, 1000, 0, 0⟩
  pub : isK ms p 6 = true ∧ ndAt ms p = ⟨6, 0, s, 0⟩
  sec : isK ms s 1 = true ∧ ndAt ms s = ⟨1, 2000 + n, 0, 0⟩
theorem isKn_pre {ns ms : List Nd} (h : ns <+: ms) {k j : Int} {x : Nd} (hk : isK ns k j = true ∧ ndAt ns k = x) : isK ms k j = true ∧ ndAt ms k = x := by
  obtain ⟨h1, h2, -⟩ := isK_pre h hk.1
  exact ⟨h1, h2.trans hk.2⟩
theorem Cr.on {ns ms : List Nd} {k n c p s : Int} (hp : ns <+: ms) (h : Cr ns k n c p s) : Cr ms k n c p s := by
  obtain ⟨⟨L, w1, w2, t1, t2, t3, t4⟩, h2, h3, h4⟩ := h
  exact ⟨⟨L, w1, w2, isKn_pre hp t1, partsN_pre hp _ _ _ t2, isKn_pre hp t3, isKn_pre hp t4⟩, isKn_pre hp h2, isKn_pre hp h3, isKn_pre hp h4⟩
theorem numV_at {ms : List Nd} {k n : Int} (h : isK ms k 1 = true ∧ ndAt ms k = ⟨1, n, 0, 0⟩) : numV ms k = n := by
  unfold numV
  rw [if_pos h.1, h.2]
theorem Cr.tells {ms : List Nd} {k n c p s : Int} (h : Cr ms k n c p s) (hn : 0 ≤ n ∧ n ≤ 9) : crtB ms k = true ∧ crtN ms k = n ∧ crtP ms k = p := by
  obtain ⟨⟨L, w1, w2, t1, t2, t3, t4⟩, h2, h3, h4⟩ := h
  have eR : partsR ms L 3 = some [w1, w2, p] := by unfold partsR; rw [if_neg (by omega)]; exact t2
  have eV : partsV ms L 3 = [w1, w2, p] := by unfold partsV; rw [eR]; rfl
  have eB : partsB ms L 3 = true := by unfold partsB; rw [eR]; rfl
  have hB : crtB ms k = true := by
    unfold crtB numIs p3
    rw [t1.1, t1.2]
    simp only [eV, eB]
    simp only [List.getD_cons_zero, List.getD_cons_succ]
    rw [h2.1, numV_at h2, t3.1, numV_at t3, h3.1, t4.1, numV_at t4]
    simp [inB]; omega
  refine ⟨hB, ?_, ?_⟩
  · unfold crtN p3
    rw [if_pos hB, t1.2]
    simp only [eV, List.getD_cons_zero, List.getD_cons_succ]
    exact numV_at t4
  · unfold crtP p3
    rw [if_pos hB, t1.2]
    simp only [eV, List.getD_cons_zero, List.getD_cons_succ]
theorem lg1 {ns : List Nd} {n : Int} (hn : 0 ≤ n ∧ n ≤ 9) : lgA ns n = putA ns ⟨1, 2000 + n, 0, 0⟩ ∧ lgK ns n = putK ns ⟨1, 2000 + n, 0, 0⟩ := by
  have : nmB n = true := by unfold nmB inB; simp; omega
  unfold lgA lgK
  rw [this]; exact ⟨rfl, rfl⟩
theorem pk1 {ns : List Nd} {x y : Int} (hx : 0 ≤ x ∧ x ≤ 9) (hy : 0 ≤ y ∧ y ≤ 9) : pkA ns x y = putA ns ⟨1, pkN x y, 0, 0⟩ ∧ pkK ns x y = putK ns ⟨1, pkN x y, 0, 0⟩ := by
  have : pkB x y = true := by unfold pkB inB; simp; omega
  unfold pkA pkK
  rw [this]; exact ⟨rfl, rfl⟩
theorem pkN_sym (x y : Int) : pkN x y = pkN y x := by unfold pkN; split <;> split <;> omega
theorem pkN_range {x y : Int} (hx : 0 ≤ x ∧ x ≤ 9) (hy : 0 ≤ y ∧ y ≤ 9) : 3000 ≤ pkN x y ∧ pkN x y ≤ 3099 := by unfold pkN; split <;> omega
theorem cr_made {ns : List Nd} {n : Int} (ha : allFrom ns ns 0 = true) (hl : ns.length < 2000) (hn : 0 ≤ n ∧ n ≤ 9) :
    allFrom (crA ns n) (crA ns n) 0 = true ∧ (crA ns n).length ≤ ns.length + 10 ∧ 0 ≤ crK ns n ∧ crK ns n < ((crA ns n).length : Int) ∧ ∃ c p s, Cr (crA ns n) (crK ns n) n c p s := by
  have p1 : Put1 ns (crA1 ns) (crK1 ns) ⟨1, 1000, 0, 0⟩ := atom1 ha (n := 1000) (by omega) (by omega)
  have l1 := p1.len
  have i1 := p1.pre.length_le
  have p2 : Put1 (crA1 ns) (crA2 ns) (crK2 ns) ⟨1, 60, 0, 0⟩ := atom1 p1.all (n := 60) (by omega) (by omega)
  have l2 := p2.len
  have i2 := p2.pre.length_le
  have p3 : Put1 (crA2 ns) (crA3 ns n) (crK3 ns n) ⟨1, n, 0, 0⟩ := atom1 p2.all (n := n) (by omega) (by omega)
  have l3 := p3.len
  have i3 := p3.pre.length_le
  have e4 := lg1 (ns := crA3 ns n) hn
  have p4 : Put1 (crA3 ns n) (lgA (crA3 ns n) n) (lgK (crA3 ns n) n) ⟨1, 2000 + n, 0, 0⟩ := by rw [e4.1, e4.2]; exact atom1 p3.all (n := 2000 + n) (by omega) (by omega)
  have l4 := p4.len
  have i4 := p4.pre.length_le
  have p5 : Put1 (lgA (crA3 ns n) n) (crA5 ns n) (crK5 ns n) ⟨6, 0, lgK (crA3 ns n) n, 0⟩ := mk1 p4.all (kind := 6) (x := lgK (crA3 ns n) n) (y := 0) (.inr rfl) ⟨p4.k0, p4.k1⟩ (by omega)
  have l5 := p5.len
  have i5 := p5.pre.length_le
  have a1 := p1.k0
  have b1 := p1.k1
  have a2 := p2.k0
  have b2 := p2.k1
  have a3 := p3.k0
  have b3 := p3.k1
  have a5 := p5.k0
  have b5 := p5.k1
  have t : Lst (crA5 ns n) (crL ns n).1 (crL ns n).2 [crK2 ns, crK3 ns n, crK5 ns n] := lst p5.all [crK2 ns, crK3 ns n, crK5 ns n] (fun x hx => by
    simp only [List.mem_cons, List.not_mem_nil, or_false] at hx
    rcases hx with rfl | rfl | rfl
    · exact ⟨a2, by omega⟩
    · exact ⟨a3, by omega⟩
    · exact ⟨a5, b5⟩) (by simp only [List.length_cons, List.length_nil]; omega)
  have lt := t.len
  have it := t.pre.length_le
  have at0 := t.k0
  have at1 := t.k1
  simp only [List.length_cons, List.length_nil] at lt
  have p6 : Put1 (crL ns n).1 (crA ns n) (crK ns n) ⟨8, 0, crK1 ns, (crL ns n).2⟩ := mk2 t.all (kind := 8) (x := crK1 ns) (y := (crL ns n).2) (by omega) ⟨a1, by omega⟩ ⟨at0, at1⟩ (by omega)
  have l6 := p6.len
  have r5 := p6.pre
  have r4 := t.pre.trans r5
  have r3 := p5.pre.trans r4
  have r2 := p4.pre.trans r3
  have r1 := p3.pre.trans r2
  have r0 := p2.pre.trans r1
  refine ⟨p6.all, by omega, p6.k0, p6.k1, crK1 ns, crK5 ns n, lgK (crA3 ns n) n, ⟨(crL ns n).2, crK2 ns, crK3 ns n, p6.isK (List.prefix_refl _), partsN_pre r5 _ _ _ t.parts, p2.isK r1, p3.isK r2⟩, p1.isK r0, p5.isK r4, p4.isK r3⟩
theorem ndAt_def (ms : List Nd) (k : Int) : ndAt ms k = ms.getD k.toNat Nd.zero := rfl
/-- What FnCerts asks of a right arena. -/
theorem certs_are {ns : List Nd} {n m : Int} (ha : allFrom ns ns 0 = true) (hl : ns.length < 1000) (hn : 0 ≤ n ∧ n ≤ 9) (hm : 0 ≤ m ∧ m ≤ 9) :
    ∃ (M1 M2 M3 M4 M5 : List Nd) (k s u x : Int), crA ns n = M1 ∧ crK ns n = k ∧ lgA M1 n = M2 ∧ lgK M1 n = s ∧ makeA M2 6 s 0 = M3 ∧ makeK M2 6 s 0 = u ∧ pkA M3 n m = M4 ∧ pkK M3 n m = x ∧ pkA M4 m n = M5 ∧ pkK M4 m n = x
      ∧ (0 ≤ k ∧ k ≤ 2000) ∧ (0 ≤ s ∧ s ≤ 2000) ∧ (0 ≤ u ∧ u ≤ 2000) ∧ (0 ≤ x ∧ x ≤ 2000)
      ∧ (allFrom M1 M1 0 = true ∧ M1.length ≤ 2000) ∧ (allFrom M2 M2 0 = true ∧ M2.length ≤ 2000) ∧ (allFrom M3 M3 0 = true ∧ M3.length ≤ 2000) ∧ (allFrom M4 M4 0 = true ∧ M4.length ≤ 2000) ∧ (allFrom M5 M5 0 = true ∧ M5.length ≤ 2000)
      ∧ (crtB M1 k = true ∧ crtN M1 k = n ∧ crtP M1 k = u) ∧ (∀ bs, IsR M5 [s, x] bs → derB bs k = false) := by
  obtain ⟨q1, q2, q3, q4, c, p, s0, hC⟩ := cr_made ha (by omega) hn
  obtain ⟨M1, e1⟩ : ∃ M, crA ns n = M := ⟨_, rfl⟩
  obtain ⟨k, ek⟩ : ∃ k, crK ns n = k := ⟨_, rfl⟩
  rw [e1] at q1 q2 q4 hC
  rw [ek] at q3 q4 hC
  have f2 := lg1 (ns := M1) hn
  have p2 := atom1 q1 (n := 2000 + n) (by omega) (by omega)
  rw [← f2.1, ← f2.2] at p2
  obtain ⟨M2, e2⟩ : ∃ M, lgA M1 n = M := ⟨_, rfl⟩
  obtain ⟨s, es⟩ : ∃ k, lgK M1 n = k := ⟨_, rfl⟩
  rw [e2, es] at p2
  have l2 := p2.len
  have i2 := p2.pre.length_le
  have p3 := mk1 p2.all (kind := 6) (x := s) (y := 0) (.inr rfl) ⟨p2.k0, p2.k1⟩ (by omega)
  obtain ⟨M3, e3⟩ : ∃ M, makeA M2 6 s 0 = M := ⟨_, rfl⟩
  obtain ⟨u, eu⟩ : ∃ k, makeK M2 6 s 0 = k := ⟨_, rfl⟩
  rw [e3, eu] at p3
  have l3 := p3.len
  have i3 := p3.pre.length_le
  have hr := pkN_range hn hm
  have p4 := atom1 p3.all (n := pkN n m) (by omega) (by omega)
  have f4 := pk1 (ns := M3) hn hm
  rw [← f4.1, ← f4.2] at p4
  obtain ⟨M4, e4⟩ : ∃ M, pkA M3 n m = M := ⟨_, rfl⟩
  obtain ⟨x, ex⟩ : ∃ k, pkK M3 n m = k := ⟨_, rfl⟩
  rw [e4, ex] at p4
  have l4 := p4.len
  have i4 := p4.pre.length_le
  have p5 := atom1 p4.all (n := pkN n m) (by omega) (by omega)
  have f5 := pk1 (ns := M4) hm hn
  rw [pkN_sym m n] at f5
  rw [← f5.1, ← f5.2] at p5
  obtain ⟨M5, e5⟩ : ∃ M, pkA M4 m n = M := ⟨_, rfl⟩
  obtain ⟨y, ey⟩ : ∃ k, pkK M4 m n = k := ⟨_, rfl⟩
  rw [e5, ey] at p5
  have l5 := p5.len
  have i5 := p5.pre.length_le
  have nx := p4.isK p5.pre
  have ny := p5.isK (List.prefix_refl _)
  have hxy : x = y := nd_one p5.all (isK_at nx.1).1 (isK_at ny.1).1 (nx.2.trans ny.2.symm)
  subst hxy
  have c3 := hC.on (p2.pre.trans p3.pre)
  have ns3 := p2.isK p3.pre
  have hss : s0 = s := nd_one p3.all (isK_at c3.sec.1).1 (isK_at ns3.1).1 (c3.sec.2.trans ns3.2.symm)
  subst hss
  have nu := p3.isK (List.prefix_refl _)
  have hpu : p = u := nd_one p3.all (isK_at c3.pub.1).1 (isK_at nu.1).1 (c3.pub.2.trans nu.2.symm)
  subst hpu
  have c5 := (c3.on p4.pre).on p5.pre
  have s5 := c5.sec
  have k4 := p4.k0
  have k41 := p4.k1
  have k2 := p2.k0
  have k21 := p2.k1
  have k3 := p3.k0
  have k31 := p3.k1
  refine ⟨M1, M2, M3, M4, M5, k, s0, p, x, e1, ek, e2, es, e3, eu, e4, ex, e5, ey, by omega, by omega, by omega, by omega, ⟨q1, by omega⟩, ⟨p2.all, by omega⟩, ⟨p3.all, by omega⟩, ⟨p4.all, by omega⟩, ⟨p5.all, by omega⟩, hC.tells hn, fun bs hbs => ?_⟩
  have hx : ∀ j : Nat, j < M5.length → (j : Int) ∈ [s0, x] → (M5.getD j Nd.zero).k = 1 := fun j hj hm => by
    simp only [List.mem_cons, List.not_mem_nil, or_false] at hm
    rcases hm with e | e
    · have := s5.2; rw [← e, ndAt_def, Int.toNat_natCast] at this; rw [this]
    · have := nx.2; rw [← e, ndAt_def, Int.toNat_natCast] at this; rw [this]
  obtain ⟨⟨L, w1, w2, t1, -⟩, hca, -, -⟩ := c5
  have hk5 := (isK_at t1.1).1
  have hc5 := (isK_at hca.1).1
  have hcn : (M5.getD c.toNat Nd.zero) = ⟨1, 1000, 0, 0⟩ := hca.2
  have hkn : (M5.getD k.toNat Nd.zero) = ⟨8, 0, c, L⟩ := t1.2
  have hg : (goodL M5 [s0, x] M5.length).getD c.toNat false = false := by
    refine atom_not p5.all hx (by omega) (by rw [hcn]) (by rw [hcn]; decide) (fun hmem => ?_)
    rw [Int.toNat_of_nonneg hc5.1] at hmem
    simp only [List.mem_cons, List.not_mem_nil, or_false] at hmem
    rcases hmem with e | e
    · have h1 := hca.2; rw [e, s5.2] at h1; simp only [Nd.mk.injEq] at h1; omega
    · have h1 := hca.2; rw [e, nx.2] at h1; simp only [Nd.mk.injEq] at h1; omega
  have hnot := two_not p5.all hx (k := k.toNat) (by omega) (by rw [hkn]; simp) (by rw [hkn]; rfl) (by rw [hkn]; exact hg)
  rcases hbs with ⟨h1, h2⟩ | ⟨_, rfl⟩
  · unfold derB
    cases hb : bs.getD k.toNat false with
    | false => simp
    | true => exact absurd ((h2.iff k.toNat (by omega)).1 hb) hnot
  · unfold derB; simp
end Go.Proofs.Ytffnadnndmmliaa
