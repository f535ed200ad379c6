/- Lists in plain words: what a List has, also in an arena that goes on. -/
import Derived.Test.YtffnadnndmmliaaPlainFM
import Derived.Test.YtffnadnndmmliaaPlainPlaces
namespace Go.Proofs.Ytffnadnndmmliaa
open Go.RowKit
set_option linter.unusedVariables false
theorem isK_pre {ns ms : List Nd} (h : ns <+: ms) {k j : Int} (hk : isK ns k j = true) : isK ms k j = true ∧ ndAt ms k = ndAt ns k ∧ 0 ≤ k ∧ k < (ns.length : Int) := by
  unfold isK okAt at hk
  simp only [Bool.and_eq_true, decide_eq_true_eq] at hk
  obtain ⟨⟨h1, h2⟩, h3⟩ := hk
  have h4 := inB_true h1
  have e := ndAt_pre h h4.1 (show k < (ns.length : Int) by omega)
  have hl := h.length_le
  refine ⟨?_, e, h4.1, by omega⟩
  unfold isK okAt
  rw [e, inB_mk ⟨h4.1, by omega⟩, show ms.getD k.toNat Nd.zero = ns.getD k.toNat Nd.zero from e, h2, decide_eq_true h3]; rfl
theorem partsN_pre {ns ms : List Nd} (h : ns <+: ms) : ∀ (m : Nat) (k : Int) (xs : List Int), partsN ns m k = some xs → partsN ms m k = some xs
  | 0, k, xs, hp => by
    rw [partsN] at hp ⊢
    split at hp
    · rename_i hk
      obtain ⟨h1, h2, -, -⟩ := isK_pre h hk.1
      rw [if_pos ⟨h1, by rw [h2]; exact hk.2⟩]; exact hp
    · cases hp
  | m + 1, k, xs, hp => by
    rw [partsN] at hp ⊢
    split at hp
    · rename_i hk
      obtain ⟨h1, h2, -, -⟩ := isK_pre h hk
      rw [if_pos h1, h2]
      cases hq : partsN ns m (ndAt ns k).b with
      | none => rw [hq] at hp; cases hp
      | some ys => rw [partsN_pre h m _ ys hq]; rw [hq] at hp; exact hp
    · cases hp
/-- What a List gives. -/
structure Lst (ns ms : List Nd) (k : Int) (xs : List Int) : Prop where
  all : allFrom ms ms 0 = true
  pre : ns <+: ms
  len : ms.length ≤ ns.length + xs.length + 1
  k0 : 0 ≤ k
  k1 : k < (ms.length : Int)
  parts : partsN ms xs.length k = some xs
theorem lst {ns : List Nd} (h : allFrom ns ns 0 = true) : ∀ (xs : List Int), (∀ x ∈ xs, 0 ≤ x ∧ x < (ns.length : Int)) → ns.length + xs.length < 2999 → Lst ns (listF xs ns).1 (listF xs ns).2 xs
  | [], _, hr => by
    have p := put1 h (x := ⟨1, 0, 0, 0⟩) (atom_ok (by decide)) (by simp at hr; omega)
    rw [listF_nil]
    refine ⟨p.all, p.pre, by have := p.len; simpa using this, p.k0, p.k1, ?_⟩
    show partsN _ 0 _ = _
    rw [partsN, if_pos ⟨by rw [isK_of p.all p.k0 p.k1]; exact decide_eq_true (by rw [p.nd]), by rw [p.nd]⟩]
  | x :: xs, hx, hr => by
    have q := lst h xs (fun y hy => hx y (List.mem_cons_of_mem _ hy)) (by simp at hr; omega)
    have hl := q.len
    have hi := q.pre.length_le
    have hx0 := hx x (List.mem_cons_self ..)
    have hr' : ns.length + xs.length + 1 < 2999 := by simpa [Nat.add_assoc] using hr
    have k0 := q.k0
    have k1 := q.k1
    have p := put1 q.all (x := ⟨2, 0, x, (listF xs ns).2⟩) (two_ok (by decide) (by decide) (by omega) (by omega)) (by omega)
    rw [listF_cons]
    simp only [(makeK2 _ _ _).1, (makeK2 _ _ _).2]
    refine ⟨p.all, q.pre.trans p.pre, by have := p.len; simp; omega, p.k0, p.k1, ?_⟩
    have hk : isK (putA (listF xs ns).1 ⟨2, 0, x, (listF xs ns).2⟩) (putK (listF xs ns).1 ⟨2, 0, x, (listF xs ns).2⟩) 2 = true := by rw [isK_of p.all p.k0 p.k1]; exact decide_eq_true (by rw [p.nd])
    show partsN _ (xs.length + 1) _ = _
    rw [partsN_next hk, p.nd]
    simp only
    rw [partsN_pre p.pre _ _ _ q.parts]
    rfl
theorem Lst.parts' {ns ms m2 : List Nd} {k : Int} {xs : List Int} (h : Lst ns ms k xs) (hp : ms <+: m2) {n : Int} (hn : n = (xs.length : Int)) : partsV m2 k n = xs ∧ partsB m2 k n = true := by
  refine parts_some ?_
  unfold partsR
  rw [if_neg (by omega), hn, Int.toNat_natCast]
  exact partsN_pre hp _ _ _ h.parts
/-- A put of a kind with two terms, one with one term, an Atom. -/
theorem mk2 {ns : List Nd} {kind x y : Int} (h : allFrom ns ns 0 = true) (hk : kind = 2 ∨ kind = 4 ∨ kind = 5 ∨ kind = 8 ∨ kind = 9) (hx : 0 ≤ x ∧ x < (ns.length : Int)) (hy : 0 ≤ y ∧ y < (ns.length : Int)) (hr : ns.length < 3000) : Put1 ns (makeA ns kind x y) (makeK ns kind x y) ⟨kind, 0, x, y⟩ := by
  have ho : oneK kind = false := by rcases hk with rfl | rfl | rfl | rfl | rfl <;> rfl
  obtain ⟨e1, e2⟩ := mk_two (ns := ns) (kind := kind) (x := x) (y := y) (by omega) (by omega) ho
  rw [e1, e2]
  exact put1 h (two_ok (by omega) ho hx hy) hr
theorem mk1 {ns : List Nd} {kind x y : Int} (h : allFrom ns ns 0 = true) (hk : kind = 3 ∨ kind = 6) (hx : 0 ≤ x ∧ x < (ns.length : Int)) (hr : ns.length < 3000) : Put1 ns (makeA ns kind x y) (makeK ns kind x y) ⟨kind, 0, x, 0⟩ := by
  have ho : oneK kind = true := by rcases hk with rfl | rfl <;> rfl
  obtain ⟨e1, e2⟩ := mk_one (ns := ns) (kind := kind) (x := x) (y := y) (by omega) (by omega) ho
  rw [e1, e2]
  exact put1 h (one_ok (by omega) ho hx) hr
theorem atom1 {ns : List Nd} {n : Int} (h : allFrom ns ns 0 = true) (hn : 0 ≤ n ∧ n ≤ 999999) (hr : ns.length < 3000) : Put1 ns (putA ns ⟨1, n, 0, 0⟩) (putK ns ⟨1, n, 0, 0⟩) ⟨1, n, 0, 0⟩ := put1 h (atom_ok hn) hr
/-- What a put gives, further on. -/
theorem Put1.isK {ns ms m2 : List Nd} {k : Int} {x : Nd} (h : Put1 ns ms k x) (hp : ms <+: m2) : isK m2 k x.k = true ∧ ndAt m2 k = x := by
  have h1 : Go.Proofs.Ytffnadnndmmliaa.isK ms k x.k = true := by rw [isK_of h.all h.k0 h.k1]; exact decide_eq_true (by rw [h.nd])
  obtain ⟨q1, q2, -, -⟩ := isK_pre hp h1
  exact ⟨q1, q2.trans h.nd⟩
theorem Put1.num {ns ms m2 : List Nd} {k n : Int} (h : Put1 ns ms k ⟨1, n, 0, 0⟩) (hp : ms <+: m2) : Go.Proofs.Ytffnadnndmmliaa.isK m2 k 1 = true ∧ numV m2 k = n := by
  obtain ⟨h1, h2⟩ := h.isK hp
  refine ⟨h1, ?_⟩
  unfold numV
  rw [if_pos h1, h2]
/-- Nodes that are put fit. -/
theorem putA_fits {ns : List Nd} {x : Nd} (hf : ∀ y ∈ ns, y.Fits) (hl : ns.length ≤ 1048576) : ∀ y ∈ putA ns x, y.Fits := by
  unfold putA
  split
  · rename_i h
    intro y hy
    rcases List.mem_append.1 hy with hy | hy
    · exact hf y hy
    · rw [List.mem_singleton.1 hy]
      exact right_fits h.1 (by omega)
  · exact hf
theorem makeA_fits {ns : List Nd} {k x y : Int} (hf : ∀ y ∈ ns, y.Fits) (hl : ns.length ≤ 1048576) : ∀ z ∈ makeA ns k x y, z.Fits := by
  unfold makeA; split
  · exact hf
  · exact putA_fits hf hl
theorem listF_fits (xs : List Int) {ns : List Nd} (hf : ∀ y ∈ ns, y.Fits) (hl : ns.length ≤ 1048576) : ∀ z ∈ (listF xs ns).1, z.Fits := by
  induction xs with
  | nil => rw [listF_nil]; exact putA_fits hf hl
  | cons x xs ih => rw [listF_cons]; simp only; exact makeA_fits ih (listF_le xs hl)
end Go.Proofs.Ytffnadnndmmliaa
