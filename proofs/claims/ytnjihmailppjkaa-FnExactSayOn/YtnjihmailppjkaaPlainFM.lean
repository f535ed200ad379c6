/- What FnMakes says of terms that are made of others, in plain words. -/
import Derived.Test.YtnjihmailppjkaaPlainText
import Derived.Test.YtnjihmailppjkaaLawArena2
import Derived.Test.YtnjihmailppjkaaPlainPlaces
import Derived.Test.YtnjihmailppjkaaMakeI
import Derived.Test.YtnjihmailppjkaaMakeList
import Derived.Test.YtnjihmailppjkaaMakeParts
namespace Go.Proofs.Ytnjihmailppjkaa
open Go.RowKit
set_option linter.unusedVariables false

theorem two_ok {k a b e : Int} (hk : 2 ≤ k ∧ k ≤ 9) (ho : oneK k = false) (ha : 0 ≤ a ∧ a < e) (hb : 0 ≤ b ∧ b < e) : nodeB ⟨k, 0, a, b⟩ e = true := by
  have h1 : inB k 1 9 = true := inB_mk ⟨by omega, hk.2⟩
  have h2 : inB a 0 (e - 1) = true := inB_mk ⟨ha.1, by omega⟩
  have h3 : inB b 0 (e - 1) = true := inB_mk ⟨hb.1, by omega⟩
  have h4 : k ≠ 1 := by omega
  exact (nodeB_two (x := ⟨k, 0, a, b⟩) h1 h4 rfl h2 ho).trans h3
theorem one_ok {k a e : Int} (hk : 2 ≤ k ∧ k ≤ 9) (ho : oneK k = true) (ha : 0 ≤ a ∧ a < e) : nodeB ⟨k, 0, a, 0⟩ e = true := by
  have h1 : inB k 1 9 = true := inB_mk ⟨by omega, hk.2⟩
  have h2 : inB a 0 (e - 1) = true := inB_mk ⟨ha.1, by omega⟩
  have h4 : k ≠ 1 := by omega
  exact (nodeB_one (x := ⟨k, 0, a, 0⟩) h1 h4 rfl h2 ho).trans rfl
theorem atom_ok {n e : Int} (hn : 0 ≤ n ∧ n ≤ 999999) : nodeB ⟨1, n, 0, 0⟩ e = true := by
  rw [nodeB_atom (inB_mk ⟨by simp, by simp⟩) rfl, inB_mk hn]; rfl
/-- What a put gives. -/
structure Put1 (ns ms : List Nd) (k : Int) (x : Nd) : Prop where
  all : allFrom ms ms 0 = true
  pre : ns <+: ms
  len : ms.length ≤ ns.length + 1
  k0 : 0 ≤ k
  k1 : k < (ms.length : Int)
  nd : ndAt ms k = x
theorem put1 {ns : List Nd} {x : Nd} (h : allFrom ns ns 0 = true) (hx : nodeB x ns.length = true) (hr : ns.length < 3000) : Put1 ns (putA ns x) (putK ns x) x := by
  have h0 : 0 ≤ putK ns x := by
    unfold putK
    rw [if_pos hx]
    split
    · omega
    · rename_i hn
      rcases findN_range ns x with e | e
      · exact absurd ⟨e, hr⟩ hn
      · exact e.1
  obtain ⟨g1, g2⟩ := put_at h0
  exact ⟨all_put h, putA_pre _ _, put_len.1, h0, by omega, g2⟩
theorem ndAt_pre {ns ms : List Nd} (h : ns <+: ms) {k : Int} (h0 : 0 ≤ k) (h1 : k < (ns.length : Int)) : ndAt ms k = ndAt ns k := pre_get h (by omega)
theorem isK_of {ms : List Nd} (h : allFrom ms ms 0 = true) {k j : Int} (h0 : 0 ≤ k) (h1 : k < (ms.length : Int)) : isK ms k j = decide ((ndAt ms k).k = j) := by
  have h2 := (all_at h (show k.toNat < ms.length by omega)).1
  rw [show ((k.toNat : Nat) : Int) = k by omega] at h2
  unfold isK okAt
  rw [inB_mk ⟨h0, by omega⟩, h2]; rfl
theorem okAt_of {ms : List Nd} (h : allFrom ms ms 0 = true) {k : Int} (h0 : 0 ≤ k) (h1 : k < (ms.length : Int)) : okAt ms k = true := by
  have h2 := (all_at h (show k.toNat < ms.length by omega)).1
  rw [show ((k.toNat : Nat) : Int) = k by omega] at h2
  unfold okAt
  rw [inB_mk ⟨h0, by omega⟩, h2]; rfl
theorem txt_pre {ns ms : List Nd} (h : ns <+: ms) : ∀ (f k : Nat), Good ns k → txt ms f k = txt ns f k
  | 0, _, _ => rfl
  | f + 1, k, hg => by
    rw [txt, txt, pre_get h hg.1]
    rcases nodeB_true (hg.2 k (Nat.le_refl _)) with h1 | h1 | h1
    · rw [if_pos h1.1, if_pos h1.1]
    · have hk : ¬ (ns.getD k Nd.zero).k = 1 := by omega
      rw [if_neg hk, if_neg hk, if_pos h1.2.2.2.2.2.1, if_pos h1.2.2.2.2.2.1, txt_pre h f _ (hg.down (by omega))]
    · have hk : ¬ (ns.getD k Nd.zero).k = 1 := by omega
      have h7 : ¬ oneK (ns.getD k Nd.zero).k = true := by rw [h1.2.2.2.2.2.1]; simp
      rw [if_neg hk, if_neg hk, if_neg h7, if_neg h7, txt_pre h f _ (hg.down (by omega)), txt_pre h f _ (hg.down (by omega))]
theorem sizes_pre {ns ms : List Nd} (h : ns <+: ms) : ∀ m, m ≤ ns.length → sizesN ms m = sizesN ns m
  | 0, _ => rfl
  | m + 1, hm => by rw [sizesN, sizesN, sizes_pre h m (by omega), pre_get h (by omega)]
theorem txS_pre {ns ms : List Nd} (h : ns <+: ms) (ha : allFrom ns ns 0 = true) {k : Int} (h0 : 0 ≤ k) (h1 : k < (ns.length : Int)) : txS ms k = txS ns k := by
  obtain ⟨i, rfl⟩ := Int.eq_ofNat_of_zero_le h0
  have hi : i < ns.length := by omega
  have hl := h.length_le
  have hs : sizeN ms (i : Int) = sizeN ns (i : Int) := by
    rw [sizeN_in ms i (by omega), sizeN_in ns i hi]
    unfold szv
    rw [sizes_pre h (i + 1) (by omega)]
  unfold txS txB
  rw [hs]
  simp only [Int.toNat_natCast]
  unfold tx
  rw [txt_pre h _ i (all_good ha hi)]
theorem cmpB_flip : ∀ a b : List UInt8, Lib.compareBytes b a = - Lib.compareBytes a b
  | [], [] => by simp [Lib.compareBytes]
  | [], _ :: _ => by simp [Lib.compareBytes]
  | _ :: _, [] => by simp [Lib.compareBytes]
  | x :: a, y :: b => by
    have ih := cmpB_flip a b
    have hx : ∀ u v : UInt8, (u < v) = (u.toNat < v.toNat) := fun u v => propext UInt8.lt_iff_toNat_lt
    simp only [Lib.compareBytes, hx]
    split
    · split
      · omega
      · simp
    · split
      · simp
      · exact ih
theorem dh_same {ns ms : List Nd} (hp : ns <+: ms) (ha : allFrom ns ns 0 = true) {x y u v : Int} (hx0 : 0 ≤ x) (hx1 : x < (ns.length : Int)) (hy0 : 0 ≤ y) (hy1 : y < (ns.length : Int)) (hv : (ndAt ns v).a = y) (hu : (ndAt ms u).a = x) : dhN ms y u = dhN ns x v := by
  unfold dhN
  rw [hv, hu]
  by_cases e : x = y
  · subst e; simp
  · have hc : cmpS (txS ms y) (txS ms x) = - cmpS (txS ns x) (txS ns y) := by
      rw [txS_pre hp ha hx0 hx1, txS_pre hp ha hy0 hy1]; exact cmpB_flip _ _
    have hs : swapB ms y x = !swapB ns x y := by
      unfold swapB
      rw [hc]
      rcases cmpS_range (txS ns x) (txS ns y) with h | h | h
      · rw [h]; simp
      · rw [h]
        by_cases hl : x < y
        · have : ¬ y < x := by omega
          simp [hl, this]
        · have : y < x := by omega
          simp [hl, this]
      · rw [h]; simp
    rw [hs]
    cases swapB ns x y <;> simp
theorem mk_two {ns : List Nd} {kind x y : Int} (h1 : kind ≠ 1) (h7 : kind ≠ 7) (ho : oneK kind = false) : makeA ns kind x y = putA ns ⟨kind, 0, x, y⟩ ∧ makeK ns kind x y = putK ns ⟨kind, 0, x, y⟩ := by
  obtain ⟨e1, e2⟩ := make_good (ns := ns) (x := x) (y := y) ⟨h1, h7⟩
  rw [e1, e2]
  unfold mkNd
  rw [if_neg (by rw [ho]; simp)]
  exact ⟨rfl, rfl⟩
theorem mk_one {ns : List Nd} {kind x y : Int} (h1 : kind ≠ 1) (h7 : kind ≠ 7) (ho : oneK kind = true) : makeA ns kind x y = putA ns ⟨kind, 0, x, 0⟩ ∧ makeK ns kind x y = putK ns ⟨kind, 0, x, 0⟩ := by
  obtain ⟨e1, e2⟩ := make_good (ns := ns) (x := x) (y := y) ⟨h1, h7⟩
  rw [e1, e2]
  unfold mkNd
  rw [if_pos ho]
  exact ⟨rfl, rfl⟩
/-- A sealed one opens with its key, and with no other. -/
theorem fm_open {a1 : List Nd} {s x y : Int} (ha : allFrom a1 a1 0 = true) (h0 : 0 ≤ s) (h1 : s < (a1.length : Int)) (hn : ndAt a1 s = ⟨5, 0, x, y⟩) : openB a1 x s = true ∧ openV a1 x s = y ∧ openB a1 (x + 1) s = false := by
  have hk := isK_of ha (j := 5) h0 h1
  have hb : openB a1 x s = true := by unfold openB; rw [hk, hn]; simp
  refine ⟨hb, ?_, ?_⟩
  · unfold openV; rw [if_pos hb, hn]
  · unfold openB; rw [hk, hn]; simp; omega
theorem fm_sign {a4 : List Nd} {u v g x y : Int} (ha : allFrom a4 a4 0 = true) (hu0 : 0 ≤ u) (hu1 : u < (a4.length : Int)) (hv0 : 0 ≤ v) (hv1 : v < (a4.length : Int)) (hg0 : 0 ≤ g) (hg1 : g < (a4.length : Int))
    (hu : ndAt a4 u = ⟨6, 0, x, 0⟩) (hv : ndAt a4 v = ⟨6, 0, y, 0⟩) (hg : ndAt a4 g = ⟨8, 0, x, y⟩) : signB a4 u g = true ∧ signV a4 u g = y ∧ (signB a4 v g = true → x = y) := by
  have hb : signB a4 u g = true := by unfold signB; rw [isK_of ha hu0 hu1, isK_of ha hg0 hg1, hu, hg]; simp
  refine ⟨hb, by unfold signV; rw [if_pos hb, hg], fun h => ?_⟩
  unfold signB at h
  rw [isK_of ha hv0 hv1, isK_of ha hg0 hg1, hv, hg] at h
  simpa using h
theorem fm_dh {a4 : List Nd} {u v x y : Int} (ha : allFrom a4 a4 0 = true) (hl : a4.length < 2999) (hu0 : 0 ≤ u) (hu1 : u < (a4.length : Int)) (hv0 : 0 ≤ v) (hv1 : v < (a4.length : Int)) (hx0 : 0 ≤ x) (hx1 : x < (a4.length : Int)) (hy0 : 0 ≤ y) (hy1 : y < (a4.length : Int))
    (hu : ndAt a4 u = ⟨6, 0, x, 0⟩) (hv : ndAt a4 v = ⟨6, 0, y, 0⟩) : ∃ N : Nd, Put1 a4 (dhA a4 x v) (dhK a4 x v) N ∧ dhA (dhA a4 x v) y u = dhA a4 x v ∧ dhK (dhA a4 x v) y u = dhK a4 x v := by
  have hb : dhB a4 x v = true := by unfold dhB; rw [isK_of ha hv0 hv1, okAt_of ha hx0 hx1, hv]; simp
  have hn : nodeB (dhN a4 x v) a4.length = true := by
    unfold dhN
    rw [hv]
    simp only
    split <;> exact two_ok (by decide) (by decide) (by omega) (by omega)
  have hp := put1 ha hn (by omega)
  have eA : dhA a4 x v = putA a4 (dhN a4 x v) := by unfold dhA; rw [if_pos hb]
  have eK : dhK a4 x v = putK a4 (dhN a4 x v) := by unfold dhK; rw [if_pos hb]
  rw [eA, eK]
  refine ⟨_, hp, ?_⟩
  generalize putA a4 (dhN a4 x v) = a5 at hp
  generalize putK a4 (dhN a4 x v) = d at hp
  have hl5 := hp.pre.length_le
  have hu5 : ndAt a5 u = ⟨6, 0, x, 0⟩ := (ndAt_pre hp.pre hu0 hu1).trans hu
  have hb5 : dhB a5 y u = true := by unfold dhB; rw [isK_of hp.all hu0 (by omega), okAt_of hp.all hy0 (by omega), hu5]; simp
  have hN : dhN a5 y u = dhN a4 x v := dh_same hp.pre ha hx0 hx1 hy0 hy1 (by rw [hv]) (by rw [hu5])
  have h0 := hp.k0
  have h1 := hp.k1
  obtain ⟨g1, g2⟩ := put_self hp.all (show d.toNat < a5.length by omega)
  have hnd : a5.getD d.toNat Nd.zero = dhN a4 x v := hp.nd
  rw [hnd] at g1 g2
  unfold dhA dhK
  rw [if_pos hb5, if_pos hb5, hN, g1, g2]
  exact ⟨rfl, by omega⟩
theorem fm_list {a6 : List Nd} {x y s : Int} (ha : allFrom a6 a6 0 = true) (hl : a6.length < 2990) (hx0 : 0 ≤ x) (hx1 : x < (a6.length : Int)) (hy0 : 0 ≤ y) (hy1 : y < (a6.length : Int)) (hs0 : 0 ≤ s) (hs1 : s < (a6.length : Int)) :
    allFrom (listA a6 [x, y, s]) (listA a6 [x, y, s]) 0 = true ∧ (listA a6 [x, y, s]).length ≤ a6.length + 4 ∧ partsR (listA a6 [x, y, s]) (listK a6 [x, y, s]) 3 = some [x, y, s] ∧ partsR (listA a6 [x, y, s]) (listK a6 [x, y, s]) 2 = none := by
  have p0 := put1 ha (x := ⟨1, 0, 0, 0⟩) (atom_ok (by decide)) (by omega)
  have e3 : listF [x, y, s] a6 = (putA (putA (putA (putA a6 ⟨1, 0, 0, 0⟩) ⟨2, 0, s, putK a6 ⟨1, 0, 0, 0⟩⟩) ⟨2, 0, y, putK (putA a6 ⟨1, 0, 0, 0⟩) ⟨2, 0, s, putK a6 ⟨1, 0, 0, 0⟩⟩⟩) ⟨2, 0, x, putK (putA (putA a6 ⟨1, 0, 0, 0⟩) ⟨2, 0, s, putK a6 ⟨1, 0, 0, 0⟩⟩) ⟨2, 0, y, putK (putA a6 ⟨1, 0, 0, 0⟩) ⟨2, 0, s, putK a6 ⟨1, 0, 0, 0⟩⟩⟩⟩,
      putK (putA (putA (putA a6 ⟨1, 0, 0, 0⟩) ⟨2, 0, s, putK a6 ⟨1, 0, 0, 0⟩⟩) ⟨2, 0, y, putK (putA a6 ⟨1, 0, 0, 0⟩) ⟨2, 0, s, putK a6 ⟨1, 0, 0, 0⟩⟩⟩) ⟨2, 0, x, putK (putA (putA a6 ⟨1, 0, 0, 0⟩) ⟨2, 0, s, putK a6 ⟨1, 0, 0, 0⟩⟩) ⟨2, 0, y, putK (putA a6 ⟨1, 0, 0, 0⟩) ⟨2, 0, s, putK a6 ⟨1, 0, 0, 0⟩⟩⟩⟩) := by
    rw [listF_cons, listF_cons, listF_cons, listF_nil]
    simp only [(makeK2 _ _ _).1, (makeK2 _ _ _).2]
  unfold listA listK
  rw [e3]
  simp only
  generalize putA a6 ⟨1, 0, 0, 0⟩ = m0 at p0 ⊢
  generalize putK a6 ⟨1, 0, 0, 0⟩ = k0 at p0 ⊢
  have q0 := p0.k0
  have q1 := p0.k1
  have l0 := p0.len
  have i0 := p0.pre.length_le
  have p1 := put1 p0.all (x := ⟨2, 0, s, k0⟩) (two_ok (by decide) (by decide) (by omega) (by omega)) (by omega)
  generalize putA m0 ⟨2, 0, s, k0⟩ = m1 at p1 ⊢
  generalize putK m0 ⟨2, 0, s, k0⟩ = k1 at p1 ⊢
  have r0 := p1.k0
  have r1 := p1.k1
  have l1 := p1.len
  have i1 := p1.pre.length_le
  have p2 := put1 p1.all (x := ⟨2, 0, y, k1⟩) (two_ok (by decide) (by decide) (by omega) (by omega)) (by omega)
  generalize putA m1 ⟨2, 0, y, k1⟩ = m2 at p2 ⊢
  generalize putK m1 ⟨2, 0, y, k1⟩ = k2 at p2 ⊢
  have s0 := p2.k0
  have s1 := p2.k1
  have l2 := p2.len
  have i2 := p2.pre.length_le
  have p3 := put1 p2.all (x := ⟨2, 0, x, k2⟩) (two_ok (by decide) (by decide) (by omega) (by omega)) (by omega)
  generalize putA m2 ⟨2, 0, x, k2⟩ = m3 at p3 ⊢
  generalize putK m2 ⟨2, 0, x, k2⟩ = k3 at p3 ⊢
  have t0 := p3.k0
  have t1 := p3.k1
  have l3 := p3.len
  have i3 := p3.pre.length_le
  rw [if_neg (by omega)]
  have n3 := p3.nd
  have n2 : ndAt m3 k2 = ⟨2, 0, y, k1⟩ := (ndAt_pre p3.pre s0 s1).trans p2.nd
  have n1 : ndAt m3 k1 = ⟨2, 0, s, k0⟩ := (ndAt_pre (p2.pre.trans p3.pre) r0 r1).trans p1.nd
  have n0 : ndAt m3 k0 = ⟨1, 0, 0, 0⟩ := (ndAt_pre ((p1.pre.trans p2.pre).trans p3.pre) q0 q1).trans p0.nd
  have c3 : isK m3 k3 2 = true := by rw [isK_of p3.all t0 t1, n3]; rfl
  have c2 : isK m3 k2 2 = true := by rw [isK_of p3.all s0 (by omega), n2]; rfl
  have c1 : isK m3 k1 2 = true := by rw [isK_of p3.all r0 (by omega), n1]; rfl
  have d1 : isK m3 k1 1 = false := by rw [isK_of p3.all r0 (by omega), n1]; rfl
  have c0 : isK m3 k0 1 = true := by rw [isK_of p3.all q0 (by omega), n0]; rfl
  refine ⟨p3.all, by omega, ?_, ?_⟩
  · unfold partsR
    rw [if_neg (by omega), show (3 : Int).toNat = 3 from rfl, partsN_next c3, n3, partsN_next c2, n2, partsN_next c1, n1, partsN, if_pos ⟨c0, by rw [n0]⟩]
    rfl
  · unfold partsR
    rw [if_neg (by omega), show (2 : Int).toNat = 2 from rfl, partsN_next c3, n3, partsN_next c2, n2, partsN, if_neg (by rw [d1]; simp)]
    rfl
theorem fm_num {a7 : List Nd} {t : Int} (ha : allFrom a7 a7 0 = true) (hl : a7.length < 2999) (ht : 0 ≤ t ∧ t ≤ 999999) : isK (putA a7 ⟨1, t, 0, 0⟩) (putK a7 ⟨1, t, 0, 0⟩) 1 = true ∧ numV (putA a7 ⟨1, t, 0, 0⟩) (putK a7 ⟨1, t, 0, 0⟩) = t ∧ arenaB (putA a7 ⟨1, t, 0, 0⟩) = true := by
  have p := put1 ha (x := ⟨1, t, 0, 0⟩) (atom_ok ht) (by omega)
  have hb : isK (putA a7 ⟨1, t, 0, 0⟩) (putK a7 ⟨1, t, 0, 0⟩) 1 = true := by rw [isK_of p.all p.k0 p.k1, p.nd]; rfl
  have hl8 := p.len
  refine ⟨hb, ?_, ?_⟩
  · unfold numV; rw [if_pos hb, p.nd]
  · unfold arenaB; rw [p.all]; simp; omega
end Go.Proofs.Ytnjihmailppjkaa

namespace Go.Proofs.Ytnjihmailppjkaa
open Go.RowKit
set_option linter.unusedVariables false
theorem isK_pre {ns ms : List Nd} (h : ns <+: ms) {k j : Int} (hk : isK ns k j = true) : isK ms k j = true ∧ ndAt ms k = ndAt ns k ∧ 0 ≤ k ∧ k < (ns.length : Int) := by
  unfold isK okAt at hk
  simp only [Bool.and_eq_true, decide_eq_true_eq] at hk
  obtain ⟨⟨h1, h2⟩, h3⟩ := hk
  have h4 := inB_true h1
  have e := ndAt_pre h h4.1 (show k < (ns.length : Int) by omega)
  have hl := h.length_le
  refine ⟨?_, e, h4.1, by omega⟩
  unfold isK okAt
  rw [e, inB_mk ⟨h4.1, by omega⟩, show ms.getD k.toNat Nd.zero = ns.getD k.toNat Nd.zero from e, h2, decide_eq_true h3]; rfl
theorem partsN_pre {ns ms : List Nd} (h : ns <+: ms) : ∀ (m : Nat) (k : Int) (xs : List Int), partsN ns m k = some xs → partsN ms m k = some xs
  | 0, k, xs, hp => by
    rw [partsN] at hp ⊢
    split at hp
    · rename_i hk
      obtain ⟨h1, h2, -, -⟩ := isK_pre h hk.1
      rw [if_pos ⟨h1, by rw [h2]; exact hk.2⟩]; exact hp
    · cases hp
  | m + 1, k, xs, hp => by
    rw [partsN] at hp ⊢
    split at hp
    · rename_i hk
      obtain ⟨h1, h2, -, -⟩ := isK_pre h hk
      rw [if_pos h1, h2]
      cases hq : partsN ns m (ndAt ns k).b with
      | none => rw [hq] at hp; cases hp
      | some ys => rw [partsN_pre h m _ ys hq]; rw [hq] at hp; exact hp
    · cases hp
/-- What a List gives. -/
structure Lst (ns ms : List Nd) (k : Int) (xs : List Int) : Prop where
  all : allFrom ms ms 0 = true
  pre : ns <+: ms
  len : ms.length ≤ ns.length + xs.length + 1
  k0 : 0 ≤ k
  k1 : k < (ms.length : Int)
  parts : partsN ms xs.length k = some xs
theorem lst {ns : List Nd} (h : allFrom ns ns 0 = true) : ∀ (xs : List Int), (∀ x ∈ xs, 0 ≤ x ∧ x < (ns.length : Int)) → ns.length + xs.length < 2999 → Lst ns (listF xs ns).1 (listF xs ns).2 xs
  | [], _, hr => by
    have p := put1 h (x := ⟨1, 0, 0, 0⟩) (atom_ok (by decide)) (by simp at hr; omega)
    rw [listF_nil]
    refine ⟨p.all, p.pre, by have := p.len; simpa using this, p.k0, p.k1, ?_⟩
    show partsN _ 0 _ = _
    rw [partsN, if_pos ⟨by rw [isK_of p.all p.k0 p.k1]; exact decide_eq_true (by rw [p.nd]), by rw [p.nd]⟩]
  | x :: xs, hx, hr => by
    have q := lst h xs (fun y hy => hx y (List.mem_cons_of_mem _ hy)) (by simp at hr; omega)
    have hl := q.len
    have hi := q.pre.length_le
    have hx0 := hx x (List.mem_cons_self ..)
    have hr' : ns.length + xs.length + 1 < 2999 := by simpa [Nat.add_assoc] using hr
    have k0 := q.k0
    have k1 := q.k1
    have p := put1 q.all (x := ⟨2, 0, x, (listF xs ns).2⟩) (two_ok (by decide) (by decide) (by omega) (by omega)) (by omega)
    rw [listF_cons]
    simp only [(makeK2 _ _ _).1, (makeK2 _ _ _).2]
    refine ⟨p.all, q.pre.trans p.pre, by have := p.len; simp; omega, p.k0, p.k1, ?_⟩
    have hk : isK (putA (listF xs ns).1 ⟨2, 0, x, (listF xs ns).2⟩) (putK (listF xs ns).1 ⟨2, 0, x, (listF xs ns).2⟩) 2 = true := by rw [isK_of p.all p.k0 p.k1]; exact decide_eq_true (by rw [p.nd])
    show partsN _ (xs.length + 1) _ = _
    rw [partsN_next hk, p.nd]
    simp only
    rw [partsN_pre p.pre _ _ _ q.parts]
    rfl
theorem Lst.parts' {ns ms m2 : List Nd} {k : Int} {xs : List Int} (h : Lst ns ms k xs) (hp : ms <+: m2) {n : Int} (hn : n = (xs.length : Int)) : partsV m2 k n = xs ∧ partsB m2 k n = true := by
  refine parts_some ?_
  unfold partsR
  rw [if_neg (by omega), hn, Int.toNat_natCast]
  exact partsN_pre hp _ _ _ h.parts
/-- A put of a kind with two terms, one with one term, an Atom. -/
theorem mk2 {ns : List Nd} {kind x y : Int} (h : allFrom ns ns 0 = true) (hk : kind = 2 ∨ kind = 4 ∨ kind = 5 ∨ kind = 8 ∨ kind = 9) (hx : 0 ≤ x ∧ x < (ns.length : Int)) (hy : 0 ≤ y ∧ y < (ns.length : Int)) (hr : ns.length < 3000) : Put1 ns (makeA ns kind x y) (makeK ns kind x y) ⟨kind, 0, x, y⟩ := by
  have ho : oneK kind = false := by rcases hk with rfl | rfl | rfl | rfl | rfl <;> rfl
  obtain ⟨e1, e2⟩ := mk_two (ns := ns) (kind := kind) (x := x) (y := y) (by omega) (by omega) ho
  rw [e1, e2]
  exact put1 h (two_ok (by omega) ho hx hy) hr
theorem mk1 {ns : List Nd} {kind x y : Int} (h : allFrom ns ns 0 = true) (hk : kind = 3 ∨ kind = 6) (hx : 0 ≤ x ∧ x < (ns.length : Int)) (hr : ns.length < 3000) : Put1 ns (makeA ns kind x y) (makeK ns kind x y) ⟨kind, 0, x, 0⟩ := by
  have ho : oneK kind = true := by rcases hk with rfl | rfl <;> rfl
  obtain ⟨e1, e2⟩ := mk_one (ns := ns) (kind := kind) (x := x) (y := y) (by omega) (by omega) ho
  rw [e1, e2]
  exact put1 h (one_ok (by omega) ho hx) hr
theorem atom1 {ns : List Nd} {n : Int} (h : allFrom ns ns 0 = true) (hn : 0 ≤ n ∧ n ≤ 999999) (hr : ns.length < 3000) : Put1 ns (putA ns ⟨1, n, 0, 0⟩) (putK ns ⟨1, n, 0, 0⟩) ⟨1, n, 0, 0⟩ := put1 h (atom_ok hn) hr
/-- What a put gives, further on. -/
theorem Put1.isK {ns ms m2 : List Nd} {k : Int} {x : Nd} (h : Put1 ns ms k x) (hp : ms <+: m2) : isK m2 k x.k = true ∧ ndAt m2 k = x := by
  have h1 : Go.Proofs.Ytnjihmailppjkaa.isK ms k x.k = true := by rw [isK_of h.all h.k0 h.k1]; exact decide_eq_true (by rw [h.nd])
  obtain ⟨q1, q2, -, -⟩ := isK_pre hp h1
  exact ⟨q1, q2.trans h.nd⟩
theorem Put1.num {ns ms m2 : List Nd} {k n : Int} (h : Put1 ns ms k ⟨1, n, 0, 0⟩) (hp : ms <+: m2) : Go.Proofs.Ytnjihmailppjkaa.isK m2 k 1 = true ∧ numV m2 k = n := by
  obtain ⟨h1, h2⟩ := h.isK hp
  refine ⟨h1, ?_⟩
  unfold numV
  rw [if_pos h1, h2]
/-- Nodes that are put fit. -/
theorem putA_fits {ns : List Nd} {x : Nd} (hf : ∀ y ∈ ns, y.Fits) (hl : ns.length ≤ 1048576) : ∀ y ∈ putA ns x, y.Fits := by
  unfold putA
  split
  · rename_i h
    intro y hy
    rcases List.mem_append.1 hy with hy | hy
    · exact hf y hy
    · rw [List.mem_singleton.1 hy]
      exact right_fits h.1 (by omega)
  · exact hf
theorem makeA_fits {ns : List Nd} {k x y : Int} (hf : ∀ y ∈ ns, y.Fits) (hl : ns.length ≤ 1048576) : ∀ z ∈ makeA ns k x y, z.Fits := by
  unfold makeA; split
  · exact hf
  · exact putA_fits hf hl
theorem listF_fits (xs : List Int) {ns : List Nd} (hf : ∀ y ∈ ns, y.Fits) (hl : ns.length ≤ 1048576) : ∀ z ∈ (listF xs ns).1, z.Fits := by
  induction xs with
  | nil => rw [listF_nil]; exact putA_fits hf hl
  | cons x xs ih => rw [listF_cons]; simp only; exact makeA_fits ih (listF_le xs hl)
end Go.Proofs.Ytnjihmailppjkaa
