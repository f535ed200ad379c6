/- Chapter 10 in plain words: what a certificate tells, and who can make one. -/
import Derived.Test.YtlmkkkpjcpopkaaLawClip
import Derived.Test.YtlmkkkpjcpopkaaCert10
import Derived.Test.YtlmkkkpjcpopkaaListP
import Derived.Test.YtlmkkkpjcpopkaaPlainReach2
import Derived.Test.YtlmkkkpjcpopkaaSpecReach5
namespace Go.Proofs.Ytlmkkkpjcpopkaa
open Go.RowKit
set_option linter.unusedVariables false
/-- The term at k is the certificate of n, with the pub at p of the secret at s. -/
structure Cr (ms : List Nd) (k n c p s : Int) : Prop where
  top : ∃ L w1 w2, (isK ms k 8 = true ∧ ndAt ms k = ⟨8, 0, c, L⟩) ∧ partsN ms 3 L = some [w1, w2, p] ∧ (isK ms w1 1 = true ∧ ndAt ms w1 = ⟨1, 60, 0, 0⟩) ∧ (isK ms w2 1 = true ∧ ndAt ms w2 = ⟨1, n, 0, 0⟩)
  ca : isK ms c 1 = true ∧ ndAt ms c = ⟨1, 1000, 0, 0⟩
  pub : isK ms p 6 = true ∧ ndAt ms p = ⟨6, 0, s, 0⟩
  sec : isK ms s 1 = true ∧ ndAt ms s = ⟨1, 2000 + n, 0, 0⟩
theorem isKn_pre {ns ms : List Nd} (h : ns <+: ms) {k j : Int} {x : Nd} (hk : isK ns k j = true ∧ ndAt ns k = x) : isK ms k j = true ∧ ndAt ms k = x := by
  obtain ⟨h1, h2, -⟩ := isK_pre h hk.1
  exact ⟨h1, h2.trans hk.2⟩
theorem Cr.on {ns ms : List Nd} {k n c p s : Int} (hp : ns <+: ms) (h : Cr ns k n c p s) : Cr ms k n c p s := by
  obtain ⟨⟨L, w1, w2, t1, t2, t3, t4⟩, h2, h3, h4⟩ := h
  exact ⟨⟨L, w1, w2, isKn_pre hp t1, partsN_pre hp _ _ _ t2, isKn_pre hp t3, isKn_pre hp t4⟩, isKn_pre hp h2, isKn_pre hp h3, isKn_pre hp h4⟩
theorem numV_at {ms : List Nd} {k n : Int} (h : isK ms k 1 = true ∧ ndAt ms k = ⟨1, n, 0, 0⟩) : numV ms k = n := by
  unfold numV
  rw [if_pos h.1, h.2]
theorem Cr.tells {ms : List Nd} {k n c p s : Int} (h : Cr ms k n c p s) (hn : 0 ≤ n ∧ n ≤ 9) : crtB ms k = true ∧ crtN ms k = n ∧ crtP ms k = p := by
  obtain ⟨⟨L, w1, w2, t1, t2, t3, t4⟩, h2, h3, h4⟩ := h
  have eR : partsR ms L 3 = some [w1, w2, p] := by unfold partsR; rw [if_neg (by omega)]; exact t2
  have eV : partsV ms L 3 = [w1, w2, p] := by unfold partsV; rw [eR]; rfl
  have eB : partsB ms L 3 = true := by unfold partsB; rw [eR]; rfl
  have hB : crtB ms k = true := by
    unfold crtB numIs p3
    rw [t1.1, t1.2]
    simp only [eV, eB]
    simp only [List.getD_cons_zero, List.getD_cons_succ]
    rw [h2.1, numV_at h2, t3.1, numV_at t3, h3.1, t4.1, numV_at t4]
    simp [inB]; omega
  refine ⟨hB, ?_, ?_⟩
  · unfold crtN p3
    rw [if_pos hB, t1.2]
    simp only [eV, List.getD_cons_zero, List.getD_cons_succ]
    exact numV_at t4
  · unfold crtP p3
    rw [if_pos hB, t1.2]
    simp only [eV, List.getD_cons_zero, List.getD_cons_succ]
theorem lg1 {ns : List Nd} {n : Int} (hn : 0 ≤ n ∧ n ≤ 9) : lgA ns n = putA ns ⟨1, 2000 + n, 0, 0⟩ ∧ lgK ns n = putK ns ⟨1, 2000 + n, 0, 0⟩ := by
  have : nmB n = true := by unfold nmB inB; simp; omega
  unfold lgA lgK
  rw [this]; exact ⟨rfl, rfl⟩
theorem pk1 {ns : List Nd} {x y : Int} (hx : 0 ≤ x ∧ x ≤ 9) (hy : 0 ≤ y ∧ y ≤ 9) : pkA ns x y = putA ns ⟨1, pkN x y, 0, 0⟩ ∧ pkK ns x y = putK ns ⟨1, pkN x y, 0, 0⟩ := by
  have : pkB x y = true := by unfold pkB inB; simp; omega
  unfold pkA pkK
  rw [this]; exact ⟨rfl, rfl⟩
theorem pkN_sym (x y : Int) : pkN x y = pkN y x := by unfold pkN; split <;> split <;> omega
theorem pkN_range {x y : Int} (hx : 0 ≤ x ∧ x ≤ 9) (hy : 0 ≤ y ∧ y ≤ 9) : 3000 ≤ pkN x y ∧ pkN x y ≤ 3099 := by unfold pkN; split <;> omega
theorem cr_made {ns : List Nd} {n : Int} (ha : allFrom ns ns 0 = true) (hl : ns.length < 2000) (hn : 0 ≤ n ∧ n ≤ 9) :
    allFrom (crA ns n) (crA ns n) 0 = true ∧ (crA ns n).length ≤ ns.length + 10 ∧ 0 ≤ crK ns n ∧ crK ns n < ((crA ns n).length : Int) ∧ ∃ c p s, Cr (crA ns n) (crK ns n) n c p s := by
  have p1 : Put1 ns (crA1 ns) (crK1 ns) ⟨1, 1000, 0, 0⟩ := atom1 ha (n := 1000) (by omega) (by omega)
  have l1 := p1.len
  have i1 := p1.pre.length_le
  have p2 : Put1 (crA1 ns) (crA2 ns) (crK2 ns) ⟨1, 60, 0, 0⟩ := atom1 p1.all (n := 60) (by omega) (by omega)
  have l2 := p2.len
  have i2 := p2.pre.length_le
  have p3 : Put1 (crA2 ns) (crA3 ns n) (crK3 ns n) ⟨1, n, 0, 0⟩ := atom1 p2.all (n := n) (by omega) (by omega)
  have l3 := p3.len
  have i3 := p3.pre.length_le
  have e4 := lg1 (ns := crA3 ns n) hn
  have p4 : Put1 (crA3 ns n) (lgA (crA3 ns n) n) (lgK (crA3 ns n) n) ⟨1, 2000 + n, 0, 0⟩ := by rw [e4.1, e4.2]; exact atom1 p3.all (n := 2000 + n) (by omega) (by omega)
  have l4 := p4.len
  have i4 := p4.pre.length_le
  have p5 : Put1 (lgA (crA3 ns n) n) (crA5 ns n) (crK5 ns n) ⟨6, 0, lgK (crA3 ns n) n, 0⟩ := mk1 p4.all (kind := 6) (x := lgK (crA3 ns n) n) (y := 0) (.inr rfl) ⟨p4.k0, p4.k1⟩ (by omega)
  have l5 := p5.len
  have i5 := p5.pre.length_le
  have a1 := p1.k0
  have b1 := p1.k1
  have a2 := p2.k0
  have b2 := p2.k1
  have a3 := p3.k0
  have b3 := p3.k1
  have a5 := p5.k0
  have b5 := p5.k1
  have t : Lst (crA5 ns n) (crL ns n).1 (crL ns n).2 [crK2 ns, crK3 ns n, crK5 ns n] := lst p5.all [crK2 ns, crK3 ns n, crK5 ns n] (fun x hx => by
    simp only [List.mem_cons, List.not_mem_nil, or_false] at hx
    rcases hx with rfl | rfl | rfl
    · exact ⟨a2, by omega⟩
    · exact ⟨a3, by omega⟩
    · exact ⟨a5, b5⟩) (by simp only [List.length_cons, List.length_nil]; omega)
  have lt := t.len
  have it := t.pre.length_le
  have at0 := t.k0
  have at1 := t.k1
  simp only [List.length_cons, List.length_nil] at lt
  have p6 : Put1 (crL ns n).1 (crA ns n) (crK ns n) ⟨8, 0, crK1 ns, (crL ns n).2⟩ := mk2 t.all (kind := 8) (x := crK1 ns) (y := (crL ns n).2) (by omega) ⟨a1, by omega⟩ ⟨at0, at1⟩ (by omega)
  have l6 := p6.len
  have r5 := p6.pre
  have r4 := t.pre.trans r5
  have r3 := p5.pre.trans r4
  have r2 := p4.pre.trans r3
  have r1 := p3.pre.trans r2
  have r0 := p2.pre.trans r1
  refine ⟨p6.all, by omega, p6.k0, p6.k1, crK1 ns, crK5 ns n, lgK (crA3 ns n) n, ⟨(crL ns n).2, crK2 ns, crK3 ns n, p6.isK (List.prefix_refl _), partsN_pre r5 _ _ _ t.parts, p2.isK r1, p3.isK r2⟩, p1.isK r0, p5.isK r4, p4.isK r3⟩
theorem ndAt_def (ms : List Nd) (k : Int) : ndAt ms k = ms.getD k.toNat Nd.zero := rfl
/-- What FnCerts asks of a right arena. -/
theorem certs_are {ns : List Nd} {n m : Int} (ha : allFrom ns ns 0 = true) (hl : ns.length < 1000) (hn : 0 ≤ n ∧ n ≤ 9) (hm : 0 ≤ m ∧ m ≤ 9) :
    ∃ (M1 M2 M3 M4 M5 : List Nd) (k s u x : Int), crA ns n = M1 ∧ crK ns n = k ∧ lgA M1 n = M2 ∧ lgK M1 n = s ∧ makeA M2 6 s 0 = M3 ∧ makeK M2 6 s 0 = u ∧ pkA M3 n m = M4 ∧ pkK M3 n m = x ∧ pkA M4 m n = M5 ∧ pkK M4 m n = x
      ∧ (0 ≤ k ∧ k ≤ 2000) ∧ (0 ≤ s ∧ s ≤ 2000) ∧ (0 ≤ u ∧ u ≤ 2000) ∧ (0 ≤ x ∧ x ≤ 2000)
      ∧ (allFrom M1 M1 0 = true ∧ M1.length ≤ 2000) ∧ (allFrom M2 M2 0 = true ∧ M2.length ≤ 2000) ∧ (allFrom M3 M3 0 = true ∧ M3.length ≤ 2000) ∧ (allFrom M4 M4 0 = true ∧ M4.length ≤ 2000) ∧ (allFrom M5 M5 0 = true ∧ M5.length ≤ 2000)
      ∧ (crtB M1 k = true ∧ crtN M1 k = n ∧ crtP M1 k = u) ∧ (∀ bs, IsR M5 [s, x] bs → derB bs k = false) := by
  obtain ⟨q1, q2, q3, q4, c, p, s0, hC⟩ := cr_made ha (by omega) hn
  obtain ⟨M1, e1⟩ : ∃ M, crA ns n = M := ⟨_, rfl⟩
  obtain ⟨k, ek⟩ : ∃ k, crK ns n = k := ⟨_, rfl⟩
  rw [e1] at q1 q2 q4 hC
  rw [ek] at q3 q4 hC
  have f2 := lg1 (ns := M1) hn
  have p2 := atom1 q1 (n := 2000 + n) (by omega) (by omega)
  rw [← f2.1, ← f2.2] at p2
  obtain ⟨M2, e2⟩ : ∃ M, lgA M1 n = M := ⟨_, rfl⟩
  obtain ⟨s, es⟩ : ∃ k, lgK M1 n = k := ⟨_, rfl⟩
  rw [e2, es] at p2
  have l2 := p2.len
  have i2 := p2.pre.length_le
  have p3 := mk1 p2.all (kind := 6) (x := s) (y := 0) (.inr rfl) ⟨p2.k0, p2.k1⟩ (by omega)
  obtain ⟨M3, e3⟩ : ∃ M, makeA M2 6 s 0 = M := ⟨_, rfl⟩
  obtain ⟨u, eu⟩ : ∃ k, makeK M2 6 s 0 = k := ⟨_, rfl⟩
  rw [e3, eu] at p3
  have l3 := p3.len
  have i3 := p3.pre.length_le
  have hr := pkN_range hn hm
  have p4 := atom1 p3.all (n := pkN n m) (by omega) (by omega)
  have f4 := pk1 (ns := M3) hn hm
  rw [← f4.1, ← f4.2] at p4
  obtain ⟨M4, e4⟩ : ∃ M, pkA M3 n m = M := ⟨_, rfl⟩
  obtain ⟨x, ex⟩ : ∃ k, pkK M3 n m = k := ⟨_, rfl⟩
  rw [e4, ex] at p4
  have l4 := p4.len
  have i4 := p4.pre.length_le
  have p5 := atom1 p4.all (n := pkN n m) (by omega) (by omega)
  have f5 := pk1 (ns := M4) hm hn
  rw [pkN_sym m n] at f5
  rw [← f5.1, ← f5.2] at p5
  obtain ⟨M5, e5⟩ : ∃ M, pkA M4 m n = M := ⟨_, rfl⟩
  obtain ⟨y, ey⟩ : ∃ k, pkK M4 m n = k := ⟨_, rfl⟩
  rw [e5, ey] at p5
  have l5 := p5.len
  have i5 := p5.pre.length_le
  have nx := p4.isK p5.pre
  have ny := p5.isK (List.prefix_refl _)
  have hxy : x = y := nd_one p5.all (isK_at nx.1).1 (isK_at ny.1).1 (nx.2.trans ny.2.symm)
  subst hxy
  have c3 := hC.on (p2.pre.trans p3.pre)
  have ns3 := p2.isK p3.pre
  have hss : s0 = s := nd_one p3.all (isK_at c3.sec.1).1 (isK_at ns3.1).1 (c3.sec.2.trans ns3.2.symm)
  subst hss
  have nu := p3.isK (List.prefix_refl _)
  have hpu : p = u := nd_one p3.all (isK_at c3.pub.1).1 (isK_at nu.1).1 (c3.pub.2.trans nu.2.symm)
  subst hpu
  have c5 := (c3.on p4.pre).on p5.pre
  have s5 := c5.sec
  have k4 := p4.k0
  have k41 := p4.k1
  have k2 := p2.k0
  have k21 := p2.k1
  have k3 := p3.k0
  have k31 := p3.k1
  refine ⟨M1, M2, M3, M4, M5, k, s0, p, x, e1, ek, e2, es, e3, eu, e4, ex, e5, ey, by omega, by omega, by omega, by omega, ⟨q1, by omega⟩, ⟨p2.all, by omega⟩, ⟨p3.all, by omega⟩, ⟨p4.all, by omega⟩, ⟨p5.all, by omega⟩, hC.tells hn, fun bs hbs => ?_⟩
  have hx : ∀ j : Nat, j < M5.length → (j : Int) ∈ [s0, x] → (M5.getD j Nd.zero).k = 1 := fun j hj hm => by
    simp only [List.mem_cons, List.not_mem_nil, or_false] at hm
    rcases hm with e | e
    · have := s5.2; rw [← e, ndAt_def, Int.toNat_natCast] at this; rw [this]
    · have := nx.2; rw [← e, ndAt_def, Int.toNat_natCast] at this; rw [this]
  obtain ⟨⟨L, w1, w2, t1, -⟩, hca, -, -⟩ := c5
  have hk5 := (isK_at t1.1).1
  have hc5 := (isK_at hca.1).1
  have hcn : (M5.getD c.toNat Nd.zero) = ⟨1, 1000, 0, 0⟩ := hca.2
  have hkn : (M5.getD k.toNat Nd.zero) = ⟨8, 0, c, L⟩ := t1.2
  have hg : (goodL M5 [s0, x] M5.length).getD c.toNat false = false := by
    refine atom_not p5.all hx (by omega) (by rw [hcn]) (by rw [hcn]; decide) (fun hmem => ?_)
    rw [Int.toNat_of_nonneg hc5.1] at hmem
    simp only [List.mem_cons, List.not_mem_nil, or_false] at hmem
    rcases hmem with e | e
    · have h1 := hca.2; rw [e, s5.2] at h1; simp only [Nd.mk.injEq] at h1; omega
    · have h1 := hca.2; rw [e, nx.2] at h1; simp only [Nd.mk.injEq] at h1; omega
  have hnot := two_not p5.all hx (k := k.toNat) (by omega) (by rw [hkn]; simp) (by rw [hkn]; rfl) (by rw [hkn]; exact hg)
  rcases hbs with ⟨h1, h2⟩ | ⟨_, rfl⟩
  · unfold derB
    cases hb : bs.getD k.toNat false with
    | false => simp
    | true => exact absurd ((h2.iff k.toNat (by omega)).1 hb) hnot
  · unfold derB; simp
end Go.Proofs.Ytlmkkkpjcpopkaa
