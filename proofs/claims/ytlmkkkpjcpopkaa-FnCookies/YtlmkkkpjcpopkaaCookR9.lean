/- A cookie as the program reads it, in plain words: node by node, each where Put finds it. -/
import Derived.Test.YtlmkkkpjcpopkaaCookQ9
namespace Go.Proofs.Ytlmkkkpjcpopkaa
open Go.RowKit
set_option linter.unusedVariables false
/-- What the reader answers at a place, and whether all is well behind it. -/
def rdN (ns : List Nd) (ok : Bool) (kd k : Int) : Nd × Bool :=
  if ok = true ∧ (0 ≤ k ∧ k < (ns.length : Int)) then (ndAt ns k, decide ((ndAt ns k).k = kd) && decide (putK ns (ndAt ns k) = k)) else (Nd.zero, false)
def rd1 (ns : List Nd) (c : Int) := rdN ns true 9 c
def rd2 (ns : List Nd) (c : Int) := rdN ns (rd1 ns c).2 2 (rd1 ns c).1.b
def rd3 (ns : List Nd) (c : Int) := rdN ns (rd2 ns c).2 2 (rd2 ns c).1.b
def rd4 (ns : List Nd) (c : Int) := rdN ns (rd3 ns c).2 1 (rd3 ns c).1.b
def rd5 (ns : List Nd) (c : Int) := rdN ns (rd4 ns c).2 1 (rd1 ns c).1.a
def rd6 (ns : List Nd) (c : Int) := rdN ns (rd5 ns c).2 1 (rd2 ns c).1.a
def rd7 (ns : List Nd) (c : Int) := rdN ns (rd6 ns c).2 3 (rd3 ns c).1.a
def ckE (ns : List Nd) (c : Int) : Bool := (rd7 ns c).2 && decide ((rd4 ns c).1.n = 0)
/-- CookieOk of the program. -/
def ckF (ns : List Nd) (s d h c : Int) : Bool := ckE ns c && (decide ((rd5 ns c).1.n = s) && (decide ((rd6 ns c).1.n = d) && decide ((rd7 ns c).1.a = h)))
theorem rdN_true {ns : List Nd} {ok : Bool} {kd k : Int} (h : (rdN ns ok kd k).2 = true) : ok = true ∧ (rdN ns ok kd k).1 = ndAt ns k ∧ (ndAt ns k).k = kd ∧ StandsN ns k (ndAt ns k) := by
  unfold rdN at h ⊢
  by_cases hc : ok = true ∧ (0 ≤ k ∧ k < (ns.length : Int))
  · rw [if_pos hc] at h ⊢
    simp only [Bool.and_eq_true, decide_eq_true_eq] at h
    obtain ⟨h1, h2⟩ := h
    refine ⟨hc.1, rfl, h1, hc.2.1, hc.2.2, rfl, ?_, ?_⟩
    · unfold putK at h2
      split at h2
      · split at h2
        · omega
        · exact h2
      · omega
    · unfold putK at h2
      split at h2
      · rename_i q; exact q
      · omega
  · rw [if_neg hc] at h
    cases h
theorem StandsN.rd {ns : List Nd} {kd k : Int} {x : Nd} (h : StandsN ns k x) (hk : x.k = kd) : rdN ns true kd k = (x, true) := by
  unfold rdN
  rw [if_pos ⟨rfl, h.k0, h.k1⟩, h.nd, h.put.2]
  simp [hk]
theorem StandsN.two {ns : List Nd} {k kd : Int} {x : Nd} (h : StandsN ns k x) (hk : x.k = kd) (h1 : kd ≠ 1) (h2 : oneK kd = false) : x = ⟨kd, 0, x.a, x.b⟩ := by
  rcases nodeB_true h.ok with q | q | q
  · exact absurd (hk.symm.trans q.1) h1
  · rw [hk, h2] at q; exact absurd q.2.2.2.2.2.1 (by simp)
  · obtain ⟨a, b, c, d⟩ := x
    simp only at q hk
    simp only [Nd.mk.injEq, and_true]
    exact ⟨hk, by omega⟩
theorem StandsN.one {ns : List Nd} {k : Int} {x : Nd} (h : StandsN ns k x) (hk : x.k = 3) : x = ⟨3, 0, x.a, 0⟩ := by
  rcases nodeB_true h.ok with q | q | q
  · have := hk.symm.trans q.1; omega
  · obtain ⟨a, b, c, d⟩ := x
    simp only at q hk
    simp only [Nd.mk.injEq, true_and]
    exact ⟨hk, by omega, by omega⟩
  · have e : oneK x.k = true := by rw [hk]; rfl
    simp [e] at q
theorem StandsN.atom {ns : List Nd} {k : Int} {x : Nd} (h : StandsN ns k x) (hk : x.k = 1) : x = ⟨1, x.n, 0, 0⟩ := by
  rcases nodeB_true h.ok with q | q | q
  · obtain ⟨a, b, c, d⟩ := x
    simp only at q hk
    simp only [Nd.mk.injEq, true_and]
    exact ⟨hk, by omega, by omega⟩
  · exact absurd hk (by omega)
  · exact absurd hk (by omega)
/-- What stands node by node is the cookie, and nothing must be put. -/
theorem stands_ck {M : List Nd} {s d h k1 k2 k3 k4 k5 k6 K : Int} (s1 : StandsN M k1 ⟨1, s, 0, 0⟩) (s2 : StandsN M k2 ⟨1, d, 0, 0⟩) (s3 : StandsN M k3 ⟨3, 0, h, 0⟩) (s4 : StandsN M k4 ⟨1, 0, 0, 0⟩) (s5 : StandsN M k5 ⟨2, 0, k3, k4⟩) (s6 : StandsN M k6 ⟨2, 0, k2, k5⟩) (s7 : StandsN M K ⟨9, 0, k1, k6⟩) : ckA M s d h = M ∧ ckK M s d h = K := by
  have a1 : ckA1 M s = M ∧ ckK1 M s = k1 := s1.put
  have a2 : ckA2 M s d = M ∧ ckK2 M s d = k2 := by unfold ckA2 ckK2; rw [a1.1]; exact s2.put
  have a3 : ckA3 M s d h = M ∧ ckK3 M s d h = k3 := by unfold ckA3 ckK3; rw [a2.1]; exact StandsN.make s3 (by omega)
  have aL : ckL M s d h = (M, k6) := by
    unfold ckL
    rw [a3.1, a2.2, a3.2]
    show (makeA (makeA (putA M ⟨1, 0, 0, 0⟩) 2 k3 (putK M ⟨1, 0, 0, 0⟩)) 2 k2 (makeK (putA M ⟨1, 0, 0, 0⟩) 2 k3 (putK M ⟨1, 0, 0, 0⟩)), makeK (makeA (putA M ⟨1, 0, 0, 0⟩) 2 k3 (putK M ⟨1, 0, 0, 0⟩)) 2 k2 (makeK (putA M ⟨1, 0, 0, 0⟩) 2 k3 (putK M ⟨1, 0, 0, 0⟩))) = _
    rw [s4.put.1, s4.put.2, (StandsN.make (kd := 2) (x := k3) (y := k4) s5 (by omega)).1, (StandsN.make (kd := 2) (x := k3) (y := k4) s5 (by omega)).2, (StandsN.make (kd := 2) (x := k2) (y := k5) s6 (by omega)).1, (StandsN.make (kd := 2) (x := k2) (y := k5) s6 (by omega)).2]
  unfold ckA ckK
  rw [aL, a1.2]
  exact StandsN.make (kd := 9) (x := k1) (y := k6) s7 (by omega)
/-- The program's yes is the specification's. -/
theorem ckF_yes {ns : List Nd} {s d h c : Int} (hy : ckF ns s d h c = true) : ckOk ns s d h c = true := by
  unfold ckF ckE at hy
  simp only [Bool.and_eq_true, decide_eq_true_eq] at hy
  obtain ⟨⟨h7, hz⟩, hs, hd, hh⟩ := hy
  obtain ⟨h6, e7, c7, t7⟩ := rdN_true (ns := ns) (ok := (rd6 ns c).2) (kd := 3) (k := (rd3 ns c).1.a) h7
  obtain ⟨h5, e6, c6, t6⟩ := rdN_true (ns := ns) (ok := (rd5 ns c).2) (kd := 1) (k := (rd2 ns c).1.a) h6
  obtain ⟨h4, e5, c5, t5⟩ := rdN_true (ns := ns) (ok := (rd4 ns c).2) (kd := 1) (k := (rd1 ns c).1.a) h5
  obtain ⟨h3, e4, c4, t4⟩ := rdN_true (ns := ns) (ok := (rd3 ns c).2) (kd := 1) (k := (rd3 ns c).1.b) h4
  obtain ⟨h2, e3, c3, t3⟩ := rdN_true (ns := ns) (ok := (rd2 ns c).2) (kd := 2) (k := (rd2 ns c).1.b) h3
  obtain ⟨h1, e2, c2, t2⟩ := rdN_true (ns := ns) (ok := (rd1 ns c).2) (kd := 2) (k := (rd1 ns c).1.b) h2
  obtain ⟨-, e1, c1, t1⟩ := rdN_true (ns := ns) (ok := true) (kd := 9) (k := c) h1
  change (rd7 ns c).1 = _ at e7
  change (rd6 ns c).1 = _ at e6
  change (rd5 ns c).1 = _ at e5
  change (rd4 ns c).1 = _ at e4
  change (rd3 ns c).1 = _ at e3
  change (rd2 ns c).1 = _ at e2
  change (rd1 ns c).1 = _ at e1
  rw [t7.one c7] at t7
  rw [t6.atom c6] at t6
  rw [t5.atom c5] at t5
  rw [t4.atom c4] at t4
  rw [t3.two c3 (by omega) rfl] at t3
  rw [t2.two c2 (by omega) rfl] at t2
  rw [t1.two c1 (by omega) rfl] at t1
  rw [← e7, hh] at t7
  rw [← e6, hd] at t6
  rw [← e5, hs] at t5
  rw [← e4, hz] at t4
  rw [← e3] at t3
  rw [← e2] at t2
  rw [← e1] at t1
  have := stands_ck t5 t6 t7 t4 t3 t2 t1
  unfold ckOk
  rw [this.2]
  simp [t1.k0]
/-- Where nothing must be put, both say the same. -/
theorem ckF_made {ns : List Nd} {s d h : Int} (hK : 0 ≤ ckK ns s d h) : ckF (ckA ns s d h) s d h (ckK ns s d h) = true := by
  obtain ⟨k1, k2, k3, k4, k5, k6, s1, s2, s3, s4, s5, s6, s7⟩ := ck_stands hK
  generalize ckA ns s d h = M at *
  generalize ckK ns s d h = K at *
  have e1 : rd1 M K = (⟨9, 0, k1, k6⟩, true) := s7.rd rfl
  have e2 : rd2 M K = (⟨2, 0, k2, k5⟩, true) := by unfold rd2; rw [e1]; exact s6.rd rfl
  have e3 : rd3 M K = (⟨2, 0, k3, k4⟩, true) := by unfold rd3; rw [e2]; exact s5.rd rfl
  have e4 : rd4 M K = (⟨1, 0, 0, 0⟩, true) := by unfold rd4; rw [e3]; exact s4.rd rfl
  have e5 : rd5 M K = (⟨1, s, 0, 0⟩, true) := by unfold rd5; rw [e4, e1]; exact s1.rd rfl
  have e6 : rd6 M K = (⟨1, d, 0, 0⟩, true) := by unfold rd6; rw [e5, e2]; exact s2.rd rfl
  have e7 : rd7 M K = (⟨3, 0, h, 0⟩, true) := by unfold rd7; rw [e6, e3]; exact s3.rd rfl
  unfold ckF ckE
  rw [e7, e6, e5, e4]
  simp
/-- At what DrawCookieOk hands out both say the same. -/
theorem ckF_drawn {ns0 : List Nd} {s ad ad0 h k : Int} (h7 : ad0 ≠ 7) (hk : (ad = 7 ∧ k = ckK ns0 s ad0 h) ∨ (ad = ad0 ∧ (k = ckK ns0 s ad0 h ∨ k = ckK ns0 s ad0 h - 1))) (hr : -1 ≤ ckK ns0 s ad0 h) :
    ckF (keptA ns0 (ckA ns0 s ad0 h) (ckK ns0 s ad0 h)) s ad h k = ckOk (keptA ns0 (ckA ns0 s ad0 h) (ckK ns0 s ad0 h)) s ad h k := by
  by_cases hK : 0 ≤ ckK ns0 s ad0 h
  · rw [keptA_pos (show ¬ ckK ns0 s ad0 h < 0 by omega)]
    rcases hk with ⟨e, rfl⟩ | ⟨rfl, e⟩
    · have hno : ckOk (ckA ns0 s ad0 h) s ad h (ckK ns0 s ad0 h) = false := by
        cases hc : ckOk (ckA ns0 s ad0 h) s ad h (ckK ns0 s ad0 h) with
        | false => rfl
        | true =>
          unfold ckOk at hc
          simp only [Bool.and_eq_true, decide_eq_true_eq] at hc
          have := ck_differ hK hc.2
          omega
      rw [hno]
      cases hf : ckF (ckA ns0 s ad0 h) s ad h (ckK ns0 s ad0 h) with
      | false => rfl
      | true => have := ckF_yes hf; rw [hno] at this; exact this.symm
    · rcases e with rfl | rfl
      · rw [ckF_made hK]
        unfold ckOk
        rw [(ck_same hK).2]
        simp [hK]
      · have hno : ckOk (ckA ns0 s ad h) s ad h (ckK ns0 s ad h - 1) = false := by
          unfold ckOk
          rw [(ck_same hK).2, decide_eq_false (show ¬ ckK ns0 s ad h = ckK ns0 s ad h - 1 by omega)]
          simp
        rw [hno]
        cases hf : ckF (ckA ns0 s ad h) s ad h (ckK ns0 s ad h - 1) with
        | false => rfl
        | true => have := ckF_yes hf; rw [hno] at this; exact this.symm
  · have hn : k < 0 := by rcases hk with ⟨-, e⟩ | ⟨-, e | e⟩ <;> omega
    generalize keptA ns0 (ckA ns0 s ad0 h) (ckK ns0 s ad0 h) = M
    have hno : ckOk M s ad h k = false := by
      unfold ckOk
      by_cases hg : 0 ≤ ckK M s ad h
      · rw [decide_eq_false (show ¬ ckK M s ad h = k by omega)]; simp
      · rw [decide_eq_false hg]; rfl
    rw [hno]
    cases hf : ckF M s ad h k with
    | false => rfl
    | true => have := ckF_yes hf; rw [hno] at this; exact this.symm
/-- At a right arena: right for its own, and for nothing else. -/
theorem ckF_back {ns : List Nd} {s d h s' d' h' : Int} (hK : 0 ≤ ckK ns s d h) : ckF (ckA ns s d h) s' d' h' (ckK ns s d h) = decide (s' = s ∧ d' = d ∧ h' = h) := by
  by_cases e : s' = s ∧ d' = d ∧ h' = h
  · obtain ⟨rfl, rfl, rfl⟩ := e
    rw [ckF_made hK]; simp
  · rw [decide_eq_false e]
    cases hf : ckF (ckA ns s d h) s' d' h' (ckK ns s d h) with
    | false => rfl
    | true =>
      have := ckF_yes hf
      unfold ckOk at this
      simp only [Bool.and_eq_true, decide_eq_true_eq] at this
      exact absurd (ck_differ hK this.2) e
end Go.Proofs.Ytlmkkkpjcpopkaa
