/- What CookieOf made stands where it was found, in any arena, right or not. -/
import Derived.Test.YtffnadnndmmliaaListP
import Derived.Test.YtffnadnndmmliaaPlainRead
import Derived.Test.YtffnadnndmmliaaPlainRT2
namespace Go.Proofs.Ytffnadnndmmliaa
open Go.RowKit
set_option linter.unusedVariables false
theorem findFrom_app9 (x : Nd) : ∀ (l t : List Nd) (i : Nat), findFrom x l i ≠ -1 → findFrom x (l ++ t) i = findFrom x l i
  | [], t, i, h => absurd rfl h
  | y :: l, t, i, h => by
    rw [List.cons_append, findFrom, findFrom] at *
    split
    · rfl
    · rename_i h1
      rw [if_neg h1] at h
      exact findFrom_app9 x l t (i + 1) h
theorem findFrom_new9 (x : Nd) : ∀ (l t : List Nd) (i : Nat), findFrom x l i = -1 → findFrom x (l ++ x :: t) i = ((i + l.length : Nat) : Int)
  | [], t, i, h => by simp [findFrom]
  | y :: l, t, i, h => by
    rw [findFrom] at h
    rw [List.cons_append, findFrom]
    split at h
    · omega
    · rename_i h1
      rw [if_neg h1, findFrom_new9 x l t (i + 1) h]
      simp; omega
theorem findFrom_nd (x : Nd) : ∀ (l : List Nd) (i : Nat), findFrom x l i ≠ -1 → l.getD ((findFrom x l i).toNat - i) Nd.zero = x
  | [], i, h => absurd rfl h
  | y :: l, i, h => by
    rw [findFrom] at h ⊢
    split
    · rename_i h1
      simp [h1]
    · rename_i h1
      rw [if_neg h1] at h
      have hr := findFrom_range x l (i + 1)
      have := findFrom_nd x l (i + 1) h
      obtain ⟨j, hj⟩ : ∃ j, (findFrom x l (i + 1)).toNat - i = j + 1 ∧ (findFrom x l (i + 1)).toNat - (i + 1) = j := ⟨(findFrom x l (i + 1)).toNat - (i + 1), by omega, rfl⟩
      rw [hj.2] at this
      rw [hj.1]
      simpa using this
theorem findN_nd {ms : List Nd} {x : Nd} (h : findN ms x ≠ -1) : ndAt ms (findN ms x) = x := findFrom_nd x ms 0 h
/-- A node that was found, or put, and stands there first. -/
structure StandsN (ms : List Nd) (k : Int) (x : Nd) : Prop where
  k0 : 0 ≤ k
  k1 : k < (ms.length : Int)
  nd : ndAt ms k = x
  fd : findN ms x = k
  ok : nodeB x ms.length = true
theorem stands {ns ms : List Nd} {x : Nd} (h : 0 ≤ putK ns x) (hp : putA ns x <+: ms) : StandsN ms (putK ns x) x := by
  have hn : nodeB x ns.length = true := by
    cases hb : nodeB x ns.length with
    | true => rfl
    | false => unfold putK at h; rw [if_neg (by simp [hb])] at h; omega
  have hf : findN ms x = putK ns x := by
    by_cases hc : findN ns x = -1 ∧ ns.length < 3000
    · have e1 : putA ns x = ns ++ [x] := by unfold putA; rw [if_pos ⟨hn, hc⟩]
      have e2 : putK ns x = (ns.length : Int) := by unfold putK; rw [if_pos hn, if_pos hc]
      rw [e1] at hp
      obtain ⟨t, rfl⟩ := hp
      rw [e2]
      have := findFrom_new9 x ns t 0 hc.1
      unfold findN
      simpa using this
    · have e1 : putA ns x = ns := by unfold putA; rw [if_neg (fun q => hc q.2)]
      have e2 : putK ns x = findN ns x := by unfold putK; rw [if_pos hn, if_neg hc]
      rw [e1] at hp
      obtain ⟨t, rfl⟩ := hp
      rw [e2]
      exact findFrom_app9 x ns t 0 (by rw [e2] at h; unfold findN at h; omega)
  have hr := findN_range ms x
  have hl : ns.length ≤ ms.length := by
    have h1 := hp.length_le
    have h2 : ns.length ≤ (putA ns x).length := (putA_pre ns x).length_le
    omega
  have hne : findN ms x ≠ -1 := by rw [hf]; omega
  have hnd := findN_nd hne
  rw [hf] at hr hnd
  exact ⟨h, by omega, hnd, hf, nodeB_mono hn (by omega)⟩
theorem StandsN.put {ms : List Nd} {k : Int} {x : Nd} (h : StandsN ms k x) : putA ms x = ms ∧ putK ms x = k := by
  have hne : findN ms x ≠ -1 := by rw [h.fd]; have := h.k0; omega
  refine ⟨?_, ?_⟩
  · unfold putA; rw [if_neg (fun q => hne q.2.1)]
  · unfold putK; rw [if_pos h.ok, if_neg (fun q => hne q.1), h.fd]
theorem StandsN.make {ms : List Nd} {k kd x y : Int} (h : StandsN ms k (mkNd kd x y)) (hk : ¬ (kd = 1 ∨ kd = 7)) : makeA ms kd x y = ms ∧ makeK ms kd x y = k := by
  unfold makeA makeK
  rw [if_neg hk, if_neg hk]
  exact h.put
/-- What is made of what can't be can't be. -/
theorem putK_parts {ns : List Nd} {kd a b : Int} (h : 0 ≤ putK ns ⟨kd, 0, a, b⟩) (hk : kd ≠ 1) : 0 ≤ a ∧ (oneK kd = false → 0 ≤ b) := by
  have hn : nodeB ⟨kd, 0, a, b⟩ ns.length = true := by
    cases hb : nodeB ⟨kd, 0, a, b⟩ ns.length with
    | true => rfl
    | false => unfold putK at h; rw [if_neg (by simp [hb])] at h; omega
  rcases nodeB_true hn with q | q | q
  · exact absurd q.1 hk
  · exact ⟨q.2.2.2.1, fun e => by have := q.2.2.2.2.2.1; simp only at this; rw [e] at this; cases this⟩
  · simp only at q
    exact ⟨q.2.2.2.1, fun _ => by omega⟩
/-- A cookie that was made, node by node. -/
theorem ck_stands {ns : List Nd} {s d h : Int} (hK : 0 ≤ ckK ns s d h) : ∃ k1 k2 k3 k4 k5 k6, StandsN (ckA ns s d h) k1 ⟨1, s, 0, 0⟩ ∧ StandsN (ckA ns s d h) k2 ⟨1, d, 0, 0⟩ ∧ StandsN (ckA ns s d h) k3 ⟨3, 0, h, 0⟩ ∧ StandsN (ckA ns s d h) k4 ⟨1, 0, 0, 0⟩ ∧ StandsN (ckA ns s d h) k5 ⟨2, 0, k3, k4⟩ ∧ StandsN (ckA ns s d h) k6 ⟨2, 0, k2, k5⟩ ∧ StandsN (ckA ns s d h) (ckK ns s d h) ⟨9, 0, k1, k6⟩ := by
  have mk : ∀ (ms : List Nd) (kd x y : Int), ¬ (kd = 1 ∨ kd = 7) → makeA ms kd x y = putA ms (mkNd kd x y) ∧ makeK ms kd x y = putK ms (mkNd kd x y) := fun ms kd x y q => by unfold makeA makeK; rw [if_neg q, if_neg q]; exact ⟨rfl, rfl⟩
  obtain ⟨A3, e3⟩ : ∃ A, ckA3 ns s d h = A := ⟨_, rfl⟩
  obtain ⟨k3, ek3⟩ : ∃ k, ckK3 ns s d h = k := ⟨_, rfl⟩
  obtain ⟨k2, ek2⟩ : ∃ k, ckK2 ns s d = k := ⟨_, rfl⟩
  obtain ⟨k1, ek1⟩ : ∃ k, ckK1 ns s = k := ⟨_, rfl⟩
  obtain ⟨A4, e4⟩ : ∃ A, putA A3 ⟨1, 0, 0, 0⟩ = A := ⟨_, rfl⟩
  obtain ⟨k4, ek4⟩ : ∃ k, putK A3 ⟨1, 0, 0, 0⟩ = k := ⟨_, rfl⟩
  obtain ⟨A5, e5⟩ : ∃ A, putA A4 ⟨2, 0, k3, k4⟩ = A := ⟨_, rfl⟩
  obtain ⟨k5, ek5⟩ : ∃ k, putK A4 ⟨2, 0, k3, k4⟩ = k := ⟨_, rfl⟩
  obtain ⟨A6, e6⟩ : ∃ A, putA A5 ⟨2, 0, k2, k5⟩ = A := ⟨_, rfl⟩
  obtain ⟨k6, ek6⟩ : ∃ k, putK A5 ⟨2, 0, k2, k5⟩ = k := ⟨_, rfl⟩
  have hL : ckL ns s d h = (A6, k6) := by
    unfold ckL
    rw [e3, ek2, ek3]
    show (makeA (makeA (putA A3 ⟨1, 0, 0, 0⟩) 2 k3 (putK A3 ⟨1, 0, 0, 0⟩)) 2 k2 (makeK (putA A3 ⟨1, 0, 0, 0⟩) 2 k3 (putK A3 ⟨1, 0, 0, 0⟩)), makeK (makeA (putA A3 ⟨1, 0, 0, 0⟩) 2 k3 (putK A3 ⟨1, 0, 0, 0⟩)) 2 k2 (makeK (putA A3 ⟨1, 0, 0, 0⟩) 2 k3 (putK A3 ⟨1, 0, 0, 0⟩))) = _
    rw [e4, ek4, (mk A4 2 k3 k4 (by omega)).1, (mk A4 2 k3 k4 (by omega)).2]
    show (makeA (putA A4 ⟨2, 0, k3, k4⟩) 2 k2 (putK A4 ⟨2, 0, k3, k4⟩), makeK (putA A4 ⟨2, 0, k3, k4⟩) 2 k2 (putK A4 ⟨2, 0, k3, k4⟩)) = _
    rw [e5, ek5, (mk A5 2 k2 k5 (by omega)).1, (mk A5 2 k2 k5 (by omega)).2]
    show (putA A5 ⟨2, 0, k2, k5⟩, putK A5 ⟨2, 0, k2, k5⟩) = _
    rw [e6, ek6]
  have eA : ckA ns s d h = putA A6 ⟨9, 0, k1, k6⟩ := by unfold ckA; rw [hL, ek1, (mk A6 9 k1 k6 (by omega)).1]; rfl
  have eK : ckK ns s d h = putK A6 ⟨9, 0, k1, k6⟩ := by unfold ckK; rw [hL, ek1, (mk A6 9 k1 k6 (by omega)).2]; rfl
  have eA3 : putA (ckA2 ns s d) ⟨3, 0, h, 0⟩ = A3 := by rw [← e3]; unfold ckA3; rw [(mk _ 3 h 0 (by omega)).1]; rfl
  have eK3 : putK (ckA2 ns s d) ⟨3, 0, h, 0⟩ = k3 := by rw [← ek3]; unfold ckK3; rw [(mk _ 3 h 0 (by omega)).2]; rfl
  have g7 : 0 ≤ putK A6 ⟨9, 0, k1, k6⟩ := by rw [← eK]; exact hK
  obtain ⟨g1, g6⟩ := putK_parts g7 (by omega)
  have g6 := g6 rfl
  obtain ⟨g2, g5⟩ := putK_parts (ns := A5) (kd := 2) (a := k2) (b := k5) (by rw [ek6]; exact g6) (by omega)
  have g5 := g5 rfl
  obtain ⟨g3, g4⟩ := putK_parts (ns := A4) (kd := 2) (a := k3) (b := k4) (by rw [ek5]; exact g5) (by omega)
  have g4 := g4 rfl
  have r7 : putA A6 ⟨9, 0, k1, k6⟩ <+: ckA ns s d h := by rw [eA]; exact List.prefix_refl _
  have r6 : A6 <+: ckA ns s d h := (putA_pre _ _).trans r7
  have r5 : A5 <+: ckA ns s d h := (by rw [← e6]; exact putA_pre _ _ : A5 <+: A6).trans r6
  have r4 : A4 <+: ckA ns s d h := (by rw [← e5]; exact putA_pre _ _ : A4 <+: A5).trans r5
  have r3 : A3 <+: ckA ns s d h := (by rw [← e4]; exact putA_pre _ _ : A3 <+: A4).trans r4
  have r2 : ckA2 ns s d <+: ckA ns s d h := (by rw [← eA3]; exact putA_pre _ _ : ckA2 ns s d <+: A3).trans r3
  have r1 : ckA1 ns s <+: ckA ns s d h := (show ckA1 ns s <+: ckA2 ns s d from putA_pre _ _).trans r2
  refine ⟨k1, k2, k3, k4, k5, k6, ?_, ?_, ?_, ?_, ?_, ?_, ?_⟩
  · rw [← ek1]; exact stands (by show 0 ≤ ckK1 ns s; rw [ek1]; exact g1) r1
  · rw [← ek2]; exact stands (by show 0 ≤ ckK2 ns s d; rw [ek2]; exact g2) r2
  · rw [← eK3]; exact stands (by rw [eK3]; exact g3) (by rw [eA3]; exact r3)
  · have := stands (ns := A3) (x := ⟨1, 0, 0, 0⟩) (by rw [ek4]; exact g4) (by rw [e4]; exact r4); rw [ek4] at this; exact this
  · have := stands (ns := A4) (x := ⟨2, 0, k3, k4⟩) (by rw [ek5]; exact g5) (by rw [e5]; exact r5); rw [ek5] at this; exact this
  · have := stands (ns := A5) (x := ⟨2, 0, k2, k5⟩) (by rw [ek6]; exact g6) (by rw [e6]; exact r6); rw [ek6] at this; exact this
  · rw [eK]; exact stands g7 r7
/-- Made again it is the same, and nothing comes. -/
theorem ck_same {ns : List Nd} {s d h : Int} (hK : 0 ≤ ckK ns s d h) : ckA (ckA ns s d h) s d h = ckA ns s d h ∧ ckK (ckA ns s d h) s d h = ckK ns s d h := by
  obtain ⟨k1, k2, k3, k4, k5, k6, s1, s2, s3, s4, s5, s6, s7⟩ := ck_stands hK
  generalize ckA ns s d h = M at *
  generalize ckK ns s d h = K at *
  have a1 : ckA1 M s = M ∧ ckK1 M s = k1 := s1.put
  have a2 : ckA2 M s d = M ∧ ckK2 M s d = k2 := by unfold ckA2 ckK2; rw [a1.1]; exact s2.put
  have a3 : ckA3 M s d h = M ∧ ckK3 M s d h = k3 := by unfold ckA3 ckK3; rw [a2.1]; exact StandsN.make s3 (by omega)
  have aL : ckL M s d h = (M, k6) := by
    unfold ckL
    rw [a3.1, a2.2, a3.2]
    show (makeA (makeA (putA M ⟨1, 0, 0, 0⟩) 2 k3 (putK M ⟨1, 0, 0, 0⟩)) 2 k2 (makeK (putA M ⟨1, 0, 0, 0⟩) 2 k3 (putK M ⟨1, 0, 0, 0⟩)), makeK (makeA (putA M ⟨1, 0, 0, 0⟩) 2 k3 (putK M ⟨1, 0, 0, 0⟩)) 2 k2 (makeK (putA M ⟨1, 0, 0, 0⟩) 2 k3 (putK M ⟨1, 0, 0, 0⟩))) = _
    rw [s4.put.1, s4.put.2, (StandsN.make (kd := 2) (x := k3) (y := k4) s5 (by omega)).1, (StandsN.make (kd := 2) (x := k3) (y := k4) s5 (by omega)).2, (StandsN.make (kd := 2) (x := k2) (y := k5) s6 (by omega)).1, (StandsN.make (kd := 2) (x := k2) (y := k5) s6 (by omega)).2]
  unfold ckA ckK
  rw [aL, a1.2]
  exact StandsN.make (kd := 9) (x := k1) (y := k6) s7 (by omega)
theorem ndAt_pre9 {ms ns : List Nd} (hp : ms <+: ns) {k : Int} (h0 : 0 ≤ k) (h1 : k < (ms.length : Int)) : ndAt ns k = ndAt ms k := by
  obtain ⟨t, rfl⟩ := hp
  unfold ndAt
  rw [List.getD_eq_getElem?_getD, List.getElem?_append_left (by omega), ← List.getD_eq_getElem?_getD]
theorem ck_pre (ns : List Nd) (s d h : Int) : ns <+: ckA ns s d h := by
  have mkp : ∀ (ms : List Nd) (kd x y : Int), ms <+: makeA ms kd x y := fun ms kd x y => by unfold makeA; split; exact List.prefix_refl _; exact putA_pre _ _
  have l : ∀ (xs : List Int) (ms : List Nd), ms <+: (listF xs ms).1 := fun xs => by
    induction xs with
    | nil => exact fun ms => putA_pre _ _
    | cons x xs ih => exact fun ms => (ih ms).trans (show _ <+: makeA (listF xs ms).1 2 x (listF xs ms).2 from mkp _ _ _ _)
  exact (putA_pre _ _).trans ((putA_pre _ _).trans ((mkp _ _ _ _).trans ((l _ _).trans (mkp _ _ _ _))))
/-- Two cookies at one place are one. -/
theorem ck_differ {ns : List Nd} {s d h s' d' h' : Int} (hK : 0 ≤ ckK ns s d h) (e : ckK (ckA ns s d h) s' d' h' = ckK ns s d h) : s' = s ∧ d' = d ∧ h' = h := by
  obtain ⟨k1, k2, k3, k4, k5, k6, s1, s2, s3, s4, s5, s6, s7⟩ := ck_stands hK
  have hK' : 0 ≤ ckK (ckA ns s d h) s' d' h' := by rw [e]; exact hK
  have hp := ck_pre (ckA ns s d h) s' d' h'
  obtain ⟨j1, j2, j3, j4, j5, j6, t1, t2, t3, t4, t5, t6, t7⟩ := ck_stands hK'
  rw [e] at t7
  have e7 := t7.nd
  rw [ndAt_pre9 hp s7.k0 s7.k1, s7.nd] at e7
  simp only [Nd.mk.injEq, true_and] at e7
  obtain ⟨rfl, rfl⟩ := e7
  have e6 := t6.nd
  rw [ndAt_pre9 hp s6.k0 s6.k1, s6.nd] at e6
  simp only [Nd.mk.injEq, true_and] at e6
  obtain ⟨rfl, rfl⟩ := e6
  have e5 := t5.nd
  rw [ndAt_pre9 hp s5.k0 s5.k1, s5.nd] at e5
  simp only [Nd.mk.injEq, true_and] at e5
  obtain ⟨rfl, rfl⟩ := e5
  have e1 := t1.nd
  rw [ndAt_pre9 hp s1.k0 s1.k1, s1.nd] at e1
  have e2 := t2.nd
  rw [ndAt_pre9 hp s2.k0 s2.k1, s2.nd] at e2
  have e3 := t3.nd
  rw [ndAt_pre9 hp s3.k0 s3.k1, s3.nd] at e3
  simp only [Nd.mk.injEq, true_and, and_true] at e1 e2 e3
  exact ⟨e1.symm, e2.symm, e3.symm⟩
end Go.Proofs.Ytffnadnndmmliaa

namespace Go.Proofs.Ytffnadnndmmliaa
open Go.RowKit
set_option linter.unusedVariables false
/-- What the reader answers at a place, and whether all is well behind it. -/
def rdN (ns : List Nd) (ok : Bool) (kd k : Int) : Nd × Bool :=
  if ok = true ∧ (0 ≤ k ∧ k < (ns.length : Int)) then (ndAt ns k, decide ((ndAt ns k).k = kd) && decide (putK ns (ndAt ns k) = k)) else (Nd.zero, false)
def rd1 (ns : List Nd) (c : Int) := rdN ns true 9 c
def rd2 (ns : List Nd) (c : Int) := rdN ns (rd1 ns c).2 2 (rd1 ns c).1.b
def rd3 (ns : List Nd) (c : Int) := rdN ns (rd2 ns c).2 2 (rd2 ns c).1.b
def rd4 (ns : List Nd) (c : Int) := rdN ns (rd3 ns c).2 1 (rd3 ns c).1.b
def rd5 (ns : List Nd) (c : Int) := rdN ns (rd4 ns c).2 1 (rd1 ns c).1.a
def rd6 (ns : List Nd) (c : Int) := rdN ns (rd5 ns c).2 1 (rd2 ns c).1.a
def rd7 (ns : List Nd) (c : Int) := rdN ns (rd6 ns c).2 3 (rd3 ns c).1.a
def ckE (ns : List Nd) (c : Int) : Bool := (rd7 ns c).2 && decide ((rd4 ns c).1.n = 0)
/-- CookieOk of the program. -/
def ckF (ns : List Nd) (s d h c : Int) : Bool := ckE ns c && (decide ((rd5 ns c).1.n = s) && (decide ((rd6 ns c).1.n = d) && decide ((rd7 ns c).1.a = h)))
theorem rdN_true {ns : List Nd} {ok : Bool} {kd k : Int} (h : (rdN ns ok kd k).2 = true) : ok = true ∧ (rdN ns ok kd k).1 = ndAt ns k ∧ (ndAt ns k).k = kd ∧ StandsN ns k (ndAt ns k) := by
  unfold rdN at h ⊢
  by_cases hc : ok = true ∧ (0 ≤ k ∧ k < (ns.length : Int))
  · rw [if_pos hc] at h ⊢
    simp only [Bool.and_eq_true, decide_eq_true_eq] at h
    obtain ⟨h1, h2⟩ := h
    refine ⟨hc.1, rfl, h1, hc.2.1, hc.2.2, rfl, ?_, ?_⟩
    · unfold putK at h2
      split at h2
      · split at h2
        · omega
        · exact h2
      · omega
    · unfold putK at h2
      split at h2
      · rename_i q; exact q
      · omega
  · rw [if_neg hc] at h
    cases h
theorem StandsN.rd {ns : List Nd} {kd k : Int} {x : Nd} (h : StandsN ns k x) (hk : x.k = kd) : rdN ns true kd k = (x, true) := by
  unfold rdN
  rw [if_pos ⟨rfl, h.k0, h.k1⟩, h.nd, h.put.2]
  simp [hk]
theorem StandsN.two {ns : List Nd} {k kd : Int} {x : Nd} (h : StandsN ns k x) (hk : x.k = kd) (h1 : kd ≠ 1) (h2 : oneK kd = false) : x = ⟨kd, 0, x.a, x.b⟩ := by
  rcases nodeB_true h.ok with q | q | q
  · exact absurd (hk.symm.trans q.1) h1
  · rw [hk, h2] at q; exact absurd q.2.2.2.2.2.1 (by simp)
  · obtain ⟨a, b, c, d⟩ := x
    simp only at q hk
    simp only [Nd.mk.injEq, and_true]
    exact ⟨hk, by omega⟩
theorem StandsN.one {ns : List Nd} {k : Int} {x : Nd} (h : StandsN ns k x) (hk : x.k = 3) : x = ⟨3, 0, x.a, 0⟩ := by
  rcases nodeB_true h.ok with q | q | q
  · have := hk.symm.trans q.1; omega
  · obtain ⟨a, b, c, d⟩ := x
    simp only at q hk
    simp only [Nd.mk.injEq, true_and]
    exact ⟨hk, by omega, by omega⟩
  · have e : oneK x.k = true := by rw [hk]; rfl
    simp [e] at q
theorem StandsN.atom {ns : List Nd} {k : Int} {x : Nd} (h : StandsN ns k x) (hk : x.k = 1) : x = ⟨1, x.n, 0, 0⟩ := by
  rcases nodeB_true h.ok with q | q | q
  · obtain ⟨a, b, c, d⟩ := x
    simp only at q hk
    simp only [Nd.mk.injEq, true_and]
    exact ⟨hk, by omega, by omega⟩
  · exact absurd hk (by omega)
  · exact absurd hk (by omega)
/-- What stands node by node is the cookie, and nothing must be put. -/
theorem stands_ck {M : List Nd} {s d h k1 k2 k3 k4 k5 k6 K : Int} (s1 : StandsN M k1 ⟨1, s, 0, 0⟩) (s2 : StandsN M k2 ⟨1, d, 0, 0⟩) (s3 : StandsN M k3 ⟨3, 0, h, 0⟩) (s4 : StandsN M k4 ⟨1, 0, 0, 0⟩) (s5 : StandsN M k5 ⟨2, 0, k3, k4⟩) (s6 : StandsN M k6 ⟨2, 0, k2, k5⟩) (s7 : StandsN M K ⟨9, 0, k1, k6⟩) : ckA M s d h = M ∧ ckK M s d h = K := by
  have a1 : ckA1 M s = M ∧ ckK1 M s = k1 := s1.put
  have a2 : ckA2 M s d = M ∧ ckK2 M s d = k2 := by unfold ckA2 ckK2; rw [a1.1]; exact s2.put
  have a3 : ckA3 M s d h = M ∧ ckK3 M s d h = k3 := by unfold ckA3 ckK3; rw [a2.1]; exact StandsN.make s3 (by omega)
  have aL : ckL M s d h = (M, k6) := by
    unfold ckL
    rw [a3.1, a2.2, a3.2]
    show (makeA (makeA (putA M ⟨1, 0, 0, 0⟩) 2 k3 (putK M ⟨1, 0, 0, 0⟩)) 2 k2 (makeK (putA M ⟨1, 0, 0, 0⟩) 2 k3 (putK M ⟨1, 0, 0, 0⟩)), makeK (makeA (putA M ⟨1, 0, 0, 0⟩) 2 k3 (putK M ⟨1, 0, 0, 0⟩)) 2 k2 (makeK (putA M ⟨1, 0, 0, 0⟩) 2 k3 (putK M ⟨1, 0, 0, 0⟩))) = _
    rw [s4.put.1, s4.put.2, (StandsN.make (kd := 2) (x := k3) (y := k4) s5 (by omega)).1, (StandsN.make (kd := 2) (x := k3) (y := k4) s5 (by omega)).2, (StandsN.make (kd := 2) (x := k2) (y := k5) s6 (by omega)).1, (StandsN.make (kd := 2) (x := k2) (y := k5) s6 (by omega)).2]
  unfold ckA ckK
  rw [aL, a1.2]
  exact StandsN.make (kd := 9) (x := k1) (y := k6) s7 (by omega)
/-- The program's yes is the specification's. -/
theorem ckF_yes {ns : List Nd} {s d h c : Int} (hy : ckF ns s d h c = true) : ckOk ns s d h c = true := by
  unfold ckF ckE at hy
  simp only [Bool.and_eq_true, decide_eq_true_eq] at hy
  obtain ⟨⟨h7, hz⟩, hs, hd, hh⟩ := hy
  obtain ⟨h6, e7, c7, t7⟩ := rdN_true (ns := ns) (ok := (rd6 ns c).2) (kd := 3) (k := (rd3 ns c).1.a) h7
  obtain ⟨h5, e6, c6, t6⟩ := rdN_true (ns := ns) (ok := (rd5 ns c).2) (kd := 1) (k := (rd2 ns c).1.a) h6
  obtain ⟨h4, e5, c5, t5⟩ := rdN_true (ns := ns) (ok := (rd4 ns c).2) (kd := 1) (k := (rd1 ns c).1.a) h5
  obtain ⟨h3, e4, c4, t4⟩ := rdN_true (ns := ns) (ok := (rd3 ns c).2) (kd := 1) (k := (rd3 ns c).1.b) h4
  obtain ⟨h2, e3, c3, t3⟩ := rdN_true (ns := ns) (ok := (rd2 ns c).2) (kd := 2) (k := (rd2 ns c).1.b) h3
  obtain ⟨h1, e2, c2, t2⟩ := rdN_true (ns := ns) (ok := (rd1 ns c).2) (kd := 2) (k := (rd1 ns c).1.b) h2
  obtain ⟨-, e1, c1, t1⟩ := rdN_true (ns := ns) (ok := true) (kd := 9) (k := c) h1
  change (rd7 ns c).1 = _ at e7
  change (rd6 ns c).1 = _ at e6
  change (rd5 ns c).1 = _ at e5
  change (rd4 ns c).1 = _ at e4
  change (rd3 ns c).1 = _ at e3
  change (rd2 ns c).1 = _ at e2
  change (rd1 ns c).1 = _ at e1
  rw [t7.one c7] at t7
  rw [t6.atom c6] at t6
  rw [t5.atom c5] at t5
  rw [t4.atom c4] at t4
  rw [t3.two c3 (by omega) rfl] at t3
  rw [t2.two c2 (by omega) rfl] at t2
  rw [t1.two c1 (by omega) rfl] at t1
  rw [← e7, hh] at t7
  rw [← e6, hd] at t6
  rw [← e5, hs] at t5
  rw [← e4, hz] at t4
  rw [← e3] at t3
  rw [← e2] at t2
  rw [← e1] at t1
  have := stands_ck t5 t6 t7 t4 t3 t2 t1
  unfold ckOk
  rw [this.2]
  simp [t1.k0]
/-- Where nothing must be put, both say the same. -/
theorem ckF_made {ns : List Nd} {s d h : Int} (hK : 0 ≤ ckK ns s d h) : ckF (ckA ns s d h) s d h (ckK ns s d h) = true := by
  obtain ⟨k1, k2, k3, k4, k5, k6, s1, s2, s3, s4, s5, s6, s7⟩ := ck_stands hK
  generalize ckA ns s d h = M at *
  generalize ckK ns s d h = K at *
  have e1 : rd1 M K = (⟨9, 0, k1, k6⟩, true) := s7.rd rfl
  have e2 : rd2 M K = (⟨2, 0, k2, k5⟩, true) := by unfold rd2; rw [e1]; exact s6.rd rfl
  have e3 : rd3 M K = (⟨2, 0, k3, k4⟩, true) := by unfold rd3; rw [e2]; exact s5.rd rfl
  have e4 : rd4 M K = (⟨1, 0, 0, 0⟩, true) := by unfold rd4; rw [e3]; exact s4.rd rfl
  have e5 : rd5 M K = (⟨1, s, 0, 0⟩, true) := by unfold rd5; rw [e4, e1]; exact s1.rd rfl
  have e6 : rd6 M K = (⟨1, d, 0, 0⟩, true) := by unfold rd6; rw [e5, e2]; exact s2.rd rfl
  have e7 : rd7 M K = (⟨3, 0, h, 0⟩, true) := by unfold rd7; rw [e6, e3]; exact s3.rd rfl
  unfold ckF ckE
  rw [e7, e6, e5, e4]
  simp
/-- At what DrawCookieOk hands out both say the same. -/
theorem ckF_drawn {ns0 : List Nd} {s ad ad0 h k : Int} (h7 : ad0 ≠ 7) (hk : (ad = 7 ∧ k = ckK ns0 s ad0 h) ∨ (ad = ad0 ∧ (k = ckK ns0 s ad0 h ∨ k = ckK ns0 s ad0 h - 1))) (hr : -1 ≤ ckK ns0 s ad0 h) :
    ckF (keptA ns0 (ckA ns0 s ad0 h) (ckK ns0 s ad0 h)) s ad h k = ckOk (keptA ns0 (ckA ns0 s ad0 h) (ckK ns0 s ad0 h)) s ad h k := by
  by_cases hK : 0 ≤ ckK ns0 s ad0 h
  · rw [keptA_pos (show ¬ ckK ns0 s ad0 h < 0 by omega)]
    rcases hk with ⟨e, rfl⟩ | ⟨rfl, e⟩
    · have hno : ckOk (ckA ns0 s ad0 h) s ad h (ckK ns0 s ad0 h) = false := by
        cases hc : ckOk (ckA ns0 s ad0 h) s ad h (ckK ns0 s ad0 h) with
        | false => rfl
        | true =>
          unfold ckOk at hc
          simp only [Bool.and_eq_true, decide_eq_true_eq] at hc
          have := ck_differ hK hc.2
          omega
      rw [hno]
      cases hf : ckF (ckA ns0 s ad0 h) s ad h (ckK ns0 s ad0 h) with
      | false => rfl
      | true => have := ckF_yes hf; rw [hno] at this; exact this.symm
    · rcases e with rfl | rfl
      · rw [ckF_made hK]
        unfold ckOk
        rw [(ck_same hK).2]
        simp [hK]
      · have hno : ckOk (ckA ns0 s ad h) s ad h (ckK ns0 s ad h - 1) = false := by
          unfold ckOk
          rw [(ck_same hK).2, decide_eq_false (show ¬ ckK ns0 s ad h = ckK ns0 s ad h - 1 by omega)]
          simp
        rw [hno]
        cases hf : ckF (ckA ns0 s ad h) s ad h (ckK ns0 s ad h - 1) with
        | false => rfl
        | true => have := ckF_yes hf; rw [hno] at this; exact this.symm
  · have hn : k < 0 := by rcases hk with ⟨-, e⟩ | ⟨-, e | e⟩ <;> omega
    generalize keptA ns0 (ckA ns0 s ad0 h) (ckK ns0 s ad0 h) = M
    have hno : ckOk M s ad h k = false := by
      unfold ckOk
      by_cases hg : 0 ≤ ckK M s ad h
      · rw [decide_eq_false (show ¬ ckK M s ad h = k by omega)]; simp
      · rw [decide_eq_false hg]; rfl
    rw [hno]
    cases hf : ckF M s ad h k with
    | false => rfl
    | true => have := ckF_yes hf; rw [hno] at this; exact this.symm
/-- At a right arena: right for its own, and for nothing else. -/
theorem ckF_back {ns : List Nd} {s d h s' d' h' : Int} (hK : 0 ≤ ckK ns s d h) : ckF (ckA ns s d h) s' d' h' (ckK ns s d h) = decide (s' = s ∧ d' = d ∧ h' = h) := by
  by_cases e : s' = s ∧ d' = d ∧ h' = h
  · obtain ⟨rfl, rfl, rfl⟩ := e
    rw [ckF_made hK]; simp
  · rw [decide_eq_false e]
    cases hf : ckF (ckA ns s d h) s' d' h' (ckK ns s d h) with
    | false => rfl
    | true =>
      have := ckF_yes hf
      unfold ckOk at this
      simp only [Bool.and_eq_true, decide_eq_true_eq] at this
      exact absurd (ck_differ hK this.2) e
end Go.Proofs.Ytffnadnndmmliaa
