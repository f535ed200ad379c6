/- What CookieOf made stands where it was found, in any arena, right or not. -/
import Derived.Test.YtlecpjgeaigjkaaListP
import Derived.Test.YtlecpjgeaigjkaaPlainText
import Derived.Test.YtlecpjgeaigjkaaLawArena2
import Derived.Test.YtlecpjgeaigjkaaHello11
import Derived.Test.YtlecpjgeaigjkaaHin11
import Derived.Test.YtlecpjgeaigjkaaLet11
import Derived.Test.YtlecpjgeaigjkaaLin11
namespace Go.Proofs.Ytlecpjgeaigjkaa
open Go.RowKit
set_option linter.unusedVariables false
theorem findFrom_app9 (x : Nd) : ∀ (l t : List Nd) (i : Nat), findFrom x l i ≠ -1 → findFrom x (l ++ t) i = findFrom x l i
  | [], t, i, h => absurd rfl h
  | y :: l, t, i, h => by
    rw [List.cons_append, findFrom, findFrom] at *
    split
    · rfl
    · rename_i h1
      rw [if_neg h1] at h
      exact findFrom_app9 x l t (i + 1) h
theorem findFrom_new9 (x : Nd) : ∀ (l t : List Nd) (i : Nat), findFrom x l i = -1 → findFrom x (l ++ x :: t) i = ((i + l.length : Nat) : Int)
  | [], t, i, h => by simp [findFrom]
  | y :: l, t, i, h => by
    rw [findFrom] at h
    rw [List.cons_append, findFrom]
    split at h
    · omega
    · rename_i h1
      rw [if_neg h1, findFrom_new9 x l t (i + 1) h]
      simp; omega
theorem findFrom_nd (x : Nd) : ∀ (l : List Nd) (i : Nat), findFrom x l i ≠ -1 → l.getD ((findFrom x l i).toNat - i) Nd.zero = x
  | [], i, h => absurd rfl h
  | y :: l, i, h => by
    rw [findFrom] at h ⊢
    split
    · rename_i h1
      simp [h1]
    · rename_i h1
      rw [if_neg h1] at h
      have hr := findFrom_range x l (i + 1)
      have := findFrom_nd x l (i + 1) h
      obtain ⟨j, hj⟩ : ∃ j, (findFrom x l (i + 1)).toNat - i = j + 1 ∧ (findFrom x l (i + 1)).toNat - (i + 1) = j := ⟨(findFrom x l (i + 1)).toNat - (i + 1), by omega, rfl⟩
      rw [hj.2] at this
      rw [hj.1]
      simpa using this
theorem findN_nd {ms : List Nd} {x : Nd} (h : findN ms x ≠ -1) : ndAt ms (findN ms x) = x := findFrom_nd x ms 0 h
/-- A node that was found, or put, and stands there first. -/
structure StandsN (ms : List Nd) (k : Int) (x : Nd) : Prop where
  k0 : 0 ≤ k
  k1 : k < (ms.length : Int)
  nd : ndAt ms k = x
  fd : findN ms x = k
  ok : nodeB x ms.length = true
theorem stands {ns ms : List Nd} {x : Nd} (h : 0 ≤ putK ns x) (hp : putA ns x <+: ms) : StandsN ms (putK ns x) x := by
  have hn : nodeB x ns.length = true := by
    cases hb : nodeB x ns.length with
    | true => rfl
    | false => unfold putK at h; rw [if_neg (by simp [hb])] at h; omega
  have hf : findN ms x = putK ns x := by
    by_cases hc : findN ns x = -1 ∧ ns.length < 3000
    · have e1 : putA ns x = ns ++ [x] := by unfold putA; rw [if_pos ⟨hn, hc⟩]
      have e2 : putK ns x = (ns.length : Int) := by unfold putK; rw [if_pos hn, if_pos hc]
      rw [e1] at hp
      obtain ⟨t, rfl⟩ := hp
      rw [e2]
      have := findFrom_new9 x ns t 0 hc.1
      unfold findN
      simpa using this
    · have e1 : putA ns x = ns := by unfold putA; rw [if_neg (fun q => hc q.2)]
      have e2 : putK ns x = findN ns x := by unfold putK; rw [if_pos hn, if_neg hc]
      rw [e1] at hp
      obtain ⟨t, rfl⟩ := hp
      rw [e2]
      exact findFrom_app9 x ns t 0 (by rw [e2] at h; unfold findN at h; omega)
  have hr := findN_range ms x
  have hl : ns.length ≤ ms.length := by
    have h1 := hp.length_le
    have h2 : ns.length ≤ (putA ns x).length := (putA_pre ns x).length_le
    omega
  have hne : findN ms x ≠ -1 := by rw [hf]; omega
  have hnd := findN_nd hne
  rw [hf] at hr hnd
  exact ⟨h, by omega, hnd, hf, nodeB_mono hn (by omega)⟩
theorem StandsN.put {ms : List Nd} {k : Int} {x : Nd} (h : StandsN ms k x) : putA ms x = ms ∧ putK ms x = k := by
  have hne : findN ms x ≠ -1 := by rw [h.fd]; have := h.k0; omega
  refine ⟨?_, ?_⟩
  · unfold putA; rw [if_neg (fun q => hne q.2.1)]
  · unfold putK; rw [if_pos h.ok, if_neg (fun q => hne q.1), h.fd]
theorem StandsN.make {ms : List Nd} {k kd x y : Int} (h : StandsN ms k (mkNd kd x y)) (hk : ¬ (kd = 1 ∨ kd = 7)) : makeA ms kd x y = ms ∧ makeK ms kd x y = k := by
  unfold makeA makeK
  rw [if_neg hk, if_neg hk]
  exact h.put
/-- What is made of what can't be can't be. -/
theorem putK_parts {ns : List Nd} {kd a b : Int} (h : 0 ≤ putK ns ⟨kd, 0, a, b⟩) (hk : kd ≠ 1) : 0 ≤ a ∧ (oneK kd = false → 0 ≤ b) := by
  have hn : nodeB ⟨kd, 0, a, b⟩ ns.length = true := by
    cases hb : nodeB ⟨kd, 0, a, b⟩ ns.length with
    | true => rfl
    | false => unfold putK at h; rw [if_neg (by simp [hb])] at h; omega
  rcases nodeB_true hn with q | q | q
  · exact absurd q.1 hk
  · exact ⟨q.2.2.2.1, fun e => by have := q.2.2.2.2.2.1; simp only at this; rw [e] at this; cases this⟩
  · simp only at q
    exact ⟨q.2.2.2.1, fun _ => by omega⟩
/-- A cookie that was made, node by node. -/
theorem ck_stands {ns : List Nd} {s d h : Int} (hK : 0 ≤ ckK ns s d h) : ∃ k1 k2 k3 k4 k5 k6, StandsN (ckA ns s d h) k1 ⟨1, s, 0, 0⟩ ∧ StandsN (ckA ns s d h) k2 ⟨1, d, 0, 0⟩ ∧ StandsN (ckA ns s d h) k3 ⟨3, 0, h, 0⟩ ∧ StandsN (ckA ns s d h) k4 ⟨1, 0, 0, 0⟩ ∧ StandsN (ckA ns s d h) k5 ⟨2, 0, k3, k4⟩ ∧ StandsN (ckA ns s d h) k6 ⟨2, 0, k2, k5⟩ ∧ StandsN (ckA ns s d h) (ckK ns s d h) ⟨9, 0, k1, k6⟩ := by
  have mk : ∀ (ms : List Nd) (kd x y : Int), ¬ (kd = 1 ∨ kd = 7) → makeA ms kd x y = putA ms (mkNd kd x y) ∧ makeK ms kd x y = putK ms (mkNd kd x y) := fun ms kd x y q => by unfold makeA makeK; rw [if_neg q, if_neg q]; exact ⟨rfl, rfl⟩
  obtain ⟨A3, e3⟩ : ∃ A, ckA3 ns s d h = A := ⟨_, rfl⟩
  obtain ⟨k3, ek3⟩ : ∃ k, ckK3 ns s d h = k := ⟨_, rfl⟩
  obtain ⟨k2, ek2⟩ : ∃ k, ckK2 ns s d = k := ⟨_, rfl⟩
  obtain ⟨k1, ek1⟩ : ∃ k, ckK1 ns s = k := ⟨_, rfl⟩
  obtain ⟨A4, e4⟩ : ∃ A, putA A3 ⟨1, 0, 0, 0⟩ = A := ⟨_, rfl⟩
  obtain ⟨k4, ek4⟩ : ∃ k, putK A3 ⟨1, 0, 0, 0⟩ = k := ⟨_, rfl⟩
  obtain ⟨A5, e5⟩ : ∃ A, putA A4 ⟨2, 0, k3, k4⟩ = A := ⟨_, rfl⟩
  obtain ⟨k5, ek5⟩ : ∃ k, putK A4 ⟨2, 0, k3, k4⟩ = k := ⟨_, rfl⟩
  obtain ⟨A6, e6⟩ : ∃ A, putA A5 ⟨2, 0, k2, k5⟩ = A := ⟨_, rfl⟩
  obtain ⟨k6, ek6⟩ : ∃ k, putK A5 ⟨2, 0, k2, k5⟩ = k := ⟨_, rfl⟩
  have hL : ckL ns s d h = (A6, k6) := by
    unfold ckL
    rw [e3, ek2, ek3]
    show (makeA (makeA (putA A3 ⟨1, 0, 0, 0⟩) 2 k3 (putK A3 ⟨1, 0, 0, 0⟩)) 2 k2 (makeK (putA A3 ⟨1, 0, 0, 0⟩) 2 k3 (putK A3 ⟨1, 0, 0, 0⟩)), makeK (makeA (putA A3 ⟨1, 0, 0, 0⟩) 2 k3 (putK A3 ⟨1, 0, 0, 0⟩)) 2 k2 (makeK (putA A3 ⟨1, 0, 0, 0⟩) 2 k3 (putK A3 ⟨1, 0, 0, 0⟩))) = _
    rw [e4, ek4, (mk A4 2 k3 k4 (by omega)).1, (mk A4 2 k3 k4 (by omega)).2]
    show (makeA (putA A4 ⟨2, 0, k3, k4⟩) 2 k2 (putK A4 ⟨2, 0, k3, k4⟩), makeK (putA A4 ⟨2, 0, k3, k4⟩) 2 k2 (putK A4 ⟨2, 0, k3, k4⟩)) = _
    rw [e5, ek5, (mk A5 2 k2 k5 (by omega)).1, (mk A5 2 k2 k5 (by omega)).2]
    show (putA A5 ⟨2, 0, k2, k5⟩, putK A5 ⟨2, 0, k2, k5⟩) = _
    rw [e6, ek6]
  have eA : ckA ns s d h = putA A6 ⟨9, 0, k1, k6⟩ := by unfold ckA; rw [hL, ek1, (mk A6 9 k1 k6 (by omega)).1]; rfl
  have eK : ckK ns s d h = putK A6 ⟨9, 0, k1, k6⟩ := by unfold ckK; rw [hL, ek1, (mk A6 9 k1 k6 (by omega)).2]; rfl
  have eA3 : putA (ckA2 ns s d) ⟨3, 0, h, 0⟩ = A3 := by rw [← e3]; unfold ckA3; rw [(mk _ 3 h 0 (by omega)).1]; rfl
  have eK3 : putK (ckA2 ns s d) ⟨3, 0, h, 0⟩ = k3 := by rw [← ek3]; unfold ckK3; rw [(mk _ 3 h 0 (by omega)).2]; rfl
  have g7 : 0 ≤ putK A6 ⟨9, 0, k1, k6⟩ := by rw [← eK]; exact hK
  obtain ⟨g1, g6⟩ := putK_parts g7 (by omega)
  have g6 := g6 rfl
  obtain ⟨g2, g5⟩ := putK_parts (ns := A5) (kd := 2) (a := k2) (b := k5) (by rw [ek6]; exact g6) (by omega)
  have g5 := g5 rfl
  obtain ⟨g3, g4⟩ := putK_parts (ns := A4) (kd := 2) (a := k3) (b := k4) (by rw [ek5]; exact g5) (by omega)
  have g4 := g4 rfl
  have r7 : putA A6 ⟨9, 0, k1, k6⟩ <+: ckA ns s d h := by rw [eA]; exact List.prefix_refl _
  have r6 : A6 <+: ckA ns s d h := (putA_pre _ _).trans r7
  have r5 : A5 <+: ckA ns s d h := (by rw [← e6]; exact putA_pre _ _ : A5 <+: A6).trans r6
  have r4 : A4 <+: ckA ns s d h := (by rw [← e5]; exact putA_pre _ _ : A4 <+: A5).trans r5
  have r3 : A3 <+: ckA ns s d h := (by rw [← e4]; exact putA_pre _ _ : A3 <+: A4).trans r4
  have r2 : ckA2 ns s d <+: ckA ns s d h := (by rw [← eA3]; exact putA_pre _ _ : ckA2 ns s d <+: A3).trans r3
  have r1 : ckA1 ns s <+: ckA ns s d h := (show ckA1 ns s <+: ckA2 ns s d from putA_pre _ _).trans r2
  refine ⟨k1, k2, k3, k4, k5, k6, ?_, ?_, ?_, ?_, ?_, ?_, ?_⟩
  · rw [← ek1]; exact stands (by show 0 ≤ ckK1 ns s; rw [ek1]; exact g1) r1
  · rw [← ek2]; exact stands (by show 0 ≤ ckK2 ns s d; rw [ek2]; exact g2) r2
  · rw [← eK3]; exact stands (by rw [eK3]; exact g3) (by rw [eA3]; exact r3)
  · have := stands (ns := A3) (x := ⟨1, 0, 0, 0⟩) (by rw [ek4]; exact g4) (by rw [e4]; exact r4); rw [ek4] at this; exact this
  · have := stands (ns := A4) (x := ⟨2, 0, k3, k4⟩) (by rw [ek5]; exact g5) (by rw [e5]; exact r5); rw [ek5] at this; exact this
  · have := stands (ns := A5) (x := ⟨2, 0, k2, k5⟩) (by rw [ek6]; exact g6) (by rw [e6]; exact r6); rw [ek6] at this; exact this
  · rw [eK]; exact stands g7 r7
/-- Made again it is the same, and nothing comes. -/
theorem ck_same {ns : List Nd} {s d h : Int} (hK : 0 ≤ ckK ns s d h) : ckA (ckA ns s d h) s d h = ckA ns s d h ∧ ckK (ckA ns s d h) s d h = ckK ns s d h := by
  obtain ⟨k1, k2, k3, k4, k5, k6, s1, s2, s3, s4, s5, s6, s7⟩ := ck_stands hK
  generalize ckA ns s d h = M at *
  generalize ckK ns s d h = K at *
  have a1 : ckA1 M s = M ∧ ckK1 M s = k1 := s1.put
  have a2 : ckA2 M s d = M ∧ ckK2 M s d = k2 := by unfold ckA2 ckK2; rw [a1.1]; exact s2.put
  have a3 : ckA3 M s d h = M ∧ ckK3 M s d h = k3 := by unfold ckA3 ckK3; rw [a2.1]; exact StandsN.make s3 (by omega)
  have aL : ckL M s d h = (M, k6) := by
    unfold ckL
    rw [a3.1, a2.2, a3.2]
    show (makeA (makeA (putA M ⟨1, 0, 0, 0⟩) 2 k3 (putK M ⟨1, 0, 0, 0⟩)) 2 k2 (makeK (putA M ⟨1, 0, 0, 0⟩) 2 k3 (putK M ⟨1, 0, 0, 0⟩)), makeK (makeA (putA M ⟨1, 0, 0, 0⟩) 2 k3 (putK M ⟨1, 0, 0, 0⟩)) 2 k2 (makeK (putA M ⟨1, 0, 0, 0⟩) 2 k3 (putK M ⟨1, 0, 0, 0⟩))) = _
    rw [s4.put.1, s4.put.2, (StandsN.make (kd := 2) (x := k3) (y := k4) s5 (by omega)).1, (StandsN.make (kd := 2) (x := k3) (y := k4) s5 (by omega)).2, (StandsN.make (kd := 2) (x := k2) (y := k5) s6 (by omega)).1, (StandsN.make (kd := 2) (x := k2) (y := k5) s6 (by omega)).2]
  unfold ckA ckK
  rw [aL, a1.2]
  exact StandsN.make (kd := 9) (x := k1) (y := k6) s7 (by omega)
theorem ndAt_pre9 {ms ns : List Nd} (hp : ms <+: ns) {k : Int} (h0 : 0 ≤ k) (h1 : k < (ms.length : Int)) : ndAt ns k = ndAt ms k := by
  obtain ⟨t, rfl⟩ := hp
  unfold ndAt
  rw [List.getD_eq_getElem?_getD, List.getElem?_append_left (by omega), ← List.getD_eq_getElem?_getD]
theorem ck_pre (ns : List Nd) (s d h : Int) : ns <+: ckA ns s d h := by
  have mkp : ∀ (ms : List Nd) (kd x y : Int), ms <+: makeA ms kd x y := fun ms kd x y => by unfold makeA; split; exact List.prefix_refl _; exact putA_pre _ _
  have l : ∀ (xs : List Int) (ms : List Nd), ms <+: (listF xs ms).1 := fun xs => by
    induction xs with
    | nil => exact fun ms => putA_pre _ _
    | cons x xs ih => exact fun ms => (ih ms).trans (show _ <+: makeA (listF xs ms).1 2 x (listF xs ms).2 from mkp _ _ _ _)
  exact (putA_pre _ _).trans ((putA_pre _ _).trans ((mkp _ _ _ _).trans ((l _ _).trans (mkp _ _ _ _))))
/-- Two cookies at one place are one. -/
theorem ck_differ {ns : List Nd} {s d h s' d' h' : Int} (hK : 0 ≤ ckK ns s d h) (e : ckK (ckA ns s d h) s' d' h' = ckK ns s d h) : s' = s ∧ d' = d ∧ h' = h := by
  obtain ⟨k1, k2, k3, k4, k5, k6, s1, s2, s3, s4, s5, s6, s7⟩ := ck_stands hK
  have hK' : 0 ≤ ckK (ckA ns s d h) s' d' h' := by rw [e]; exact hK
  have hp := ck_pre (ckA ns s d h) s' d' h'
  obtain ⟨j1, j2, j3, j4, j5, j6, t1, t2, t3, t4, t5, t6, t7⟩ := ck_stands hK'
  rw [e] at t7
  have e7 := t7.nd
  rw [ndAt_pre9 hp s7.k0 s7.k1, s7.nd] at e7
  simp only [Nd.mk.injEq, true_and] at e7
  obtain ⟨rfl, rfl⟩ := e7
  have e6 := t6.nd
  rw [ndAt_pre9 hp s6.k0 s6.k1, s6.nd] at e6
  simp only [Nd.mk.injEq, true_and] at e6
  obtain ⟨rfl, rfl⟩ := e6
  have e5 := t5.nd
  rw [ndAt_pre9 hp s5.k0 s5.k1, s5.nd] at e5
  simp only [Nd.mk.injEq, true_and] at e5
  obtain ⟨rfl, rfl⟩ := e5
  have e1 := t1.nd
  rw [ndAt_pre9 hp s1.k0 s1.k1, s1.nd] at e1
  have e2 := t2.nd
  rw [ndAt_pre9 hp s2.k0 s2.k1, s2.nd] at e2
  have e3 := t3.nd
  rw [ndAt_pre9 hp s3.k0 s3.k1, s3.nd] at e3
  simp only [Nd.mk.injEq, true_and, and_true] at e1 e2 e3
  exact ⟨e1.symm, e2.symm, e3.symm⟩
end Go.Proofs.Ytlecpjgeaigjkaa

namespace Go.Proofs.Ytlecpjgeaigjkaa
open Go.RowKit
set_option linter.unusedVariables false
/-- At k stands the List of these. -/
def Reads (ms : List Nd) : Int → List Int → Prop
  | k, [] => ndAt ms k = ⟨1, 0, 0, 0⟩
  | k, x :: xs => ∃ r, ndAt ms k = ⟨2, 0, x, r⟩ ∧ Reads ms r xs
theorem list_reads : ∀ (xs : List Int) {ns ms : List Nd}, 0 ≤ (listF xs ns).2 → (listF xs ns).1 <+: ms → Reads ms (listF xs ns).2 xs
  | [], ns, ms, h, hp => (stands (ns := ns) (x := ⟨1, 0, 0, 0⟩) h hp).nd
  | x :: xs, ns, ms, h, hp => by
    have e1 : (listF (x :: xs) ns).1 = putA (listF xs ns).1 ⟨2, 0, x, (listF xs ns).2⟩ := by rw [listF_cons]; simp only; unfold makeA; rw [if_neg (by omega)]; rfl
    have e2 : (listF (x :: xs) ns).2 = putK (listF xs ns).1 ⟨2, 0, x, (listF xs ns).2⟩ := by rw [listF_cons]; simp only; unfold makeK; rw [if_neg (by omega)]; rfl
    rw [e2] at h ⊢
    rw [e1] at hp
    obtain ⟨h1, h2⟩ := putK_parts h (by omega)
    exact ⟨_, (stands h hp).nd, list_reads xs (h2 rfl) ((putA_pre _ _).trans hp)⟩
theorem reads_parts {ms : List Nd} : ∀ (m : Nat) {k : Int} {xs ys : List Int}, Reads ms k xs → partsN ms m k = some ys → ys = xs
  | 0, k, xs, ys, hr, h => by
    rw [partsN] at h
    split at h
    · rename_i q
      have hk := (isK_at q.1).2.1
      cases xs with
      | nil => simpa using h.symm
      | cons x xs => obtain ⟨r, h1, _⟩ := hr; rw [h1] at hk; simp at hk
    · cases h
  | m + 1, k, xs, ys, hr, h => by
    rw [partsN] at h
    split at h
    · rename_i q
      have hk := (isK_at q).2.1
      cases xs with
      | nil => rw [show ndAt ms k = ⟨1, 0, 0, 0⟩ from hr] at hk; simp at hk
      | cons x xs =>
        obtain ⟨r, h1, h2⟩ := hr
        rw [h1] at h
        simp only at h
        cases e : partsN ms m r with
        | none => rw [e] at h; cases h
        | some zs =>
          rw [e] at h
          simp only [Option.map_some, Option.some.injEq] at h
          rw [← h, reads_parts m h2 e]
    · cases h
theorem reads_V {ms : List Nd} {k n : Int} {xs : List Int} (hr : Reads ms k xs) (hb : partsB ms k n = true) : partsV ms k n = xs := by
  unfold partsB at hb
  unfold partsV
  cases hp : partsR ms k n with
  | none => rw [hp] at hb; simp at hb
  | some ys =>
    unfold partsR at hp
    split at hp
    · simp at hp
    · exact reads_parts _ hr hp
theorem parts_neg {ms : List Nd} {k : Int} (hk : k < 0) (n : Int) : partsB ms k n = false := by
  have hi : ∀ j, isK ms k j = false := fun j => by
    cases h : isK ms k j with
    | false => rfl
    | true => have := (isK_at h).1; omega
  unfold partsB partsR
  split
  · rfl
  · cases n.toNat with
    | zero => rw [partsN, if_neg (by rw [hi]; simp)]; rfl
    | succ m => rw [partsN, if_neg (by rw [hi]; simp)]; rfl
theorem num_at {ms : List Nd} {k n : Int} (h1 : isK ms k 1 = true) (h2 : ndAt ms k = ⟨1, n, 0, 0⟩) : numV ms k = n := by unfold numV; rw [if_pos h1, h2]
theorem keptA_of {ns A : List Nd} {K : Int} (h : 0 ≤ K) : keptA ns A K = A := by unfold keptA; rw [if_neg (by omega)]
theorem listF_preH : ∀ (xs : List Int) (ns : List Nd), ns <+: (listF xs ns).1
  | [], ns => putA_pre _ _
  | x :: xs, ns => by
    have e1 : (listF (x :: xs) ns).1 = putA (listF xs ns).1 ⟨2, 0, x, (listF xs ns).2⟩ := by rw [listF_cons]; simp only; unfold makeA; rw [if_neg (by omega)]; rfl
    rw [e1]
    exact (listF_preH xs ns).trans (putA_pre _ _)
/-- First words come back. -/
theorem hel_back {ns : List Nd} {mo na no pu : Int} (hb : helB (keptA ns (hlA ns mo na no pu) (hlK ns mo na no pu)) (hlK ns mo na no pu) = true) :
    helM (keptA ns (hlA ns mo na no pu) (hlK ns mo na no pu)) (hlK ns mo na no pu) = mo ∧ helN (keptA ns (hlA ns mo na no pu) (hlK ns mo na no pu)) (hlK ns mo na no pu) = na ∧ helO (keptA ns (hlA ns mo na no pu) (hlK ns mo na no pu)) (hlK ns mo na no pu) = no ∧ helP (keptA ns (hlA ns mo na no pu) (hlK ns mo na no pu)) (hlK ns mo na no pu) = pu := by
  by_cases hK : 0 ≤ hlK ns mo na no pu
  · rw [keptA_of hK] at hb ⊢
    obtain ⟨M, eM⟩ : ∃ M, hlA ns mo na no pu = M := ⟨_, rfl⟩
    obtain ⟨K, eK⟩ : ∃ K, hlK ns mo na no pu = K := ⟨_, rfl⟩
    have hp3 : hlA3 ns mo na <+: M := by rw [← eM]; exact listF_preH _ _
    have hR : Reads M K [putK ns ⟨1, 61, 0, 0⟩, putK (hlA1 ns) ⟨1, mo, 0, 0⟩, putK (hlA2 ns mo) ⟨1, na, 0, 0⟩, no, pu] := by rw [← eK, ← eM]; exact list_reads _ hK (List.prefix_refl _)
    rw [eM, eK] at hb ⊢
    have hb2 := hb
    unfold helB at hb
    simp only [Bool.and_eq_true] at hb
    obtain ⟨b0, b1, b2, b3, b4, b5, b6, b7⟩ := hb
    have eV := reads_V hR b0
    have e1 : p5 M K 1 = putK (hlA1 ns) ⟨1, mo, 0, 0⟩ := by unfold p5; rw [eV]; rfl
    have e2 : p5 M K 2 = putK (hlA2 ns mo) ⟨1, na, 0, 0⟩ := by unfold p5; rw [eV]; rfl
    have e3 : p5 M K 3 = no := by unfold p5; rw [eV]; rfl
    have e4 : p5 M K 4 = pu := by unfold p5; rw [eV]; rfl
    rw [e1] at b4
    rw [e2] at b5
    have s1 := stands (ns := hlA1 ns) (x := ⟨1, mo, 0, 0⟩) (ms := M) (by have := (isK_at b4).1; omega) ((putA_pre (hlA2 ns mo) ⟨1, na, 0, 0⟩).trans hp3)
    have s2 := stands (ns := hlA2 ns mo) (x := ⟨1, na, 0, 0⟩) (ms := M) (by have := (isK_at b5).1; omega) hp3
    refine ⟨?_, ?_, ?_, ?_⟩
    · unfold helM; rw [if_pos hb2, e1]; exact num_at b4 s1.nd
    · unfold helN; rw [if_pos hb2, e2]; exact num_at b5 s2.nd
    · unfold helO; rw [if_pos hb2, e3]
    · unfold helP; rw [if_pos hb2, e4]
  · exfalso
    unfold helB at hb
    rw [parts_neg (by omega)] at hb
    simp at hb
theorem srv_back {ns : List Nd} {no pu : Int} (hb : srvB (keptA ns (svA ns no pu) (svK ns no pu)) (svK ns no pu) = true) : srvN (keptA ns (svA ns no pu) (svK ns no pu)) (svK ns no pu) = no ∧ srvP (keptA ns (svA ns no pu) (svK ns no pu)) (svK ns no pu) = pu := by
  by_cases hK : 0 ≤ svK ns no pu
  · rw [keptA_of hK] at hb ⊢
    have hR : Reads (svA ns no pu) (svK ns no pu) [putK ns ⟨1, 62, 0, 0⟩, no, pu] := list_reads _ hK (List.prefix_refl _)
    have hb2 := hb
    unfold srvB at hb
    simp only [Bool.and_eq_true] at hb
    have eV := reads_V hR hb.1
    refine ⟨?_, ?_⟩
    · unfold srvN p3; rw [if_pos hb2, eV]; rfl
    · unfold srvP p3; rw [if_pos hb2, eV]; rfl
  · exfalso
    unfold srvB at hb
    rw [parts_neg (by omega)] at hb
    simp at hb
/-- A letter tells its kind, and its parts. -/
theorem let_back {ns : List Nd} {kd : Int} {xs : List Int} (hb : linB (keptA ns (ltA ns kd xs) (ltK ns kd xs)) (ltK ns kd xs) = true) : linK (keptA ns (ltA ns kd xs) (ltK ns kd xs)) (ltK ns kd xs) = kd ∧ linV (keptA ns (ltA ns kd xs) (ltK ns kd xs)) (ltK ns kd xs) = xs := by
  have hb0 := hb
  unfold linB at hb
  simp only [Bool.and_eq_true] at hb
  obtain ⟨b0, b1, b2, b3, b4⟩ := hb
  have hK : 0 ≤ ltK ns kd xs := by have := (isK_at b0).1; omega
  rw [keptA_of hK] at hb0 b0 b1 b2 b3 b4 ⊢
  obtain ⟨M, eM⟩ : ∃ M, ltA ns kd xs = M := ⟨_, rfl⟩
  obtain ⟨K, eK⟩ : ∃ K, ltK ns kd xs = K := ⟨_, rfl⟩
  have hp : putA ns ⟨1, kd, 0, 0⟩ <+: M := by rw [← eM]; exact listF_preH _ _
  have hR : Reads M K (putK ns ⟨1, kd, 0, 0⟩ :: xs) := by rw [← eK, ← eM]; exact list_reads _ hK (List.prefix_refl _)
  rw [eM, eK] at hb0 b0 b1 b2 b3 b4 ⊢
  obtain ⟨r, h1, h2⟩ := hR
  have ha : (ndAt M K).a = putK ns ⟨1, kd, 0, 0⟩ := by rw [h1]
  rw [ha] at b1
  have s1 := stands (ns := ns) (x := ⟨1, kd, 0, 0⟩) (ms := M) (by have := (isK_at b1).1; omega) hp
  have ek : ltKd M K = kd := by unfold ltKd; rw [ha]; exact num_at b1 s1.nd
  have eV : ltPs M K = putK ns ⟨1, kd, 0, 0⟩ :: xs := reads_V ⟨r, h1, h2⟩ b3
  refine ⟨?_, ?_⟩
  · unfold linK; rw [if_pos hb0, ek]
  · unfold linV; rw [if_pos hb0, eV]; rfl
end Go.Proofs.Ytlecpjgeaigjkaa
