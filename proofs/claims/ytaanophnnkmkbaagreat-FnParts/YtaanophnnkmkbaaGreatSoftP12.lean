/- What is put into a drawn arena, right or not: where a part or an ack was made there are eight nodes at least, so each part of a node lies within the arena; where none was made, none is found. -/
import Derived.Test.YtaanophnnkmkbaaGreatDrawAnyS
import Derived.Test.YtaanophnnkmkbaaGreatTame12
import Derived.Test.YtaanophnnkmkbaaGreatPart12
import Derived.Test.YtaanophnnkmkbaaGreatPartP12
import Derived.Test.YtaanophnnkmkbaaGreatKeptS
import Derived.Test.YtaanophnnkmkbaaGreatImplPl12
namespace Go.Proofs.YtaanophnnkmkbaaGreat
open Go.RowKit
set_option linter.unusedVariables false
def Soft (ns : List Nd) : Prop := ∀ y ∈ ns, (y.a < (ns.length : Int) ∨ y.a < 8) ∧ (y.b < (ns.length : Int) ∨ y.b < 8)
theorem soft_of {ns : List Nd} (h : ∀ y ∈ ns, Sf ns.length y) : Soft ns := fun y hy => (h y hy).2
theorem soft_fits {ns : List Nd} (h : ∀ y ∈ ns, Sf ns.length y) : ∀ y ∈ ns, y.Fits := fun y hy => (h y hy).1
theorem putA_soft {ns : List Nd} {x : Nd} (h : Soft ns) : Soft (putA ns x) := by
  unfold putA
  split
  · rename_i hc
    intro y hy
    have hl : (ns ++ [x]).length = ns.length + 1 := by simp
    rw [hl]
    rcases List.mem_append.1 hy with h1 | h1
    · have := h y h1
      omega
    · simp at h1
      have := nodeB_sf hc.1
      rw [h1]
      omega
  · exact h
theorem makeA_soft {ns : List Nd} {kd x y : Int} (h : Soft ns) : Soft (makeA ns kd x y) := by
  unfold makeA
  split
  · exact h
  · exact putA_soft h
theorem listF_soft : ∀ (xs : List Int) {ns : List Nd}, Soft ns → Soft (listF xs ns).1
  | [], ns, h => putA_soft h
  | x :: xs, ns, h => show Soft (makeA (listF xs ns).1 2 x (listF xs ns).2) from makeA_soft (listF_soft xs h)
theorem lgA_soft {ns : List Nd} {n : Int} (h : Soft ns) : Soft (lgA ns n) := by
  unfold lgA; split
  · exact putA_soft h
  · exact h
theorem crA_soft {ns : List Nd} {n : Int} (h : Soft ns) : Soft (crA ns n) := makeA_soft (listF_soft _ (makeA_soft (lgA_soft (putA_soft (putA_soft (putA_soft h))))))
theorem sideA_soft {ns : List Nd} {s n : Int} (h : Soft ns) : Soft (sideA ns s n) := makeA_soft (putA_soft h)
theorem overA_soft {ns : List Nd} {k s n d : Int} (h : Soft ns) : Soft (overA ns k s n d) := makeA_soft (makeA_soft (sideA_soft h))
theorem wdA_soft {ns : List Nd} {m d : Int} (h : Soft ns) : Soft (wdA ns m d) := listF_soft _ (makeA_soft (putA_soft h))
theorem pvA_soft {ns : List Nd} {m mo nm sa : Int} (h : Soft ns) : Soft (pvA ns m mo nm sa) := by
  unfold pvA; split
  · exact makeA_soft (wdA_soft (lgA_soft (crA_soft h)))
  · exact putA_soft h
theorem ptA_soft {ns : List Nd} {sd hd m1 m mo nm sa : Int} (h : Soft ns) : Soft (ptA ns sd hd m1 m mo nm sa) := makeA_soft (listF_soft _ (overA_soft (pvA_soft (sideA_soft h))))
theorem akA_soft {ns : List Nd} {hd le sa : Int} (h : Soft ns) : Soft (akA ns hd le sa) := makeA_soft (listF_soft _ (makeA_soft (putA_soft (sideA_soft h))))
theorem tame_soft {ns : List Nd} (h : Soft ns) (hl : 8 ≤ ns.length) : Tame ns := fun y hy => by have := h y hy; omega
/-- Unlike nodes that stand in a list are no more than it has. -/
theorem many_le : ∀ {l M : List Nd}, l.Nodup → (∀ x ∈ l, x ∈ M) → l.length ≤ M.length
  | [], M, _, _ => by simp
  | x :: l, M, hn, hs => by
    have hx := hs x (List.mem_cons_self)
    rw [List.nodup_cons] at hn
    have := many_le (l := l) (M := M.erase x) hn.2 (fun y hy => (List.mem_erase_of_ne (fun e : y = x => hn.1 (by rw [← e]; exact hy))).2 (hs y (List.mem_cons_of_mem _ hy)))
    have hp : 0 < M.length := List.length_pos_of_mem hx
    rw [List.length_erase_of_mem hx] at this
    simp only [List.length_cons]
    omega
/-- At j stands x (right or not). -/
def St (M : List Nd) (j : Int) (x : Nd) : Prop := 0 ≤ j ∧ M[j.toNat]? = some x
theorem St.on {ns ms : List Nd} {j : Int} {x : Nd} (hp : ns <+: ms) (h : St ns j x) : St ms j x := by
  obtain ⟨t, rfl⟩ := hp
  refine ⟨h.1, ?_⟩
  rw [List.getElem?_append_left ((List.getElem?_eq_some_iff.1 h.2).1)]
  exact h.2
theorem St.mem {M : List Nd} {j : Int} {x : Nd} (h : St M j x) : x ∈ M := List.mem_of_getElem? h.2
theorem St.eq {M : List Nd} {j : Int} {x y : Nd} (h : St M j x) (k : St M j y) : x = y := Option.some.inj (h.2.symm.trans k.2)
theorem put_st {ns : List Nd} {x : Nd} (h : 0 ≤ putK ns x) : St (putA ns x) (putK ns x) x ∧ nodeB x (ns.length : Int) = true := by
  unfold putK at h ⊢
  unfold putA
  split at h
  · rename_i h1
    rw [if_pos h1]
    refine ⟨?_, h1⟩
    split at h
    · rename_i h2
      rw [if_pos h2, if_pos ⟨h1, h2.1, h2.2⟩]
      exact ⟨by omega, by simp⟩
    · rename_i h2
      rw [if_neg h2, if_neg (fun c => h2 ⟨c.2.1, c.2.2⟩)]
      obtain ⟨j, hj⟩ := Int.eq_ofNat_of_zero_le h
      refine ⟨h, ?_⟩
      rw [hj]
      exact findN_at hj
  · omega
theorem mk_st {ns : List Nd} {kd x y : Int} (h : 0 ≤ makeK ns kd x y) : St (makeA ns kd x y) (makeK ns kd x y) (mkNd kd x y) ∧ 0 ≤ (mkNd kd x y).a ∧ 0 ≤ (mkNd kd x y).b := by
  unfold makeK at h ⊢
  unfold makeA
  split at h
  · omega
  · rename_i hk
    rw [if_neg hk, if_neg hk]
    have := put_st h
    exact ⟨this.1, nodeB_kids this.2⟩
theorem side_st {ns : List Nd} {s n : Int} (h : 0 ≤ sideK ns s n) : ∃ j, St (sideA ns s n) (sideK ns s n) ⟨4, 0, s, j⟩ ∧ St (sideA ns s n) j ⟨1, n, 0, 0⟩ := by
  have h1 := mk_st h
  have h2 := put_st (ns := ns) (x := ⟨1, n, 0, 0⟩) h1.2.2
  exact ⟨_, h1.1, h2.1.on (mk_preP _ _ _ _)⟩
theorem over_st {ns : List Nd} {s n d : Int} (h : 0 ≤ overK ns 9 s n d) : ∃ mk km mh, St (overA ns 9 s n d) (overK ns 9 s n d) ⟨9, 0, mk, mh⟩ ∧ St (overA ns 9 s n d) mk ⟨4, 0, s, km⟩ ∧ St (overA ns 9 s n d) km ⟨1, n, 0, 0⟩ ∧ St (overA ns 9 s n d) mh ⟨3, 0, d, 0⟩ := by
  have h1 := mk_st h
  have h2 := mk_st (ns := sideA ns s n) (kd := 3) (x := d) (y := 0) h1.2.2
  obtain ⟨j, h3, h4⟩ := side_st (ns := ns) (s := s) (n := n) h1.2.1
  exact ⟨_, _, _, h1.1, (h3.on (mk_preP _ _ _ _)).on (mk_preP _ _ _ _), (h4.on (mk_preP _ _ _ _)).on (mk_preP _ _ _ _), h2.1.on (mk_preP _ _ _ _)⟩
theorem list_st : ∀ (xs : List Int) {ns : List Nd}, 0 ≤ (listF xs ns).2 → (∀ x ∈ xs, 0 ≤ x) ∧ ⟨1, 0, 0, 0⟩ ∈ (listF xs ns).1
  | [], ns, h => ⟨by simp, (put_st (ns := ns) (x := ⟨1, 0, 0, 0⟩) h).1.mem⟩
  | x :: xs, ns, h => by
    have h1 := mk_st (ns := (listF xs ns).1) (kd := 2) (x := x) (y := (listF xs ns).2) h
    have h2 := list_st xs (show 0 ≤ (listF xs ns).2 from h1.2.2)
    refine ⟨fun y hy => ?_, (mk_preP (listF xs ns).1 2 x (listF xs ns).2).subset h2.2⟩
    rcases List.mem_cons.1 hy with rfl | h3
    · exact h1.2.1
    · exact h2.1 y h3
theorem pvA_preP (ns : List Nd) (m mo nm sa : Int) : ns <+: pvA ns m mo nm sa := by
  unfold pvA; split
  · exact (crA_pre ns nm).trans ((lgA_pre (crA ns nm) nm).trans ((wdA_pre (lgA (crA ns nm) nm) m sa).trans (mk_preP _ _ _ _)))
  · exact putA_pre _ _
theorem pt_eight {ns : List Nd} {sd hd m mo nm sa : Int} (hsd : 1 ≤ sd ∧ sd ≤ 2) (h : 0 ≤ ptK ns sd hd (10 + sd) m mo nm sa) : 8 ≤ (ptA ns sd hd (10 + sd) m mo nm sa).length := by
  have h1 := mk_st h
  obtain ⟨h2, h3⟩ := list_st _ (show 0 ≤ (ptL ns sd hd (10 + sd) m mo nm sa).2 from h1.2.2)
  obtain ⟨j, h4, h5⟩ := side_st (ns := ns) (s := hd) (n := sd) h1.2.1
  obtain ⟨mk, km, mh, o1, o2, o3, o4⟩ := over_st (ns := ptA2 ns sd hd m mo nm sa) (s := hd) (n := 10 + sd) (d := sa) (h2 _ (by simp))
  have p4 : (ptL ns sd hd (10 + sd) m mo nm sa).1 <+: ptA ns sd hd (10 + sd) m mo nm sa := mk_preP _ _ _ _
  have p3 : ptA3 ns sd hd (10 + sd) m mo nm sa <+: ptA ns sd hd (10 + sd) m mo nm sa := (listF_preP _ _).trans p4
  have p2 : ptA2 ns sd hd m mo nm sa <+: ptA ns sd hd (10 + sd) m mo nm sa := (overA_pre _ _ _ _ _).trans p3
  have p1 : sideA ns hd sd <+: ptA ns sd hd (10 + sd) m mo nm sa := (pvA_preP _ _ _ _ _).trans p2
  have s1 := h1.1
  have s4 := h4.on p1
  have s5 := h5.on p1
  have t1 := o1.on p3
  have t2 := o2.on p3
  have t3 := o3.on p3
  have t4 := o4.on p3
  have s0 := p4.subset h3
  have hjk : j ≠ km := fun e => by
    rw [e] at s5
    have := s5.eq t3
    simp only [Nd.mk.injEq] at this
    omega
  have e : mkNd 5 (sideK ns hd sd) (ptL ns sd hd (10 + sd) m mo nm sa).2 = ⟨5, 0, sideK ns hd sd, (ptL ns sd hd (10 + sd) m mo nm sa).2⟩ := rfl
  rw [e] at s1
  refine many_le (l := [⟨5, 0, sideK ns hd sd, (ptL ns sd hd (10 + sd) m mo nm sa).2⟩, ⟨9, 0, mk, mh⟩, ⟨4, 0, hd, j⟩, ⟨4, 0, hd, km⟩, ⟨3, 0, sa, 0⟩, ⟨1, sd, 0, 0⟩, ⟨1, 10 + sd, 0, 0⟩, ⟨1, 0, 0, 0⟩]) ?_ ?_
  · simp only [List.nodup_cons, List.mem_cons, List.not_mem_nil, Nd.mk.injEq, or_false]
    refine ⟨by omega, by omega, by omega, by omega, by omega, by omega, by omega, by simp, by simp⟩
  · intro x hx
    simp only [List.mem_cons, List.not_mem_nil, or_false] at hx
    rcases hx with rfl | rfl | rfl | rfl | rfl | rfl | rfl | rfl
    · exact s1.mem
    · exact t1.mem
    · exact s4.mem
    · exact t2.mem
    · exact t4.mem
    · exact s5.mem
    · exact t3.mem
    · exact s0
theorem ak_eight {ns : List Nd} {hd le sa : Int} (hle : 1 ≤ le ∧ le ≤ 12 ∨ le < 0) (h : 0 ≤ akK ns hd le sa) : 8 ≤ (akA ns hd le sa).length := by
  have h1 := mk_st h
  have hL : 0 ≤ (listF [putK (akA1 ns hd) ⟨1, le, 0, 0⟩, makeK (akA2 ns hd le) 3 sa 0] (akA3 ns hd le sa)).2 := h1.2.2
  obtain ⟨h2, h3⟩ := list_st _ hL
  have hp := h2 _ (List.mem_cons_self)
  have hh := h2 (makeK (akA2 ns hd le) 3 sa 0) (by simp)
  obtain ⟨j, h4, h5⟩ := side_st (ns := ns) (s := hd) (n := 40) h1.2.1
  have h6 := put_st hp
  have h7 := mk_st hh
  have hn : nodeB ⟨1, le, 0, 0⟩ ((akA1 ns hd).length : Int) = true := h6.2
  have hle2 : 0 ≤ le := by
    unfold nodeB inB at hn
    revert hn
    repeat' split
    all_goals simp_all
  have h8 := mk_st (ns := (listF [makeK (akA2 ns hd le) 3 sa 0] (akA3 ns hd le sa)).1) (kd := 2) (x := putK (akA1 ns hd) ⟨1, le, 0, 0⟩) (y := (listF [makeK (akA2 ns hd le) 3 sa 0] (akA3 ns hd le sa)).2) hL
  have h9 := h8.2.2
  have e9 : (mkNd 2 (putK (akA1 ns hd) ⟨1, le, 0, 0⟩) (listF [makeK (akA2 ns hd le) 3 sa 0] (akA3 ns hd le sa)).2).b = (listF [makeK (akA2 ns hd le) 3 sa 0] (akA3 ns hd le sa)).2 := rfl
  rw [e9] at h9
  have h10 := mk_st (ns := (listF [] (akA3 ns hd le sa)).1) (kd := 2) (x := makeK (akA2 ns hd le) 3 sa 0) (y := (listF [] (akA3 ns hd le sa)).2) h9
  have p4 : (akL ns hd le sa).1 <+: akA ns hd le sa := mk_preP _ _ _ _
  have q1 : (listF [makeK (akA2 ns hd le) 3 sa 0] (akA3 ns hd le sa)).1 <+: (akL ns hd le sa).1 := mk_preP (listF [makeK (akA2 ns hd le) 3 sa 0] (akA3 ns hd le sa)).1 2 (putK (akA1 ns hd) ⟨1, le, 0, 0⟩) (listF [makeK (akA2 ns hd le) 3 sa 0] (akA3 ns hd le sa)).2
  have p3 : akA3 ns hd le sa <+: akA ns hd le sa := (listF_preP _ _).trans p4
  have p2 : akA2 ns hd le <+: akA ns hd le sa := (mk_preP _ _ _ _).trans p3
  have p1 : sideA ns hd 40 <+: akA ns hd le sa := (putA_pre _ _).trans p2
  have s4 := h4.on p1
  have s5 := h5.on p1
  have s6 := h6.1.on p2
  have s7 := h7.1.on p3
  have s8 : St (akA ns hd le sa) (akL ns hd le sa).2 ⟨2, 0, putK (akA1 ns hd) ⟨1, le, 0, 0⟩, (listF [makeK (akA2 ns hd le) 3 sa 0] (akA3 ns hd le sa)).2⟩ := h8.1.on p4
  have s10 : St (akA ns hd le sa) (listF [makeK (akA2 ns hd le) 3 sa 0] (akA3 ns hd le sa)).2 ⟨2, 0, makeK (akA2 ns hd le) 3 sa 0, (listF [] (akA3 ns hd le sa)).2⟩ := h10.1.on (q1.trans p4)
  have s0 := p4.subset h3
  have s1 : St (akA ns hd le sa) (akK ns hd le sa) ⟨5, 0, sideK ns hd 40, (akL ns hd le sa).2⟩ := h1.1
  have s7' : St (akA ns hd le sa) (makeK (akA2 ns hd le) 3 sa 0) ⟨3, 0, sa, 0⟩ := s7
  have hne : putK (akA1 ns hd) ⟨1, le, 0, 0⟩ ≠ makeK (akA2 ns hd le) 3 sa 0 := fun e => by
    rw [← e] at s7'
    have := s6.eq s7'
    simp at this
  generalize (listF [makeK (akA2 ns hd le) 3 sa 0] (akA3 ns hd le sa)).2 = L1 at s8 s10
  generalize (listF [] (akA3 ns hd le sa)).2 = L0 at s10
  generalize putK (akA1 ns hd) ⟨1, le, 0, 0⟩ = kp at s8 hne s6
  generalize makeK (akA2 ns hd le) 3 sa 0 = kh at s10 hne
  refine many_le (l := [⟨5, 0, sideK ns hd 40, (akL ns hd le sa).2⟩, ⟨2, 0, kp, L1⟩, ⟨2, 0, kh, L0⟩, ⟨4, 0, hd, j⟩, ⟨3, 0, sa, 0⟩, ⟨1, le, 0, 0⟩, ⟨1, 40, 0, 0⟩, ⟨1, 0, 0, 0⟩]) ?_ ?_
  · simp only [List.nodup_cons, List.mem_cons, List.not_mem_nil, Nd.mk.injEq, or_false]
    refine ⟨by omega, by omega, by omega, by omega, by omega, by omega, by omega, by simp, by simp⟩
  · intro x hx
    simp only [List.mem_cons, List.not_mem_nil, or_false] at hx
    rcases hx with rfl | rfl | rfl | rfl | rfl | rfl | rfl | rfl
    · exact s1.mem
    · exact s8.mem
    · exact s10.mem
    · exact s4.mem
    · exact s7'.mem
    · exact s6.mem
    · exact s5.mem
    · exact s0
theorem pt_tame {ns : List Nd} {sd hd m mo nm sa : Int} (hs : ∀ y ∈ ns, Sf ns.length y) (hsd : 1 ≤ sd ∧ sd ≤ 2) : Tame (keptA ns (ptA ns sd hd (10 + sd) m mo nm sa) (ptK ns sd hd (10 + sd) m mo nm sa)) ∨ ptK ns sd hd (10 + sd) m mo nm sa < 0 := by
  by_cases h : ptK ns sd hd (10 + sd) m mo nm sa < 0
  · exact .inr h
  · rw [keptA_pos h]
    exact .inl (tame_soft (ptA_soft (soft_of hs)) (pt_eight hsd (by omega)))
theorem ak_tame {ns : List Nd} {hd le sa : Int} (hs : ∀ y ∈ ns, Sf ns.length y) (hle : 1 ≤ le ∧ le ≤ 12 ∨ le < 0) : Tame (keptA ns (akA ns hd le sa) (akK ns hd le sa)) ∨ akK ns hd le sa < 0 := by
  by_cases h : akK ns hd le sa < 0
  · exact .inr h
  · rw [keptA_pos h]
    exact .inl (tame_soft (akA_soft (soft_of hs)) (ak_eight hle (by omega)))
theorem isK_neg {M : List Nd} {k j : Int} (h : k < 0) : isK M k j = false := by
  cases e : isK M k j with
  | false => rfl
  | true => have := (isK_at e).1; omega
theorem open_neg {M : List Nd} {q k : Int} (h : k < 0) : openB M q k = false ∧ openV M q k = -1 := by
  have e : openB M q k = false := by unfold openB; rw [isK_neg h]; rfl
  exact ⟨e, by unfold openV; rw [e]; rfl⟩
theorem parts_neg {M : List Nd} (n : Nat) : partsB M (-1) ((n + 1 : Nat) : Int) = false := by
  unfold partsB partsR
  rw [if_neg (by omega)]
  simp [partsN, isK_neg]
theorem part_agree {M : List Nd} {k : Int} (h : Tame M ∨ k < 0) (sd hd m1 m8 mo nm sa : Int) : plB M sd hd m1 m8 mo nm sa k = poB M sd hd m1 m8 mo nm sa k := by
  rcases h with h | h
  · exact partSame h sd hd m1 m8 mo nm sa k
  · unfold plB plQ plW poB poC poO
    rw [(open_neg h).1, (open_neg h).2, show (3 : Int) = ((2 + 1 : Nat) : Int) from rfl, parts_neg 2]
    rfl
theorem ack_agree {M : List Nd} {k : Int} (h : Tame M ∨ k < 0) (hd sa : Int) : alV M hd sa k = aiV M hd sa k ∧ alR M hd sa k = aiB M hd sa k := by
  rcases h with h | h
  · exact ackSame h hd sa k
  · have e1 : aiC M hd sa k = false := by unfold aiC aiO; rw [(open_neg h).1]; rfl
    have e2 : alQ M hd sa k = false := by
      unfold alQ alB alW
      rw [(open_neg h).2, show (2 : Int) = ((1 + 1 : Nat) : Int) from rfl, parts_neg 1]
      simp
    unfold alV aiV alR aiB
    rw [e1, e2]
    exact ⟨rfl, rfl⟩
theorem all_tame {ns : List Nd} (h : allFrom ns ns 0 = true) : Tame ns := fun y hy => by
  obtain ⟨i, hi, rfl⟩ := List.mem_iff_getElem.1 hy
  have h1 := (all_at h hi).1
  have e : ns.getD i Nd.zero = ns[i] := by rw [List.getD_eq_getElem?_getD, List.getElem?_eq_getElem hi]; rfl
  rw [e] at h1
  unfold nodeB inB at h1
  revert h1
  repeat' split
  all_goals simp_all
  all_goals omega
end Go.Proofs.YtaanophnnkmkbaaGreat

namespace Go.Proofs.YtaanophnnkmkbaaGreat
open Go.RowKit
set_option linter.unusedVariables false
theorem implPartOk_any (a : Option Addr) (cap : Nat) (ns : List Nd) (sd hd mo nm sa k : Int) (w : World) (hl : ns.length ≤ 1048576) (hf : ∀ y ∈ ns, y.Fits) (ht : Tame ns ∨ k < 0) (h1 : (Lit.int .i64 sd).wf = true) (h2 : (Lit.int .i64 hd).wf = true) (h3 : (Lit.int .i64 sa).wf = true) (ha : AddrN a cap) (hr : RowN w.heap.size w a ns) :
    Calls Tryz.prog 8 #[.agg #[.slice a ns.length cap], .int .i64 sd, .int .i64 hd, .int .i64 mo, .int .i64 nm, .int .i64 sa, .int .i64 k] w fun e w' => e = .returned (.bool (poB ns sd hd (IntKind.i64.wrap (10 + sd)) (IntKind.i64.wrap (80 + sd)) mo nm sa k)) ∧ Below w.heap.size w w' := by
  have h := implPartOkL_any a cap ns sd hd mo nm sa k _ _ w hl hf h1 h2 h3 rfl rfl ha hr
  rw [part_agree ht] at h
  exact h
theorem implAckIn_any (a : Option Addr) (cap : Nat) (ns : List Nd) (hd sa k : Int) (w : World) (hl : ns.length ≤ 1048576) (hf : ∀ y ∈ ns, y.Fits) (ht : Tame ns ∨ k < 0) (h1 : (Lit.int .i64 hd).wf = true) (h2 : (Lit.int .i64 sa).wf = true) (ha : AddrN a cap) (hr : RowN w.heap.size w a ns) :
    Calls Tryz.prog 10 #[.agg #[.slice a ns.length cap], .int .i64 hd, .int .i64 sa, .int .i64 k] w fun e w' => e = .returned (.tuple #[.int .i64 (aiV ns hd sa k), .bool (aiB ns hd sa k)]) ∧ Below w.heap.size w w' := by
  have h := implAckInL_any a cap ns hd sa k w hl hf h1 h2 ha hr
  rw [(ack_agree ht hd sa).1, (ack_agree ht hd sa).2] at h
  exact h
end Go.Proofs.YtaanophnnkmkbaaGreat
