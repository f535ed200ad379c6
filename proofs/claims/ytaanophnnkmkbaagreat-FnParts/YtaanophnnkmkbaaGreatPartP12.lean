/- Chapter 12 in plain words: a part tells who it is, of what was said. -/
import Derived.Test.YtaanophnnkmkbaaGreatLookPart12
import Derived.Test.YtaanophnnkmkbaaGreatHin11
import Derived.Test.YtaanophnnkmkbaaGreatPlainReach3
import Derived.Test.YtaanophnnkmkbaaGreatKeptS
namespace Go.Proofs.YtaanophnnkmkbaaGreat
open Go.RowKit
set_option linter.unusedVariables false
/-- At j stands x, and right. -/
def At (M : List Nd) (j : Int) (x : Nd) : Prop := isK M j x.k = true ∧ ndAt M j = x
theorem At.on {ns ms : List Nd} {j : Int} {x : Nd} (hp : ns <+: ms) (h : At ns j x) : At ms j x := isKn_pre hp h
theorem At.rg {M : List Nd} {j : Int} {x : Nd} (h : At M j x) : 0 ≤ j ∧ j < (M.length : Int) := (isK_at h.1).1
theorem At.one {M : List Nd} (ha : allFrom M M 0 = true) {i j : Int} {x : Nd} (h : At M i x) (k : At M j x) : i = j := nd_one ha h.rg k.rg (h.2.trans k.2.symm)
theorem put_is {M : List Nd} {x : Nd} {j : Int} (h : allFrom M M 0 = true) (hj : At M j x) : putA M x = M ∧ putK M x = j := by
  obtain ⟨⟨h0, h1⟩, h2, h3⟩ := isK_at hj.1
  have f := (all_at h (show j.toNat < M.length by omega)).2
  have e : M.getD j.toNat Nd.zero = x := hj.2
  rw [e] at f
  have hn : nodeB x (M.length : Int) = true := by
    rw [hj.2] at h3
    exact nodeB_mono h3 (by omega)
  constructor
  · unfold putA; rw [if_neg (fun c => by have := c.2.1; omega)]
  · unfold putK; rw [if_pos hn, if_neg (fun c => by have := c.1; omega)]; omega
theorem mk_is {M : List Nd} {kd x y j : Int} (h : allFrom M M 0 = true) (hk : ¬ (kd = 1 ∨ kd = 7)) (hj : At M j (mkNd kd x y)) : makeA M kd x y = M ∧ makeK M kd x y = j := by
  unfold makeA makeK
  rw [if_neg hk, if_neg hk]
  exact put_is h hj
theorem list_is {M : List Nd} (h : allFrom M M 0 = true) : ∀ (xs : List Int) (L : Int), partsN M xs.length L = some xs → listF xs M = (M, L)
  | [], L, hp => by
    simp only [List.length_nil, partsN] at hp
    split at hp
    · rename_i hc
      have hA : At M L ⟨1, 0, 0, 0⟩ := by
        have := atom_is hc.1
        rw [hc.2] at this
        exact ⟨hc.1, this⟩
      rw [listF_nil, (put_is h hA).1, (put_is h hA).2]
    · cases hp
  | x :: xs, L, hp => by
    simp only [List.length_cons, partsN] at hp
    split at hp
    · rename_i hc
      rw [Option.map_eq_some_iff] at hp
      obtain ⟨ys, h1, h2⟩ := hp
      simp only [List.cons.injEq] at h2
      obtain ⟨h2, rfl⟩ := h2
      have ih := list_is h ys _ h1
      rw [listF_cons, ih]
      have hA : At M L (mkNd 2 x (ndAt M L).b) := by
        have := pair_is hc
        rw [h2] at this
        exact ⟨hc, this⟩
      have := mk_is h (by omega) hA
      simp only [this.1, this.2]
    · cases hp
/-- What is made of a right arena is one that goes on. -/
structure Mr (ns ms : List Nd) (c : Nat) : Prop where
  all : allFrom ms ms 0 = true
  pre : ns <+: ms
  len : ms.length ≤ ns.length + c
theorem Mr.trans {a b c : List Nd} {m n : Nat} (h : Mr a b m) (k : Mr b c n) : Mr a c (m + n) := ⟨k.all, h.pre.trans k.pre, by have := h.len; have := k.len; omega⟩
theorem Mr.le {a b : List Nd} {m : Nat} (h : Mr a b m) : a.length ≤ b.length := h.pre.length_le
theorem Put1.mr {ns ms : List Nd} {k : Int} {x : Nd} (p : Put1 ns ms k x) : Mr ns ms 1 := ⟨p.all, p.pre, p.len⟩
theorem Put1.at {ns ms m2 : List Nd} {k : Int} {x : Nd} (p : Put1 ns ms k x) (hp : ms <+: m2) : At m2 k x := p.isK hp
theorem side_made {ns : List Nd} {s n : Int} (ha : allFrom ns ns 0 = true) (hl : ns.length < 2900) (hs : 0 ≤ s ∧ s < (ns.length : Int)) (hn : 0 ≤ n ∧ n ≤ 999999) :
    Mr ns (sideA ns s n) 2 ∧ ∃ j, At (sideA ns s n) (sideK ns s n) ⟨4, 0, s, j⟩ ∧ At (sideA ns s n) j ⟨1, n, 0, 0⟩ := by
  have p1 := atom1 ha hn (by omega)
  have i1 := p1.pre.length_le
  have l1 := p1.len
  have p2 := mk2 p1.all (kind := 4) (x := s) (y := putK ns ⟨1, n, 0, 0⟩) (by omega) ⟨hs.1, by omega⟩ ⟨p1.k0, p1.k1⟩ (by omega)
  exact ⟨p1.mr.trans p2.mr, _, p2.at (List.prefix_refl _), p1.at p2.pre⟩
theorem over_made {ns : List Nd} {s n d : Int} (ha : allFrom ns ns 0 = true) (hl : ns.length < 2800) (hs : 0 ≤ s ∧ s < (ns.length : Int)) (hn : 0 ≤ n ∧ n ≤ 999999) (hd : 0 ≤ d ∧ d < (ns.length : Int)) :
    Mr ns (overA ns 9 s n d) 4 ∧ ∃ mk km mh, At (overA ns 9 s n d) (overK ns 9 s n d) ⟨9, 0, mk, mh⟩ ∧ At (overA ns 9 s n d) mk ⟨4, 0, s, km⟩ ∧ At (overA ns 9 s n d) km ⟨1, n, 0, 0⟩ ∧ At (overA ns 9 s n d) mh ⟨3, 0, d, 0⟩ := by
  obtain ⟨m1, j, a1, a2⟩ := side_made ha (by omega) hs hn
  have i1 := m1.le
  have l1 := m1.len
  have p2 := mk1 m1.all (kind := 3) (x := d) (y := 0) (.inl rfl) ⟨hd.1, by omega⟩ (by omega)
  have i2 := p2.pre.length_le
  have l2 := p2.len
  have r1 := a1.rg
  have p3 := mk2 p2.all (kind := 9) (x := sideK ns s n) (y := makeK (sideA ns s n) 3 d 0) (by omega) ⟨r1.1, by omega⟩ ⟨p2.k0, p2.k1⟩ (by omega)
  exact ⟨(m1.trans p2.mr).trans p3.mr, _, _, _, p3.at (List.prefix_refl _), (a1.on p2.pre).on p3.pre, (a2.on p2.pre).on p3.pre, p2.at p3.pre⟩
theorem wd_made {ns : List Nd} {m d : Int} (ha : allFrom ns ns 0 = true) (hl : ns.length < 2800) (hm : 0 ≤ m ∧ m ≤ 999999) (hd : 0 ≤ d ∧ d < (ns.length : Int)) :
    Mr ns (wdA ns m d) 5 ∧ (0 ≤ wdK ns m d ∧ wdK ns m d < ((wdA ns m d).length : Int)) ∧ ∃ kw mh, partsN (wdA ns m d) 2 (wdK ns m d) = some [kw, mh] ∧ At (wdA ns m d) kw ⟨1, m, 0, 0⟩ ∧ At (wdA ns m d) mh ⟨3, 0, d, 0⟩ := by
  have p1 := atom1 ha hm (by omega)
  have i1 := p1.pre.length_le
  have l1 := p1.len
  have p2 := mk1 p1.all (kind := 3) (x := d) (y := 0) (.inl rfl) ⟨hd.1, by omega⟩ (by omega)
  have i2 := p2.pre.length_le
  have l2 := p2.len
  have a1 := p1.k0
  have b1 := p1.k1
  have a2 := p2.k0
  have b2 := p2.k1
  have t : Lst (wdA2 ns m d) (wdL ns m d).1 (wdL ns m d).2 [putK ns ⟨1, m, 0, 0⟩, makeK (wdA1 ns m) 3 d 0] := lst p2.all _ (fun x hx => by
    simp only [List.mem_cons, List.not_mem_nil, or_false] at hx
    rcases hx with rfl | rfl
    · exact ⟨a1, by omega⟩
    · exact ⟨a2, b2⟩) (by simp only [List.length_cons, List.length_nil]; omega)
  have lt := t.len
  simp only [List.length_cons, List.length_nil] at lt
  have tm : Mr (wdA2 ns m d) (wdA ns m d) 3 := ⟨t.all, t.pre, by unfold wdA; omega⟩
  exact ⟨(p1.mr.trans p2.mr).trans tm, ⟨t.k0, t.k1⟩, _, _, t.parts, (p1.at p2.pre).on t.pre, p2.at t.pre⟩
/-- The term at k is the part of a side, a hand secret, a mode, a name, and of what was said. -/
def Pt (M : List Nd) (k sd hd mo nm sa : Int) : Prop := ∃ key ks L c s mac mk km mh, (At M k ⟨5, 0, key, L⟩ ∧ At M key ⟨4, 0, hd, ks⟩ ∧ At M ks ⟨1, sd, 0, 0⟩) ∧ partsN M 3 L = some [c, s, mac] ∧ (At M mac ⟨9, 0, mk, mh⟩ ∧ At M mk ⟨4, 0, hd, km⟩ ∧ At M km ⟨1, 10 + sd, 0, 0⟩ ∧ At M mh ⟨3, 0, sa, 0⟩)
  ∧ ((mo = 1 ∧ ∃ cc p lg wd kw mw, Cr M c nm cc p lg ∧ At M s ⟨8, 0, lg, wd⟩ ∧ partsN M 2 wd = some [kw, mw] ∧ At M kw ⟨1, 80 + sd, 0, 0⟩ ∧ At M mw ⟨3, 0, sa, 0⟩) ∨ (mo ≠ 1 ∧ At M c ⟨1, 0, 0, 0⟩ ∧ At M s ⟨1, 0, 0, 0⟩))
theorem side_is {M : List Nd} {hd sd key ks : Int} (ha : allFrom M M 0 = true) (h1 : At M key ⟨4, 0, hd, ks⟩) (h2 : At M ks ⟨1, sd, 0, 0⟩) : sideA M hd sd = M ∧ sideK M hd sd = key := by
  unfold sideA sideK
  rw [(put_is ha h2).1, (put_is ha h2).2]
  exact mk_is ha (by omega) h1
theorem over_is {M : List Nd} {hd n sa mac mk km mh : Int} (ha : allFrom M M 0 = true) (h0 : At M mac ⟨9, 0, mk, mh⟩) (h1 : At M mk ⟨4, 0, hd, km⟩) (h2 : At M km ⟨1, n, 0, 0⟩) (h3 : At M mh ⟨3, 0, sa, 0⟩) : overA M 9 hd n sa = M ∧ overK M 9 hd n sa = mac := by
  have e1 := side_is ha h1 h2
  have e2 := mk_is ha (kd := 3) (x := sa) (y := 0) (by omega) h3
  unfold overA overK
  rw [e1.1, e1.2, e2.1, e2.2]
  exact mk_is ha (by omega) h0
theorem wd_is {M : List Nd} {m sa wd kw mw : Int} (ha : allFrom M M 0 = true) (h0 : partsN M 2 wd = some [kw, mw]) (h1 : At M kw ⟨1, m, 0, 0⟩) (h2 : At M mw ⟨3, 0, sa, 0⟩) : wdK M m sa = wd := by
  have e2 := mk_is ha (kd := 3) (x := sa) (y := 0) (by omega) h2
  unfold wdK wdL wdA2 wdA1
  rw [(put_is ha h1).1, (put_is ha h1).2, e2.1, e2.2, list_is ha [kw, mw] wd h0]
theorem partsN_V {M : List Nd} {n : Nat} {L : Int} {xs : List Int} (h : partsN M n L = some xs) : partsV M L (n : Int) = xs ∧ partsB M L (n : Int) = true := by
  have e : partsR M L (n : Int) = some xs := by unfold partsR; rw [if_neg (by omega)]; exact h
  unfold partsV partsB
  rw [e]; exact ⟨rfl, rfl⟩
/-- What PartOk finds in a part. -/
theorem Pt.reads {M : List Nd} {k sd hd mo nm sa : Int} (ha : allFrom M M 0 = true) (hn : 0 ≤ nm ∧ nm ≤ 9) (h : Pt M k sd hd mo nm sa) (nm' sa' : Int) :
    ∃ mac c s, poB M sd hd (10 + sd) (80 + sd) mo nm' sa' k = (decide (0 ≤ overK M 9 hd (10 + sd) sa') && decide (mac = overK M 9 hd (10 + sd) sa') && poX (overA M 9 hd (10 + sd) sa') (80 + sd) mo nm' sa' c s) ∧ overA M 9 hd (10 + sd) sa = M ∧ overK M 9 hd (10 + sd) sa = mac ∧ (∃ mk mh, At M mac ⟨9, 0, mk, mh⟩ ∧ At M mh ⟨3, 0, sa, 0⟩)
      ∧ (mo = 1 → ∀ A, M <+: A → crtN A c = nm) ∧ poX M (80 + sd) mo nm sa c s = true := by
  obtain ⟨key, ks, L, c, s, mac, mk, km, mh, ⟨a1, a2, a3⟩, b1, ⟨c1, c2, c3, c4⟩, hv⟩ := h
  have e1 := side_is ha a2 a3
  have e2 := over_is ha c1 c2 c3 c4
  have e3 := partsN_V b1
  have hO : openB M key k = true := by unfold openB; rw [a1.1, a1.2]; simp
  have hI : openV M key k = L := by unfold openV; rw [if_pos hO, a1.2]
  refine ⟨mac, c, s, ?_, e2.1, e2.2, ⟨mk, mh, c1, c4⟩, ?_, ?_⟩
  · unfold poB poC poO poQ poP poI poM poA
    rw [e1.1, e1.2, hO, hI]
    rw [show (3 : Int) = ((3 : Nat) : Int) from rfl, e3.1, e3.2]
    simp only [List.getD_cons_zero, List.getD_cons_succ, Bool.true_and]
  · intro hm A hp
    rcases hv with ⟨_, cc, p, lg, wd, kw, mw, hC, _⟩ | ⟨h1, _⟩
    · exact ((hC.on hp).tells hn).2.1
    · exact absurd hm h1
  · unfold poX
    rcases hv with ⟨hm, cc, p, lg, wd, kw, mw, hC, hs, hw, hkw, hmw⟩ | ⟨hm, h1, h2⟩
    · rw [if_pos hm]
      obtain ⟨t1, t2, t3⟩ := hC.tells hn
      have hp : At M p ⟨6, 0, lg, 0⟩ := hC.pub
      have hwd := wd_is ha hw hkw hmw
      have hS : signB M p s = true := by unfold signB; rw [hp.1, hs.1, hs.2, hp.2]; simp
      have hV : signV M p s = wd := by unfold signV; rw [if_pos hS, hs.2]
      have r := hs.1
      have hwr : 0 ≤ wd := by
        have hk := (isK_at hs.1).2.2
        rw [hs.2] at hk
        have := nodeB_true hk
        simp only at this
        omega
      rw [t1, t2, t3, hS, hV, hwd]
      simp [hwr]
    · rw [if_neg hm]
      unfold numIs
      rw [h1.1, h2.1, numV_at h1, numV_at h2]
      rfl
theorem mk_preP (ms : List Nd) (kd x y : Int) : ms <+: makeA ms kd x y := by unfold makeA; split; exact List.prefix_refl _; exact putA_pre _ _
theorem listF_preP : ∀ (xs : List Int) (ms : List Nd), ms <+: (listF xs ms).1
  | [], ms => putA_pre _ _
  | x :: xs, ms => (listF_preP xs ms).trans (show _ <+: makeA (listF xs ms).1 2 x (listF xs ms).2 from mk_preP _ _ _ _)
theorem lgA_pre (ns : List Nd) (n : Int) : ns <+: lgA ns n := by unfold lgA; split; exact putA_pre _ _; exact List.prefix_refl _
theorem crA_pre (ns : List Nd) (n : Int) : ns <+: crA ns n :=
  (putA_pre ns _).trans ((putA_pre (crA1 ns) _).trans ((putA_pre (crA2 ns) _).trans ((lgA_pre (crA3 ns n) n).trans ((mk_preP _ _ _ _).trans ((listF_preP _ _).trans (mk_preP _ _ _ _))))))
theorem cr_mr {ns : List Nd} {n : Int} (ha : allFrom ns ns 0 = true) (hl : ns.length < 2000) (hn : 0 ≤ n ∧ n ≤ 9) : Mr ns (crA ns n) 10 ∧ (0 ≤ crK ns n ∧ crK ns n < ((crA ns n).length : Int)) ∧ ∃ c p s, Cr (crA ns n) (crK ns n) n c p s := by
  obtain ⟨q1, q2, q3, q4, hC⟩ := cr_made ha hl hn
  exact ⟨⟨q1, crA_pre ns n, q2⟩, ⟨q3, q4⟩, hC⟩
/-- The two of a part that tell who it is. -/
theorem pv_made {ns : List Nd} {sd mo nm sa : Int} (ha : allFrom ns ns 0 = true) (hl : ns.length < 1500) (hsd : 0 ≤ sd ∧ sd ≤ 1000) (hs : 0 ≤ sa ∧ sa < (ns.length : Int)) (hn : 0 ≤ nm ∧ nm ≤ 9) :
    Mr ns (pvA ns (80 + sd) mo nm sa) 20 ∧ (0 ≤ pvC ns mo nm ∧ pvC ns mo nm < ((pvA ns (80 + sd) mo nm sa).length : Int)) ∧ (0 ≤ pvS ns (80 + sd) mo nm sa ∧ pvS ns (80 + sd) mo nm sa < ((pvA ns (80 + sd) mo nm sa).length : Int))
      ∧ ∀ M, pvA ns (80 + sd) mo nm sa <+: M → ((mo = 1 ∧ ∃ cc p lg wd kw mw, Cr M (pvC ns mo nm) nm cc p lg ∧ At M (pvS ns (80 + sd) mo nm sa) ⟨8, 0, lg, wd⟩ ∧ partsN M 2 wd = some [kw, mw] ∧ At M kw ⟨1, 80 + sd, 0, 0⟩ ∧ At M mw ⟨3, 0, sa, 0⟩) ∨ (mo ≠ 1 ∧ At M (pvC ns mo nm) ⟨1, 0, 0, 0⟩ ∧ At M (pvS ns (80 + sd) mo nm sa) ⟨1, 0, 0, 0⟩)) := by
  by_cases hm : mo = 1
  · unfold pvA pvC pvS
    rw [if_pos hm, if_pos hm, if_pos hm]
    obtain ⟨m1, r1, c, p, s, hC⟩ := cr_mr ha (by omega) hn
    have i1 := m1.le
    have l1 := m1.len
    have e2 := lg1 (ns := crA ns nm) hn
    have p2 := atom1 m1.all (n := 2000 + nm) (by omega) (by omega)
    rw [← e2.1, ← e2.2] at p2
    have i2 := p2.pre.length_le
    have l2 := p2.len
    obtain ⟨m3, r3, kw, mw, t1, t2, t3⟩ := wd_made (m := 80 + sd) (d := sa) p2.all (by omega) (by omega) ⟨hs.1, by omega⟩
    have i3 := m3.le
    have l3 := m3.len
    have a2 : 0 ≤ lgK (crA ns nm) nm := p2.k0
    have b2 : lgK (crA ns nm) nm < ((lgA (crA ns nm) nm).length : Int) := p2.k1
    have p4 : Put1 (wdA (lgA (crA ns nm) nm) (80 + sd) sa) (pcA ns (80 + sd) nm sa) (pcK ns (80 + sd) nm sa) ⟨8, 0, lgK (crA ns nm) nm, wdK (lgA (crA ns nm) nm) (80 + sd) sa⟩ := mk2 (ns := wdA (lgA (crA ns nm) nm) (80 + sd) sa) (kind := 8) (x := lgK (crA ns nm) nm) (y := wdK (lgA (crA ns nm) nm) (80 + sd) sa) m3.all (by omega) ⟨a2, by omega⟩ r3 (by omega)
    have M2 : Mr (crA ns nm) (lgA (crA ns nm) nm) 1 := p2.mr
    have mA := ((m1.trans M2).trans m3).trans p4.mr
    have i4 := p4.pre.length_le
    refine ⟨⟨mA.all, mA.pre, by have := mA.len; omega⟩, ⟨r1.1, ?_⟩, ⟨p4.k0, p4.k1⟩, fun M hp => .inl ⟨hm, ?_⟩⟩
    · show crK ns nm < ((pcA ns (80 + sd) nm sa).length : Int)
      have : ((wdA (lgA (crA ns nm) nm) (80 + sd) sa).length : Int) ≤ ((pcA ns (80 + sd) nm sa).length : Int) := by exact Int.ofNat_le.2 i4
      omega
    · have hs2 : s = lgK (crA ns nm) nm := by
        have h1 : At (lgA (crA ns nm) nm) s ⟨1, 2000 + nm, 0, 0⟩ := At.on p2.pre hC.sec
        exact h1.one p2.all (p2.at (List.prefix_refl _))
      have pr3 := p4.pre.trans hp
      have pr2 := m3.pre.trans pr3
      have pr1 := p2.pre.trans pr2
      refine ⟨c, p, s, wdK (lgA (crA ns nm) nm) (80 + sd) sa, kw, mw, hC.on pr1, ?_, partsN_pre pr3 _ _ _ t1, t2.on pr3, t3.on pr3⟩
      rw [hs2]
      exact p4.at hp
  · unfold pvA pvC pvS
    rw [if_neg hm, if_neg hm, if_neg hm]
    have p1 := atom1 ha (n := 0) (by omega) (by omega)
    have mA := p1.mr
    exact ⟨⟨mA.all, mA.pre, by have := mA.len; omega⟩, ⟨p1.k0, p1.k1⟩, ⟨p1.k0, p1.k1⟩, fun M hp => .inr ⟨hm, p1.at hp, p1.at hp⟩⟩
theorem pt_made {ns : List Nd} {sd hd mo nm sa : Int} (ha : allFrom ns ns 0 = true) (hl : ns.length < 1000) (hsd : 0 ≤ sd ∧ sd ≤ 1000) (hh : 0 ≤ hd ∧ hd < (ns.length : Int)) (hs : 0 ≤ sa ∧ sa < (ns.length : Int)) (hn : 0 ≤ nm ∧ nm ≤ 9) :
    Mr ns (ptA ns sd hd (10 + sd) (80 + sd) mo nm sa) 60 ∧ (0 ≤ ptK ns sd hd (10 + sd) (80 + sd) mo nm sa ∧ ptK ns sd hd (10 + sd) (80 + sd) mo nm sa < ((ptA ns sd hd (10 + sd) (80 + sd) mo nm sa).length : Int))
      ∧ Pt (ptA ns sd hd (10 + sd) (80 + sd) mo nm sa) (ptK ns sd hd (10 + sd) (80 + sd) mo nm sa) sd hd mo nm sa := by
  obtain ⟨m1, j, a1, a2⟩ := side_made (s := hd) (n := sd) ha (by omega) hh (by omega)
  have i1 := m1.le
  have l1 := m1.len
  obtain ⟨m2, rC, rS, hv⟩ := pv_made (sd := sd) (mo := mo) (nm := nm) (sa := sa) m1.all (by omega) hsd ⟨hs.1, by omega⟩ hn
  have i2 := m2.le
  have l2 := m2.len
  obtain ⟨m3, mk, km, mh, o1, o2, o3, o4⟩ := over_made (s := hd) (n := 10 + sd) (d := sa) m2.all (by omega) ⟨hh.1, by omega⟩ (by omega) ⟨hs.1, by omega⟩
  have i3 := m3.le
  have l3 := m3.len
  have r3 := o1.rg
  have r1 := a1.rg
  have t : Lst (ptA3 ns sd hd (10 + sd) (80 + sd) mo nm sa) (ptL ns sd hd (10 + sd) (80 + sd) mo nm sa).1 (ptL ns sd hd (10 + sd) (80 + sd) mo nm sa).2 [pvC (ptA1 ns sd hd) mo nm, pvS (ptA1 ns sd hd) (80 + sd) mo nm sa, overK (ptA2 ns sd hd (80 + sd) mo nm sa) 9 hd (10 + sd) sa] := lst m3.all _ (fun x hx => by
    simp only [List.mem_cons, List.not_mem_nil, or_false] at hx
    rcases hx with rfl | rfl | rfl
    · exact ⟨rC.1, Int.lt_of_lt_of_le rC.2 (Int.ofNat_le.2 i3)⟩
    · exact ⟨rS.1, Int.lt_of_lt_of_le rS.2 (Int.ofNat_le.2 i3)⟩
    · exact r3) (by
      have e : (ptA3 ns sd hd (10 + sd) (80 + sd) mo nm sa).length = (overA (pvA (sideA ns hd sd) (80 + sd) mo nm sa) 9 hd (10 + sd) sa).length := rfl
      simp only [List.length_cons, List.length_nil]; omega)
  have lt := t.len
  have e3 : (ptA3 ns sd hd (10 + sd) (80 + sd) mo nm sa).length = (overA (pvA (sideA ns hd sd) (80 + sd) mo nm sa) 9 hd (10 + sd) sa).length := rfl
  simp only [List.length_cons, List.length_nil] at lt
  have it := t.pre.length_le
  have p5 : Put1 _ (ptA ns sd hd (10 + sd) (80 + sd) mo nm sa) (ptK ns sd hd (10 + sd) (80 + sd) mo nm sa) ⟨5, 0, sideK ns hd sd, (ptL ns sd hd (10 + sd) (80 + sd) mo nm sa).2⟩ := mk2 t.all (kind := 5) (by omega) ⟨r1.1, by omega⟩ ⟨t.k0, t.k1⟩ (by omega)
  have tm : Mr (ptA3 ns sd hd (10 + sd) (80 + sd) mo nm sa) (ptL ns sd hd (10 + sd) (80 + sd) mo nm sa).1 4 := ⟨t.all, t.pre, by omega⟩
  have mA := (((m1.trans m2).trans m3).trans tm).trans p5.mr
  have pr4 := p5.pre
  have pr3 := t.pre.trans pr4
  have pr2 := m3.pre.trans pr3
  have pr1 := m2.pre.trans pr2
  exact ⟨⟨mA.all, mA.pre, by have := mA.len; omega⟩, ⟨p5.k0, p5.k1⟩, _, _, _, _, _, _, _, _, _, ⟨p5.at (List.prefix_refl _), a1.on pr1, a2.on pr1⟩, partsN_pre pr4 _ _ _ t.parts, ⟨o1.on pr3, o2.on pr3, o3.on pr3, o4.on pr3⟩, hv _ pr2⟩
theorem po_yes {M : List Nd} {k sd hd mo nm sa : Int} (ha : allFrom M M 0 = true) (hn : 0 ≤ nm ∧ nm ≤ 9) (h : Pt M k sd hd mo nm sa) : poB M sd hd (10 + sd) (80 + sd) mo nm sa k = true := by
  obtain ⟨mac, c, s, e, e1, e2, ⟨mk, mh, h1, h2⟩, -, e3⟩ := h.reads ha hn nm sa
  rw [e, e1, e2, e3]
  have := h1.rg
  simp [this.1]
theorem po_name {M : List Nd} {k sd hd mo nm nm' sa : Int} (ha : allFrom M M 0 = true) (hn : 0 ≤ nm ∧ nm ≤ 9) (h : Pt M k sd hd mo nm sa) (hm : mo = 1) (hx : nm' ≠ nm) : poB M sd hd (10 + sd) (80 + sd) mo nm' sa k = false := by
  obtain ⟨mac, c, s, e, e1, e2, -, e4, -⟩ := h.reads ha hn nm' sa
  have := e4 hm M (List.prefix_refl _)
  rw [e, e1]
  unfold poX
  rw [if_pos hm, this, decide_eq_false (fun q : nm = nm' => hx q.symm)]
  simp
theorem po_said {M : List Nd} {k sd hd mo nm sa sa' : Int} (ha : allFrom M M 0 = true) (hl : M.length < 2000) (hsd : 0 ≤ sd ∧ sd ≤ 1000) (hh : 0 ≤ hd ∧ hd < (M.length : Int)) (hs : 0 ≤ sa' ∧ sa' < (M.length : Int)) (hn : 0 ≤ nm ∧ nm ≤ 9) (h : Pt M k sd hd mo nm sa) (hx : sa' ≠ sa) : poB M sd hd (10 + sd) (80 + sd) mo nm sa' k = false := by
  obtain ⟨mac, c, s, e, -, -, ⟨mk, mh, h1, h2⟩, -, -⟩ := h.reads ha hn nm sa'
  obtain ⟨m3, mk', km', mh', o1, o2, o3, o4⟩ := over_made (s := hd) (n := 10 + sd) (d := sa') ha (by omega) hh (by omega) hs
  rw [e, decide_eq_false (fun q : mac = _ => ?_)]
  · simp
  · rw [← q] at o1
    have e1 := (h1.on m3.pre).2.symm.trans o1.2
    simp only [Nd.mk.injEq, true_and] at e1
    rw [← e1.2] at o4
    have e2 := (h2.on m3.pre).2.symm.trans o4.2
    simp only [Nd.mk.injEq, true_and, and_true] at e2
    exact hx e2.symm
theorem po_side {M : List Nd} {k sd hd mo nm sa sd' m1 m8 : Int} (ha : allFrom M M 0 = true) (hl : M.length < 2000) (hsd : 0 ≤ sd' ∧ sd' ≤ 1000) (hh : 0 ≤ hd ∧ hd < (M.length : Int)) (h : Pt M k sd hd mo nm sa) (hx : sd' ≠ sd) : poB M sd' hd m1 m8 mo nm sa k = false := by
  obtain ⟨key, ks, L, c, s, mac, mk, km, mh, ⟨a1, a2, a3⟩, -⟩ := h
  obtain ⟨m3, j, o1, o2⟩ := side_made (s := hd) (n := sd') ha (by omega) hh (by omega)
  have hO : poO M sd' hd k = false := by
    unfold poO openB
    rw [a1.2, decide_eq_false (fun q : key = _ => ?_)]
    · simp
    · rw [← q] at o1
      have e1 := (a2.on m3.pre).2.symm.trans o1.2
      simp only [Nd.mk.injEq, true_and] at e1
      rw [← e1] at o2
      have e2 := (a3.on m3.pre).2.symm.trans o2.2
      simp only [Nd.mk.injEq, true_and, and_true] at e2
      exact hx e2.symm
  unfold poB poC
  rw [hO]; rfl
/-- An ack comes back. -/
theorem ack_back {ns : List Nd} {hd le sa : Int} (ha : allFrom ns ns 0 = true) (hl : ns.length < 2000) (hh : 0 ≤ hd ∧ hd < (ns.length : Int)) (he : 0 ≤ le ∧ le ≤ 999999) (hs : 0 ≤ sa ∧ sa < (ns.length : Int)) :
    Mr ns (akA ns hd le sa) 20 ∧ (0 ≤ akK ns hd le sa ∧ akK ns hd le sa < ((akA ns hd le sa).length : Int)) ∧ aiB (akA ns hd le sa) hd sa (akK ns hd le sa) = true ∧ aiV (akA ns hd le sa) hd sa (akK ns hd le sa) = le := by
  obtain ⟨m1, j, a1, a2⟩ := side_made (s := hd) (n := 40) ha (by omega) hh (by omega)
  have i1 := m1.le
  have l1 := m1.len
  have p2 : Put1 (akA1 ns hd) (akA2 ns hd le) (putK (akA1 ns hd) ⟨1, le, 0, 0⟩) ⟨1, le, 0, 0⟩ := atom1 m1.all he (show (sideA ns hd 40).length < 3000 by omega)
  have i2 : (sideA ns hd 40).length ≤ _ := p2.pre.length_le
  have l2 : _ ≤ (sideA ns hd 40).length + 1 := p2.len
  have p3 : Put1 (akA2 ns hd le) (akA3 ns hd le sa) (makeK (akA2 ns hd le) 3 sa 0) ⟨3, 0, sa, 0⟩ := mk1 p2.all (kind := 3) (x := sa) (y := 0) (.inl rfl) ⟨hs.1, by omega⟩ (by omega)
  have i3 := p3.pre.length_le
  have l3 := p3.len
  have x2 := p2.k0
  have y2 := p2.k1
  have x3 := p3.k0
  have y3 := p3.k1
  have t : Lst (akA3 ns hd le sa) (akL ns hd le sa).1 (akL ns hd le sa).2 [putK (akA1 ns hd) ⟨1, le, 0, 0⟩, makeK (akA2 ns hd le) 3 sa 0] := lst p3.all _ (fun x hx => by
    simp only [List.mem_cons, List.not_mem_nil, or_false] at hx
    rcases hx with rfl | rfl
    · exact ⟨x2, by omega⟩
    · exact ⟨x3, y3⟩) (by simp only [List.length_cons, List.length_nil]; omega)
  have lt := t.len
  simp only [List.length_cons, List.length_nil] at lt
  have it := t.pre.length_le
  have r1 := a1.rg
  have p5 : Put1 _ (akA ns hd le sa) (akK ns hd le sa) ⟨5, 0, sideK ns hd 40, (akL ns hd le sa).2⟩ := mk2 t.all (kind := 5) (by omega) ⟨r1.1, by omega⟩ ⟨t.k0, t.k1⟩ (by omega)
  have tm : Mr (akA3 ns hd le sa) (akL ns hd le sa).1 3 := ⟨t.all, t.pre, by omega⟩
  have M2 : Mr (sideA ns hd 40) (akA2 ns hd le) 1 := p2.mr
  have mA := (((m1.trans M2).trans p3.mr).trans tm).trans p5.mr
  have pr4 := p5.pre
  have pr3 := t.pre.trans pr4
  have pr2 := p3.pre.trans pr3
  have pr1 : sideA ns hd 40 <+: akA ns hd le sa := p2.pre.trans pr2
  have hall := mA.all
  have q5 := p5.at (List.prefix_refl _)
  have e1 := side_is hall (a1.on pr1) (a2.on pr1)
  have e3 := partsN_V (partsN_pre pr4 _ _ _ t.parts)
  have e4 := mk_is hall (kd := 3) (x := sa) (y := 0) (by omega) (p3.at pr3)
  have e5 : At (akA ns hd le sa) (putK (akA1 ns hd) ⟨1, le, 0, 0⟩) ⟨1, le, 0, 0⟩ := p2.at pr2
  have hO : openB (akA ns hd le sa) (sideK ns hd 40) (akK ns hd le sa) = true := by unfold openB; rw [q5.1, q5.2]; simp
  have hI : openV (akA ns hd le sa) (sideK ns hd 40) (akK ns hd le sa) = (akL ns hd le sa).2 := by unfold openV; rw [if_pos hO, q5.2]
  have hC : aiC (akA ns hd le sa) hd sa (akK ns hd le sa) = true := by
    unfold aiC aiO aiQ aiP aiI aiH
    rw [e1.1, e1.2, hO, hI]
    rw [show (2 : Int) = ((2 : Nat) : Int) from rfl]
    simp only [List.length_cons, List.length_nil] at e3
    rw [e3.1, e3.2, e4.2]
    simp [x3]
  have hP : (aiP (akA ns hd le sa) hd (akK ns hd le sa)).getD 0 0 = putK (akA1 ns hd) ⟨1, le, 0, 0⟩ := by
    unfold aiP aiI
    rw [e1.1, e1.2, hI]
    rw [show (2 : Int) = ((2 : Nat) : Int) from rfl]
    simp only [List.length_cons, List.length_nil] at e3
    rw [e3.1]
    rfl
  have hA : aiA (akA ns hd le sa) hd sa = akA ns hd le sa := by unfold aiA; rw [e1.1, e4.1]
  refine ⟨⟨mA.all, mA.pre, by have := mA.len; omega⟩, ⟨p5.k0, p5.k1⟩, ?_, ?_⟩
  · unfold aiB; rw [hC, hP, hA, e5.1]; rfl
  · unfold aiV; rw [if_pos hC, hP, hA]; exact numV_at e5
end Go.Proofs.YtaanophnnkmkbaaGreat

namespace Go.Proofs.YtaanophnnkmkbaaGreat
open Go.RowKit
set_option linter.unusedVariables false
theorem wrap_10 {x : Int} (h : 0 ≤ x ∧ x ≤ 10) : IntKind.i64.wrap (10 + x) = 10 + x ∧ IntKind.i64.wrap (80 + x) = 80 + x := by
  constructor
  · simp [IntKind.wrap, IntKind.bits, IntKind.signed]; omega
  · simp [IntKind.wrap, IntKind.bits, IntKind.signed]; omega
theorem parts_all {ns : List Nd} {x0 x1 x2 x3 x4 x5 : Nat} (ha : allFrom ns ns 0 = true) (hl : ns.length < 900) (h0 : x0 < 2) (h1 : x1 < 2) (h2 : x2 < 9) (h3 : x3 < ns.length) (h4 : x4 < ns.length) (h5 : x5 < ns.length) (h6 : x5 = x4 → ns.length = 1) :
    ∃ (M1 M2 : List Nd) (k t : Int) (W1 W2 : Bool),
      (keptA ns (ptA ns (1 + x1) x3 (IntKind.i64.wrap (10 + (1 + x1))) (IntKind.i64.wrap (80 + (1 + x1))) (1 + x0) x2 x4) (ptK ns (1 + x1) x3 (IntKind.i64.wrap (10 + (1 + x1))) (IntKind.i64.wrap (80 + (1 + x1))) (1 + x0) x2 x4) = M1 ∧ ptK ns (1 + x1) x3 (IntKind.i64.wrap (10 + (1 + x1))) (IntKind.i64.wrap (80 + (1 + x1))) (1 + x0) x2 x4 = k)
      ∧ poB M1 (1 + x1) x3 (IntKind.i64.wrap (10 + (1 + x1))) (IntKind.i64.wrap (80 + (1 + x1))) (1 + x0) x2 x4 k = true
      ∧ poB M1 (3 - (1 + x1)) x3 (IntKind.i64.wrap (10 + (3 - (1 + x1)))) (IntKind.i64.wrap (80 + (3 - (1 + x1)))) (1 + x0) x2 x4 k = false
      ∧ poB M1 (1 + x1) x3 (IntKind.i64.wrap (10 + (1 + x1))) (IntKind.i64.wrap (80 + (1 + x1))) (1 + x0) (x2 + 1) x4 k = W1
      ∧ poB M1 (1 + x1) x3 (IntKind.i64.wrap (10 + (1 + x1))) (IntKind.i64.wrap (80 + (1 + x1))) (1 + x0) x2 x5 k = W2
      ∧ (W1 = false ∨ x0 = 1) ∧ (W2 = false ∨ ns.length = 1)
      ∧ (keptA M1 (akA M1 x3 11 x4) (akK M1 x3 11 x4) = M2 ∧ akK M1 x3 11 x4 = t) ∧ (aiV M2 x3 x4 t = 11 ∧ aiB M2 x3 x4 t = true)
      ∧ (0 ≤ k ∧ k ≤ 2000) ∧ (0 ≤ t ∧ t ≤ 2000) ∧ (allFrom M1 M1 0 = true ∧ M1.length ≤ 2000) ∧ (allFrom M2 M2 0 = true ∧ M2.length ≤ 2000) := by
  rw [(wrap_10 (x := 1 + (x1 : Int)) (by omega)).1, (wrap_10 (x := 1 + (x1 : Int)) (by omega)).2]
  obtain ⟨m1, r1, hP⟩ := pt_made (sd := 1 + x1) (hd := x3) (mo := 1 + x0) (nm := x2) (sa := x4) ha (by omega) (by omega) (by omega) (by omega) (by omega)
  have l1 := m1.len
  have i1 := m1.le
  have a1 := m1.all
  generalize ptA ns (1 + x1) x3 (10 + (1 + x1)) (80 + (1 + x1)) (1 + x0) x2 x4 = M1 at *
  generalize ptK ns (1 + x1) x3 (10 + (1 + x1)) (80 + (1 + x1)) (1 + x0) x2 x4 = k at *
  obtain ⟨m2, r2, b1, b2⟩ := ack_back (ns := M1) (hd := x3) (le := 11) (sa := x4) a1 (by omega) (by omega) (by omega) (by omega)
  have l2 := m2.len
  have a2 := m2.all
  have ek : keptA ns M1 k = M1 := keptA_pos (by omega)
  have et : keptA M1 (akA M1 x3 11 x4) (akK M1 x3 11 x4) = akA M1 x3 11 x4 := keptA_pos (by omega)
  refine ⟨M1, akA M1 x3 11 x4, k, akK M1 x3 11 x4, _, _, ⟨ek, rfl⟩, po_yes a1 (by omega) hP, ?_, rfl, rfl, ?_, ?_, ⟨et, rfl⟩, ⟨b2, b1⟩, by omega, by omega, ⟨a1, by omega⟩, ⟨a2, by omega⟩⟩
  · exact po_side a1 (by omega) (by omega) (by omega) hP (by omega)
  · by_cases e : x0 = 1
    · exact .inr e
    · exact .inl (po_name a1 (by omega) hP (by omega) (by omega))
  · by_cases e : x5 = x4
    · exact .inr (h6 e)
    · exact .inl (po_said a1 (by omega) (by omega) (by omega) (by omega) (by omega) hP (by omega))
end Go.Proofs.YtaanophnnkmkbaaGreat
