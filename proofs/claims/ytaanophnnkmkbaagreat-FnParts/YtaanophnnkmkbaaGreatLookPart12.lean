/- The contract of chapter 12's l12Look, the specification's. -/
import Derived.Test.YtaanophnnkmkbaaGreatHin11
import Derived.Test.YtaanophnnkmkbaaGreatCin10
import Derived.Test.YtaanophnnkmkbaaGreatMakeSign
import Derived.Test.YtaanophnnkmkbaaGreatTermPut2
import Derived.WalkKit
import Derived.WalkLawsBesides
import Derived.WalkSpells
import Derived.Laws.Rows
namespace Go.Proofs.YtaanophnnkmkbaaGreat
open Go.RowKit
set_option linter.unusedVariables false
/-- What PartOk reads. -/
def poI (ns : List Nd) (sd hd k : Int) : Int := openV ns (sideK ns hd sd) k
def poO (ns : List Nd) (sd hd k : Int) : Bool := openB ns (sideK ns hd sd) k
def poP (ns : List Nd) (sd hd k : Int) : List Int := partsV (sideA ns hd sd) (poI ns sd hd k) 3
def poQ (ns : List Nd) (sd hd k : Int) : Bool := partsB (sideA ns hd sd) (poI ns sd hd k) 3
def poM (ns : List Nd) (sd hd m1 sa : Int) : Int := overK (sideA ns hd sd) 9 hd m1 sa
def poA (ns : List Nd) (sd hd m1 sa : Int) : List Nd := overA (sideA ns hd sd) 9 hd m1 sa
def poC (ns : List Nd) (sd hd m1 sa k : Int) : Bool := poO ns sd hd k && (poQ ns sd hd k && (decide (0 ≤ poM ns sd hd m1 sa) && decide ((poP ns sd hd k).getD 2 0 = poM ns sd hd m1 sa)))
def poX (A : List Nd) (m8 mo nm sa p0 p1 : Int) : Bool :=
  if mo = 1 then crtB A p0 && (signB A (crtP A p0) p1 && (decide (crtN A p0 = nm) && (decide (signV A (crtP A p0) p1 = wdK A m8 sa) && decide (0 ≤ wdK A m8 sa)))) else numIs A p0 0 && numIs A p1 0
def poB (ns : List Nd) (sd hd m1 m8 mo nm sa k : Int) : Bool := poC ns sd hd m1 sa k && poX (poA ns sd hd m1 sa) m8 mo nm sa ((poP ns sd hd k).getD 0 0) ((poP ns sd hd k).getD 1 0)
theorem overA_pre (ns : List Nd) (k s n d : Int) : ns <+: overA ns k s n d := by
  have mk : ∀ (ms : List Nd) (kd x y : Int), ms <+: makeA ms kd x y := fun ms kd x y => by unfold makeA; split; exact List.prefix_refl _; exact putA_pre _ _
  exact (putA_pre _ _).trans ((mk _ _ _ _).trans ((mk _ _ _ _).trans (mk _ _ _ _)))
theorem sideA_pre (ns : List Nd) (s n : Int) : ns <+: sideA ns s n := by
  have mk : ∀ (ms : List Nd) (kd x y : Int), ms <+: makeA ms kd x y := fun ms kd x y => by unfold makeA; split; exact List.prefix_refl _; exact putA_pre _ _
  exact (putA_pre _ _).trans (mk _ _ _ _)
theorem wdA_pre (ns : List Nd) (m d : Int) : ns <+: wdA ns m d := by
  have mk : ∀ (ms : List Nd) (kd x y : Int), ms <+: makeA ms kd x y := fun ms kd x y => by unfold makeA; split; exact List.prefix_refl _; exact putA_pre _ _
  have l : ∀ (xs : List Int) (ms : List Nd), ms <+: (listF xs ms).1 := fun xs => by
    induction xs with
    | nil => exact fun ms => putA_pre _ _
    | cons x xs ih => exact fun ms => (ih ms).trans (show _ <+: makeA (listF xs ms).1 2 x (listF xs ms).2 from mk _ _ _ _)
  exact (putA_pre _ _).trans ((mk _ _ _ _).trans (l _ _))
set_option maxHeartbeats 6400000 in
set_option maxRecDepth 20000 in
theorem specLook_any (D : Nat → Prop) (g : Nat) (ns : List Nd) (sd hd mo nm sa k : Int) (w : World) (hl : ns.length ≤ 1048576) (h : ArD D w g ns) (hB : ∀ k, D k → k < w.heap.size) :
    Calls Tryz.prog 88 #[.pointer (some ⟨g, 0, none⟩), .int .i64 sd, .int .i64 hd, .int .i64 mo, .int .i64 nm, .int .i64 sa, .int .i64 k] w fun e w' => e = .returned (.bool (poB ns sd hd (IntKind.i64.wrap (10 + sd)) (IntKind.i64.wrap (80 + sd)) mo nm sa k)) ∧ Safe D w w' ∧ ∃ A, ArD D w' g A ∧ ns.length ≤ A.length ∧ A.length ≤ 1048576 := by
  obtain ⟨a, cp, hg0, hA0, hO0⟩ := hdr_of h
  have c0 : w.cell? ⟨g, 0, none⟩ = some (.slice a ns.length cp) := (cell_of_row _ _ 0 _ _ _ hg0).trans rfl
  obtain ⟨A1, k1, HE1, L1⟩ : ∃ (A : List Nd) (k : Int), Hid (sideA ns hd sd = A ∧ sideK ns hd sd = k) ∧ A.length ≤ 1048576 := ⟨_, _, ⟨rfl, rfl⟩, sideA_le hl⟩
  obtain ⟨vi, vo, HE2⟩ : ∃ (v : Int) (o : Bool), Hid (openV ns k1 k = v ∧ openB ns k1 k = o) := ⟨_, _, ⟨rfl, rfl⟩⟩
  have HSD : Hid (Calls Tryz.prog 103 #[.pointer (some ⟨g, 0, none⟩), .int .i64 hd, .int .i64 sd] w.drew fun e w1 => ∃ a1 c1, e = .returned (.int .i64 k1) ∧ w1.cell? ⟨g, 0, none⟩ = some (.slice a1 A1.length c1) ∧ Hid (ArD D w1 g A1 ∧ Safe D w w1 ∧ RowN w1.heap.size w1 a ns ∧ RowN w1.heap.size w1 a1 A1)) := by
    have hd0 : Below w.heap.size w w.drew := (Below.refl _ _).drew
    refine Calls.mono (specSideO_any D g ns hd sd w.drew hl (h.later hd0) (fun q hq => hB q hq)) ?_
    rintro e w1 ⟨rfl, q1, q2, q3⟩
    rw [HE1.out.1] at q1 q3
    obtain ⟨a1, c1, g1, -, o1⟩ := hdr_of q1
    exact ⟨a1, c1, by rw [HE1.out.2], (cell_of_row _ _ 0 _ _ _ g1).trans rfl, q1, (Safe.of_below hd0 hB).trans q2, (q3 _ _ (OldK.below hd0 _ _ hO0)).row, o1.row⟩
  have HOP : Hid (∀ (w1 : World) (a1 : Option Addr) (c1 : Nat), Hid (ArD D w1 g A1 ∧ Safe D w w1 ∧ RowN w1.heap.size w1 a ns ∧ RowN w1.heap.size w1 a1 A1) → Calls Tryz.prog 109 #[.agg #[.slice a ns.length cp], .int .i64 k1, .int .i64 k] w1 fun e w' => e = .returned (.tuple #[.int .i64 vi, .bool vo]) ∧ Hid (ArD D w' g A1 ∧ Safe D w w')) := fun w1 a1 c1 hq => by
    have := specOpen_any a cp ns k1 k w1 hl hq.out.2.2.1
    rw [HE2.out.1, HE2.out.2] at this
    exact this.mono fun e w' ⟨he, hb⟩ => ⟨he, hq.out.1.later hb, hq.out.2.1.trans (Safe.of_below hb (hq.out.2.1.old hB))⟩
  have HOQ : Hid (∀ (w1 : World) (a1 : Option Addr) (c1 : Nat), Hid (ArD D w1 g A1 ∧ Safe D w w1 ∧ RowN w1.heap.size w1 a ns ∧ RowN w1.heap.size w1 a1 A1) → Calls Tryz.prog 109 #[.agg #[.slice a1 A1.length c1], .int .i64 k1, .int .i64 k] w1 fun e w' => e = .returned (.tuple #[.int .i64 vi, .bool vo]) ∧ Hid (ArD D w' g A1 ∧ Safe D w w')) := fun w1 a1 c1 hq => by
    have := specOpen_any a1 c1 A1 k1 k w1 L1 hq.out.2.2.2
    have e := open_side (ns := ns) (s := hd) (n := sd) (key := k1) (k := k)
    rw [HE1.out.1] at e
    rw [e.1, e.2, HE2.out.1, HE2.out.2] at this
    exact this.mono fun e w' ⟨he, hb⟩ => ⟨he, hq.out.1.later hb, hq.out.2.1.trans (Safe.of_below hb (hq.out.2.1.old hB))⟩
  have HBO : Hid (∀ k, D k → k < w.heap.size) := hB
  clear h hB hg0 hA0 hO0
  go_enter Tryz.func88, Tryz.ntmps88
  go_wp2_with fail
  go_cut [15, 16] (fun s15 s16 wc => s15 = .int .i64 vi ∧ s16 = .bool vo ∧ Hid (ArD D wc g A1 ∧ Safe D w wc))
  case first =>
    go_region_with (first | (go_at_call 103; refine Calls.mono HSD.out ?_; rintro e w1 ⟨a1, c1, rfl, q1, hq⟩) | (go_at_call 109; with_reducible refine Calls.mono (HOP.out w1 a1 c1 hq) ?_; rintro e w2 ⟨rfl, hz⟩) | (go_at_call 109; with_reducible refine Calls.mono (HOQ.out w1 a1 c1 hq) ?_; rintro e w2 ⟨rfl, hz⟩))
    all_goals
      go_wp2_with fail
      go_meet
      exact ⟨rfl, rfl, by assumption⟩
  case rest =>
    obtain ⟨rfl, rfl, HZ⟩ := hcut
    clear HSD HOP HOQ c0
    obtain ⟨a2, c2, g2, hA2, o2⟩ := hdr_of HZ.out.1
    have q2 : wc.cell? ⟨g, 0, none⟩ = some (.slice a2 A1.length c2) := (cell_of_row _ _ 0 _ _ _ g2).trans rfl
    obtain ⟨ps, pb, HE3⟩ : ∃ (v : List Int) (o : Bool), Hid (partsV A1 vi 3 = v ∧ partsB A1 vi 3 = o) := ⟨_, _, ⟨rfl, rfl⟩⟩
    have HPT : Hid _ := specParts_any a2 c2 A1 vi 3 wc L1 o2.row
    rw [HE3.out.1, HE3.out.2] at HPT
    clear g2 hA2 o2
    go_wp2_with fail
    clear q2
    refine Calls.mono HPT.out ?_
    rintro e w3 ⟨v3, rfl, ho3, hb3⟩
    clear HPT
    obtain ⟨ap, cpp, rfl, hAp, hrp⟩ := ho3.row
    obtain ⟨r, HR1⟩ : ∃ r, Hid (wc.heap.size ≤ r ∧ r < w3.heap.size + 1 ∧ (∀ b off, ap = some ⟨b, off, none⟩ → ps ≠ [] → r = b ∧ b < w3.heap.size)) := by
      rcases hrp with h0 | ⟨b, off, rfl, hlt, -⟩
      · exact ⟨wc.heap.size, Nat.le_refl _, by have := hb3.size; omega, fun b off _ hne => absurd h0 hne⟩
      · exact ⟨b, (World.ownsRow.lt ho3 b rfl).1, by omega, fun b' off' e _ => by cases e; exact ⟨rfl, hlt⟩⟩
    obtain ⟨D', HD'⟩ : ∃ D' : Nat → Prop, Hid (D' = fun q => D q ∨ (q = r ∧ q < w3.heap.size)) := ⟨_, rfl⟩
    have hA' : ArD D' w3 g A1 := (HZ.out.1.wide HR1.out.1 w3 hb3).narrow (fun q hq => by rw [HD'.out] at hq; rcases hq with hq | hq; exact .inl hq; exact .inr hq.1)
    have hB' : ∀ q, D' q → q < w3.heap.size := fun q hq => by rw [HD'.out] at hq; rcases hq with hq | hq; exact Nat.lt_of_lt_of_le (HZ.out.2.old HBO.out q hq) hb3.size; exact hq.2
    have HS3 : Hid (Safe D w w3) := HZ.out.2.trans (Safe.of_below hb3 (HZ.out.2.old HBO.out))
    have HRP : Hid (∀ w4, Safe D' w3 w4 → ∀ i, i < ps.length → ∃ b off, ap = some ⟨b, off, none⟩ ∧ w4.cell? ⟨b, off + i, none⟩ = some (.int .i64 (ps.getD i 0))) := fun w4 hs i hi => by
      rcases hrp with h0 | ⟨b, off, rfl, hlt, hc⟩
      · rw [h0] at hi; simp at hi
      · have e := HR1.out.2.2 b off rfl (fun e => by rw [e] at hi; simp at hi)
        exact ⟨b, off, rfl, (hs.cell (p := ⟨b, off + i, none⟩) (by rw [HD'.out]; exact .inr ⟨e.1.symm, e.2⟩)).trans (hc i hi)⟩
    have hPre1 : ns.length ≤ A1.length := by rw [← HE1.out.1]; exact (sideA_pre _ _ _).length_le
    obtain ⟨A2, kh, HE4, L2, hPre2⟩ : ∃ (A : List Nd) (k : Int), Hid (overA A1 9 hd (IntKind.i64.wrap (10 + sd)) sa = A ∧ overK A1 9 hd (IntKind.i64.wrap (10 + sd)) sa = k) ∧ A.length ≤ 1048576 ∧ ns.length ≤ A.length := ⟨_, _, ⟨rfl, rfl⟩, overA_le L1, Nat.le_trans hPre1 (overA_pre _ _ _ _ _).length_le⟩
    have HMK : Hid _ := specDoneD_any D' g A1 hd sd sa w3 L1 hA' hB'
    rw [HE4.out.1, HE4.out.2] at HMK
    have HC : Hid (poB ns sd hd (IntKind.i64.wrap (10 + sd)) (IntKind.i64.wrap (80 + sd)) mo nm sa k = (vo && (pb && (decide (0 ≤ kh) && decide (ps.getD 2 0 = kh))) && poX A2 (IntKind.i64.wrap (80 + sd)) mo nm sa (ps.getD 0 0) (ps.getD 1 0))) := by
      have e1 : poI ns sd hd k = vi := by unfold poI; rw [HE1.out.2, HE2.out.1]
      have e2 : poO ns sd hd k = vo := by unfold poO; rw [HE1.out.2, HE2.out.2]
      have e3 : poP ns sd hd k = ps := by unfold poP; rw [e1, HE1.out.1, HE3.out.1]
      have e4 : poQ ns sd hd k = pb := by unfold poQ; rw [e1, HE1.out.1, HE3.out.2]
      have e5 : poM ns sd hd (IntKind.i64.wrap (10 + sd)) sa = kh := by unfold poM; rw [HE1.out.1, HE4.out.2]
      have e6 : poA ns sd hd (IntKind.i64.wrap (10 + sd)) sa = A2 := by unfold poA; rw [HE1.out.1, HE4.out.1]
      show _ = _
      unfold poB poC
      rw [e2, e3, e4, e5, e6]
    have HPL : Hid (pb = true → ps.length = 3) := fun e => by rw [← HE3.out.1]; exact parts_len (n := 3) (by rw [HE3.out.2]; exact e)
    have HA3 : Hid (ArD D w3 g A1) := hA'.narrow (fun q hq => by rw [HD'.out]; exact .inl hq)
    clear HE1 HE2 HE3 HE4 hrp ho3 hAp hb3 HZ hA' hB' HR1
    cases vo
    · go_wp2
      go_ret
      exact ⟨by rw [HC.out]; rfl, HS3.out, A1, HA3.out, hPre1, L1⟩
    · cases pb
      · go_wp2
        go_ret
        exact ⟨by rw [HC.out]; rfl, HS3.out, A1, HA3.out, hPre1, L1⟩
      · obtain ⟨p0, p1, p2, rfl⟩ : ∃ p0 p1 p2, ps = [p0, p1, p2] := by
          match ps, HPL.out rfl with
          | [p0, p1, p2], _ => exact ⟨p0, p1, p2, rfl⟩
        go_wp2_with fail
        refine Calls.mono HMK.out ?_
        rintro e w4 ⟨rfl, ha4, hs4⟩
        have hn : ∀ q, D q → D' q := fun q hq => by rw [HD'.out]; exact .inl hq
        have h14 : Safe D w w4 := HS3.out.trans (hs4.mono hn)
        have HEND : Hid (∀ w5, Below w4.heap.size w4 w5 → Safe D w w5) := fun w5 hb => h14.trans (Safe.of_below hb (h14.old HBO.out))
        have HAR : Hid (∀ w5, Below w4.heap.size w4 w5 → ArD D w5 g A2) := fun w5 hb => (ha4.narrow hn).later hb
        obtain ⟨b, off, rfl, f0⟩ := HRP.out w4 hs4 0 (by simp)
        have f1 : w4.cell? ⟨b, off + 1, none⟩ = some (.int .i64 p1) := by
          obtain ⟨b', off', e, h1⟩ := HRP.out w4 hs4 1 (by simp)
          cases e
          exact h1
        have f2 : w4.cell? ⟨b, off + 2, none⟩ = some (.int .i64 p2) := by
          obtain ⟨b', off', e, h1⟩ := HRP.out w4 hs4 2 (by simp)
          cases e
          exact h1
        replace f0 : w4.cell? ⟨b, off, none⟩ = some (.int .i64 p0) := f0
        have HLB : Hid (b < w4.heap.size) := by
          rcases Nat.lt_or_ge b w4.heap.size with h1 | h1
          · exact h1
          · rw [World.cell?] at f0; simp [h1] at f0
        have HF : Hid (w4.cell? ⟨b, off, none⟩ = some (.int .i64 p0) ∧ w4.cell? ⟨b, off + 1, none⟩ = some (.int .i64 p1) ∧ True) := ⟨f0, f1, trivial⟩
        obtain ⟨a4, c4, g4, -, o4⟩ := hdr_of ha4
        have HH4 : Hid (w4.cell? ⟨g, 0, none⟩ = some (.slice a4 A2.length c4) ∧ RowN w4.heap.size w4 a4 A2 ∧ g < w4.heap.size) := ⟨(cell_of_row _ _ 0 _ _ _ g4).trans rfl, o4.row, (Array.getElem?_eq_some_iff.1 g4).1⟩
        clear HMK HRP HS3 HD' HA3 ha4 hs4 g4 o4 hn h14 f0 f1 HPL
        by_cases hk : 0 ≤ kh
        · have hkb : decide (kh < 0) = false := by simp; omega
          by_cases he : p2 = kh
          · subst he
            by_cases hm : mo = 1
            · subst hm
              obtain ⟨cn, cpb, cb, HE5⟩ : ∃ (n p : Int) (o : Bool), Hid (crtN A2 p0 = n ∧ crtP A2 p0 = p ∧ crtB A2 p0 = o) := ⟨_, _, _, ⟨rfl, rfl, rfl⟩⟩
              obtain ⟨sv, sb, HE6⟩ : ∃ (v : Int) (o : Bool), Hid (signV A2 cpb p1 = v ∧ signB A2 cpb p1 = o) := ⟨_, _, ⟨rfl, rfl⟩⟩
              obtain ⟨A5, kw, HE7, L5, hPre5⟩ : ∃ (A : List Nd) (k : Int), Hid (wdA A2 (IntKind.i64.wrap (80 + sd)) sa = A ∧ wdK A2 (IntKind.i64.wrap (80 + sd)) sa = k) ∧ A.length ≤ 1048576 ∧ ns.length ≤ A.length := ⟨_, _, ⟨rfl, rfl⟩, wdA_le L2, Nat.le_trans hPre2 (wdA_pre _ _ _).length_le⟩
              have HV : Hid (poX A2 (IntKind.i64.wrap (80 + sd)) 1 nm sa p0 p1 = (cb && (sb && (decide (cn = nm) && (decide (sv = kw) && decide (0 ≤ kw)))))) := by show _ = _; unfold poX; rw [if_pos rfl, HE5.out.1, HE5.out.2.1, HE5.out.2.2, HE6.out.1, HE6.out.2, HE7.out.2]
              have HFV : Hid (poB ns sd hd (IntKind.i64.wrap (10 + sd)) (IntKind.i64.wrap (80 + sd)) 1 nm sa k = _) := (show poB ns sd hd (IntKind.i64.wrap (10 + sd)) (IntKind.i64.wrap (80 + sd)) 1 nm sa k = poX A2 (IntKind.i64.wrap (80 + sd)) 1 nm sa p0 p1 by rw [HC.out]; simp [hk]).trans HV.out
              clear HV HC
              have HS4 : Hid (Below w4.heap.size w4 w4) := Below.refl _ _
              obtain ⟨S, hS0, hNE, HK⟩ := below_class (Below.refl w4.heap.size w4) (Nat.le_refl _)
              have d0 : ∀ s : Hw S, s.w.cell? ⟨b, off, none⟩ = some (.int .i64 p0) := fun s => ((HK.out.2 _ s.ok).cell (p := ⟨b, off, none⟩) (Nat.lt_of_lt_of_le HLB.out HS4.out.size)).trans (HS4.out.cell (p := ⟨b, off, none⟩) HLB.out |>.trans HF.out.1)
              have d1 : ∀ s : Hw S, s.w.cell? ⟨b, off + 1, none⟩ = some (.int .i64 p1) := fun s => ((HK.out.2 _ s.ok).cell (p := ⟨b, off + 1, none⟩) (Nat.lt_of_lt_of_le HLB.out HS4.out.size)).trans (HS4.out.cell (p := ⟨b, off + 1, none⟩) HLB.out |>.trans HF.out.2.1)
              have d2 : ∀ s : Hw S, s.w.cell? ⟨g, 0, none⟩ = some (.slice a4 A2.length c4) := fun s => ((HK.out.2 _ s.ok).cell (p := ⟨g, 0, none⟩) (Nat.lt_of_lt_of_le HH4.out.2.2 HS4.out.size)).trans ((HS4.out.cell (p := ⟨g, 0, none⟩) HH4.out.2.2).trans HH4.out.1)
              have HN : Hid (∀ s : Hw S, Calls Tryz.prog 119 #[.agg #[.slice a4 A2.length c4], .int .i64 p0] s.w fun e w' => e = .returned (.tuple #[.int .i64 cn, .int .i64 cpb, .bool cb]) ∧ Below s.w.heap.size s.w w') := fun s => by have := specCertIn_any a4 c4 A2 p0 s.w L2 (HH4.out.2.1.grown (HS4.out.trans ((HK.out.2 _ s.ok).mono HS4.out.size))); rw [HE5.out.1, HE5.out.2.1, HE5.out.2.2] at this; exact this
              go_wp2_with fail
              refine wp_region_held (S := S) (by kernel_rfl) (by kernel_rfl) hS0 ?_
              repeat (go_big_quiet_step ((go_at_call 119; exact Calls.held (HN.out _) (HK.out.1 _))))
              refine wpQuiet_nil ?_
              rintro _ ⟨sw, rfl⟩
              obtain ⟨w5, hw5⟩ : ∃ w5, w5 = sw.w := ⟨_, rfl⟩
              have hX := HK.out.2 _ sw.ok
              rw [← hw5] at hX ⊢
              clear hw5
              replace HS4 : Hid (Below w4.heap.size w4 w5) := HS4.out.trans (hX.mono HS4.out.size)
              clear hX HK HN d0 d1 d2 hS0 hNE
              obtain ⟨S, hS0, hNE, HK⟩ := below_class (Below.refl w5.heap.size w5) (Nat.le_refl _)
              have d0 : ∀ s : Hw S, s.w.cell? ⟨b, off, none⟩ = some (.int .i64 p0) := fun s => ((HK.out.2 _ s.ok).cell (p := ⟨b, off, none⟩) (Nat.lt_of_lt_of_le HLB.out HS4.out.size)).trans (HS4.out.cell (p := ⟨b, off, none⟩) HLB.out |>.trans HF.out.1)
              have d1 : ∀ s : Hw S, s.w.cell? ⟨b, off + 1, none⟩ = some (.int .i64 p1) := fun s => ((HK.out.2 _ s.ok).cell (p := ⟨b, off + 1, none⟩) (Nat.lt_of_lt_of_le HLB.out HS4.out.size)).trans (HS4.out.cell (p := ⟨b, off + 1, none⟩) HLB.out |>.trans HF.out.2.1)
              have d2 : ∀ s : Hw S, s.w.cell? ⟨g, 0, none⟩ = some (.slice a4 A2.length c4) := fun s => ((HK.out.2 _ s.ok).cell (p := ⟨g, 0, none⟩) (Nat.lt_of_lt_of_le HH4.out.2.2 HS4.out.size)).trans ((HS4.out.cell (p := ⟨g, 0, none⟩) HH4.out.2.2).trans HH4.out.1)
              have HN : Hid (∀ s : Hw S, Calls Tryz.prog 120 #[.agg #[.slice a4 A2.length c4], .int .i64 cpb, .int .i64 p1] s.w fun e w' => e = .returned (.tuple #[.int .i64 sv, .bool sb]) ∧ Below s.w.heap.size s.w w') := fun s => by have := specSigned_any a4 c4 A2 cpb p1 s.w L2 (HH4.out.2.1.grown (HS4.out.trans ((HK.out.2 _ s.ok).mono HS4.out.size))); rw [HE6.out.1, HE6.out.2] at this; exact this
              go_wp2_with fail
              refine wp_region_held (S := S) (by kernel_rfl) (by kernel_rfl) hS0 ?_
              repeat (go_big_quiet_step ((go_at_call 120; exact Calls.held (HN.out _) (HK.out.1 _))))
              refine wpQuiet_nil ?_
              rintro _ ⟨sw, rfl⟩
              obtain ⟨w6, hw5⟩ : ∃ w5, w5 = sw.w := ⟨_, rfl⟩
              have hX := HK.out.2 _ sw.ok
              rw [← hw5] at hX ⊢
              clear hw5
              replace HS4 : Hid (Below w4.heap.size w4 w6) := HS4.out.trans (hX.mono HS4.out.size)
              clear hX HK HN d0 d1 d2 hS0 hNE
              have HWD : Hid _ := specWordsD_any D g A2 sd sa w6 L2 (HAR.out _ HS4.out) ((HEND.out _ HS4.out).old HBO.out)
              rw [HE7.out.1, HE7.out.2] at HWD
              have HE8 : Hid (Safe D w w6) := HEND.out _ HS4.out
              clear HE5 HE6 HE7 HF HH4 HLB HAR HEND HS4
              go_wp2_with fail
              refine Calls.mono HWD.out ?_
              rintro e w7 ⟨rfl, ha7, hs7⟩
              have HE9 : Hid (Safe D w w7 ∧ ArD D w7 g A5) := ⟨HE8.out.trans hs7, ha7⟩
              clear ha7 hs7 HE8 HWD
              cases cb
              · go_wp2
                go_ret
                exact ⟨by rw [HFV.out]; rfl, HE9.out.1, A5, HE9.out.2, hPre5, L5⟩
              · cases sb
                · go_wp2
                  go_ret
                  exact ⟨by rw [HFV.out]; rfl, HE9.out.1, A5, HE9.out.2, hPre5, L5⟩
                · by_cases h1 : cn = nm
                  · have h1b : (cn == nm) = true := by simpa using h1
                    by_cases h2 : sv = kw
                    · have h2b : (sv == kw) = true := by simpa using h2
                      by_cases h3 : 0 ≤ kw
                      · go_wp2
                        go_ret
                        exact ⟨by rw [HFV.out]; first | (simp [h1, h2]; done) | (simp [h1, h2, h3]; done), HE9.out.1, A5, HE9.out.2, hPre5, L5⟩
                      · go_wp2
                        go_ret
                        exact ⟨by rw [HFV.out]; first | (simp [h1, h2]; done) | (simp [h1, h2, h3]; done), HE9.out.1, A5, HE9.out.2, hPre5, L5⟩
                    · have h2b : (sv == kw) = false := by simpa using h2
                      go_wp2
                      go_ret
                      exact ⟨by rw [HFV.out]; simp [h1, h2], HE9.out.1, A5, HE9.out.2, hPre5, L5⟩
                  · have h1b : (cn == nm) = false := by simpa using h1
                    go_wp2
                    go_ret
                    exact ⟨by rw [HFV.out]; simp [h1], HE9.out.1, A5, HE9.out.2, hPre5, L5⟩
            · have hmb : (mo == 1) = false := by simpa using hm
              have hmn : (mo != 1) = true := by simpa using hm
              obtain ⟨n0, n1, HE5⟩ : ∃ (x y : Bool), Hid (numIs A2 p0 0 = x ∧ numIs A2 p1 0 = y) := ⟨_, _, ⟨rfl, rfl⟩⟩
              have HV : Hid (poX A2 (IntKind.i64.wrap (80 + sd)) mo nm sa p0 p1 = (n0 && n1)) := by show _ = _; unfold poX; rw [if_neg hm, HE5.out.1, HE5.out.2]
              have HFV : Hid (poB ns sd hd (IntKind.i64.wrap (10 + sd)) (IntKind.i64.wrap (80 + sd)) mo nm sa k = _) := (show poB ns sd hd (IntKind.i64.wrap (10 + sd)) (IntKind.i64.wrap (80 + sd)) mo nm sa k = poX A2 (IntKind.i64.wrap (80 + sd)) mo nm sa p0 p1 by rw [HC.out]; simp [hk]).trans HV.out
              clear HV hm HC
              have HS4 : Hid (Below w4.heap.size w4 w4) := Below.refl _ _
              obtain ⟨S, hS0, hNE, HK⟩ := below_class (Below.refl w4.heap.size w4) (Nat.le_refl _)
              have d0 : ∀ s : Hw S, s.w.cell? ⟨b, off, none⟩ = some (.int .i64 p0) := fun s => ((HK.out.2 _ s.ok).cell (p := ⟨b, off, none⟩) (Nat.lt_of_lt_of_le HLB.out HS4.out.size)).trans (HS4.out.cell (p := ⟨b, off, none⟩) HLB.out |>.trans HF.out.1)
              have d1 : ∀ s : Hw S, s.w.cell? ⟨b, off + 1, none⟩ = some (.int .i64 p1) := fun s => ((HK.out.2 _ s.ok).cell (p := ⟨b, off + 1, none⟩) (Nat.lt_of_lt_of_le HLB.out HS4.out.size)).trans (HS4.out.cell (p := ⟨b, off + 1, none⟩) HLB.out |>.trans HF.out.2.1)
              have d2 : ∀ s : Hw S, s.w.cell? ⟨g, 0, none⟩ = some (.slice a4 A2.length c4) := fun s => ((HK.out.2 _ s.ok).cell (p := ⟨g, 0, none⟩) (Nat.lt_of_lt_of_le HH4.out.2.2 HS4.out.size)).trans ((HS4.out.cell (p := ⟨g, 0, none⟩) HH4.out.2.2).trans HH4.out.1)
              have HN0 : Hid (∀ s : Hw S, Calls Tryz.prog 118 #[.agg #[.slice a4 A2.length c4], .int .i64 p0, .int .i64 0] s.w fun e w' => e = .returned (.bool n0) ∧ Below s.w.heap.size s.w w') := fun s => by have := specNumIs_any a4 c4 A2 p0 0 s.w L2 (HH4.out.2.1.grown (HS4.out.trans ((HK.out.2 _ s.ok).mono HS4.out.size))); rw [HE5.out.1] at this; exact this
              have HN1 : Hid (∀ s : Hw S, Calls Tryz.prog 118 #[.agg #[.slice a4 A2.length c4], .int .i64 p1, .int .i64 0] s.w fun e w' => e = .returned (.bool n1) ∧ Below s.w.heap.size s.w w') := fun s => by have := specNumIs_any a4 c4 A2 p1 0 s.w L2 (HH4.out.2.1.grown (HS4.out.trans ((HK.out.2 _ s.ok).mono HS4.out.size))); rw [HE5.out.2] at this; exact this
              clear HE5
              cases n0
              · go_wp2_with fail
                refine wp_region_held (S := S) (by kernel_rfl) (by kernel_rfl) hS0 ?_
                repeat (go_big_quiet_step (first | (go_at_call 118; with_reducible exact Calls.held (HN0.out _) (HK.out.1 _)) | (go_at_call 118; with_reducible exact Calls.held (HN1.out _) (HK.out.1 _))))
                refine wpQuiet_nil ?_
                rintro _ ⟨sw, rfl⟩
                have HX : Hid (Below w4.heap.size w4 sw.w) := HK.out.2 _ sw.ok
                clear HK HN0 HN1 d0 d1 d2 hS0
                go_wp2
                go_ret
                exact ⟨by rw [HFV.out]; rfl, HEND.out _ HX.out, A2, HAR.out _ HX.out, hPre2, L2⟩
              · go_wp2_with fail
                refine wp_region_held (S := S) (by kernel_rfl) (by kernel_rfl) hS0 ?_
                repeat (go_big_quiet_step (first | (go_at_call 118; with_reducible exact Calls.held (HN0.out _) (HK.out.1 _)) | (go_at_call 118; with_reducible exact Calls.held (HN1.out _) (HK.out.1 _))))
                refine wpQuiet_nil ?_
                rintro _ ⟨sw, rfl⟩
                have HX : Hid (Below w4.heap.size w4 sw.w) := HK.out.2 _ sw.ok
                clear HK HN0 HN1 d0 d1 d2 hS0
                go_wp2
                go_ret
                exact ⟨by rw [HFV.out]; rfl, HEND.out _ HX.out, A2, HAR.out _ HX.out, hPre2, L2⟩
          · have heb : (p2 == kh) = false := by simpa using he
            go_wp2
            go_ret
            exact ⟨by rw [HC.out]; simp [he], HEND.out _ (Below.refl _ _), A2, HAR.out _ (Below.refl _ _), hPre2, L2⟩
        · have hk0 : kh < 0 := by omega
          go_wp2
          go_ret
          exact ⟨by rw [HC.out, decide_eq_false (show ¬ (0 : Int) ≤ kh by omega)]; rfl, HEND.out _ (Below.refl _ _), A2, HAR.out _ (Below.refl _ _), hPre2, L2⟩
end Go.Proofs.YtaanophnnkmkbaaGreat

namespace Go.Proofs.YtaanophnnkmkbaaGreat
open Go.RowKit

end Go.Proofs.YtaanophnnkmkbaaGreat

namespace Go.Proofs.YtaanophnnkmkbaaGreat
open Go.RowKit
set_option linter.unusedVariables false
theorem hdr_cap {D : Nat → Prop} {w : World} {g : Nat} {ns : List Nd} {a : Option Addr} {n c : Nat} (h : ArD D w g ns) (hv : w.heap[g]? = some (.cells #[.slice a n c] 26 (0, 0))) : ns.length ≤ c := by
  obtain ⟨h1, h2, v, h3, h4, h5, h6⟩ := h
  obtain rfl : v = .slice a n c := by rw [h3] at hv; simpa using hv
  rcases h4.2 with ⟨e, h0⟩ | ⟨b, cp, cur, e, q1, q2, q3, q4⟩
  · omega
  · simp only [Value.slice.injEq] at e
    omega
set_option maxHeartbeats 1600000 in
theorem specUndo_any (D : Nat → Prop) (g : Nat) (ns : List Nd) (n : Nat) (w : World) (hl : ns.length ≤ 1048576) (hn : n ≤ ns.length) (h : ArD D w g ns) (hB : ∀ k, D k → k < w.heap.size) :
    Calls Tryz.prog 79 #[.pointer (some ⟨g, 0, none⟩), .int .i64 (n : Int)] w fun e w' => (∃ u, e = .returned u) ∧ Safe D w w' := by
  obtain ⟨a, c, hg, ha, -⟩ := hdr_of h
  have c0 : w.cell? ⟨g, 0, none⟩ = some (.slice a ns.length c) := (cell_of_row _ _ 0 _ _ _ hg).trans rfl
  have f0 : w.frozen? ⟨g, 0, none⟩ = false := frozen_of_row _ _ 0 _ _ hg
  have HS : Hid (∀ u, Safe D w (w.setCell ⟨g, 0, none⟩ u)) := fun u => (Safe.refl _ _).setCell h.1 u
  have hcap := hdr_cap h hg
  have h0 : (0 : Int) ≤ (n : Int) := by omega
  have h2 : (n : Int) ≤ (c : Int) := by omega
  clear h hg
  by_cases hc : n < ns.length
  · have h1 : (n : Int) < (ns.length : Int) := by omega
    go_enter Tryz.func79, Tryz.ntmps79
    go_wp2
    refine bodyPost_end (results_none rfl _ _ _) rfl ?_
    exact ⟨⟨_, rfl⟩, HS.out _⟩
  · have h1 : ¬ (n : Int) < (ns.length : Int) := by omega
    go_enter Tryz.func79, Tryz.ntmps79
    go_wp2
    refine bodyPost_end (results_none rfl _ _ _) rfl ?_
    exact ⟨⟨_, rfl⟩, Safe.refl _ _⟩
theorem aiA_le {ns : List Nd} {hd sa : Int} (h : ns.length ≤ 1048576) : (aiA ns hd sa).length ≤ 1048576 := makeA_le (sideA_le h)
theorem makeA_preA (ms : List Nd) (kd x y : Int) : ms <+: makeA ms kd x y := by unfold makeA; split; exact List.prefix_refl _; exact putA_pre _ _
theorem aiA_pre (ns : List Nd) (hd sa : Int) : ns.length ≤ (aiA ns hd sa).length := ((putA_pre ns _).trans ((makeA_preA _ _ _ _).trans (makeA_preA _ _ _ _))).length_le
set_option maxHeartbeats 1600000 in
theorem specAckInD_any (D : Nat → Prop) (g : Nat) (ns : List Nd) (hd sa k : Int) (w : World) (hl : ns.length ≤ 1048576) (h : ArD D w g ns) (hB : ∀ k, D k → k < w.heap.size) :
    Calls Tryz.prog 43 #[.pointer (some ⟨g, 0, none⟩), .int .i64 hd, .int .i64 sa, .int .i64 k] w fun e w' => e = .returned (.tuple #[.int .i64 (aiV ns hd sa k), .bool (aiB ns hd sa k)]) ∧ Safe D w w' := by
  obtain ⟨a, c, hg, ha, -⟩ := hdr_of h
  have c0 : w.cell? ⟨g, 0, none⟩ = some (.slice a ns.length c) := (cell_of_row _ _ 0 _ _ _ hg).trans rfl
  have HL : Hid _ := specLookAck_any D g ns hd sa k w hl h hB
  have HBO : Hid (∀ k, D k → k < w.heap.size) := hB
  have HLE : Hid ((aiA ns hd sa).length ≤ 1048576 ∧ ns.length ≤ (aiA ns hd sa).length) := ⟨aiA_le hl, aiA_pre ns hd sa⟩
  generalize aiV ns hd sa k = v0 at HL ⊢
  generalize aiB ns hd sa k = v1 at HL ⊢
  generalize aiA ns hd sa = A2 at HL HLE
  clear h hg ha hB
  go_enter Tryz.func43, Tryz.ntmps43
  go_wp2_with fail
  refine Calls.mono HL.out ?_
  rintro e w1 ⟨rfl, hs, ha⟩
  have H1 : Hid (Safe D w w1 ∧ ArD D w1 g A2) := ⟨hs, ha⟩
  clear hs ha HL c0
  go_wp2_with fail
  refine Calls.mono (specUndo_any D g A2 ns.length w1 HLE.out.1 HLE.out.2 H1.out.2 (H1.out.1.old HBO.out)) ?_
  rintro e w2 ⟨⟨u, rfl⟩, hs2⟩
  have H2 : Hid (Safe D w w2) := H1.out.1.trans hs2
  clear hs2 H1
  go_wp2
  go_ret2
  exact ⟨rfl, H2.out⟩
set_option maxHeartbeats 1600000 in
theorem specAckIn_any (a : Option Addr) (cap : Nat) (ns : List Nd) (hd sa k : Int) (w : World) (hl : ns.length ≤ 1048576) (ha : AddrN a cap) (hr : RowN w.heap.size w a ns) :
    Calls Tryz.prog 13 #[.agg #[.slice a ns.length cap], .int .i64 hd, .int .i64 sa, .int .i64 k] w fun e w' => e = .returned (.tuple #[.int .i64 (aiV ns hd sa k), .bool (aiB ns hd sa k)]) ∧ Below w.heap.size w w' := by
  have hb0 : Below w.heap.size w (w.alloc (.cells #[.slice a ns.length cap] 26)) := (Below.refl _ _).alloc (Nat.le_refl _) _
  have HC : Hid _ := specCopy_any a cap ns (w.alloc (.cells #[.slice a ns.length cap] 26)) hl ha (hr.grown hb0)
  have HB : Hid (Below w.heap.size w (w.alloc (.cells #[.slice a ns.length cap] 26))) := hb0
  clear hb0 ha hr
  go_enter Tryz.func13, Tryz.ntmps13
  go_wp2_with fail
  generalize w.alloc (.cells #[.slice a ns.length cap] 26) = w0 at HC HB ⊢
  refine Calls.mono HC.out ?_
  rintro e w1 ⟨v, rfl, hown, hb1⟩
  obtain ⟨a1, cap1, rfl, -, -⟩ := hown.row
  have hbA : Below w1.heap.size w1 (w1.alloc (.cells #[.slice a1 ns.length cap1] 26)) := (Below.refl _ _).alloc (Nat.le_refl _) _
  have hs01 : w.heap.size ≤ w1.heap.size := Nat.le_trans HB.out.size hb1.size
  have HAD : Hid (ArD (fun q => q < w.heap.size) (w1.alloc (.cells #[.slice a1 ns.length cap1] 26)) w1.heap.size ns) := by
    refine ⟨by omega, by simp, _, heap_alloc_new w1 _, (hown.later hbA).base (Nat.zero_le _), fun e => ?_, fun q hq => ?_⟩
    · have := (hown.lt _ e).2; omega
    · have := (hown.lt _ hq).1; have := HB.out.size; omega
  have HBW : Hid (Below w.heap.size w (w1.alloc (.cells #[.slice a1 ns.length cap1] 26))) := (HB.out.trans (hb1.mono HB.out.size)).alloc hs01 _
  clear hown hb1 hbA HC HB
  go_wp2_with fail
  generalize w1.alloc (.cells #[.slice a1 ns.length cap1] 26) = w2 at HAD HBW ⊢
  refine Calls.mono (specAckInD_any (fun q => q < w.heap.size) w1.heap.size ns hd sa k w2 hl HAD.out (fun q hq => Nat.lt_of_lt_of_le hq HBW.out.size)) ?_
  rintro e w3 ⟨rfl, hs⟩
  have HE : Hid (Below w.heap.size w w3) := HBW.out.trans (hs.below (fun q hq => hq))
  clear hs HAD HBW
  go_wp2
  go_ret2
  exact ⟨rfl, HE.out⟩
end Go.Proofs.YtaanophnnkmkbaaGreat

namespace Go.Proofs.YtaanophnnkmkbaaGreat
open Go.RowKit
set_option linter.unusedVariables false
set_option maxHeartbeats 1600000 in
theorem specOkD_any (D : Nat → Prop) (g : Nat) (ns : List Nd) (sd hd mo nm sa k : Int) (w : World) (hl : ns.length ≤ 1048576) (h : ArD D w g ns) (hB : ∀ k, D k → k < w.heap.size) :
    Calls Tryz.prog 51 #[.pointer (some ⟨g, 0, none⟩), .int .i64 sd, .int .i64 hd, .int .i64 mo, .int .i64 nm, .int .i64 sa, .int .i64 k] w fun e w' => e = .returned (.bool (poB ns sd hd (IntKind.i64.wrap (10 + sd)) (IntKind.i64.wrap (80 + sd)) mo nm sa k)) ∧ Safe D w w' := by
  obtain ⟨a, c, hg, ha, -⟩ := hdr_of h
  have c0 : w.cell? ⟨g, 0, none⟩ = some (.slice a ns.length c) := (cell_of_row _ _ 0 _ _ _ hg).trans rfl
  have HL : Hid _ := specLook_any D g ns sd hd mo nm sa k w hl h hB
  have HBO : Hid (∀ k, D k → k < w.heap.size) := hB
  generalize poB ns sd hd (IntKind.i64.wrap (10 + sd)) (IntKind.i64.wrap (80 + sd)) mo nm sa k = v0 at HL ⊢
  clear h hg ha hB
  go_enter Tryz.func51, Tryz.ntmps51
  go_wp2_with fail
  refine Calls.mono HL.out ?_
  rintro e w1 ⟨rfl, hs, A2, ha, hla, hlb⟩
  have H1 : Hid (Safe D w w1 ∧ ArD D w1 g A2 ∧ ns.length ≤ A2.length ∧ A2.length ≤ 1048576) := ⟨hs, ha, hla, hlb⟩
  clear hs ha HL c0 hla hlb
  go_wp2_with fail
  refine Calls.mono (specUndo_any D g A2 ns.length w1 H1.out.2.2.2 H1.out.2.2.1 H1.out.2.1 (H1.out.1.old HBO.out)) ?_
  rintro e w2 ⟨⟨u, rfl⟩, hs2⟩
  have H2 : Hid (Safe D w w2) := H1.out.1.trans hs2
  clear hs2 H1
  go_wp2
  go_ret
  exact ⟨rfl, H2.out⟩
set_option maxHeartbeats 1600000 in
theorem specPartOk_any (a : Option Addr) (cap : Nat) (ns : List Nd) (sd hd mo nm sa k : Int) (w : World) (hl : ns.length ≤ 1048576) (ha : AddrN a cap) (hr : RowN w.heap.size w a ns) :
    Calls Tryz.prog 17 #[.agg #[.slice a ns.length cap], .int .i64 sd, .int .i64 hd, .int .i64 mo, .int .i64 nm, .int .i64 sa, .int .i64 k] w fun e w' => e = .returned (.bool (poB ns sd hd (IntKind.i64.wrap (10 + sd)) (IntKind.i64.wrap (80 + sd)) mo nm sa k)) ∧ Below w.heap.size w w' := by
  have hb0 : Below w.heap.size w (w.alloc (.cells #[.slice a ns.length cap] 26)) := (Below.refl _ _).alloc (Nat.le_refl _) _
  have HC : Hid _ := specCopy_any a cap ns (w.alloc (.cells #[.slice a ns.length cap] 26)) hl ha (hr.grown hb0)
  have HB : Hid (Below w.heap.size w (w.alloc (.cells #[.slice a ns.length cap] 26))) := hb0
  clear hb0 ha hr
  go_enter Tryz.func17, Tryz.ntmps17
  go_wp2_with fail
  generalize w.alloc (.cells #[.slice a ns.length cap] 26) = w0 at HC HB ⊢
  refine Calls.mono HC.out ?_
  rintro e w1 ⟨v, rfl, hown, hb1⟩
  obtain ⟨a1, cap1, rfl, -, -⟩ := hown.row
  have hbA : Below w1.heap.size w1 (w1.alloc (.cells #[.slice a1 ns.length cap1] 26)) := (Below.refl _ _).alloc (Nat.le_refl _) _
  have hs01 : w.heap.size ≤ w1.heap.size := Nat.le_trans HB.out.size hb1.size
  have HAD : Hid (ArD (fun q => q < w.heap.size) (w1.alloc (.cells #[.slice a1 ns.length cap1] 26)) w1.heap.size ns) := by
    refine ⟨by omega, by simp, _, heap_alloc_new w1 _, (hown.later hbA).base (Nat.zero_le _), fun e => ?_, fun q hq => ?_⟩
    · have := (hown.lt _ e).2; omega
    · have := (hown.lt _ hq).1; have := HB.out.size; omega
  have HBW : Hid (Below w.heap.size w (w1.alloc (.cells #[.slice a1 ns.length cap1] 26))) := (HB.out.trans (hb1.mono HB.out.size)).alloc hs01 _
  clear hown hb1 hbA HC HB
  go_wp2_with fail
  generalize w1.alloc (.cells #[.slice a1 ns.length cap1] 26) = w2 at HAD HBW ⊢
  refine Calls.mono (specOkD_any (fun q => q < w.heap.size) w1.heap.size ns sd hd mo nm sa k w2 hl HAD.out (fun q hq => Nat.lt_of_lt_of_le hq HBW.out.size)) ?_
  rintro e w3 ⟨rfl, hs⟩
  have HE : Hid (Below w.heap.size w w3) := HBW.out.trans (hs.below (fun q hq => hq))
  clear hs HAD HBW
  go_wp2
  go_ret
  exact ⟨rfl, HE.out⟩
end Go.Proofs.YtaanophnnkmkbaaGreat
