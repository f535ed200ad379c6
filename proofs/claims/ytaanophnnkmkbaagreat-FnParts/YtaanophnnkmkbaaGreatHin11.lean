/- The contracts of chapter 11's ServerIn and HelloIn, the specification's, and what they answer in plain words. -/
import Derived.Test.YtaanophnnkmkbaaGreatCin10
import Derived.Laws.ResultCell
import Derived.Test.YtaanophnnkmkbaaGreatLawKeep
import Derived.Test.YtaanophnnkmkbaaGreatPlainFM
import Derived.Test.YtaanophnnkmkbaaGreatListP
import Derived.Test.YtaanophnnkmkbaaGreatMakeParts
import Derived.Test.YtaanophnnkmkbaaGreatPlainTerm
import Derived.Deep.RegionWith
import Derived.Deep.DeepCutAuto
namespace Go.Proofs.YtaanophnnkmkbaaGreat
open Go.RowKit
set_option linter.unusedVariables false
/-- Is a term an Atom that not all know? -/
def nonB (ns : List Nd) (x : Int) : Bool := isK ns x 1 && decide (1000 ≤ numV ns x)
def srvB (ns : List Nd) (k : Int) : Bool := partsB ns k 3 && (numIs ns (p3 ns k 0) 62 && (nonB ns (p3 ns k 1) && isK ns (p3 ns k 2) 6))
def srvN (ns : List Nd) (k : Int) : Int := if srvB ns k = true then p3 ns k 1 else -1
def srvP (ns : List Nd) (k : Int) : Int := if srvB ns k = true then p3 ns k 2 else -1
def p5 (ns : List Nd) (k : Int) (i : Nat) : Int := (partsV ns k 5).getD i 0
def helB (ns : List Nd) (k : Int) : Bool := partsB ns k 5 && (numIs ns (p5 ns k 0) 61 && (nonB ns (p5 ns k 3) && (isK ns (p5 ns k 4) 6 && (isK ns (p5 ns k 1) 1 && (isK ns (p5 ns k 2) 1 && (inB (numV ns (p5 ns k 1)) 1 2 && inB (numV ns (p5 ns k 2)) 0 9))))))
def helM (ns : List Nd) (k : Int) : Int := if helB ns k = true then numV ns (p5 ns k 1) else 0
def helN (ns : List Nd) (k : Int) : Int := if helB ns k = true then numV ns (p5 ns k 2) else 0
def helO (ns : List Nd) (k : Int) : Int := if helB ns k = true then p5 ns k 3 else 0
def helP (ns : List Nd) (k : Int) : Int := if helB ns k = true then p5 ns k 4 else 0
theorem parts5 {ns : List Nd} {k : Int} (h : partsB ns k 5 = true) : (partsV ns k 5).length = 5 := by
  unfold partsB at h
  unfold partsV
  cases hp : partsR ns k 5 with
  | none => rw [hp] at h; simp at h
  | some xs =>
    unfold partsR at hp
    rw [if_neg (by omega)] at hp
    exact (partsN_len ns 5 k xs hp).1
theorem own5 {B : Nat} {w : World} {v : Value} {xs : List Int} (h : OwnInt B w v xs) (hl : xs.length = 5) : ∃ g off cap, v = .slice (some ⟨g, off, none⟩) 5 cap ∧ g < w.heap.size ∧ ∀ i, i < 5 → w.cell? ⟨g, off + i, none⟩ = some (.int .i64 (xs.getD i 0)) := by
  obtain ⟨a, cap, rfl, -, hr⟩ := h.row
  rcases hr with h0 | ⟨b, off, rfl, hb, hc⟩
  · rw [h0] at hl; simp at hl
  · rw [hl]
    exact ⟨b, off, cap, rfl, hb, fun i hi => hc i (by omega)⟩
end Go.Proofs.YtaanophnnkmkbaaGreat

namespace Go.Proofs.YtaanophnnkmkbaaGreat
open Go.RowKit
set_option linter.unusedVariables false
/-- How many parts a letter of a kind has. -/
def mnyV (kd : Int) : Int := if kd = 71 then 2 else if kd = 73 then 2 else if kd = 76 then 2 else if kd = 72 then 1 else if kd = 74 then 1 else if kd = 75 then 1 else 0
theorem mny_is (kd : Int) : mnyV kd = 0 ∨ mnyV kd = 1 ∨ mnyV kd = 2 := by
  unfold mnyV
  split
  · exact .inr (.inr rfl)
  split
  · exact .inr (.inr rfl)
  split
  · exact .inr (.inr rfl)
  split
  · exact .inr (.inl rfl)
  split
  · exact .inr (.inl rfl)
  split
  · exact .inr (.inl rfl)
  · exact .inl rfl
theorem parts_len {ns : List Nd} {k n : Int} (h : partsB ns k n = true) : (partsV ns k n).length = n.toNat := by
  unfold partsB at h
  unfold partsV
  cases hp : partsR ns k n with
  | none => rw [hp] at h; simp at h
  | some xs =>
    unfold partsR at hp
    split at hp
    · simp at hp
    · exact (partsN_len ns n.toNat k xs hp).1
theorem own_at {B : Nat} {w : World} {v : Value} {xs : List Int} (h : OwnInt B w v xs) (hp : 0 < xs.length) : ∃ g off cap, v = .slice (some ⟨g, off, none⟩) xs.length cap ∧ xs.length ≤ cap ∧ g < w.heap.size ∧ ∀ i, i < xs.length → w.cell? ⟨g, off + i, none⟩ = some (.int .i64 (xs.getD i 0)) := by
  have hc : ∀ a n cap, v = .slice a n cap → xs.length ≤ cap := fun a n cap e => by
    rcases h.2 with ⟨h0, h1⟩ | ⟨g, c, cur, hv, _, _, h4, _⟩
    · omega
    · rw [e] at hv; simp only [Value.slice.injEq] at hv; rw [hv.2.2]; exact h4
  obtain ⟨a, cap, rfl, -, hr⟩ := h.row
  rcases hr with h0 | ⟨b, off, rfl, hb, hc2⟩
  · rw [h0] at hp; simp at hp
  · exact ⟨b, off, cap, rfl, hc _ _ _ rfl, hb, hc2⟩
/-- A row without its first one. -/
theorem rowI_tail {B : Nat} {w : World} {g off : Nat} {xs : List Int} (hg : g < B) (hc : ∀ i, i < xs.length → w.cell? ⟨g, off + i, none⟩ = some (.int .i64 (xs.getD i 0))) : RowI B w (some ⟨g, off + 1, none⟩) (xs.drop 1) := by
  refine .inr ⟨g, off + 1, rfl, hg, fun j hj => ?_⟩
  have hj2 : 1 + j < xs.length := by simp at hj; omega
  have := hc (1 + j) hj2
  rw [show off + (1 + j) = off + 1 + j by omega] at this
  rw [this]
  rw [List.getD_eq_getElem?_getD, List.getD_eq_getElem?_getD, List.getElem?_drop]
def ltKd (ns : List Nd) (k : Int) : Int := numV ns (ndAt ns k).a
def ltPs (ns : List Nd) (k : Int) : List Int := partsV ns k (mnyV (ltKd ns k) + 1)
def linB (ns : List Nd) (k : Int) : Bool := isK ns k 2 && (isK ns (ndAt ns k).a 1 && (decide (mnyV (ltKd ns k) ≠ 0) && (partsB ns k (mnyV (ltKd ns k) + 1) && (decide (ltKd ns k ≠ 76) || isK ns ((ltPs ns k).getD 1 0) 1))))
def linK (ns : List Nd) (k : Int) : Int := if linB ns k = true then ltKd ns k else 0
def linV (ns : List Nd) (k : Int) : List Int := if linB ns k = true then (ltPs ns k).drop 1 else []
end Go.Proofs.YtaanophnnkmkbaaGreat

namespace Go.Proofs.YtaanophnnkmkbaaGreat
open Go.RowKit
set_option linter.unusedVariables false
/-- What AckIn reads. -/
def aiI (ns : List Nd) (hd k : Int) : Int := openV ns (sideK ns hd 40) k
def aiO (ns : List Nd) (hd k : Int) : Bool := openB ns (sideK ns hd 40) k
def aiP (ns : List Nd) (hd k : Int) : List Int := partsV (sideA ns hd 40) (aiI ns hd k) 2
def aiQ (ns : List Nd) (hd k : Int) : Bool := partsB (sideA ns hd 40) (aiI ns hd k) 2
def aiH (ns : List Nd) (hd sa : Int) : Int := makeK (sideA ns hd 40) 3 sa 0
def aiA (ns : List Nd) (hd sa : Int) : List Nd := makeA (sideA ns hd 40) 3 sa 0
def aiC (ns : List Nd) (hd sa k : Int) : Bool := aiO ns hd k && (aiQ ns hd k && (decide (0 ≤ aiH ns hd sa) && decide ((aiP ns hd k).getD 1 0 = aiH ns hd sa)))
def aiB (ns : List Nd) (hd sa k : Int) : Bool := aiC ns hd sa k && isK (aiA ns hd sa) ((aiP ns hd k).getD 0 0) 1
def aiV (ns : List Nd) (hd sa k : Int) : Int := if aiC ns hd sa k = true then numV (aiA ns hd sa) ((aiP ns hd k).getD 0 0) else 0
set_option maxHeartbeats 3200000 in
set_option maxRecDepth 20000 in
theorem specLookAck_any (D : Nat → Prop) (g : Nat) (ns : List Nd) (hd sa k : Int) (w : World) (hl : ns.length ≤ 1048576) (h : ArD D w g ns) (hB : ∀ k, D k → k < w.heap.size) :
    Calls Tryz.prog 78 #[.pointer (some ⟨g, 0, none⟩), .int .i64 hd, .int .i64 sa, .int .i64 k] w fun e w' => e = .returned (.tuple #[.int .i64 (aiV ns hd sa k), .bool (aiB ns hd sa k)]) ∧ Safe D w w' ∧ ArD D w' g (aiA ns hd sa) := by
  obtain ⟨a, cp, hg0, hA0, hO0⟩ := hdr_of h
  have c0 : w.cell? ⟨g, 0, none⟩ = some (.slice a ns.length cp) := (cell_of_row _ _ 0 _ _ _ hg0).trans rfl
  obtain ⟨A1, k1, HE1, L1⟩ : ∃ (A : List Nd) (k : Int), Hid (sideA ns hd 40 = A ∧ sideK ns hd 40 = k) ∧ A.length ≤ 1048576 := ⟨_, _, ⟨rfl, rfl⟩, sideA_le hl⟩
  obtain ⟨vi, vo, HE2⟩ : ∃ (v : Int) (o : Bool), Hid (openV ns k1 k = v ∧ openB ns k1 k = o) := ⟨_, _, ⟨rfl, rfl⟩⟩
  have HSD : Hid (Calls Tryz.prog 103 #[.pointer (some ⟨g, 0, none⟩), .int .i64 hd, .int .i64 40] w.drew fun e w1 => ∃ a1 c1, e = .returned (.int .i64 k1) ∧ w1.cell? ⟨g, 0, none⟩ = some (.slice a1 A1.length c1) ∧ Hid (ArD D w1 g A1 ∧ Safe D w w1 ∧ RowN w1.heap.size w1 a ns ∧ RowN w1.heap.size w1 a1 A1)) := by
    have hd0 : Below w.heap.size w w.drew := (Below.refl _ _).drew
    refine Calls.mono (specSideO_any D g ns hd 40 w.drew hl (h.later hd0) (fun q hq => hB q hq)) ?_
    rintro e w1 ⟨rfl, q1, q2, q3⟩
    rw [HE1.out.1] at q1 q3
    obtain ⟨a1, c1, g1, -, o1⟩ := hdr_of q1
    exact ⟨a1, c1, by rw [HE1.out.2], (cell_of_row _ _ 0 _ _ _ g1).trans rfl, q1, (Safe.of_below hd0 hB).trans q2, (q3 _ _ (OldK.below hd0 _ _ hO0)).row, o1.row⟩
  have HOP : Hid (∀ (w1 : World) (a1 : Option Addr) (c1 : Nat), Hid (ArD D w1 g A1 ∧ Safe D w w1 ∧ RowN w1.heap.size w1 a ns ∧ RowN w1.heap.size w1 a1 A1) → Calls Tryz.prog 109 #[.agg #[.slice a ns.length cp], .int .i64 k1, .int .i64 k] w1 fun e w' => e = .returned (.tuple #[.int .i64 vi, .bool vo]) ∧ Hid (ArD D w' g A1 ∧ Safe D w w')) := fun w1 a1 c1 hq => by
    have := specOpen_any a cp ns k1 k w1 hl hq.out.2.2.1
    rw [HE2.out.1, HE2.out.2] at this
    exact this.mono fun e w' ⟨he, hb⟩ => ⟨he, hq.out.1.later hb, hq.out.2.1.trans (Safe.of_below hb (hq.out.2.1.old hB))⟩
  have HOQ : Hid (∀ (w1 : World) (a1 : Option Addr) (c1 : Nat), Hid (ArD D w1 g A1 ∧ Safe D w w1 ∧ RowN w1.heap.size w1 a ns ∧ RowN w1.heap.size w1 a1 A1) → Calls Tryz.prog 109 #[.agg #[.slice a1 A1.length c1], .int .i64 k1, .int .i64 k] w1 fun e w' => e = .returned (.tuple #[.int .i64 vi, .bool vo]) ∧ Hid (ArD D w' g A1 ∧ Safe D w w')) := fun w1 a1 c1 hq => by
    have := specOpen_any a1 c1 A1 k1 k w1 L1 hq.out.2.2.2
    have e := open_side (ns := ns) (s := hd) (n := 40) (key := k1) (k := k)
    rw [HE1.out.1] at e
    rw [e.1, e.2, HE2.out.1, HE2.out.2] at this
    exact this.mono fun e w' ⟨he, hb⟩ => ⟨he, hq.out.1.later hb, hq.out.2.1.trans (Safe.of_below hb (hq.out.2.1.old hB))⟩
  have HBO : Hid (∀ k, D k → k < w.heap.size) := hB
  clear h hB hg0 hA0 hO0
  go_enter Tryz.func78, Tryz.ntmps78
  go_wp2_with fail
  go_cut [10, 11] (fun s10 s11 wc => s10 = .int .i64 vi ∧ s11 = .bool vo ∧ Hid (ArD D wc g A1 ∧ Safe D w wc))
  case first =>
    go_region_with (first | (go_at_call 103; refine Calls.mono HSD.out ?_; rintro e w1 ⟨a1, c1, rfl, q1, hq⟩) | (go_at_call 109; with_reducible refine Calls.mono (HOP.out w1 a1 c1 hq) ?_; rintro e w2 ⟨rfl, hz⟩) | (go_at_call 109; with_reducible refine Calls.mono (HOQ.out w1 a1 c1 hq) ?_; rintro e w2 ⟨rfl, hz⟩))
    all_goals
      go_wp2_with fail
      go_meet
      exact ⟨rfl, rfl, by assumption⟩
  case rest =>
    obtain ⟨rfl, rfl, HZ⟩ := hcut
    clear HSD HOP HOQ c0
    obtain ⟨a2, c2, g2, hA2, o2⟩ := hdr_of HZ.out.1
    have q2 : wc.cell? ⟨g, 0, none⟩ = some (.slice a2 A1.length c2) := (cell_of_row _ _ 0 _ _ _ g2).trans rfl
    obtain ⟨ps, pb, HE3⟩ : ∃ (v : List Int) (o : Bool), Hid (partsV A1 vi 2 = v ∧ partsB A1 vi 2 = o) := ⟨_, _, ⟨rfl, rfl⟩⟩
    have HPT : Hid _ := specParts_any a2 c2 A1 vi 2 wc L1 o2.row
    rw [HE3.out.1, HE3.out.2] at HPT
    clear g2 hA2 o2
    go_wp2_with fail
    clear q2
    refine Calls.mono HPT.out ?_
    rintro e w3 ⟨v3, rfl, ho3, hb3⟩
    clear HPT
    obtain ⟨ap, cpp, rfl, hAp, hrp⟩ := ho3.row
    obtain ⟨r, HR1⟩ : ∃ r, Hid (wc.heap.size ≤ r ∧ r < w3.heap.size + 1 ∧ (∀ b off, ap = some ⟨b, off, none⟩ → ps ≠ [] → r = b ∧ b < w3.heap.size)) := by
      rcases hrp with h0 | ⟨b, off, rfl, hlt, -⟩
      · exact ⟨wc.heap.size, Nat.le_refl _, by have := hb3.size; omega, fun b off _ hne => absurd h0 hne⟩
      · exact ⟨b, (World.ownsRow.lt ho3 b rfl).1, by omega, fun b' off' e _ => by cases e; exact ⟨rfl, hlt⟩⟩
    obtain ⟨D', HD'⟩ : ∃ D' : Nat → Prop, Hid (D' = fun q => D q ∨ (q = r ∧ q < w3.heap.size)) := ⟨_, rfl⟩
    have hA' : ArD D' w3 g A1 := (HZ.out.1.wide HR1.out.1 w3 hb3).narrow (fun q hq => by rw [HD'.out] at hq; rcases hq with hq | hq; exact .inl hq; exact .inr hq.1)
    have hB' : ∀ q, D' q → q < w3.heap.size := fun q hq => by rw [HD'.out] at hq; rcases hq with hq | hq; exact Nat.lt_of_lt_of_le (HZ.out.2.old HBO.out q hq) hb3.size; exact hq.2
    have HS3 : Hid (Safe D w w3) := HZ.out.2.trans (Safe.of_below hb3 (HZ.out.2.old HBO.out))
    obtain ⟨A2, kh, HE4, L2⟩ : ∃ (A : List Nd) (k : Int), Hid (makeA A1 3 sa 0 = A ∧ makeK A1 3 sa 0 = k) ∧ A.length ≤ 1048576 := ⟨_, _, ⟨rfl, rfl⟩, makeA_le L1⟩
    have HMK : Hid _ := specMakeD_any D' g A1 3 sa 0 w3 L1 hA' hB'
    rw [HE4.out.1, HE4.out.2] at HMK
    have HRP : Hid (∀ w4, Safe D' w3 w4 → ∀ i, i < ps.length → ∃ b off, ap = some ⟨b, off, none⟩ ∧ w4.cell? ⟨b, off + i, none⟩ = some (.int .i64 (ps.getD i 0))) := fun w4 hs i hi => by
      rcases hrp with h0 | ⟨b, off, rfl, hlt, hc⟩
      · rw [h0] at hi; simp at hi
      · have e := HR1.out.2.2 b off rfl (fun e => by rw [e] at hi; simp at hi)
        exact ⟨b, off, rfl, (hs.cell (p := ⟨b, off + i, none⟩) (by rw [HD'.out]; exact .inr ⟨e.1.symm, e.2⟩)).trans (hc i hi)⟩
    have HC : Hid (aiC ns hd sa k = (vo && (pb && (decide (0 ≤ kh) && decide (ps.getD 1 0 = kh)))) ∧ aiA ns hd sa = A2 ∧ (aiV ns hd sa k = if aiC ns hd sa k = true then numV A2 (ps.getD 0 0) else 0) ∧ aiB ns hd sa k = (aiC ns hd sa k && isK A2 (ps.getD 0 0) 1)) := by
      have e1 : aiI ns hd k = vi := by unfold aiI; rw [HE1.out.2, HE2.out.1]
      have e2 : aiO ns hd k = vo := by unfold aiO; rw [HE1.out.2, HE2.out.2]
      have e3 : aiP ns hd k = ps := by unfold aiP; rw [e1, HE1.out.1, HE3.out.1]
      have e4 : aiQ ns hd k = pb := by unfold aiQ; rw [e1, HE1.out.1, HE3.out.2]
      have e5 : aiH ns hd sa = kh := by unfold aiH; rw [HE1.out.1, HE4.out.2]
      have e6 : aiA ns hd sa = A2 := by unfold aiA; rw [HE1.out.1, HE4.out.1]
      refine ⟨?_, e6, ?_, ?_⟩
      · unfold aiC; rw [e2, e3, e4, e5]
      · unfold aiV; rw [e6, e3]
      · unfold aiB; rw [e6, e3]
    have HPL : Hid (pb = true → ps.length = 2) := fun e => by rw [← HE3.out.1]; exact parts_len (n := 2) (by rw [HE3.out.2]; exact e)
    clear HE1 HE2 HE3 HE4 hrp ho3 hAp hb3 HZ hA' hB' HR1
    go_wp2_with fail
    refine Calls.mono HMK.out ?_
    rintro e w4 ⟨rfl, ha4, hs4⟩
    have HEND : Hid (∀ w5, Below w4.heap.size w4 w5 → Safe D w w5 ∧ ArD D w5 g (aiA ns hd sa)) := fun w5 hb => by
      have hn : ∀ q, D q → D' q := fun q hq => by rw [HD'.out]; exact .inl hq
      have h1 : Safe D w w4 := HS3.out.trans (hs4.mono hn)
      rw [HC.out.2.1]
      exact ⟨h1.trans (Safe.of_below hb (h1.old HBO.out)), (ha4.narrow hn).later hb⟩
    have HR4 : Hid (∀ i, i < ps.length → ∃ b off, ap = some ⟨b, off, none⟩ ∧ w4.cell? ⟨b, off + i, none⟩ = some (.int .i64 (ps.getD i 0))) := HRP.out w4 hs4
    obtain ⟨a4, c4, g4, -, o4⟩ := hdr_of ha4
    have HH4 : Hid (w4.cell? ⟨g, 0, none⟩ = some (.slice a4 A2.length c4) ∧ RowN w4.heap.size w4 a4 A2 ∧ g < w4.heap.size) := ⟨(cell_of_row _ _ 0 _ _ _ g4).trans rfl, o4.row, (Array.getElem?_eq_some_iff.1 g4).1⟩
    clear HMK HRP HS3 HD' ha4 hs4 g4 o4
    cases vo
    · have HV : Hid (aiC ns hd sa k = false) := by show _ = _; rw [HC.out.1]; rfl
      have HW : Hid (aiV ns hd sa k = 0 ∧ aiB ns hd sa k = false) := ⟨by rw [HC.out.2.2.1, HV.out]; rfl, by rw [HC.out.2.2.2, HV.out]; rfl⟩
      clear HC HR4 HH4 HPL
      go_wp2
      go_ret2
      exact ⟨by rw [HW.out.1, HW.out.2]; rfl, HEND.out _ (Below.refl _ _)⟩
    · cases pb
      · have HV : Hid (aiC ns hd sa k = false) := by show _ = _; rw [HC.out.1]; rfl
        have HW : Hid (aiV ns hd sa k = 0 ∧ aiB ns hd sa k = false) := ⟨by rw [HC.out.2.2.1, HV.out]; rfl, by rw [HC.out.2.2.2, HV.out]; rfl⟩
        clear HC HR4 HH4 HPL
        go_wp2
        go_ret2
        exact ⟨by rw [HW.out.1, HW.out.2]; rfl, HEND.out _ (Below.refl _ _)⟩
      · obtain ⟨p0, p1, rfl⟩ : ∃ p0 p1, ps = [p0, p1] := by
          match ps, HPL.out rfl with
          | [p0, p1], _ => exact ⟨p0, p1, rfl⟩
        obtain ⟨b, off, rfl, f0⟩ := HR4.out 0 (by simp)
        have f1 : w4.cell? ⟨b, off + 1, none⟩ = some (.int .i64 p1) := by
          obtain ⟨b', off', e, h1⟩ := HR4.out 1 (by simp)
          cases e
          exact h1
        replace f0 : w4.cell? ⟨b, off, none⟩ = some (.int .i64 p0) := f0
        have HLB : Hid (b < w4.heap.size) := by
          rcases Nat.lt_or_ge b w4.heap.size with h1 | h1
          · exact h1
          · rw [World.cell?] at f0; simp [h1] at f0
        by_cases hk : 0 ≤ kh
        · have hkb : decide (kh < 0) = false := by simp; omega
          by_cases he : p1 = kh
          · subst he
            have HV : Hid (aiC ns hd sa k = true) := by show _ = _; rw [HC.out.1]; simp [hk]
            have HW : Hid (aiV ns hd sa k = numV A2 p0 ∧ aiB ns hd sa k = isK A2 p0 1) := ⟨by rw [HC.out.2.2.1, HV.out]; rfl, by rw [HC.out.2.2.2, HV.out]; rfl⟩
            obtain ⟨S, hS0, hNE, HK⟩ := below_class (Below.refl w4.heap.size w4) (Nat.le_refl _)
            have d0 : ∀ s : Hw S, s.w.cell? ⟨b, off, none⟩ = some (.int .i64 p0) := fun s => ((HK.out.2 _ s.ok).cell (p := ⟨b, off, none⟩) HLB.out).trans f0
            have d1 : ∀ s : Hw S, s.w.cell? ⟨g, 0, none⟩ = some (.slice a4 A2.length c4) := fun s => ((HK.out.2 _ s.ok).cell (p := ⟨g, 0, none⟩) HH4.out.2.2).trans HH4.out.1
            have HN : Hid (∀ s : Hw S, Calls Tryz.prog 111 #[.agg #[.slice a4 A2.length c4], .int .i64 p0] s.w fun e w' => e = .returned (.tuple #[.int .i64 (numV A2 p0), .bool (isK A2 p0 1)]) ∧ Below s.w.heap.size s.w w') := fun s => specNum_any a4 c4 A2 p0 s.w L2 (HH4.out.2.1.grown (HK.out.2 _ s.ok))
            clear HC HR4 HPL
            generalize hnv : numV A2 p0 = nv at HN HW
            generalize hnb : isK A2 p0 1 = nb at HN HW
            clear hnv hnb
            go_wp2_with fail
            clear f0 f1
            refine wp_region_held (S := S) (by kernel_rfl) (by kernel_rfl) hS0 ?_
            repeat (go_big_quiet_step ((go_at_call 111; exact Calls.held (HN.out _) (HK.out.1 _))))
            refine wpQuiet_nil ?_
            rintro _ ⟨sw, rfl⟩
            have HX : Hid (Below w4.heap.size w4 sw.w) := HK.out.2 _ sw.ok
            clear HK HN d0 d1
            go_wp2
            go_ret2
            exact ⟨by rw [HW.out.1, HW.out.2]; rfl, HEND.out _ HX.out⟩
          · have hne := he
            have heb : (p1 == kh) = false := by simpa using he
            have HV : Hid (aiC ns hd sa k = false) := by show _ = _; rw [HC.out.1]; simp [hne]
            have HW : Hid (aiV ns hd sa k = 0 ∧ aiB ns hd sa k = false) := ⟨by rw [HC.out.2.2.1, HV.out]; rfl, by rw [HC.out.2.2.2, HV.out]; rfl⟩
            clear HC HR4 HH4 HPL
            go_wp2
            go_ret2
            exact ⟨by rw [HW.out.1, HW.out.2]; rfl, HEND.out _ (Below.refl _ _)⟩
        · have hk0 : kh < 0 := by omega
          have HV : Hid (aiC ns hd sa k = false) := by show _ = _; rw [HC.out.1]; simp; omega
          have HW : Hid (aiV ns hd sa k = 0 ∧ aiB ns hd sa k = false) := ⟨by rw [HC.out.2.2.1, HV.out]; rfl, by rw [HC.out.2.2.2, HV.out]; rfl⟩
          clear HC HR4 HH4 HPL
          go_wp2
          go_ret2
          exact ⟨by rw [HW.out.1, HW.out.2]; rfl, HEND.out _ (Below.refl _ _)⟩
end Go.Proofs.YtaanophnnkmkbaaGreat
