/- Chapter 5 in plain words: the passes of the specification's loop, and what is still wanted read out of memory. -/
import Derived.Test.YtaanophnnkmkbaaGreatLawKeep
import Derived.Test.YtaanophnnkmkbaaGreatListP
import Derived.Test.YtaanophnnkmkbaaGreatKeptS
import Derived.Test.YtaanophnnkmkbaaGreatPlainTerm
import Derived.WalkKit
import Derived.WalkLawsBesides
import Derived.WalkSpells
import Derived.OwnWalk
import Derived.Laws.OwnMore
import Derived.Laws.Rows
import Derived.Test.YtaanophnnkmkbaaGreatCert10
import Derived.Test.YtaanophnnkmkbaaGreatPlainReach
namespace Go.Proofs.YtaanophnnkmkbaaGreat
open Go.RowKit
set_option linter.unusedVariables false

/-- What is known is had. -/
def Kn (ns : List Nd) (xs : List Int) (m : Nat) (bs : List Bool) : Prop := ∀ i, i < m → ∀ k, k < ns.length → xs.getD i 0 = (k : Int) → bs.getD k false = true
def KOf (xs : List Int) : Nat → Prop := fun j => (j : Int) ∈ xs
theorem Kn.all {ns : List Nd} {xs : List Int} {bs : List Bool} (h : Kn ns xs xs.length bs) : ∀ k, k < ns.length → (k : Int) ∈ xs → bs.getD k false = true := fun k hk hx => by
  obtain ⟨i, hi, e⟩ := List.getElem_of_mem hx
  exact h i hi k hk (by rw [List.getD_eq_getElem?_getD, List.getElem?_eq_getElem hi]; simpa using e)
theorem Kn.mono {ns : List Nd} {xs : List Int} {m : Nat} {bs cs : List Bool} (h : Kn ns xs m bs) (hm : ∀ j, bs.getD j false = true → cs.getD j false = true) : Kn ns xs m cs := fun i hi k hk e => hm k (h i hi k hk e)
theorem mem_getD {xs : List Int} {i : Nat} (hi : i < xs.length) : xs.getD i 0 ∈ xs := by
  rw [List.getD_eq_getElem?_getD, List.getElem?_eq_getElem hi]; exact List.getElem_mem hi
theorem Sound.none (ns : List Nd) (K : Nat → Prop) : Sound ns K (List.replicate ns.length false) := ⟨by simp, fun k hk => by
  rw [List.getD_eq_getElem?_getD, List.getElem?_replicate] at hk
  split at hk <;> simp at hk⟩
/-- The first loop: known ones up to m. -/
def Start (ns : List Nd) (xs : List Int) (m : Nat) (bs : List Bool) : Prop := Sound ns (KOf xs) bs ∧ Kn ns xs m bs
theorem Start.zero (ns : List Nd) (xs : List Int) : Start ns xs 0 (List.replicate ns.length false) := ⟨Sound.none ns _, fun i hi => absurd hi (Nat.not_lt_zero _)⟩
theorem Start.pass {ns : List Nd} {xs : List Int} {m : Nat} {bs : List Bool} (h : Start ns xs m bs) (hx : inB (xs.getD m 0) 0 ((ns.length : Int) - 1) = false) : Start ns xs (m + 1) bs := ⟨h.1, fun i hi k hk e => by
  by_cases q : i = m
  · subst q
    rw [e, inB_mk ⟨by omega, by omega⟩] at hx
    simp at hx
  · exact h.2 i (by omega) k hk e⟩
theorem Start.put {ns : List Nd} {xs : List Int} {m k : Nat} {bs : List Bool} (h : Start ns xs m bs) (hm : m < xs.length) (hk : k < ns.length) (e : xs.getD m 0 = (k : Int)) : Start ns xs (m + 1) (bs.set k true) := ⟨h.1.set (.known hk (by show (k : Int) ∈ xs; rw [← e]; exact mem_getD hm)), fun i hi j hj e' => by
  by_cases q : i = m
  · subst q
    have : j = k := by omega
    subst this
    rw [getD_setT, if_pos ⟨rfl, by rw [h.1.1]; exact hj⟩]
  · exact set_mono (h.2 i (by omega) j hj e')⟩
/-- A round's first loop, behind the first k nodes. -/
structure Pass1 (ns : List Nd) (xs : List Int) (bs0 : List Bool) (k : Nat) (sm : Bool) (bs : List Bool) : Prop where
  sound : Sound ns (KOf xs) bs
  kn : Kn ns xs xs.length bs
  no : sm = false → bs = bs0 ∧ ∀ j, j < k → madeB ns bs0 (ns.getD j Nd.zero) = true → bs0.getD j false = true
  yes : sm = true → cnt bs < cnt bs0
theorem Pass1.le {ns : List Nd} {xs : List Int} {bs0 : List Bool} {k : Nat} {sm : Bool} {bs : List Bool} (h : Pass1 ns xs bs0 k sm bs) : cnt bs ≤ cnt bs0 := by
  cases sm
  · rw [(h.no rfl).1]; exact Nat.le_refl _
  · exact Nat.le_of_lt (h.yes rfl)
theorem Pass1.zero {ns : List Nd} {xs : List Int} {bs0 : List Bool} (h : Start ns xs xs.length bs0) : Pass1 ns xs bs0 0 false bs0 := ⟨h.1, h.2, fun _ => ⟨rfl, fun j hj => absurd hj (Nat.not_lt_zero _)⟩, fun e => by simp at e⟩
theorem Pass1.skip {ns : List Nd} {xs : List Int} {bs0 : List Bool} {k : Nat} {sm : Bool} {bs : List Bool} (h : Pass1 ns xs bs0 k sm bs) (hb : bs.getD k false = true ∨ madeB ns bs (ns.getD k Nd.zero) = false) : Pass1 ns xs bs0 (k + 1) sm bs := by
  refine ⟨h.sound, h.kn, fun e => ⟨(h.no e).1, fun j hj hm => ?_⟩, h.yes⟩
  by_cases q : j = k
  · subst q
    have e1 := (h.no e).1
    rw [e1] at hb
    rcases hb with hb | hb
    · exact hb
    · rw [hm] at hb; simp at hb
  · exact (h.no e).2 j (by omega) hm
theorem Pass1.put {ns : List Nd} (ha : allFrom ns ns 0 = true) {xs : List Int} {bs0 : List Bool} {k : Nat} {sm : Bool} {bs : List Bool} (h : Pass1 ns xs bs0 k sm bs) (hk : k < ns.length) (hb : bs.getD k false = false) (hm : madeB ns bs (ns.getD k Nd.zero) = true) : Pass1 ns xs bs0 (k + 1) true (bs.set k true) :=
  ⟨h.sound.set (made_had ha h.sound hk hm), h.kn.mono (fun j hj => set_mono hj), fun e => by simp at e, fun _ => Nat.lt_of_lt_of_le (cnt_set (by rw [h.sound.1]; exact hk) hb) h.le⟩
/-- A round's second loop, from the last node down to m. -/
structure Pass2 (ns : List Nd) (xs : List Int) (bs0 : List Bool) (m : Nat) (sm : Bool) (bs : List Bool) : Prop where
  sound : Sound ns (KOf xs) bs
  kn : Kn ns xs xs.length bs
  no : sm = false → bs = bs0 ∧ (∀ j, j < ns.length → madeB ns bs0 (ns.getD j Nd.zero) = true → bs0.getD j false = true) ∧ ∀ j, m ≤ j → j < ns.length → bs0.getD j false = true → givesT bs0 (ns.getD j Nd.zero) = false
  yes : sm = true → cnt bs < cnt bs0
theorem Pass2.le {ns : List Nd} {xs : List Int} {bs0 : List Bool} {k : Nat} {sm : Bool} {bs : List Bool} (h : Pass2 ns xs bs0 k sm bs) : cnt bs ≤ cnt bs0 := by
  cases sm
  · rw [(h.no rfl).1]; exact Nat.le_refl _
  · exact Nat.le_of_lt (h.yes rfl)
theorem Pass2.of {ns : List Nd} {xs : List Int} {bs0 : List Bool} {sm : Bool} {bs : List Bool} (h : Pass1 ns xs bs0 ns.length sm bs) : Pass2 ns xs bs0 ns.length sm bs := ⟨h.sound, h.kn, fun e => ⟨(h.no e).1, (h.no e).2, fun j h1 h2 => absurd h2 (by omega)⟩, h.yes⟩
theorem Pass2.skip {ns : List Nd} {xs : List Int} {bs0 : List Bool} {m : Nat} {sm : Bool} {bs : List Bool} (h : Pass2 ns xs bs0 (m + 1) sm bs) (hb : bs.getD m false = false ∨ givesT bs (ns.getD m Nd.zero) = false) : Pass2 ns xs bs0 m sm bs := by
  refine ⟨h.sound, h.kn, fun e => ⟨(h.no e).1, (h.no e).2.1, fun j h1 h2 hj => ?_⟩, h.yes⟩
  by_cases q : j = m
  · subst q
    have e1 := (h.no e).1
    rw [e1] at hb
    rcases hb with hb | hb
    · rw [hj] at hb; simp at hb
    · exact hb
  · exact (h.no e).2.2 j (by omega) h2 hj
theorem Pass2.put {ns : List Nd} (ha : allFrom ns ns 0 = true) {xs : List Int} {bs0 : List Bool} {m : Nat} {sm : Bool} {bs : List Bool} (h : Pass2 ns xs bs0 (m + 1) sm bs) (hm : m < ns.length) (hb : bs.getD m false = true) (ht : givesT bs (ns.getD m Nd.zero) = true) : Pass2 ns xs bs0 m true (givesB bs (ns.getD m Nd.zero)) := by
  refine ⟨gives_sound h.sound hm hb, h.kn.mono (fun j hj => gives_mono _ hj), fun e => by simp at e, fun _ => Nat.lt_of_lt_of_le (gives_cnt ht ?_ ?_) h.le⟩
  · rw [h.sound.1]
    have hn := (all_at ha hm).1
    rcases nodeB_true hn with h1 | h1 | h1
    · omega
    · omega
    · omega
  · rw [h.sound.1]
    have hn := (all_at ha hm).1
    rcases nodeB_true hn with h1 | h1 | h1
    · omega
    · omega
    · omega
/-- What stands at the loop's head. -/
structure Head (ns : List Nd) (xs : List Int) (sm : Bool) (bs : List Bool) : Prop where
  start : Start ns xs xs.length bs
  no : sm = false → Closed ns bs
theorem Head.of {ns : List Nd} {xs : List Int} {bs0 : List Bool} {sm : Bool} {bs : List Bool} (h : Pass2 ns xs bs0 0 sm bs) : Head ns xs sm bs := ⟨⟨h.sound, h.kn⟩, fun e => by
  obtain ⟨h1, h2, h3⟩ := h.no e
  rw [h1]
  exact closed_of h2 (fun k hk hb => h3 k (Nat.zero_le _) hk hb)⟩
theorem Head.reach {ns : List Nd} (ha : allFrom ns ns 0 = true) {xs : List Int} {bs : List Bool} (h : Head ns xs false bs) : IsReach ns xs bs := IsReach.of ha h.start.1 (h.no rfl) (Kn.all h.start.2)
/-- How many are still wanted, read out of memory. -/
def trueB : Value → Bool
  | .bool b => b
  | _ => false
def cntW (w : World) (g : Nat) : Nat → Nat
  | 0 => 0
  | n + 1 => (if trueB ((w.cell? ⟨g, n, none⟩).getD undef) = true then 0 else 1) + cntW w g n
def wants (s : Value) (w : World) (g n : Nat) : Nat := if trueB s = true then cntW w g n + 1 else 0
theorem cnt_take : ∀ (bs : List Bool) (n : Nat), n < bs.length → cnt (bs.take (n + 1)) = (if bs.getD n false = true then 0 else 1) + cnt (bs.take n)
  | [], _, h => by simp at h
  | b :: bs, 0, _ => by simp [cnt]
  | b :: bs, n + 1, h => by
    have := cnt_take bs n (by simpa using h)
    simp only [List.take_succ_cons, cnt, List.getD_cons_succ]
    omega
theorem cntW_take {B g n : Nat} {w : World} {bs : List Bool} (h : BoolsAt B g n w bs) : ∀ m, m ≤ n → cntW w g m = cnt (bs.take m)
  | 0, _ => by simp [cntW, cnt]
  | m + 1, hm => by
    have hl : bs.length = n := by have := h.1; simpa using this
    rw [cntW, cntW_take h m (by omega), BoolsAt.cell h (show m < n by omega), cnt_take bs m (by omega)]
    rfl
theorem cntW_eq {B g n : Nat} {w : World} {bs : List Bool} (h : BoolsAt B g n w bs) : cntW w g n = cnt bs := by
  have hl : bs.length = n := by have := h.1; simpa using this
  rw [cntW_take h n (Nat.le_refl _), List.take_of_length_le (by omega)]
theorem wants_less {B g n : Nat} {w w' : World} {bs bs' : List Bool} {sm : Bool} (h : BoolsAt B g n w bs) (h' : BoolsAt B g n w' bs') (hc : sm = true → cnt bs' < cnt bs) : wants (.bool sm) w' g n < wants (.bool true) w g n := by
  unfold wants
  rw [cntW_eq h, cntW_eq h']
  cases sm
  · simp [trueB]
  · have := hc rfl
    simp only [trueB, if_true]; omega
/-- What stands in memory while the loop runs. -/
structure RcS (w : World) (a pb : Option Addr) (ca cp : Nat) (ns : List Nd) (ps : List Int) (bs : List Bool) (wr : World) : Prop where
  bel : Below w.heap.size w wr
  cA : wr.cell? ⟨w.heap.size, 0, none⟩ = some (.slice a ns.length ca)
  has : BoolsAt (w.heap.size + 1) (w.heap.size + 1) ns.length wr bs
  pubs : RowI wr.heap.size wr pb ps
  ne : ∀ b off, pb = some ⟨b, off, none⟩ → b ≠ w.heap.size + 1
theorem RcS.size {w : World} {a pb : Option Addr} {ca cp : Nat} {ns : List Nd} {ps : List Int} {bs : List Bool} {wr : World} (h : RcS w a pb ca cp ns ps bs wr) : w.heap.size + 1 < wr.heap.size := (World.ownsRow.lt h.has _ (by simp [Value.ownBlock])).2
theorem RcS.next {w : World} {a pb : Option Addr} {ca cp : Nat} {ns : List Nd} {ps : List Int} {bs : List Bool} {wr w' : World} (h : RcS w a pb ca cp ns ps bs wr) (hb : Below wr.heap.size wr w') : RcS w a pb ca cp ns ps bs w' :=
  ⟨h.bel.trans (hb.mono h.bel.size), (hb.cell (p := ⟨w.heap.size, 0, none⟩) (by have := h.size; show w.heap.size < wr.heap.size; omega)).trans h.cA, BoolsAt.next h.has hb, h.pubs.grown hb, h.ne⟩
theorem RcS.grow {w : World} {a pb : Option Addr} {ca cp : Nat} {ns : List Nd} {ps : List Int} {bs bs' : List Bool} {wr w' : World} (h : RcS w a pb ca cp ns ps bs wr) (hg : wr.grownBy w' (some (w.heap.size + 1))) (hs : BoolsAt (w.heap.size + 1) (w.heap.size + 1) ns.length w' bs') : RcS w a pb ca cp ns ps bs' w' := by
  have hz := h.size
  refine ⟨h.bel.trans (gb_below hg (by omega) (by omega)), ?_, hs, ?_, h.ne⟩
  · exact hg.cell h.cA (by simp)
  · rcases h.pubs with h0 | ⟨b, off, e, hlt, hc⟩
    · exact .inl h0
    · refine .inr ⟨b, off, e, Nat.lt_of_lt_of_le hlt hg.size, fun j hj => hg.cell (hc j hj) ?_⟩
      have := h.ne b off e
      simpa using this
end Go.Proofs.YtaanophnnkmkbaaGreat

namespace Go.Proofs.YtaanophnnkmkbaaGreat
open Go.RowKit
set_option linter.unusedVariables false
/-- In an arena that is right a node stands once. -/
theorem nd_one {ms : List Nd} (h : allFrom ms ms 0 = true) {i j : Int} (hi : 0 ≤ i ∧ i < (ms.length : Int)) (hj : 0 ≤ j ∧ j < (ms.length : Int)) (e : ndAt ms i = ndAt ms j) : i = j := by
  have f1 := (all_at h (show i.toNat < ms.length by omega)).2
  have f2 := (all_at h (show j.toNat < ms.length by omega)).2
  unfold ndAt at e
  rw [e] at f1
  omega
theorem isK_at {ms : List Nd} {k j : Int} (h : isK ms k j = true) : (0 ≤ k ∧ k < (ms.length : Int)) ∧ (ndAt ms k).k = j ∧ nodeB (ndAt ms k) k = true := by
  unfold isK okAt at h
  simp only [Bool.and_eq_true, decide_eq_true_eq] at h
  obtain ⟨⟨h1, h2⟩, h3⟩ := h
  refine ⟨?_, h3, h2⟩
  unfold inB at h1
  simp at h1
  omega
theorem atom_is {ms : List Nd} {k : Int} (h : isK ms k 1 = true) : ndAt ms k = ⟨1, (ndAt ms k).n, 0, 0⟩ := by
  obtain ⟨_, h1, h2⟩ := isK_at h
  generalize ndAt ms k = x at *
  obtain ⟨xk, xn, xa, xb⟩ := x
  simp only at h1
  subst h1
  unfold nodeB at h2
  simp [inB] at h2
  obtain ⟨_, h3, h4⟩ := h2
  rw [h3, h4]
theorem pair_is {ms : List Nd} {k : Int} (h : isK ms k 2 = true) : ndAt ms k = ⟨2, 0, (ndAt ms k).a, (ndAt ms k).b⟩ := by
  obtain ⟨_, h1, h2⟩ := isK_at h
  generalize ndAt ms k = x at *
  obtain ⟨xk, xn, xa, xb⟩ := x
  simp only at h1
  subst h1
  unfold nodeB at h2
  simp [inB, oneK] at h2
  rw [h2.1.1]
/-- A List is had once, too. -/
theorem parts_one {ms : List Nd} (h : allFrom ms ms 0 = true) : ∀ (m : Nat) (i j : Int) (xs : List Int), partsN ms m i = some xs → partsN ms m j = some xs → i = j
  | 0, i, j, xs, h1, h2 => by
    rw [partsN] at h1 h2
    split at h1
    · split at h2
      · rename_i q1 q2
        refine nd_one h (isK_at q1.1).1 (isK_at q2.1).1 ?_
        rw [atom_is q1.1, atom_is q2.1, q1.2, q2.2]
      · cases h2
    · cases h1
  | m + 1, i, j, xs, h1, h2 => by
    rw [partsN] at h1 h2
    split at h1
    · split at h2
      · rename_i q1 q2
        cases e1 : partsN ms m (ndAt ms i).b with
        | none => rw [e1] at h1; cases h1
        | some y1 =>
          cases e2 : partsN ms m (ndAt ms j).b with
          | none => rw [e2] at h2; cases h2
          | some y2 =>
            rw [e1] at h1
            rw [e2] at h2
            simp only [Option.map_some, Option.some.injEq] at h1 h2
            rw [← h2] at h1
            simp only [List.cons.injEq] at h1
            obtain ⟨ea, rfl⟩ := h1
            have eb := parts_one h m _ _ _ e1 e2
            refine nd_one h (isK_at q1).1 (isK_at q2).1 ?_
            rw [pair_is q1, pair_is q2, ea, eb]
      · cases h2
    · cases h1
/-- The term at k is the cookie of these. -/
def Ck (ms : List Nd) (k s d h : Int) : Prop := ∃ k1 kl k2 k3, (isK ms k 9 = true ∧ ndAt ms k = ⟨9, 0, k1, kl⟩) ∧ (isK ms k1 1 = true ∧ ndAt ms k1 = ⟨1, s, 0, 0⟩) ∧ partsN ms 2 kl = some [k2, k3] ∧ (isK ms k2 1 = true ∧ ndAt ms k2 = ⟨1, d, 0, 0⟩) ∧ (isK ms k3 3 = true ∧ ndAt ms k3 = ⟨3, 0, h, 0⟩)
theorem Ck.on {ns ms : List Nd} {k s d h : Int} (hp : ns <+: ms) (c : Ck ns k s d h) : Ck ms k s d h := by
  obtain ⟨k1, kl, k2, k3, ⟨a0, b0⟩, ⟨a1, b1⟩, p, ⟨a2, b2⟩, ⟨a3, b3⟩⟩ := c
  obtain ⟨q0, r0, -⟩ := isK_pre hp a0
  obtain ⟨q1, r1, -⟩ := isK_pre hp a1
  obtain ⟨q2, r2, -⟩ := isK_pre hp a2
  obtain ⟨q3, r3, -⟩ := isK_pre hp a3
  exact ⟨k1, kl, k2, k3, ⟨q0, r0.trans b0⟩, ⟨q1, r1.trans b1⟩, partsN_pre hp _ _ _ p, ⟨q2, r2.trans b2⟩, ⟨q3, r3.trans b3⟩⟩
theorem Ck.tells {ms : List Nd} {k s d h s' d' h' : Int} (c : Ck ms k s d h) (c' : Ck ms k s' d' h') : s = s' ∧ d = d' ∧ h = h' := by
  obtain ⟨k1, kl, k2, k3, ⟨_, b0⟩, ⟨_, b1⟩, p, ⟨_, b2⟩, ⟨_, b3⟩⟩ := c
  obtain ⟨j1, jl, j2, j3, ⟨_, e0⟩, ⟨_, e1⟩, q, ⟨_, e2⟩, ⟨_, e3⟩⟩ := c'
  rw [b0] at e0
  simp only [Nd.mk.injEq, true_and] at e0
  obtain ⟨rfl, rfl⟩ := e0
  rw [p] at q
  simp only [Option.some.injEq, List.cons.injEq, and_true] at q
  obtain ⟨rfl, rfl⟩ := q
  rw [b1] at e1
  rw [b2] at e2
  rw [b3] at e3
  simp only [Nd.mk.injEq, true_and, and_true] at e1 e2 e3
  exact ⟨e1, e2, e3⟩
theorem Ck.once {ms : List Nd} (ha : allFrom ms ms 0 = true) {i j s d h : Int} (c : Ck ms i s d h) (c' : Ck ms j s d h) : i = j := by
  obtain ⟨k1, kl, k2, k3, ⟨a0, b0⟩, ⟨a1, b1⟩, p, ⟨a2, b2⟩, ⟨a3, b3⟩⟩ := c
  obtain ⟨j1, jl, j2, j3, ⟨d0, e0⟩, ⟨d1, e1⟩, q, ⟨d2, e2⟩, ⟨d3, e3⟩⟩ := c'
  obtain rfl := nd_one ha (isK_at a1).1 (isK_at d1).1 (b1.trans e1.symm)
  obtain rfl := nd_one ha (isK_at a2).1 (isK_at d2).1 (b2.trans e2.symm)
  obtain rfl := nd_one ha (isK_at a3).1 (isK_at d3).1 (b3.trans e3.symm)
  obtain rfl := parts_one ha _ _ _ _ p q
  exact nd_one ha (isK_at a0).1 (isK_at d0).1 (b0.trans e0.symm)
/-- What CookieOf gives in an arena that is right, with room. -/
theorem ck_made {ns : List Nd} {s d h : Int} (ha : allFrom ns ns 0 = true) (hl : ns.length < 2000) (hs : 0 ≤ s ∧ s ≤ 999999) (hd : 0 ≤ d ∧ d ≤ 999999) (hh : 0 ≤ h ∧ h < (ns.length : Int)) :
    allFrom (ckA ns s d h) (ckA ns s d h) 0 = true ∧ (ckA ns s d h).length ≤ ns.length + 7 ∧ ns <+: ckA ns s d h ∧ 0 ≤ ckK ns s d h ∧ ckK ns s d h < ((ckA ns s d h).length : Int) ∧ Ck (ckA ns s d h) (ckK ns s d h) s d h := by
  have p1 := atom1 ha (n := s) hs (by omega)
  have l1 := p1.len
  have i1 := p1.pre.length_le
  have p2 := atom1 p1.all (n := d) hd (by omega)
  have l2 := p2.len
  have i2 := p2.pre.length_le
  have p3 := mk1 p2.all (kind := 3) (x := h) (y := 0) (.inl rfl) ⟨hh.1, by omega⟩ (by omega)
  have l3 := p3.len
  have i3 := p3.pre.length_le
  have a1 : 0 ≤ ckK1 ns s := p1.k0
  have b1 : ckK1 ns s < _ := p1.k1
  have a2 : 0 ≤ ckK2 ns s d := p2.k0
  have b2 : ckK2 ns s d < _ := p2.k1
  have a3 : 0 ≤ ckK3 ns s d h := p3.k0
  have b3 : ckK3 ns s d h < _ := p3.k1
  have t := lst p3.all [ckK2 ns s d, ckK3 ns s d h] (fun x hx => by
    simp only [List.mem_cons, List.not_mem_nil, or_false] at hx
    rcases hx with rfl | rfl
    · exact ⟨a2, by omega⟩
    · exact ⟨a3, b3⟩) (by simp; omega)
  have lt := t.len
  have it := t.pre.length_le
  have at0 := t.k0
  have at1 := t.k1
  simp only [List.length_cons, List.length_nil] at lt
  have p5 := mk2 t.all (kind := 9) (x := ckK1 ns s) (y := (ckL ns s d h).2) (by omega) ⟨a1, by omega⟩ ⟨at0, at1⟩ (by omega)
  have l5 := p5.len
  have r4 := p5.pre
  have r3 := t.pre.trans r4
  have r2 := p3.pre.trans r3
  have r1 := p2.pre.trans r2
  have r0 := p1.pre.trans r1
  refine ⟨p5.all, by have h9 : (ckA ns s d h).length ≤ _ := l5; omega, r0, p5.k0, p5.k1, ?_⟩
  have n5 := p5.isK (List.prefix_refl _)
  have n1 := p1.isK r1
  have n2 := p2.isK r2
  have n3 := p3.isK r3
  have nt := partsN_pre r4 _ _ _ t.parts
  exact ⟨ckK1 ns s, (ckL ns s d h).2, ckK2 ns s d, ckK3 ns s d h, n5, n1, nt, n2, n3⟩
/-- A cookie is right at its own address, for its own hello, and nowhere else. -/
theorem ck_back {ns : List Nd} {s d h : Int} (ha : allFrom ns ns 0 = true) (hl : ns.length < 1000) (hs : 0 ≤ s ∧ s ≤ 999999) (hd : 0 ≤ d ∧ d ≤ 999999) (hh : 0 ≤ h ∧ h < (ns.length : Int)) :
    0 ≤ ckK ns s d h ∧ (ckA ns s d h).length ≤ ns.length + 7 ∧ allFrom (ckA ns s d h) (ckA ns s d h) 0 = true ∧
    ∀ s' d' h', (0 ≤ s' ∧ s' ≤ 999999) → (0 ≤ d' ∧ d' ≤ 999999) → (0 ≤ h' ∧ h' < (ns.length : Int)) → ckOk (ckA ns s d h) s' d' h' (ckK ns s d h) = decide (s' = s ∧ d' = d ∧ h' = h) := by
  obtain ⟨q1, q2, q3, q4, q5, q6⟩ := ck_made ha (by omega) hs hd hh
  refine ⟨q4, q2, q1, fun s' d' h' hs' hd' hh' => ?_⟩
  have hi := q3.length_le
  obtain ⟨t1, t2, t3, t4, t5, t6⟩ := ck_made (s := s') (d := d') (h := h') q1 (by omega) hs' hd' ⟨hh'.1, by omega⟩
  have c := q6.on t3
  unfold ckOk
  rw [decide_eq_true t4, Bool.true_and]
  by_cases e : s' = s ∧ d' = d ∧ h' = h
  · rw [decide_eq_true e]
    obtain ⟨rfl, rfl, rfl⟩ := e
    exact decide_eq_true (Ck.once t1 t6 c)
  · rw [decide_eq_false e]
    refine decide_eq_false (fun hk => e ?_)
    rw [hk] at t6
    exact t6.tells c
end Go.Proofs.YtaanophnnkmkbaaGreat

namespace Go.Proofs.YtaanophnnkmkbaaGreat
open Go.RowKit
set_option linter.unusedVariables false
theorem infoBoolS : (Tryz.prog.info? 4).map (fun i => (i.zero, i.size, i.bytes)) = some (some (.bool false), 1, 1) := by kernel_rfl
theorem made_bools : ∀ n : Nat, (madeCells (Value.bool false).cells (n * 1)).toList = (List.replicate n false).map Value.bool := by
  intro n
  have h : ∀ m : Nat, List.map (fun x => [Value.bool false][x % 1]?.getD default) (List.range m) = List.replicate m (Value.bool false) := fun m => by
    apply List.ext_getElem (by simp)
    intro i h1 h2
    simp [Nat.mod_one]
  simpa [madeCells, Value.cells] using h n
theorem World.ownsRow_rowB {B g n : Nat} {w : World} {bs : List Bool} (h : BoolsAt B g n w bs) (hl : bs.length = n) : RowB w.heap.size w (some ⟨g, 0, none⟩) bs :=
  .inr ⟨g, 0, rfl, (World.ownsRow.lt h _ (by simp [Value.ownBlock])).2, fun j hj => by rw [Nat.zero_add]; exact BoolsAt.cell h (by omega)⟩
/-- Reach: of a right arena what can be had, of any other nothing. -/
def IsR (ns : List Nd) (xs : List Int) (bs : List Bool) : Prop := (arenaB ns = true ∧ IsReach ns xs bs) ∨ (arenaB ns = false ∧ bs = [])
theorem IsR.one {ns : List Nd} {xs : List Int} {bs cs : List Bool} (h : IsR ns xs bs) (h' : IsR ns xs cs) : bs = cs := by
  rcases h with ⟨h1, h2⟩ | ⟨h1, rfl⟩ <;> rcases h' with ⟨h3, h4⟩ | ⟨h3, rfl⟩
  · exact h2.one h4
  · rw [h1] at h3; simp at h3
  · rw [h1] at h3; simp at h3
  · rfl
theorem IsR.some (ns : List Nd) (xs : List Int) : ∃ bs, IsR ns xs bs := by
  cases hA : arenaB ns with
  | false => exact ⟨[], .inr ⟨hA, rfl⟩⟩
  | true =>
    classical
    refine ⟨(List.range ns.length).map (fun k => decide (Had ns (fun j => (j : Int) ∈ xs) k)), .inl ⟨hA, by simp, fun k hk => ?_⟩⟩
    rw [List.getD_eq_getElem?_getD, List.getElem?_map, List.getElem?_range hk]
    simp
theorem IsR.len {ns : List Nd} {xs : List Int} {bs : List Bool} (h : IsR ns xs bs) : bs.length ≤ 3000 := by
  rcases h with ⟨h1, h2⟩ | ⟨_, rfl⟩
  · have : ns.length ≤ 3000 := by unfold arenaB at h1; simp at h1; exact h1.1
    rw [h2.len]; exact this
  · simp
def derB (bs : List Bool) (k : Int) : Bool := inB k 0 ((bs.length : Int) - 1) && bs.getD k.toNat false
end Go.Proofs.YtaanophnnkmkbaaGreat

namespace Go.Proofs.YtaanophnnkmkbaaGreat
open Go.RowKit
set_option linter.unusedVariables false
/-- The term at k is the certificate of n, with the pub at p of the secret at s. -/
structure Cr (ms : List Nd) (k n c p s : Int) : Prop where
  top : ∃ L w1 w2, (isK ms k 8 = true ∧ ndAt ms k = ⟨8, 0, c, L⟩) ∧ partsN ms 3 L = some [w1, w2, p] ∧ (isK ms w1 1 = true ∧ ndAt ms w1 = ⟨1, 60, 0, 0⟩) ∧ (isK ms w2 1 = true ∧ ndAt ms w2 = ⟨1, n, 0, 0⟩)
  ca : isK ms c 1 = true ∧ ndAt ms c = ⟨1, 1000, 0, 0⟩
  pub : isK ms p 6 = true ∧ ndAt ms p = ⟨6, 0, s, 0⟩
  sec : isK ms s 1 = true ∧ ndAt ms s = ⟨1, 2000 + n, 0, 0⟩
theorem isKn_pre {ns ms : List Nd} (h : ns <+: ms) {k j : Int} {x : Nd} (hk : isK ns k j = true ∧ ndAt ns k = x) : isK ms k j = true ∧ ndAt ms k = x := by
  obtain ⟨h1, h2, -⟩ := isK_pre h hk.1
  exact ⟨h1, h2.trans hk.2⟩
theorem Cr.on {ns ms : List Nd} {k n c p s : Int} (hp : ns <+: ms) (h : Cr ns k n c p s) : Cr ms k n c p s := by
  obtain ⟨⟨L, w1, w2, t1, t2, t3, t4⟩, h2, h3, h4⟩ := h
  exact ⟨⟨L, w1, w2, isKn_pre hp t1, partsN_pre hp _ _ _ t2, isKn_pre hp t3, isKn_pre hp t4⟩, isKn_pre hp h2, isKn_pre hp h3, isKn_pre hp h4⟩
theorem numV_at {ms : List Nd} {k n : Int} (h : isK ms k 1 = true ∧ ndAt ms k = ⟨1, n, 0, 0⟩) : numV ms k = n := by
  unfold numV
  rw [if_pos h.1, h.2]
theorem Cr.tells {ms : List Nd} {k n c p s : Int} (h : Cr ms k n c p s) (hn : 0 ≤ n ∧ n ≤ 9) : crtB ms k = true ∧ crtN ms k = n ∧ crtP ms k = p := by
  obtain ⟨⟨L, w1, w2, t1, t2, t3, t4⟩, h2, h3, h4⟩ := h
  have eR : partsR ms L 3 = some [w1, w2, p] := by unfold partsR; rw [if_neg (by omega)]; exact t2
  have eV : partsV ms L 3 = [w1, w2, p] := by unfold partsV; rw [eR]; rfl
  have eB : partsB ms L 3 = true := by unfold partsB; rw [eR]; rfl
  have hB : crtB ms k = true := by
    unfold crtB numIs p3
    rw [t1.1, t1.2]
    simp only [eV, eB]
    simp only [List.getD_cons_zero, List.getD_cons_succ]
    rw [h2.1, numV_at h2, t3.1, numV_at t3, h3.1, t4.1, numV_at t4]
    simp [inB]; omega
  refine ⟨hB, ?_, ?_⟩
  · unfold crtN p3
    rw [if_pos hB, t1.2]
    simp only [eV, List.getD_cons_zero, List.getD_cons_succ]
    exact numV_at t4
  · unfold crtP p3
    rw [if_pos hB, t1.2]
    simp only [eV, List.getD_cons_zero, List.getD_cons_succ]
theorem lg1 {ns : List Nd} {n : Int} (hn : 0 ≤ n ∧ n ≤ 9) : lgA ns n = putA ns ⟨1, 2000 + n, 0, 0⟩ ∧ lgK ns n = putK ns ⟨1, 2000 + n, 0, 0⟩ := by
  have : nmB n = true := by unfold nmB inB; simp; omega
  unfold lgA lgK
  rw [this]; exact ⟨rfl, rfl⟩
theorem pk1 {ns : List Nd} {x y : Int} (hx : 0 ≤ x ∧ x ≤ 9) (hy : 0 ≤ y ∧ y ≤ 9) : pkA ns x y = putA ns ⟨1, pkN x y, 0, 0⟩ ∧ pkK ns x y = putK ns ⟨1, pkN x y, 0, 0⟩ := by
  have : pkB x y = true := by unfold pkB inB; simp; omega
  unfold pkA pkK
  rw [this]; exact ⟨rfl, rfl⟩
theorem pkN_sym (x y : Int) : pkN x y = pkN y x := by unfold pkN; split <;> split <;> omega
theorem pkN_range {x y : Int} (hx : 0 ≤ x ∧ x ≤ 9) (hy : 0 ≤ y ∧ y ≤ 9) : 3000 ≤ pkN x y ∧ pkN x y ≤ 3099 := by unfold pkN; split <;> omega
theorem cr_made {ns : List Nd} {n : Int} (ha : allFrom ns ns 0 = true) (hl : ns.length < 2000) (hn : 0 ≤ n ∧ n ≤ 9) :
    allFrom (crA ns n) (crA ns n) 0 = true ∧ (crA ns n).length ≤ ns.length + 10 ∧ 0 ≤ crK ns n ∧ crK ns n < ((crA ns n).length : Int) ∧ ∃ c p s, Cr (crA ns n) (crK ns n) n c p s := by
  have p1 : Put1 ns (crA1 ns) (crK1 ns) ⟨1, 1000, 0, 0⟩ := atom1 ha (n := 1000) (by omega) (by omega)
  have l1 := p1.len
  have i1 := p1.pre.length_le
  have p2 : Put1 (crA1 ns) (crA2 ns) (crK2 ns) ⟨1, 60, 0, 0⟩ := atom1 p1.all (n := 60) (by omega) (by omega)
  have l2 := p2.len
  have i2 := p2.pre.length_le
  have p3 : Put1 (crA2 ns) (crA3 ns n) (crK3 ns n) ⟨1, n, 0, 0⟩ := atom1 p2.all (n := n) (by omega) (by omega)
  have l3 := p3.len
  have i3 := p3.pre.length_le
  have e4 := lg1 (ns := crA3 ns n) hn
  have p4 : Put1 (crA3 ns n) (lgA (crA3 ns n) n) (lgK (crA3 ns n) n) ⟨1, 2000 + n, 0, 0⟩ := by rw [e4.1, e4.2]; exact atom1 p3.all (n := 2000 + n) (by omega) (by omega)
  have l4 := p4.len
  have i4 := p4.pre.length_le
  have p5 : Put1 (lgA (crA3 ns n) n) (crA5 ns n) (crK5 ns n) ⟨6, 0, lgK (crA3 ns n) n, 0⟩ := mk1 p4.all (kind := 6) (x := lgK (crA3 ns n) n) (y := 0) (.inr rfl) ⟨p4.k0, p4.k1⟩ (by omega)
  have l5 := p5.len
  have i5 := p5.pre.length_le
  have a1 := p1.k0
  have b1 := p1.k1
  have a2 := p2.k0
  have b2 := p2.k1
  have a3 := p3.k0
  have b3 := p3.k1
  have a5 := p5.k0
  have b5 := p5.k1
  have t : Lst (crA5 ns n) (crL ns n).1 (crL ns n).2 [crK2 ns, crK3 ns n, crK5 ns n] := lst p5.all [crK2 ns, crK3 ns n, crK5 ns n] (fun x hx => by
    simp only [List.mem_cons, List.not_mem_nil, or_false] at hx
    rcases hx with rfl | rfl | rfl
    · exact ⟨a2, by omega⟩
    · exact ⟨a3, by omega⟩
    · exact ⟨a5, b5⟩) (by simp only [List.length_cons, List.length_nil]; omega)
  have lt := t.len
  have it := t.pre.length_le
  have at0 := t.k0
  have at1 := t.k1
  simp only [List.length_cons, List.length_nil] at lt
  have p6 : Put1 (crL ns n).1 (crA ns n) (crK ns n) ⟨8, 0, crK1 ns, (crL ns n).2⟩ := mk2 t.all (kind := 8) (x := crK1 ns) (y := (crL ns n).2) (by omega) ⟨a1, by omega⟩ ⟨at0, at1⟩ (by omega)
  have l6 := p6.len
  have r5 := p6.pre
  have r4 := t.pre.trans r5
  have r3 := p5.pre.trans r4
  have r2 := p4.pre.trans r3
  have r1 := p3.pre.trans r2
  have r0 := p2.pre.trans r1
  refine ⟨p6.all, by omega, p6.k0, p6.k1, crK1 ns, crK5 ns n, lgK (crA3 ns n) n, ⟨(crL ns n).2, crK2 ns, crK3 ns n, p6.isK (List.prefix_refl _), partsN_pre r5 _ _ _ t.parts, p2.isK r1, p3.isK r2⟩, p1.isK r0, p5.isK r4, p4.isK r3⟩
theorem ndAt_def (ms : List Nd) (k : Int) : ndAt ms k = ms.getD k.toNat Nd.zero := rfl
/-- What FnCerts asks of a right arena. -/
theorem certs_are {ns : List Nd} {n m : Int} (ha : allFrom ns ns 0 = true) (hl : ns.length < 1000) (hn : 0 ≤ n ∧ n ≤ 9) (hm : 0 ≤ m ∧ m ≤ 9) :
    ∃ (M1 M2 M3 M4 M5 : List Nd) (k s u x : Int), crA ns n = M1 ∧ crK ns n = k ∧ lgA M1 n = M2 ∧ lgK M1 n = s ∧ makeA M2 6 s 0 = M3 ∧ makeK M2 6 s 0 = u ∧ pkA M3 n m = M4 ∧ pkK M3 n m = x ∧ pkA M4 m n = M5 ∧ pkK M4 m n = x
      ∧ (0 ≤ k ∧ k ≤ 2000) ∧ (0 ≤ s ∧ s ≤ 2000) ∧ (0 ≤ u ∧ u ≤ 2000) ∧ (0 ≤ x ∧ x ≤ 2000)
      ∧ (allFrom M1 M1 0 = true ∧ M1.length ≤ 2000) ∧ (allFrom M2 M2 0 = true ∧ M2.length ≤ 2000) ∧ (allFrom M3 M3 0 = true ∧ M3.length ≤ 2000) ∧ (allFrom M4 M4 0 = true ∧ M4.length ≤ 2000) ∧ (allFrom M5 M5 0 = true ∧ M5.length ≤ 2000)
      ∧ (crtB M1 k = true ∧ crtN M1 k = n ∧ crtP M1 k = u) ∧ (∀ bs, IsR M5 [s, x] bs → derB bs k = false) := by
  obtain ⟨q1, q2, q3, q4, c, p, s0, hC⟩ := cr_made ha (by omega) hn
  obtain ⟨M1, e1⟩ : ∃ M, crA ns n = M := ⟨_, rfl⟩
  obtain ⟨k, ek⟩ : ∃ k, crK ns n = k := ⟨_, rfl⟩
  rw [e1] at q1 q2 q4 hC
  rw [ek] at q3 q4 hC
  have f2 := lg1 (ns := M1) hn
  have p2 := atom1 q1 (n := 2000 + n) (by omega) (by omega)
  rw [← f2.1, ← f2.2] at p2
  obtain ⟨M2, e2⟩ : ∃ M, lgA M1 n = M := ⟨_, rfl⟩
  obtain ⟨s, es⟩ : ∃ k, lgK M1 n = k := ⟨_, rfl⟩
  rw [e2, es] at p2
  have l2 := p2.len
  have i2 := p2.pre.length_le
  have p3 := mk1 p2.all (kind := 6) (x := s) (y := 0) (.inr rfl) ⟨p2.k0, p2.k1⟩ (by omega)
  obtain ⟨M3, e3⟩ : ∃ M, makeA M2 6 s 0 = M := ⟨_, rfl⟩
  obtain ⟨u, eu⟩ : ∃ k, makeK M2 6 s 0 = k := ⟨_, rfl⟩
  rw [e3, eu] at p3
  have l3 := p3.len
  have i3 := p3.pre.length_le
  have hr := pkN_range hn hm
  have p4 := atom1 p3.all (n := pkN n m) (by omega) (by omega)
  have f4 := pk1 (ns := M3) hn hm
  rw [← f4.1, ← f4.2] at p4
  obtain ⟨M4, e4⟩ : ∃ M, pkA M3 n m = M := ⟨_, rfl⟩
  obtain ⟨x, ex⟩ : ∃ k, pkK M3 n m = k := ⟨_, rfl⟩
  rw [e4, ex] at p4
  have l4 := p4.len
  have i4 := p4.pre.length_le
  have p5 := atom1 p4.all (n := pkN n m) (by omega) (by omega)
  have f5 := pk1 (ns := M4) hm hn
  rw [pkN_sym m n] at f5
  rw [← f5.1, ← f5.2] at p5
  obtain ⟨M5, e5⟩ : ∃ M, pkA M4 m n = M := ⟨_, rfl⟩
  obtain ⟨y, ey⟩ : ∃ k, pkK M4 m n = k := ⟨_, rfl⟩
  rw [e5, ey] at p5
  have l5 := p5.len
  have i5 := p5.pre.length_le
  have nx := p4.isK p5.pre
  have ny := p5.isK (List.prefix_refl _)
  have hxy : x = y := nd_one p5.all (isK_at nx.1).1 (isK_at ny.1).1 (nx.2.trans ny.2.symm)
  subst hxy
  have c3 := hC.on (p2.pre.trans p3.pre)
  have ns3 := p2.isK p3.pre
  have hss : s0 = s := nd_one p3.all (isK_at c3.sec.1).1 (isK_at ns3.1).1 (c3.sec.2.trans ns3.2.symm)
  subst hss
  have nu := p3.isK (List.prefix_refl _)
  have hpu : p = u := nd_one p3.all (isK_at c3.pub.1).1 (isK_at nu.1).1 (c3.pub.2.trans nu.2.symm)
  subst hpu
  have c5 := (c3.on p4.pre).on p5.pre
  have s5 := c5.sec
  have k4 := p4.k0
  have k41 := p4.k1
  have k2 := p2.k0
  have k21 := p2.k1
  have k3 := p3.k0
  have k31 := p3.k1
  refine ⟨M1, M2, M3, M4, M5, k, s0, p, x, e1, ek, e2, es, e3, eu, e4, ex, e5, ey, by omega, by omega, by omega, by omega, ⟨q1, by omega⟩, ⟨p2.all, by omega⟩, ⟨p3.all, by omega⟩, ⟨p4.all, by omega⟩, ⟨p5.all, by omega⟩, hC.tells hn, fun bs hbs => ?_⟩
  have hx : ∀ j : Nat, j < M5.length → (j : Int) ∈ [s0, x] → (M5.getD j Nd.zero).k = 1 := fun j hj hm => by
    simp only [List.mem_cons, List.not_mem_nil, or_false] at hm
    rcases hm with e | e
    · have := s5.2; rw [← e, ndAt_def, Int.toNat_natCast] at this; rw [this]
    · have := nx.2; rw [← e, ndAt_def, Int.toNat_natCast] at this; rw [this]
  obtain ⟨⟨L, w1, w2, t1, -⟩, hca, -, -⟩ := c5
  have hk5 := (isK_at t1.1).1
  have hc5 := (isK_at hca.1).1
  have hcn : (M5.getD c.toNat Nd.zero) = ⟨1, 1000, 0, 0⟩ := hca.2
  have hkn : (M5.getD k.toNat Nd.zero) = ⟨8, 0, c, L⟩ := t1.2
  have hg : (goodL M5 [s0, x] M5.length).getD c.toNat false = false := by
    refine atom_not p5.all hx (by omega) (by rw [hcn]) (by rw [hcn]; decide) (fun hmem => ?_)
    rw [Int.toNat_of_nonneg hc5.1] at hmem
    simp only [List.mem_cons, List.not_mem_nil, or_false] at hmem
    rcases hmem with e | e
    · have h1 := hca.2; rw [e, s5.2] at h1; simp only [Nd.mk.injEq] at h1; omega
    · have h1 := hca.2; rw [e, nx.2] at h1; simp only [Nd.mk.injEq] at h1; omega
  have hnot := two_not p5.all hx (k := k.toNat) (by omega) (by rw [hkn]; simp) (by rw [hkn]; rfl) (by rw [hkn]; exact hg)
  rcases hbs with ⟨h1, h2⟩ | ⟨_, rfl⟩
  · unfold derB
    cases hb : bs.getD k.toNat false with
    | false => simp
    | true => exact absurd ((h2.iff k.toNat (by omega)).1 hb) hnot
  · unfold derB; simp
end Go.Proofs.YtaanophnnkmkbaaGreat
