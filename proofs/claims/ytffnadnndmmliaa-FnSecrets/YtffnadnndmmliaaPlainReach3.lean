/- Chapter 5 in plain words: the passes of the specification's loop, and what is still wanted read out of memory. -/
import Derived.Test.YtffnadnndmmliaaSpecParts5
import Derived.Test.YtffnadnndmmliaaSpecPubs5
import Derived.Test.YtffnadnndmmliaaSpecReach
namespace Go.Proofs.Ytffnadnndmmliaa
open Go.RowKit
set_option linter.unusedVariables false

/-- What is known is had. -/
def Kn (ns : List Nd) (xs : List Int) (m : Nat) (bs : List Bool) : Prop := ∀ i, i < m → ∀ k, k < ns.length → xs.getD i 0 = (k : Int) → bs.getD k false = true
def KOf (xs : List Int) : Nat → Prop := fun j => (j : Int) ∈ xs
theorem Kn.all {ns : List Nd} {xs : List Int} {bs : List Bool} (h : Kn ns xs xs.length bs) : ∀ k, k < ns.length → (k : Int) ∈ xs → bs.getD k false = true := fun k hk hx => by
  obtain ⟨i, hi, e⟩ := List.getElem_of_mem hx
  exact h i hi k hk (by rw [List.getD_eq_getElem?_getD, List.getElem?_eq_getElem hi]; simpa using e)
theorem Kn.mono {ns : List Nd} {xs : List Int} {m : Nat} {bs cs : List Bool} (h : Kn ns xs m bs) (hm : ∀ j, bs.getD j false = true → cs.getD j false = true) : Kn ns xs m cs := fun i hi k hk e => hm k (h i hi k hk e)
theorem mem_getD {xs : List Int} {i : Nat} (hi : i < xs.length) : xs.getD i 0 ∈ xs := by
  rw [List.getD_eq_getElem?_getD, List.getElem?_eq_getElem hi]; exact List.getElem_mem hi
theorem Sound.none (ns : List Nd) (K : Nat → Prop) : Sound ns K (List.replicate ns.length false) := ⟨by simp, fun k hk => by
  rw [List.getD_eq_getElem?_getD, List.getElem?_replicate] at hk
  split at hk <;> simp at hk⟩
/-- The first loop: known ones up to m. -/
def Start (ns : List Nd) (xs : List Int) (m : Nat) (bs : List Bool) : Prop := Sound ns (KOf xs) bs ∧ Kn ns xs m bs
theorem Start.zero (ns : List Nd) (xs : List Int) : Start ns xs 0 (List.replicate ns.length false) := ⟨Sound.none ns _, fun i hi => absurd hi (Nat.not_lt_zero _)⟩
theorem Start.pass {ns : List Nd} {xs : List Int} {m : Nat} {bs : List Bool} (h : Start ns xs m bs) (hx : inB (xs.getD m 0) 0 ((ns.length : Int) - 1) = false) : Start ns xs (m + 1) bs := ⟨h.1, fun i hi k hk e => by
  by_cases q : i = m
  · subst q
    rw [e, inB_mk ⟨by omega, by omega⟩] at hx
    simp at hx
  · exact h.2 i (by omega) k hk e⟩
theorem Start.put {ns : List Nd} {xs : List Int} {m k : Nat} {bs : List Bool} (h : Start ns xs m bs) (hm : m < xs.length) (hk : k < ns.length) (e : xs.getD m 0 = (k : Int)) : Start ns xs (m + 1) (bs.set k true) := ⟨h.1.set (.known hk (by show (k : Int) ∈ xs; rw [← e]; exact mem_getD hm)), fun i hi j hj e' => by
  by_cases q : i = m
  · subst q
    have : j = k := by omega
    subst this
    rw [getD_setT, if_pos ⟨rfl, by rw [h.1.1]; exact hj⟩]
  · exact set_mono (h.2 i (by omega) j hj e')⟩
/-- A round's first loop, behind the first k nodes. -/
structure Pass1 (ns : List Nd) (xs : List Int) (bs0 : List Bool) (k : Nat) (sm : Bool) (bs : List Bool) : Prop where
  sound : Sound ns (KOf xs) bs
  kn : Kn ns xs xs.length bs
  no : sm = false → bs = bs0 ∧ ∀ j, j < k → madeB ns bs0 (ns.getD j Nd.zero) = true → bs0.getD j false = true
  yes : sm = true → cnt bs < cnt bs0
theorem Pass1.le {ns : List Nd} {xs : List Int} {bs0 : List Bool} {k : Nat} {sm : Bool} {bs : List Bool} (h : Pass1 ns xs bs0 k sm bs) : cnt bs ≤ cnt bs0 := by
  cases sm
  · rw [(h.no rfl).1]; exact Nat.le_refl _
  · exact Nat.le_of_lt (h.yes rfl)
theorem Pass1.zero {ns : List Nd} {xs : List Int} {bs0 : List Bool} (h : Start ns xs xs.length bs0) : Pass1 ns xs bs0 0 false bs0 := ⟨h.1, h.2, fun _ => ⟨rfl, fun j hj => absurd hj (Nat.not_lt_zero _)⟩, fun e => by simp at e⟩
theorem Pass1.skip {ns : List Nd} {xs : List Int} {bs0 : List Bool} {k : Nat} {sm : Bool} {bs : List Bool} (h : Pass1 ns xs bs0 k sm bs) (hb : bs.getD k false = true ∨ madeB ns bs (ns.getD k Nd.zero) = false) : Pass1 ns xs bs0 (k + 1) sm bs := by
  refine ⟨h.sound, h.kn, fun e => ⟨(h.no e).1, fun j hj hm => ?_⟩, h.yes⟩
  by_cases q : j = k
  · subst q
    have e1 := (h.no e).1
    rw [e1] at hb
    rcases hb with hb | hb
    · exact hb
    · rw [hm] at hb; simp at hb
  · exact (h.no e).2 j (by omega) hm
theorem Pass1.put {ns : List Nd} (ha : allFrom ns ns 0 = true) {xs : List Int} {bs0 : List Bool} {k : Nat} {sm : Bool} {bs : List Bool} (h : Pass1 ns xs bs0 k sm bs) (hk : k < ns.length) (hb : bs.getD k false = false) (hm : madeB ns bs (ns.getD k Nd.zero) = true) : Pass1 ns xs bs0 (k + 1) true (bs.set k true) :=
  ⟨h.sound.set (made_had ha h.sound hk hm), h.kn.mono (fun j hj => set_mono hj), fun e => by simp at e, fun _ => Nat.lt_of_lt_of_le (cnt_set (by rw [h.sound.1]; exact hk) hb) h.le⟩
/-- A round's second loop, from the last node down to m. -/
structure Pass2 (ns : List Nd) (xs : List Int) (bs0 : List Bool) (m : Nat) (sm : Bool) (bs : List Bool) : Prop where
  sound : Sound ns (KOf xs) bs
  kn : Kn ns xs xs.length bs
  no : sm = false → bs = bs0 ∧ (∀ j, j < ns.length → madeB ns bs0 (ns.getD j Nd.zero) = true → bs0.getD j false = true) ∧ ∀ j, m ≤ j → j < ns.length → bs0.getD j false = true → givesT bs0 (ns.getD j Nd.zero) = false
  yes : sm = true → cnt bs < cnt bs0
theorem Pass2.le {ns : List Nd} {xs : List Int} {bs0 : List Bool} {k : Nat} {sm : Bool} {bs : List Bool} (h : Pass2 ns xs bs0 k sm bs) : cnt bs ≤ cnt bs0 := by
  cases sm
  · rw [(h.no rfl).1]; exact Nat.le_refl _
  · exact Nat.le_of_lt (h.yes rfl)
theorem Pass2.of {ns : List Nd} {xs : List Int} {bs0 : List Bool} {sm : Bool} {bs : List Bool} (h : Pass1 ns xs bs0 ns.length sm bs) : Pass2 ns xs bs0 ns.length sm bs := ⟨h.sound, h.kn, fun e => ⟨(h.no e).1, (h.no e).2, fun j h1 h2 => absurd h2 (by omega)⟩, h.yes⟩
theorem Pass2.skip {ns : List Nd} {xs : List Int} {bs0 : List Bool} {m : Nat} {sm : Bool} {bs : List Bool} (h : Pass2 ns xs bs0 (m + 1) sm bs) (hb : bs.getD m false = false ∨ givesT bs (ns.getD m Nd.zero) = false) : Pass2 ns xs bs0 m sm bs := by
  refine ⟨h.sound, h.kn, fun e => ⟨(h.no e).1, (h.no e).2.1, fun j h1 h2 hj => ?_⟩, h.yes⟩
  by_cases q : j = m
  · subst q
    have e1 := (h.no e).1
    rw [e1] at hb
    rcases hb with hb | hb
    · rw [hj] at hb; simp at hb
    · exact hb
  · exact (h.no e).2.2 j (by omega) h2 hj
theorem Pass2.put {ns : List Nd} (ha : allFrom ns ns 0 = true) {xs : List Int} {bs0 : List Bool} {m : Nat} {sm : Bool} {bs : List Bool} (h : Pass2 ns xs bs0 (m + 1) sm bs) (hm : m < ns.length) (hb : bs.getD m false = true) (ht : givesT bs (ns.getD m Nd.zero) = true) : Pass2 ns xs bs0 m true (givesB bs (ns.getD m Nd.zero)) := by
  refine ⟨gives_sound h.sound hm hb, h.kn.mono (fun j hj => gives_mono _ hj), fun e => by simp at e, fun _ => Nat.lt_of_lt_of_le (gives_cnt ht ?_ ?_) h.le⟩
  · rw [h.sound.1]
    have hn := (all_at ha hm).1
    rcases nodeB_true hn with h1 | h1 | h1
    · omega
    · omega
    · omega
  · rw [h.sound.1]
    have hn := (all_at ha hm).1
    rcases nodeB_true hn with h1 | h1 | h1
    · omega
    · omega
    · omega
/-- What stands at the loop's head. -/
structure Head (ns : List Nd) (xs : List Int) (sm : Bool) (bs : List Bool) : Prop where
  start : Start ns xs xs.length bs
  no : sm = false → Closed ns bs
theorem Head.of {ns : List Nd} {xs : List Int} {bs0 : List Bool} {sm : Bool} {bs : List Bool} (h : Pass2 ns xs bs0 0 sm bs) : Head ns xs sm bs := ⟨⟨h.sound, h.kn⟩, fun e => by
  obtain ⟨h1, h2, h3⟩ := h.no e
  rw [h1]
  exact closed_of h2 (fun k hk hb => h3 k (Nat.zero_le _) hk hb)⟩
theorem Head.reach {ns : List Nd} (ha : allFrom ns ns 0 = true) {xs : List Int} {bs : List Bool} (h : Head ns xs false bs) : IsReach ns xs bs := IsReach.of ha h.start.1 (h.no rfl) (Kn.all h.start.2)
/-- How many are still wanted, read out of memory. -/
def trueB : Value → Bool
  | .bool b => b
  | _ => false
def cntW (w : World) (g : Nat) : Nat → Nat
  | 0 => 0
  | n + 1 => (if trueB ((w.cell? ⟨g, n, none⟩).getD undef) = true then 0 else 1) + cntW w g n
def wants (s : Value) (w : World) (g n : Nat) : Nat := if trueB s = true then cntW w g n + 1 else 0
theorem cnt_take : ∀ (bs : List Bool) (n : Nat), n < bs.length → cnt (bs.take (n + 1)) = (if bs.getD n false = true then 0 else 1) + cnt (bs.take n)
  | [], _, h => by simp at h
  | b :: bs, 0, _ => by simp [cnt]
  | b :: bs, n + 1, h => by
    have := cnt_take bs n (by simpa using h)
    simp only [List.take_succ_cons, cnt, List.getD_cons_succ]
    omega
theorem cntW_take {B g n : Nat} {w : World} {bs : List Bool} (h : BoolsAt B g n w bs) : ∀ m, m ≤ n → cntW w g m = cnt (bs.take m)
  | 0, _ => by simp [cntW, cnt]
  | m + 1, hm => by
    have hl : bs.length = n := by have := h.1; simpa using this
    rw [cntW, cntW_take h m (by omega), BoolsAt.cell h (show m < n by omega), cnt_take bs m (by omega)]
    rfl
theorem cntW_eq {B g n : Nat} {w : World} {bs : List Bool} (h : BoolsAt B g n w bs) : cntW w g n = cnt bs := by
  have hl : bs.length = n := by have := h.1; simpa using this
  rw [cntW_take h n (Nat.le_refl _), List.take_of_length_le (by omega)]
theorem wants_less {B g n : Nat} {w w' : World} {bs bs' : List Bool} {sm : Bool} (h : BoolsAt B g n w bs) (h' : BoolsAt B g n w' bs') (hc : sm = true → cnt bs' < cnt bs) : wants (.bool sm) w' g n < wants (.bool true) w g n := by
  unfold wants
  rw [cntW_eq h, cntW_eq h']
  cases sm
  · simp [trueB]
  · have := hc rfl
    simp only [trueB, if_true]; omega
/-- What stands in memory while the loop runs. -/
structure RcS (w : World) (a pb : Option Addr) (ca cp : Nat) (ns : List Nd) (ps : List Int) (bs : List Bool) (wr : World) : Prop where
  bel : Below w.heap.size w wr
  cA : wr.cell? ⟨w.heap.size, 0, none⟩ = some (.slice a ns.length ca)
  has : BoolsAt (w.heap.size + 1) (w.heap.size + 1) ns.length wr bs
  pubs : RowI wr.heap.size wr pb ps
  ne : ∀ b off, pb = some ⟨b, off, none⟩ → b ≠ w.heap.size + 1
theorem RcS.size {w : World} {a pb : Option Addr} {ca cp : Nat} {ns : List Nd} {ps : List Int} {bs : List Bool} {wr : World} (h : RcS w a pb ca cp ns ps bs wr) : w.heap.size + 1 < wr.heap.size := (World.ownsRow.lt h.has _ (by simp [Value.ownBlock])).2
theorem RcS.next {w : World} {a pb : Option Addr} {ca cp : Nat} {ns : List Nd} {ps : List Int} {bs : List Bool} {wr w' : World} (h : RcS w a pb ca cp ns ps bs wr) (hb : Below wr.heap.size wr w') : RcS w a pb ca cp ns ps bs w' :=
  ⟨h.bel.trans (hb.mono h.bel.size), (hb.cell (p := ⟨w.heap.size, 0, none⟩) (by have := h.size; show w.heap.size < wr.heap.size; omega)).trans h.cA, BoolsAt.next h.has hb, h.pubs.grown hb, h.ne⟩
theorem RcS.grow {w : World} {a pb : Option Addr} {ca cp : Nat} {ns : List Nd} {ps : List Int} {bs bs' : List Bool} {wr w' : World} (h : RcS w a pb ca cp ns ps bs wr) (hg : wr.grownBy w' (some (w.heap.size + 1))) (hs : BoolsAt (w.heap.size + 1) (w.heap.size + 1) ns.length w' bs') : RcS w a pb ca cp ns ps bs' w' := by
  have hz := h.size
  refine ⟨h.bel.trans (gb_below hg (by omega) (by omega)), ?_, hs, ?_, h.ne⟩
  · exact hg.cell h.cA (by simp)
  · rcases h.pubs with h0 | ⟨b, off, e, hlt, hc⟩
    · exact .inl h0
    · refine .inr ⟨b, off, e, Nat.lt_of_lt_of_le hlt hg.size, fun j hj => hg.cell (hc j hj) ?_⟩
      have := h.ne b off e
      simpa using this
end Go.Proofs.Ytffnadnndmmliaa
