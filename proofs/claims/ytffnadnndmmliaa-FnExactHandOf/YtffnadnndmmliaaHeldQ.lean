/- One walk, in the order of the text, of a region that draws its order, where what is held of the world (S) is kept by every operation and every callee (they may make memory): the library's theorem at the class of the worlds that meet S. -/
import Derived.WalkKit
import Derived.WalkLawsBesides
import Derived.Deep.QuietTactic
import Derived.BigQuiet
import Derived.Test.YtffnadnndmmliaaProg
import Derived.Laws.OwnMore
import Derived.Laws.Rows
import Derived.Test.YtffnadnndmmliaaRegionH
namespace Go.Proofs.Ytffnadnndmmliaa
open Go.RowKit

/-- A world that meets S. -/
structure Hw (S : World → Prop) where
  w : World
  ok : S w
theorem wp_region_held {P : Program} {S : World → Prop} {id : Nat} {Q : Exit → Act → World → Prop} {a : Act} {w : World} {l : List Oper} (hm : P.follows .mixedOrders = true) (hB : Region.lexB .any l.toArray = true) (hS : S w.drew)
    (h : wpQuiet P l.toArray (fun w' => ∃ s : Hw S, w' = s.w) (fun a' => ∀ w', (∃ s : Hw S, w' = s.w) → Q .normal a' w') l a) : (Code.region id l.toArray true).wp P Q a w :=
  wp_region_quiet (C := fun w' => ∃ s : Hw S, w' = s.w) hm hB ⟨⟨w.drew, hS⟩, rfl⟩ (by simpa using h)
theorem Calls.held {P : Program} {S : World → Prop} {f : FuncId} {args : Array Value} {v : Value} {s : Hw S} (h : Calls P f args s.w fun e w' => e = .returned v ∧ Below s.w.heap.size s.w w') (hk : ∀ w', Below s.w.heap.size s.w w' → S w') :
    Calls P f args s.w fun e w'' => e = .returned v ∧ ∃ s' : Hw S, w'' = s'.w :=
  h.mono fun _ w' ⟨he, hb⟩ => ⟨he, ⟨w', hk w' hb⟩, rfl⟩
theorem Calls.heldSame {P : Program} {S : World → Prop} {f : FuncId} {args : Array Value} {v : Value} {s : Hw S} (h : Calls P f args s.w fun e w' => e = .returned v ∧ s.w = w') :
    Calls P f args s.w fun e w'' => e = .returned v ∧ ∃ s' : Hw S, w'' = s'.w :=
  h.mono fun _ _ ⟨he, hb⟩ => ⟨he, s, hb.symm⟩
end Go.Proofs.Ytffnadnndmmliaa

namespace Go.Proofs.Ytffnadnndmmliaa
open Go.RowKit
set_option linter.unusedVariables false
/-- A slice's address: nil, or a place. -/
def Adr (a : Option Addr) (cap : Nat) : Prop := (a = none ∧ cap = 0) ∨ ∃ b off, a = some ⟨b, off, none⟩
theorem add_offB (b off j : Nat) : (⟨b, off, none⟩ : Addr).add j = ⟨b, off + j, none⟩ := by unfold Addr.add; split <;> simp_all
theorem own_laterB {B e size n : Nat} {w w' : World} {v : Value} {xs : List Value} (h : w.ownsRow B e size v n xs) (hb : Below w.heap.size w w') : w'.ownsRow B e size v n xs := by
  refine ⟨h.1, ?_⟩
  rcases h.2 with h0 | ⟨g, cap, cur, e, hg, hh, rest⟩
  · exact .inl h0
  · exact .inr ⟨g, cap, cur, e, hg, (hb.block g (Array.getElem?_eq_some_iff.1 hh).1).trans hh, rest⟩
theorem gb_reflB (w : World) (r : Option Nat) : w.grownBy w r := ⟨rfl, rfl, rfl, Nat.le_refl _, fun _ _ _ => rfl⟩
theorem gb_setB {w w' : World} {g : Nat} (h : w.grownBy w' (some g)) (j : Nat) (u : Value) : w.grownBy (w'.setCell ⟨g, j, none⟩ u) (some g) :=
  ⟨h.os, h.tape, h.output, by simpa using h.size, fun k hk hne => (Below.heap_setCell _ _ _ _ (by simpa using hne)).trans (h.block k hk hne)⟩
theorem cell_grownB {w w' : World} {r : Option Nat} {b j : Nat} {u : Value} (hg : w.grownBy w' r) (hb : b < w.heap.size) (hne : r ≠ some b) (h : w.cell? ⟨b, j, none⟩ = some u) : w'.cell? ⟨b, j, none⟩ = some u := by
  rw [World.cell?_of_block (w := w) (hg.block b hb (fun e => hne e.symm))]; exact h
theorem below_classB {B : Nat} {w wr : World} (h : Below B w wr) (hs : B ≤ w.heap.size) : ∃ S : World → Prop, S wr.drew ∧ Nonempty (Hw S) ∧ Hid ((∀ (s : Hw S) w', Below s.w.heap.size s.w w' → S w') ∧ (∀ w', S w' → Below B w w')) :=
  ⟨Below B w, h.drew, ⟨⟨wr.drew, h.drew⟩⟩, ⟨fun s _ h1 => s.ok.trans (h1.mono (Nat.le_trans hs s.ok.size)), fun _ h => h⟩⟩
theorem below_dnB {B : Nat} {w w' : World} (h : Below B w w') (n : Nat) : Below B w (w'.drewN n) := ⟨h.os, h.tape, h.output, h.size, h.block⟩
end Go.Proofs.Ytffnadnndmmliaa

namespace Go.Proofs.Ytffnadnndmmliaa
open Go.RowKit
set_option linter.unusedVariables false
section
variable {P : Program} {ops : Array Oper} {C : World → Prop}
/-- Whatever order of the first ones is picked from here on; behind them R. -/
def wpAnyM (P : Program) (ops : Array Oper) (C : World → Prop) (R : Array Bool → Act → Prop) : Nat → Array Bool → Act → Prop
  | 0, listed, a => R listed a
  | fuel + 1, listed, a => Region.ready .any ops listed ≠ [] ∧ ∀ i ∈ Region.ready .any ops listed, qOp P ops C i (wpAnyM P ops C R fuel (listed.setIfInBounds i true)) a
theorem wpAny_of_M {R : Array Bool → Act → Prop} {Q : Exit → Act → World → Prop} {f : Nat} (hR : ∀ listed a w, C w → R listed a → wpAny P .any ops Q f listed a w) : ∀ (fuel : Nat) (listed : Array Bool) (a : Act) (w : World), C w →
    wpAnyM P ops C R fuel listed a → wpAny P .any ops Q (fuel + f) listed a w
  | 0, _, _, _, hw, h => by rw [Nat.zero_add]; exact hR _ _ _ hw h
  | fuel + 1, _, _, _, hw, h => by
    rw [Nat.add_right_comm]
    exact ⟨fun h0 => absurd h0 h.1, fun i hi => wpOp_of_qOp hw (fun a' w' hw' => wpAny_of_M hR fuel _ a' w' hw') (h.2 i hi)⟩
/-- The operations behind wait for all the first ones. -/
def tailB (ops : Array Oper) (m : Nat) : Bool :=
  (List.range ops.size).all fun t => decide (t < m) || ((List.range m).all fun i => match ops[t]? with | some o => o.after.any fun e => Region.binds .any e && e.on == i | none => false)
theorem tail_ready {m t : Nat} {listed : Array Bool} (h : tailB ops m = true) (hr : t ∈ Region.ready .any ops listed) (hu : unlH listed m ≠ 0) : t < m := by
  obtain ⟨h0, o, ho, hall⟩ := mem_ready.1 hr
  have hts : t < ops.size := (Array.getElem?_eq_some_iff.1 ho).1
  have h1 := (List.all_eq_true.1 h) t (List.mem_range.2 hts)
  rw [Bool.or_eq_true] at h1
  rcases h1 with h1 | h1
  · simpa using h1
  · refine absurd ?_ hu
    unfold unlH
    rw [List.length_eq_zero_iff, List.filter_eq_nil_iff]
    intro i hi
    have h2 := (List.all_eq_true.1 h1) i hi
    rw [ho] at h2
    obtain ⟨e, he, hb⟩ := Array.any_eq_true'.1 h2
    rw [Bool.and_eq_true, beq_iff_eq] at hb
    have := hall e he hb.1
    rw [hb.2] at this
    simp only [this, Bool.not_true, Bool.false_eq_true, not_false_eq_true]
theorem unl_one {x : Array Bool} {m i j : Nat} (hi : i < m) (hj : j < m) (hsi : i < x.size) (h1 : x.getD i false = false) (h2 : x.getD j false = false) (hu : unlH x m = 1) : j = i := by
  have h3 := unlH_set hi hsi h1
  have h4 : unlH (x.setIfInBounds i true) m = 0 := by omega
  have h5 := unlH_zero h4 j hj
  rw [getD_setB] at h5
  by_cases e : i = j
  · exact e.symm
  · rw [if_neg e, h2] at h5; cases h5
theorem wpAnyM_first {R : Array Bool → Act → Prop} {m i : Nat} {oi : Oper} {v : Value} (hm : m ≤ ops.size) (hT : tailB ops m = true) (hi : ops[i]? = some oi) (him : i < m) (hsel : ∀ (j : Nat) (o : Oper) cs b, ops[j]? = some o → o.op ≠ .select cs b) :
    ∀ (fuel : Nat) (listed : Array Bool) (a : Act), listed.size = ops.size → unlH listed m = fuel + 1 →
      (∀ j oj, ops[j]? = some oj → j ≠ i → listed.getD j true = false → (∀ e ∈ oj.after, Region.binds .any e = true → e.on ≠ i) → oi.apart ops oj = true) →
      i ∈ Region.ready .any ops listed → YieldsIn P ops C oi v a →
      wpAnyM P ops C R fuel (listed.setIfInBounds i true) (a.put oi.dst v) → wpAnyM P ops C R (fuel + 1) listed a := by
  intro fuel
  induction fuel with
  | zero =>
    intro listed a hsz hu _ hr hy H
    refine ⟨fun h => (by rw [h] at hr; cases hr), fun j hj => ?_⟩
    have hjm := tail_ready hT hj (by omega)
    have hji : j = i := unl_one him hjm (by omega) (un_both (mem_ready.1 hr).1) (un_both (mem_ready.1 hj).1) (by omega)
    subst hji
    exact hy.qOp hi H
  | succ fuel ih =>
    intro listed a hsz hu hfree hr hy H
    refine ⟨fun h => (by rw [h] at hr; cases hr), fun j hj => ?_⟩
    by_cases hji : j = i
    · subst hji; exact hy.qOp hi H
    · have h1 := H.2 j (ready_mono hj hji)
      have hjm := tail_ready hT hj (by omega)
      obtain ⟨hjun, oj, hoj, hall⟩ := mem_ready.1 hj
      have hnot : ∀ e ∈ oj.after, Region.binds .any e = true → e.on ≠ i := fun e he hb heq => by
        have h1 := hall e he hb
        have h0 := un_both (mem_ready.1 hr).1
        rw [heq, h0] at h1
        cases h1
      have h2 := qOp_put hoj (hfree j oj hoj hji hjun hnot) (fun cs b => hsel i oi cs b hi) (fun cs b => hsel j oj cs b hoj) hy h1
      have hfree' : ∀ k ok, ops[k]? = some ok → k ≠ i → (listed.setIfInBounds j true).getD k true = false →
          (∀ e ∈ ok.after, Region.binds .any e = true → e.on ≠ i) → oi.apart ops ok = true := fun k ok hk hki hun hno => by
        refine hfree k ok hk hki ?_ hno
        by_cases hjk : j = k
        · subst hjk; exact hjun
        · rw [getD_set_ne true hjk] at hun; exact hun
      have hu' : unlH (listed.setIfInBounds j true) m = fuel + 1 := by have := unlH_set hjm (by omega) (un_both hjun); omega
      refine qOp_mono (fun a' h3 => ih (listed.setIfInBounds j true) a' (by simpa using hsz) hu' hfree' (ready_mono hr (Ne.symm hji)) h3.1 ?_) h2
      rw [Array.setIfInBounds_comm _ _ hji]
      exact h3.2
/-- The first ones may be taken in the order of the text. -/
def lexM (ops : Array Oper) : Nat → Nat → Array Bool → Bool
  | 0, _, _ => true
  | n + 1, k, listed => (Region.ready .any ops listed).contains k && Region.free .any ops listed k && lexM ops n (k + 1) (listed.setIfInBounds k true)
def setM : Nat → Nat → Array Bool → Array Bool
  | 0, _, listed => listed
  | n + 1, k, listed => setM n (k + 1) (listed.setIfInBounds k true)
theorem wpAnyM_lex {R : Array Bool → Act → Prop} {m : Nat} (hm : m ≤ ops.size) (hT : tailB ops m = true) (hs : Region.noSelect ops = true) : ∀ (l : List Oper) (k : Nat) (listed : Array Bool) (a : Act), (∀ j, j < l.length → l[j]? = ops[k + j]?) →
    k + l.length = m → listed.size = ops.size → unlH listed m = l.length → lexM ops l.length k listed = true → wpQuiet P ops C (R (setM l.length k listed)) l a → wpAnyM P ops C R l.length listed a
  | [], _, _, _, _, _, _, _, _, h => h
  | o :: l, k, listed, a, hl, hk, hsz, hu, hB, h => by
    have h0 : ops[k]? = some o := by simpa using (hl 0 (by simp)).symm
    simp only [List.length_cons, lexM, Bool.and_eq_true] at hB
    obtain ⟨⟨hr, hf⟩, hB'⟩ := hB
    have hst : qOp P ops C k (wpQuiet P ops C (R (setM (l.length + 1) k listed)) l) a := by unfold qOp; simp only [h0]; exact h
    obtain ⟨v, hy, hK⟩ := yieldsIn_of_qOp h0 hst
    have hr' : k ∈ Region.ready .any ops listed := by simpa using hr
    simp only [List.length_cons] at hk hu
    refine wpAnyM_first hm hT h0 (by omega) (Region.noSelect_spec hs) l.length listed a hsz hu (Region.free_spec h0 hf) hr' hy ?_
    exact wpAnyM_lex hm hT hs l (k + 1) _ _ (fun j hj => by have := hl (j + 1) (by simpa using hj); simpa [Nat.add_assoc, Nat.add_comm 1 j] using this) (by omega) (by simpa using hsz)
      (by have := unlH_set (x := listed) (m := m) (i := k) (by omega) (by omega) (un_both (mem_ready.1 hr').1); omega) hB' hK
end
/-- The region: its first m operations quiet, then the others. -/
theorem wp_region_front {P : Program} {S : World → Prop} {id : Nat} {Q : Exit → Act → World → Prop} {a : Act} {w : World} {l : List Oper} (m : Nat) (L : Array Bool) (hm : P.follows .mixedOrders = true)
    (hB : (decide (m ≤ l.length) && (tailB l.toArray m && (Region.noSelect l.toArray && lexM l.toArray m 0 (Array.replicate l.length false)))) = true) (hL : setM m 0 (Array.replicate l.length false) = L) (hS : S w.drew)
    (h : wpQuiet P l.toArray (fun w' => ∃ s : Hw S, w' = s.w) (fun a' => ∀ w', (∃ s : Hw S, w' = s.w) → wpAny P .any l.toArray Q (l.length - m) L a' w') (l.take m) a) : (Code.region id l.toArray true).wp P Q a w := by
  simp only [Bool.and_eq_true, decide_eq_true_eq] at hB
  obtain ⟨hml, hT, hs, hlx⟩ := hB
  have hlen : (l.take m).length = m := by simp; omega
  have hk := wpAnyM_lex (P := P) (ops := l.toArray) (C := fun w' => ∃ s : Hw S, w' = s.w) (R := fun listed a' => ∀ w', (∃ s : Hw S, w' = s.w) → wpAny P .any l.toArray Q (l.length - m) listed a' w') (m := m) (by simpa using hml) hT hs (l.take m) 0 (Array.replicate l.length false) a
    (fun j hj => by rw [hlen] at hj; rw [List.getElem?_take_of_lt hj]; simp) (by omega) (by simp) (by rw [unlH_start]; omega) (by rw [hlen]; exact hlx) (by rw [hlen, hL]; exact h)
  refine wp_region_any hm ?_
  have := wpAny_of_M (P := P) (ops := l.toArray) (C := fun w' => ∃ s : Hw S, w' = s.w) (Q := Q) (f := l.length - m) (fun listed a' w' hw hr => hr w' hw) (l.take m).length (Array.replicate l.length false) a { w with drawn := w.drawn + 1 } ⟨⟨w.drew, hS⟩, rfl⟩ hk
  rw [hlen, Nat.add_sub_cancel' hml] at this
  simpa using this
end Go.Proofs.Ytffnadnndmmliaa
