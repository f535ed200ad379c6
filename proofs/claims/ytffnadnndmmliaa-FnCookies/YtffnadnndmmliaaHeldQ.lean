/- One walk, in the order of the text, of a region that draws its order, where what is held of the world (S) is kept by every operation and every callee (they may make memory): the library's theorem at the class of the worlds that meet S. -/
import Derived.WalkKit
import Derived.WalkLawsBesides
import Derived.Deep.QuietTactic
import Derived.BigQuiet
import Derived.Test.YtffnadnndmmliaaRegionH
import Derived.Test.YtffnadnndmmliaaPlainTerm
import Derived.WalkSpells
import Derived.Deep.RegionHeld3
import Derived.Deep.RegionWith
namespace Go.Proofs.Ytffnadnndmmliaa
open Go.RowKit

/-- A world that meets S. -/
structure Hw (S : World → Prop) where
  w : World
  ok : S w
theorem wp_region_held {P : Program} {S : World → Prop} {id : Nat} {Q : Exit → Act → World → Prop} {a : Act} {w : World} {l : List Oper} (hm : P.follows .mixedOrders = true) (hB : Region.lexB .any l.toArray = true) (hS : S w.drew)
    (h : wpQuiet P l.toArray (fun w' => ∃ s : Hw S, w' = s.w) (fun a' => ∀ w', (∃ s : Hw S, w' = s.w) → Q .normal a' w') l a) : (Code.region id l.toArray true).wp P Q a w :=
  wp_region_quiet (C := fun w' => ∃ s : Hw S, w' = s.w) hm hB ⟨⟨w.drew, hS⟩, rfl⟩ (by simpa using h)
theorem Calls.held {P : Program} {S : World → Prop} {f : FuncId} {args : Array Value} {v : Value} {s : Hw S} (h : Calls P f args s.w fun e w' => e = .returned v ∧ Below s.w.heap.size s.w w') (hk : ∀ w', Below s.w.heap.size s.w w' → S w') :
    Calls P f args s.w fun e w'' => e = .returned v ∧ ∃ s' : Hw S, w'' = s'.w :=
  h.mono fun _ w' ⟨he, hb⟩ => ⟨he, ⟨w', hk w' hb⟩, rfl⟩
theorem Calls.heldSame {P : Program} {S : World → Prop} {f : FuncId} {args : Array Value} {v : Value} {s : Hw S} (h : Calls P f args s.w fun e w' => e = .returned v ∧ s.w = w') :
    Calls P f args s.w fun e w'' => e = .returned v ∧ ∃ s' : Hw S, w'' = s'.w :=
  h.mono fun _ _ ⟨he, hb⟩ => ⟨he, s, hb.symm⟩
end Go.Proofs.Ytffnadnndmmliaa

namespace Go.Proofs.Ytffnadnndmmliaa
open Go.RowKit
set_option linter.unusedVariables false
section
variable {P : Program} {ops : Array Oper} {C : World → Prop}
/-- Whatever order of the first ones is picked from here on; behind them R. -/
def wpAnyM (P : Program) (ops : Array Oper) (C : World → Prop) (R : Array Bool → Act → Prop) : Nat → Array Bool → Act → Prop
  | 0, listed, a => R listed a
  | fuel + 1, listed, a => Region.ready .any ops listed ≠ [] ∧ ∀ i ∈ Region.ready .any ops listed, qOp P ops C i (wpAnyM P ops C R fuel (listed.setIfInBounds i true)) a
theorem wpAny_of_M {R : Array Bool → Act → Prop} {Q : Exit → Act → World → Prop} {f : Nat} (hR : ∀ listed a w, C w → R listed a → wpAny P .any ops Q f listed a w) : ∀ (fuel : Nat) (listed : Array Bool) (a : Act) (w : World), C w →
    wpAnyM P ops C R fuel listed a → wpAny P .any ops Q (fuel + f) listed a w
  | 0, _, _, _, hw, h => by rw [Nat.zero_add]; exact hR _ _ _ hw h
  | fuel + 1, _, _, _, hw, h => by
    rw [Nat.add_right_comm]
    exact ⟨fun h0 => absurd h0 h.1, fun i hi => wpOp_of_qOp hw (fun a' w' hw' => wpAny_of_M hR fuel _ a' w' hw') (h.2 i hi)⟩
/-- The operations behind wait for all the first ones. -/
def tailB (ops : Array Oper) (m : Nat) : Bool :=
  (List.range ops.size).all fun t => decide (t < m) || ((List.range m).all fun i => match ops[t]? with | some o => o.after.any fun e => Region.binds .any e && e.on == i | none => false)
theorem tail_ready {m t : Nat} {listed : Array Bool} (h : tailB ops m = true) (hr : t ∈ Region.ready .any ops listed) (hu : unlH listed m ≠ 0) : t < m := by
  obtain ⟨h0, o, ho, hall⟩ := mem_ready.1 hr
  have hts : t < ops.size := (Array.getElem?_eq_some_iff.1 ho).1
  have h1 := (List.all_eq_true.1 h) t (List.mem_range.2 hts)
  rw [Bool.or_eq_true] at h1
  rcases h1 with h1 | h1
  · simpa using h1
  · refine absurd ?_ hu
    unfold unlH
    rw [List.length_eq_zero_iff, List.filter_eq_nil_iff]
    intro i hi
    have h2 := (List.all_eq_true.1 h1) i hi
    rw [ho] at h2
    obtain ⟨e, he, hb⟩ := Array.any_eq_true'.1 h2
    rw [Bool.and_eq_true, beq_iff_eq] at hb
    have := hall e he hb.1
    rw [hb.2] at this
    simp only [this, Bool.not_true, Bool.false_eq_true, not_false_eq_true]
theorem unl_one {x : Array Bool} {m i j : Nat} (hi : i < m) (hj : j < m) (hsi : i < x.size) (h1 : x.getD i false = false) (h2 : x.getD j false = false) (hu : unlH x m = 1) : j = i := by
  have h3 := unlH_set hi hsi h1
  have h4 : unlH (x.setIfInBounds i true) m = 0 := by omega
  have h5 := unlH_zero h4 j hj
  rw [getD_setB] at h5
  by_cases e : i = j
  · exact e.symm
  · rw [if_neg e, h2] at h5; cases h5
theorem wpAnyM_first {R : Array Bool → Act → Prop} {m i : Nat} {oi : Oper} {v : Value} (hm : m ≤ ops.size) (hT : tailB ops m = true) (hi : ops[i]? = some oi) (him : i < m) (hsel : ∀ (j : Nat) (o : Oper) cs b, ops[j]? = some o → o.op ≠ .select cs b) :
    ∀ (fuel : Nat) (listed : Array Bool) (a : Act), listed.size = ops.size → unlH listed m = fuel + 1 →
      (∀ j oj, ops[j]? = some oj → j ≠ i → listed.getD j true = false → (∀ e ∈ oj.after, Region.binds .any e = true → e.on ≠ i) → oi.apart ops oj = true) →
      i ∈ Region.ready .any ops listed → YieldsIn P ops C oi v a →
      wpAnyM P ops C R fuel (listed.setIfInBounds i true) (a.put oi.dst v) → wpAnyM P ops C R (fuel + 1) listed a := by
  intro fuel
  induction fuel with
  | zero =>
    intro listed a hsz hu _ hr hy H
    refine ⟨fun h => (by rw [h] at hr; cases hr), fun j hj => ?_⟩
    have hjm := tail_ready hT hj (by omega)
    have hji : j = i := unl_one him hjm (by omega) (un_both (mem_ready.1 hr).1) (un_both (mem_ready.1 hj).1) (by omega)
    subst hji
    exact hy.qOp hi H
  | succ fuel ih =>
    intro listed a hsz hu hfree hr hy H
    refine ⟨fun h => (by rw [h] at hr; cases hr), fun j hj => ?_⟩
    by_cases hji : j = i
    · subst hji; exact hy.qOp hi H
    · have h1 := H.2 j (ready_mono hj hji)
      have hjm := tail_ready hT hj (by omega)
      obtain ⟨hjun, oj, hoj, hall⟩ := mem_ready.1 hj
      have hnot : ∀ e ∈ oj.after, Region.binds .any e = true → e.on ≠ i := fun e he hb heq => by
        have h1 := hall e he hb
        have h0 := un_both (mem_ready.1 hr).1
        rw [heq, h0] at h1
        cases h1
      have h2 := qOp_put hoj (hfree j oj hoj hji hjun hnot) (fun cs b => hsel i oi cs b hi) (fun cs b => hsel j oj cs b hoj) hy h1
      have hfree' : ∀ k ok, ops[k]? = some ok → k ≠ i → (listed.setIfInBounds j true).getD k true = false →
          (∀ e ∈ ok.after, Region.binds .any e = true → e.on ≠ i) → oi.apart ops ok = true := fun k ok hk hki hun hno => by
        refine hfree k ok hk hki ?_ hno
        by_cases hjk : j = k
        · subst hjk; exact hjun
        · rw [getD_set_ne true hjk] at hun; exact hun
      have hu' : unlH (listed.setIfInBounds j true) m = fuel + 1 := by have := unlH_set hjm (by omega) (un_both hjun); omega
      refine qOp_mono (fun a' h3 => ih (listed.setIfInBounds j true) a' (by simpa using hsz) hu' hfree' (ready_mono hr (Ne.symm hji)) h3.1 ?_) h2
      rw [Array.setIfInBounds_comm _ _ hji]
      exact h3.2
/-- The first ones may be taken in the order of the text. -/
def lexM (ops : Array Oper) : Nat → Nat → Array Bool → Bool
  | 0, _, _ => true
  | n + 1, k, listed => (Region.ready .any ops listed).contains k && Region.free .any ops listed k && lexM ops n (k + 1) (listed.setIfInBounds k true)
def setM : Nat → Nat → Array Bool → Array Bool
  | 0, _, listed => listed
  | n + 1, k, listed => setM n (k + 1) (listed.setIfInBounds k true)
theorem wpAnyM_lex {R : Array Bool → Act → Prop} {m : Nat} (hm : m ≤ ops.size) (hT : tailB ops m = true) (hs : Region.noSelect ops = true) : ∀ (l : List Oper) (k : Nat) (listed : Array Bool) (a : Act), (∀ j, j < l.length → l[j]? = ops[k + j]?) →
    k + l.length = m → listed.size = ops.size → unlH listed m = l.length → lexM ops l.length k listed = true → wpQuiet P ops C (R (setM l.length k listed)) l a → wpAnyM P ops C R l.length listed a
  | [], _, _, _, _, _, _, _, _, h => h
  | o :: l, k, listed, a, hl, hk, hsz, hu, hB, h => by
    have h0 : ops[k]? = some o := by simpa using (hl 0 (by simp)).symm
    simp only [List.length_cons, lexM, Bool.and_eq_true] at hB
    obtain ⟨⟨hr, hf⟩, hB'⟩ := hB
    have hst : qOp P ops C k (wpQuiet P ops C (R (setM (l.length + 1) k listed)) l) a := by unfold qOp; simp only [h0]; exact h
    obtain ⟨v, hy, hK⟩ := yieldsIn_of_qOp h0 hst
    have hr' : k ∈ Region.ready .any ops listed := by simpa using hr
    simp only [List.length_cons] at hk hu
    refine wpAnyM_first hm hT h0 (by omega) (Region.noSelect_spec hs) l.length listed a hsz hu (Region.free_spec h0 hf) hr' hy ?_
    exact wpAnyM_lex hm hT hs l (k + 1) _ _ (fun j hj => by have := hl (j + 1) (by simpa using hj); simpa [Nat.add_assoc, Nat.add_comm 1 j] using this) (by omega) (by simpa using hsz)
      (by have := unlH_set (x := listed) (m := m) (i := k) (by omega) (by omega) (un_both (mem_ready.1 hr').1); omega) hB' hK
end
/-- The region: its first m operations quiet, then the others. -/
theorem wp_region_front {P : Program} {S : World → Prop} {id : Nat} {Q : Exit → Act → World → Prop} {a : Act} {w : World} {l : List Oper} (m : Nat) (L : Array Bool) (hm : P.follows .mixedOrders = true)
    (hB : (decide (m ≤ l.length) && (tailB l.toArray m && (Region.noSelect l.toArray && lexM l.toArray m 0 (Array.replicate l.length false)))) = true) (hL : setM m 0 (Array.replicate l.length false) = L) (hS : S w.drew)
    (h : wpQuiet P l.toArray (fun w' => ∃ s : Hw S, w' = s.w) (fun a' => ∀ w', (∃ s : Hw S, w' = s.w) → wpAny P .any l.toArray Q (l.length - m) L a' w') (l.take m) a) : (Code.region id l.toArray true).wp P Q a w := by
  simp only [Bool.and_eq_true, decide_eq_true_eq] at hB
  obtain ⟨hml, hT, hs, hlx⟩ := hB
  have hlen : (l.take m).length = m := by simp; omega
  have hk := wpAnyM_lex (P := P) (ops := l.toArray) (C := fun w' => ∃ s : Hw S, w' = s.w) (R := fun listed a' => ∀ w', (∃ s : Hw S, w' = s.w) → wpAny P .any l.toArray Q (l.length - m) listed a' w') (m := m) (by simpa using hml) hT hs (l.take m) 0 (Array.replicate l.length false) a
    (fun j hj => by rw [hlen] at hj; rw [List.getElem?_take_of_lt hj]; simp) (by omega) (by simp) (by rw [unlH_start]; omega) (by rw [hlen]; exact hlx) (by rw [hlen, hL]; exact h)
  refine wp_region_any hm ?_
  have := wpAny_of_M (P := P) (ops := l.toArray) (C := fun w' => ∃ s : Hw S, w' = s.w) (Q := Q) (f := l.length - m) (fun listed a' w' hw hr => hr w' hw) (l.take m).length (Array.replicate l.length false) a { w with drawn := w.drawn + 1 } ⟨⟨w.drew, hS⟩, rfl⟩ hk
  rw [hlen, Nat.add_sub_cancel' hml] at this
  simpa using this
end Go.Proofs.Ytffnadnndmmliaa

namespace Go.Proofs.Ytffnadnndmmliaa
open Go.RowKit

theorem specOk_no (a : Option Addr) (cap : Nat) (ns : List Nd) (k : Int) (w : World) (hl : ns.length ≤ 1048576) (h : inB k 0 ((ns.length : Int) - 1) = false) :
    Calls Try.prog 38 #[.agg #[.slice a ns.length cap], .int .i64 k] w fun e w' => e = .returned (.bool false) ∧ Below w.heap.size w w' := by
  go_enter Try.func38, Try.ntmps38
  go_wp2_with fail
  refine (specIn_any _ _ _ _).mono ?_
  rintro e w' ⟨rfl, rfl⟩
  go_wp2
  go_ret
  exact ⟨rfl, (Below.refl _ _).alloc (Nat.le_refl _) _⟩
theorem specOk_yes (a : Option Addr) (cap : Nat) (ns : List Nd) (i : Nat) (w : World) (hl : ns.length ≤ 1048576) (hi : i < ns.length) (hr : RowN w.heap.size w a ns) :
    Calls Try.prog 38 #[.agg #[.slice a ns.length cap], .int .i64 (i : Int)] w fun e w' => e = .returned (.bool (nodeB (ns.getD i Nd.zero) i)) ∧ Below w.heap.size w w' := by
  have h : inB (i : Int) 0 ((ns.length : Int) - 1) = true := by unfold inB; simp; omega
  obtain ⟨b, off, rfl⟩ := hr.addr hi
  obtain ⟨hb, c0, c1, c2, c3⟩ := hr.at (Below.refl _ _) hi
  have hi0 : (0 : Int) ≤ (i : Int) := by omega
  have hi1 : (i : Int) < (ns.length : Int) := by omega
  clear hr
  generalize ns.getD i Nd.zero = y at c0 c1 c2 c3 ⊢
  go_enter Try.func38, Try.ntmps38
  go_wp2_with fail
  refine (specIn_any _ _ _ _).mono ?_
  rintro e w' ⟨rfl, rfl⟩
  go_wp2_with fail
  refine (specNode_any y i _ (by omega) (by omega)).mono ?_
  rintro e w' ⟨rfl, hb1⟩
  go_wp2
  go_ret
  exact ⟨rfl, ((Below.refl _ _).alloc (Nat.le_refl _) _).trans (hb1.mono (by simp))⟩
theorem specOk_any (a : Option Addr) (cap : Nat) (ns : List Nd) (k : Int) (w : World) (hl : ns.length ≤ 1048576) (hr : RowN w.heap.size w a ns) :
    Calls Try.prog 38 #[.agg #[.slice a ns.length cap], .int .i64 k] w fun e w' => e = .returned (.bool (okAt ns k)) ∧ Below w.heap.size w w' := by
  cases h : inB k 0 ((ns.length : Int) - 1) with
  | false =>
    have e : okAt ns k = false := by unfold okAt; rw [h]; rfl
    rw [e]
    exact specOk_no a cap ns k w hl h
  | true =>
    have h' := h
    unfold inB at h'
    simp at h'
    obtain ⟨i, rfl⟩ : ∃ i : Nat, k = (i : Int) := ⟨k.toNat, by omega⟩
    have e : okAt ns (i : Int) = nodeB (ns.getD i Nd.zero) i := by unfold okAt; rw [h]; simp
    rw [e]
    exact specOk_yes a cap ns i w hl (by omega) hr

theorem all_drop (ns : List Nd) (i : Nat) (h : i < ns.length) : allFrom ns (ns.drop i) i = (nodeB (ns.getD i Nd.zero) i && (decide (findN ns (ns.getD i Nd.zero) = i) && allFrom ns (ns.drop (i + 1)) (i + 1))) := by
  rw [List.drop_eq_getElem_cons h, allFrom]
  rw [List.getD_eq_getElem?_getD, List.getElem?_eq_getElem h]; rfl
theorem all_end (ns : List Nd) : allFrom ns (ns.drop ns.length) ns.length = true := by rw [List.drop_length]; rfl
theorem RowN.later {w w' : World} {a : Option Addr} {ns : List Nd} {B : Nat} (h : RowN B w a ns) (hb : Below B w w') : RowN B w' a ns := by
  rcases h with h0 | ⟨b, off, e, hlt, hc⟩
  · exact .inl h0
  · refine .inr ⟨b, off, e, hlt, fun i hi => ?_⟩
    obtain ⟨c0, c1, c2, c3⟩ := hc i hi
    exact ⟨(hb.cell hlt).trans c0, (hb.cell hlt).trans c1, (hb.cell hlt).trans c2, (hb.cell hlt).trans c3⟩
theorem RowN.wide {w : World} {a : Option Addr} {ns : List Nd} {B B' : Nat} (h : RowN B w a ns) (hB : B ≤ B') : RowN B' w a ns := by
  rcases h with h0 | ⟨b, off, e, hlt, hc⟩
  · exact .inl h0
  · exact .inr ⟨b, off, e, Nat.lt_of_lt_of_le hlt hB, hc⟩
theorem RowN.grown {w w' : World} {a : Option Addr} {ns : List Nd} (h : RowN w.heap.size w a ns) (hb : Below w.heap.size w w') : RowN w'.heap.size w' a ns := (h.later hb).wide hb.size

theorem specArena_long (a : Option Addr) (cap : Nat) (ns : List Nd) (w : World) (hl : ns.length ≤ 1048576) (h : 3000 < ns.length) :
    Calls Try.prog 39 #[.agg #[.slice a ns.length cap]] w fun e w' => e = .returned (.bool (arenaB ns)) ∧ Below w.heap.size w w' := by
  have HV : Hid (arenaB ns = false) := by show _ = _; unfold arenaB; rw [decide_eq_false (by omega)]; rfl
  have h' : (3000 : Int) < (ns.length : Int) := by omega
  go_enter Try.func39, Try.ntmps39
  go_wp2
  go_ret
  exact ⟨by rw [HV.out]; rfl, (Below.refl _ _).alloc (Nat.le_refl _) _⟩
/-- What a walk over an arena behind a struct of its own holds, in whatever later world. -/
def HeldA (w : World) (b off k : Nat) (y : Nd) (v : Value) (w' : World) : Prop := w'.cell? ⟨w.heap.size, 0, none⟩ = some v ∧ w'.cell? ⟨b, off + k * 4, none⟩ = some (.int .i64 y.k) ∧ w'.cell? ⟨b, off + k * 4 + 1, none⟩ = some (.int .i64 y.n) ∧ w'.cell? ⟨b, off + k * 4 + 2, none⟩ = some (.int .i64 y.a) ∧ w'.cell? ⟨b, off + k * 4 + 3, none⟩ = some (.int .i64 y.b) ∧ w.heap.size < w'.heap.size ∧ Below w.heap.size w w'
theorem heldA_next {w w1 w2 : World} {b off k : Nat} {y : Nd} {v : Value} (hb : b < w.heap.size) (h : HeldA w b off k y v w1) (h1 : Below w1.heap.size w1 w2) : HeldA w b off k y v w2 := by
  obtain ⟨e0, e1, e2, e3, e4, e5, e6⟩ := h
  have hb' : b < w1.heap.size := Nat.lt_trans hb e5
  exact ⟨(h1.cell (p := ⟨w.heap.size, 0, none⟩) e5).trans e0, (h1.cell (p := ⟨b, off + k * 4, none⟩) hb').trans e1, (h1.cell (p := ⟨b, off + k * 4 + 1, none⟩) hb').trans e2, (h1.cell (p := ⟨b, off + k * 4 + 2, none⟩) hb').trans e3, (h1.cell (p := ⟨b, off + k * 4 + 3, none⟩) hb').trans e4, Nat.lt_of_lt_of_le e5 h1.size, e6.trans (h1.mono e6.size)⟩
theorem heldA_row {w w1 : World} {b off k : Nat} {y : Nd} {v : Value} {a : Option Addr} {ns : List Nd} (hr : RowN w.heap.size w a ns) (h : HeldA w b off k y v w1) : RowN w1.heap.size w1 a ns := hr.grown h.2.2.2.2.2.2
theorem heldA_class {w wr : World} {b off k : Nat} {y : Nd} {v : Value} {a : Option Addr} {ns : List Nd} (hb : b < w.heap.size) (hr : RowN w.heap.size w a ns) (h : HeldA w b off k y v wr) :
    ∃ S : World → Prop, S wr ∧ Nonempty (Hw S) ∧ (∀ s : Hw S, s.w.cell? ⟨w.heap.size, 0, none⟩ = some v) ∧ (∀ s : Hw S, s.w.cell? ⟨b, off + k * 4, none⟩ = some (.int .i64 y.k)) ∧ (∀ s : Hw S, s.w.cell? ⟨b, off + k * 4 + 1, none⟩ = some (.int .i64 y.n)) ∧ (∀ s : Hw S, s.w.cell? ⟨b, off + k * 4 + 2, none⟩ = some (.int .i64 y.a)) ∧ (∀ s : Hw S, s.w.cell? ⟨b, off + k * 4 + 3, none⟩ = some (.int .i64 y.b)) ∧
      Hid ((∀ (s : Hw S) w', Below s.w.heap.size s.w w' → S w') ∧ (∀ s : Hw S, RowN s.w.heap.size s.w a ns) ∧ (∀ w', S w' → HeldA w b off k y v w')) :=
  ⟨HeldA w b off k y v, h, ⟨⟨wr, h⟩⟩, fun s => s.ok.1, fun s => s.ok.2.1, fun s => s.ok.2.2.1, fun s => s.ok.2.2.2.1, fun s => s.ok.2.2.2.2.1,
    ⟨fun s _ h1 => heldA_next hb s.ok h1, fun s => heldA_row hr s.ok, fun _ h => h⟩⟩
set_option maxHeartbeats 1600000 in
theorem specArena_short (a : Option Addr) (cap : Nat) (ns : List Nd) (w : World) (h : ns.length ≤ 3000) (hr : RowN w.heap.size w a ns) :
    Calls Try.prog 39 #[.agg #[.slice a ns.length cap]] w fun e w' => e = .returned (.bool (arenaB ns)) ∧ Below w.heap.size w w' := by
  have HV : Hid (arenaB ns = allFrom ns ns 0) := by show _ = _; unfold arenaB; rw [decide_eq_true (by omega)]; rfl
  have h' : ¬ (3000 : Int) < (ns.length : Int) := by omega
  have HR : Hid (RowN w.heap.size w a ns) := hr
  clear hr
  go_enter Try.func39, Try.ntmps39
  go_wp2
  go_loopw [3] (fun i wr => ∃ k : Nat, k ≤ ns.length ∧ i = .int .i64 (k : Int) ∧ Hid (allFrom ns (ns.drop k) k = allFrom ns ns 0) ∧ Below w.heap.size w wr ∧ wr.cell? ⟨w.heap.size, 0, none⟩ = some (.slice a ns.length cap) ∧ w.heap.size < wr.heap.size)
    (fun i _ => ns.length - (intOf i).toNat)
  case atStart => exact ⟨0, Nat.zero_le _, rfl, rfl, (Below.refl _ _).alloc (Nat.le_refl _) _, by rw [cell_of_row _ w.heap.size 0 _ _ _ (heap_alloc_new w _)]; rfl, by simp⟩
  case round =>
    obtain ⟨k, hk, rfl, HF, hbel, hown, hsz⟩ := hrel
    by_cases hlt : k < ns.length
    · obtain ⟨b, off, rfl⟩ := HR.out.addr hlt
      obtain ⟨hb, c0, c1, c2, c3⟩ := HR.out.at hbel hlt
      have HFD : Hid (_ = _) := all_drop ns k hlt
      have hi0 : (0 : Int) ≤ (k : Int) := by omega
      have hi1 : (k : Int) < (ns.length : Int) := by omega
      generalize ns.getD k Nd.zero = y at c0 c1 c2 c3 HFD
      obtain ⟨S, hS0, hNE, q0, q1, q2, q3, q4, HK⟩ := heldA_class (wr := wr.drew) (v := .slice (some ⟨b, off, none⟩) ns.length cap) hb HR.out ⟨hown, c0, c1, c2, c3, hsz, hbel.drew⟩
      clear c0 c1 c2 c3
      cases hN : nodeB y k with
      | false =>
        have HE : Hid (allFrom ns ns 0 = false) := by show _ = _; rw [← HF.out, HFD.out, hN]; rfl
        go_wp2
        refine wp_region_held (S := S) (by kernel_rfl) (by kernel_rfl) hS0 ?_
        repeat (go_big_quiet_step (first | (go_at_call 105; exact Calls.held (specNode_any y k _ (by omega) (by omega)) (HK.out.1 _)) | (go_at_call 106; exact Calls.held (specAt_any _ cap ns y _ (by omega) (HK.out.2.1 _)) (HK.out.1 _))))
        refine wpQuiet_nil ?_
        rintro _ ⟨sw, rfl⟩
        have hH := HK.out.2.2 _ sw.ok
        have hB := hH.2.2.2.2.2.2
        have hsz2 := hH.2.2.2.2.2.1
        have hcell := hH.1
        clear hH HK q0 q1 q2 q3 q4 hS0
        go_wp2
        go_ret
        exact ⟨by rw [HV.out, HE.out]; rfl, hB⟩
      | true =>
        by_cases hq : findN ns y = (k : Int)
        · have HE : Hid (allFrom ns (ns.drop (k + 1)) (k + 1) = allFrom ns ns 0) := by show _ = _; rw [← HF.out, HFD.out, hN, decide_eq_true hq]; rfl
          go_wp2
          refine wp_region_held (S := S) (by kernel_rfl) (by kernel_rfl) hS0 ?_
          repeat (go_big_quiet_step (first | (go_at_call 105; exact Calls.held (specNode_any y k _ (by omega) (by omega)) (HK.out.1 _)) | (go_at_call 106; exact Calls.held (specAt_any _ cap ns y _ (by omega) (HK.out.2.1 _)) (HK.out.1 _))))
          refine wpQuiet_nil ?_
          rintro _ ⟨sw, rfl⟩
          have hH := HK.out.2.2 _ sw.ok
          have hB := hH.2.2.2.2.2.2
          have hsz2 := hH.2.2.2.2.2.1
          have hcell := hH.1
          clear hH HK q0 q1 q2 q3 q4 hS0
          go_wp2
          go_roundw
          case rel => exact ⟨k + 1, by omega, by go_num, HE, hB, hcell, hsz2⟩
          case measure => simp [intOf]; omega
        · have hq' : (findN ns y == (k : Int)) = false := by simp [hq]
          have HE : Hid (allFrom ns ns 0 = false) := by show _ = _; rw [← HF.out, HFD.out, hN, decide_eq_false hq]; rfl
          go_wp2
          refine wp_region_held (S := S) (by kernel_rfl) (by kernel_rfl) hS0 ?_
          repeat (go_big_quiet_step (first | (go_at_call 105; exact Calls.held (specNode_any y k _ (by omega) (by omega)) (HK.out.1 _)) | (go_at_call 106; exact Calls.held (specAt_any _ cap ns y _ (by omega) (HK.out.2.1 _)) (HK.out.1 _))))
          refine wpQuiet_nil ?_
          rintro _ ⟨sw, rfl⟩
          have hH := HK.out.2.2 _ sw.ok
          have hB := hH.2.2.2.2.2.2
          have hsz2 := hH.2.2.2.2.2.1
          have hcell := hH.1
          clear hH HK q0 q1 q2 q3 q4 hS0
          go_wp2
          go_ret
          exact ⟨by rw [HV.out, HE.out]; rfl, hB⟩
    · obtain rfl : k = ns.length := by omega
      go_wp2
      go_ret
      exact ⟨by rw [HV.out, ← HF.out, all_end]; rfl, hbel⟩
theorem specArena_any (a : Option Addr) (cap : Nat) (ns : List Nd) (w : World) (hl : ns.length ≤ 1048576) (hr : RowN w.heap.size w a ns) :
    Calls Try.prog 39 #[.agg #[.slice a ns.length cap]] w fun e w' => e = .returned (.bool (arenaB ns)) ∧ Below w.heap.size w w' := by
  by_cases h : ns.length ≤ 3000
  · exact specArena_short a cap ns w h hr
  · exact specArena_long a cap ns w hl (by omega)
end Go.Proofs.Ytffnadnndmmliaa
