/- A region that draws its order, by facts that last: each operation has a fact of its own on the slots that it reads and writes, which whatever comes later keeps; whatever the order, all the facts stand at the end. -/
import Derived.WalkKit
import Derived.WalkLawsBesides
import Derived.Orders
namespace Go.Proofs.Ytecjpagnifkcaaa
open Go.RowKit
set_option linter.unusedVariables false

/-- A fact: the slots that it speaks of, and what it says of their values in a world. -/
structure Fct where
  slots : List Nat
  says : List Value → World → Prop
def Fct.at (f : Fct) (a : Act) (w : World) : Prop := f.says (f.slots.map fun t => a.tmps.getD t undef) w
/-- Every binding edge leads to an operation ahead; no guard; every slot written is there; nobody writes a slot of another's fact but ahead of it. -/
def chkB (ops : Array Oper) (fs : Array Fct) (n : Nat) : Bool :=
  ops.size == fs.size && (List.range ops.size).all fun k =>
    match ops[k]?, fs[k]? with
    | some o, some f => o.guard.isNone && (o.after.all fun e => !Region.binds .any e || decide (e.on < k)) && (match o.dst with | some d => decide (d < n) | none => true) &&
        (List.range ops.size).all fun i => i == k || (match (ops[i]?).bind (·.dst) with | some d => !f.slots.contains d || o.after.any fun e => Region.binds .any e && e.on == i | none => true)
    | _, _ => false
theorem chk_spec {ops : Array Oper} {fs : Array Fct} {n : Nat} (h : chkB ops fs n = true) : ops.size = fs.size ∧ ∀ k o, ops[k]? = some o → ∃ f, fs[k]? = some f ∧ o.guard = none ∧ (∀ e ∈ o.after, Region.binds .any e = true → e.on < k) ∧ (∀ d, o.dst = some d → d < n) ∧ (∀ i oi d, ops[i]? = some oi → i ≠ k → oi.dst = some d → d ∈ f.slots → ∃ e ∈ o.after, Region.binds .any e = true ∧ e.on = i) := by
  unfold chkB at h
  rw [Bool.and_eq_true, beq_iff_eq, List.all_eq_true] at h
  refine ⟨h.1, fun k o ho => ?_⟩
  have hk : k < ops.size := (Array.getElem?_eq_some_iff.1 ho).1
  have h1 := h.2 k (List.mem_range.2 hk)
  have hf : fs[k]? = some fs[k] := Array.getElem?_eq_getElem (h.1 ▸ hk)
  rw [ho, hf] at h1
  simp only [Bool.and_eq_true] at h1
  obtain ⟨⟨⟨h2, h3⟩, h4⟩, h5⟩ := h1
  refine ⟨_, hf, by simpa using h2, fun e he hb => ?_, fun d hd => ?_, fun i oi d hi hik hd hs => ?_⟩
  · have := (Array.all_eq_true_iff_forall_mem.1 h3) e he
    rw [hb] at this
    simpa using this
  · rw [hd] at h4; simpa using h4
  · have h6 := (List.all_eq_true.1 h5) i (List.mem_range.2 (Array.getElem?_eq_some_iff.1 hi).1)
    rw [hi] at h6
    simp only [Option.bind_some, hd, Bool.or_eq_true, beq_iff_eq] at h6
    rcases h6 with h6 | h6
    · exact absurd h6 hik
    · rcases h6 with h6 | h6
      · rw [Bool.not_eq_true', List.contains_eq_mem] at h6
        simp [hs] at h6
      · obtain ⟨e, he, h7⟩ := Array.any_eq_true'.1 h6
        rw [Bool.and_eq_true, beq_iff_eq] at h7
        exact ⟨e, he, h7⟩

theorem put_get (a : Act) (d : Option Nat) (v : Value) (t : Nat) (h : d ≠ some t) : (a.put d v).tmps.getD t undef = a.tmps.getD t undef := by
  cases d with
  | none => rfl
  | some d =>
    have : d ≠ t := fun e => h (by rw [e])
    simp [Act.put, this]
theorem put_size (a : Act) (d : Option Nat) (v : Value) : (a.put d v).tmps.size = a.tmps.size := by
  cases d <;> simp [Act.put]
theorem put_defers (a : Act) (d : Option Nat) (v : Value) : (a.put d v).defers = a.defers := by cases d <;> rfl
theorem put_same (a : Act) (d : Nat) (v : Value) (h : d < a.tmps.size) : (a.put (some d) v).tmps.getD d undef = v := by
  simp [Act.put, h]

/-- What is carried through the region. -/
structure KInv (ops : Array Oper) (fs : Array Fct) (a0 : Act) (I : World → Prop) (listed : Array Bool) (a : Act) (w : World) : Prop where
  size : a.tmps.size = a0.tmps.size
  defers : a.defers = a0.defers
  ls : listed.size = ops.size
  old : ∀ t, (∀ (i : Nat) (o : Oper), ops[i]? = some o → o.dst ≠ some t) → a.tmps.getD t undef = a0.tmps.getD t undef
  inv : I w
  closed : ∀ (k : Nat) (o : Oper), ops[k]? = some o → listed.getD k false = true → ∀ e ∈ o.after, Region.binds .any e = true → listed.getD e.on false = true
  facts : ∀ (i : Nat) (f : Fct), fs[i]? = some f → listed.getD i false = true → f.at a w

/-- How many are not listed. -/
def unl (listed : Array Bool) : Nat := listed.toList.count false
theorem unl_set {listed : Array Bool} {i : Nat} (h : listed.getD i true = false) : unl (listed.setIfInBounds i true) + 1 = unl listed := by
  have hi : i < listed.size := by
    rcases Nat.lt_or_ge i listed.size with h' | h'
    · exact h'
    · simp [Array.getElem?_eq_none h'] at h
  have hv : listed.toList[i]'(by simpa using hi) = false := by simp [hi] at h; simpa using h
  unfold unl
  have e : (listed.setIfInBounds i true).toList = listed.toList.set i true := by simp [Array.setIfInBounds, hi]
  rw [e, List.count_set (by simpa using hi)]
  have hp : 0 < listed.toList.count false := List.count_pos_iff.2 (hv ▸ List.getElem_mem _)
  rw [hv]
  have h1 : (if (false == false) = true then 1 else 0) = 1 := rfl
  have h2 : (if (true == false) = true then 1 else 0) = 0 := rfl
  rw [h1, h2]
  omega
theorem unl_zero {listed : Array Bool} (h : unl listed = 0) (i : Nat) : listed.getD i true = true := by
  rcases Nat.lt_or_ge i listed.size with h' | h'
  · have : ¬ false ∈ listed.toList := List.count_eq_zero.1 h
    have hm : listed.toList[i]'(by simpa using h') ∈ listed.toList := List.getElem_mem _
    simp [h']
    cases hb : listed[i] with
    | true => rfl
    | false => exact absurd (by simpa [hb] using hm) this
  · simp [Array.getElem?_eq_none h']

variable {P : Program} {ops : Array Oper} {fs : Array Fct} {a0 : Act} {I : World → Prop} {R : Nat → World → World → Prop} {Q : Exit → Act → World → Prop}

theorem ready_all {listed : Array Bool} (hl : listed.size = ops.size) (hE : ∀ k o, ops[k]? = some o → ∀ e ∈ o.after, Region.binds .any e = true → e.on < k) (hr : Region.ready .any ops listed = []) : ∀ i, i < ops.size → listed.getD i false = true := by
  intro i
  induction i using Nat.strongRecOn with
  | ind i ih =>
    intro hi
    cases hb : listed.getD i false with
    | true => rfl
    | false =>
      have ho : ops[i]? = some ops[i] := Array.getElem?_eq_getElem hi
      have hm : i ∈ Region.ready .any ops listed := mem_ready.2 ⟨by simp [hl, hi] at hb ⊢; exact hb, _, ho, fun e he hbd => ih e.on (hE i _ ho e he hbd) (Nat.lt_trans (hE i _ ho e he hbd) hi)⟩
      rw [hr] at hm; cases hm

/-- One operation: its fact stands behind it, and those that stood stand. -/
theorem kinv_step (n : Nat) (hn : a0.tmps.size = n) (hchk : chkB ops fs n = true) (stab : ∀ (k i : Nat) (f : Fct), k ≠ i → fs[k]? = some f → ∀ vs w w', R i w w' → f.says vs w → f.says vs w') (istab : ∀ i w w', R i w w' → I w → I w')
    {listed : Array Bool} {a : Act} {w w' : World} {i : Nat} {o : Oper} {f : Fct} {v : Value} (hJ : KInv ops fs a0 I listed a w) (hi : ops[i]? = some o) (hf : fs[i]? = some f) (hun : listed.getD i true = false) (hpre : ∀ e ∈ o.after, Region.binds .any e = true → listed.getD e.on false = true) (hR : R i w w') (hF : f.at (a.put o.dst v) w') :
    KInv ops fs a0 I (listed.setIfInBounds i true) (a.put o.dst v) w' := by
  have hc := (chk_spec hchk).2
  refine ⟨(put_size _ _ _).trans hJ.size, (put_defers _ _ _).trans hJ.defers, by simpa using hJ.ls, fun t ht => ?_, istab _ _ _ hR hJ.inv, fun k ok hk hkl e he hb => ?_, fun k g hg hk => ?_⟩
  · rw [put_get a o.dst v t (ht i o hi)]; exact hJ.old t ht
  · have h2 : listed.getD e.on false = true := by
      by_cases ek : k = i
      · subst ek
        rw [hi] at hk
        cases hk
        exact hpre e he hb
      · have hne : ¬ i = k := fun h => ek h.symm
        exact hJ.closed k ok hk (by simpa [Array.getElem?_setIfInBounds, hne] using hkl) e he hb
    have hlt : e.on < listed.size := by
      rcases Nat.lt_or_ge e.on listed.size with h' | h'
      · exact h'
      · simp [Array.getElem?_eq_none h'] at h2
    by_cases ei : i = e.on
    · rw [ei]; simp [hlt]
    · simpa [Array.getElem?_setIfInBounds, ei] using h2
  · by_cases e : k = i
    · subst e
      rw [hf] at hg
      cases hg
      exact hF
    · have hk' : listed.getD k false = true := by
        have hne : ¬ i = k := fun h => e h.symm
        simpa [Array.getElem?_setIfInBounds, hne] using hk
      have h1 := hJ.facts k g hg hk'
      have hks : k < ops.size := by
        rcases Nat.lt_or_ge k listed.size with h' | h'
        · rw [hJ.ls] at h'; exact h'
        · simp [Array.getElem?_eq_none h'] at hk'
      obtain ⟨g', hg', hgd, _, _, hw⟩ := hc k _ (Array.getElem?_eq_getElem hks)
      rw [hg] at hg'
      cases hg'
      have hsl : ∀ t ∈ g.slots, (a.put o.dst v).tmps.getD t undef = a.tmps.getD t undef := fun t ht => put_get a o.dst v t (fun hd => by
        obtain ⟨e', he', hb', hon⟩ := hw i o t hi (fun h => e h.symm) hd ht
        have h3 := hJ.closed k _ (Array.getElem?_eq_getElem hks) hk' e' he' hb'
        rw [hon] at h3
        rcases Nat.lt_or_ge i listed.size with h' | h'
        · simp [h'] at h3 hun
          rw [h3] at hun; cases hun
        · simp [Array.getElem?_eq_none h'] at h3)
      unfold Fct.at at h1 ⊢
      rw [List.map_congr_left hsl]
      exact stab k i g e hg _ _ _ hR h1

/-- All slots written, in the text's order. -/
def putAll : List Oper → List Value → Act → Act
  | o :: os, v :: vs, a => putAll os vs (a.put o.dst v)
  | _, _, a => a
theorem putAll_size : ∀ (os : List Oper) (vs : List Value) (a : Act), (putAll os vs a).tmps.size = a.tmps.size ∧ (putAll os vs a).defers = a.defers
  | [], vs, a => by simp [putAll]
  | o :: os, [], a => by simp [putAll]
  | o :: os, v :: vs, a => by
    have := putAll_size os vs (a.put o.dst v)
    rw [put_size, put_defers] at this
    exact this
/-- The act behind all operations is the first one with each slot's own last value laid in. -/
theorem putAll_eq : ∀ (os : List Oper) (a b : Act), b.tmps.size = a.tmps.size → b.defers = a.defers → (∀ t, (∀ o ∈ os, o.dst ≠ some t) → b.tmps.getD t undef = a.tmps.getD t undef) → putAll os (os.map fun o => match o.dst with | some d => b.tmps.getD d undef | none => undef) a = b
  | [], a, b, hs, hd, h => by
    have ht : b.tmps = a.tmps := by
      apply Array.ext hs
      intro i h1 h2
      have := h i (by simp)
      simpa [h1, h2] using this
    cases a; cases b; simp_all [putAll]
  | o :: os, a, b, hs, hd, h => by
    rw [List.map_cons, putAll]
    refine putAll_eq os _ b (by rw [put_size]; exact hs) (by rw [put_defers]; exact hd) (fun t ht => ?_)
    cases hdst : o.dst with
    | none => exact h t (fun o' ho' => by
        rcases List.mem_cons.1 ho' with rfl | h'
        · rw [hdst]; simp
        · exact ht o' h')
    | some d =>
      by_cases e : d = t
      · subst e
        rcases Nat.lt_or_ge d a.tmps.size with hlt | hge
        · rw [put_same a d _ hlt]
        · simp [Act.put, hs, hge]
      · rw [put_get a (some d) _ t (by simpa using e)]
        exact h t (fun o' ho' => by
          rcases List.mem_cons.1 ho' with rfl | h'
          · rw [hdst]; simpa using e
          · exact ht o' h')

/-- THE THEOREM: whatever order is drawn, behind the region every operation's fact stands. -/
theorem wp_region_facts {id : Nat} {w : World} (hm : P.follows .mixedOrders = true) (n : Nat) (hn : a0.tmps.size = n) (hchk : chkB ops fs n = true)
    (stab : ∀ (k i : Nat) (f : Fct), k ≠ i → fs[k]? = some f → ∀ vs w w', R i w w' → f.says vs w → f.says vs w') (istab : ∀ i w w', R i w w' → I w → I w') (h0 : I w.drew)
    (exec : ∀ (i : Nat) (o : Oper) (f : Fct), ops[i]? = some o → fs[i]? = some f → ∀ (a : Act) (w : World), a.tmps.size = n → I w → (∀ t, (∀ (i : Nat) (o : Oper), ops[i]? = some o → o.dst ≠ some t) → a.tmps.getD t undef = a0.tmps.getD t undef) →
      (∀ e ∈ o.after, Region.binds .any e = true → ∀ g, fs[e.on]? = some g → g.at a w) → o.wp P a w (fun a' w' => ∃ v, a' = a.put o.dst v ∧ R i w w' ∧ f.at (a.put o.dst v) w') Q)
    (fin : ∀ (vs : List Value) (w : World), vs.length = ops.size → I w → (∀ (i : Nat) (f : Fct), fs[i]? = some f → f.at (putAll ops.toList vs a0) w) → Q .normal (putAll ops.toList vs a0) w) : (Code.region id ops true).wp P Q a0 w := by
  have hcs := chk_spec hchk
  refine wp_region_any hm ?_
  have key : ∀ (fuel : Nat) (listed : Array Bool) (a : Act) (w : World), unl listed ≤ fuel → KInv ops fs a0 I listed a w → wpAny P .any ops Q fuel listed a w := by
    have done : ∀ (listed : Array Bool) (a : Act) (w : World), KInv ops fs a0 I listed a w → (∀ i, i < ops.size → listed.getD i false = true) → Q .normal a w := fun listed a w hJ hall => by
      have e := putAll_eq ops.toList a0 a hJ.size hJ.defers (fun t ht => hJ.old t (fun i o ho => ht o (by rw [Array.mem_toList_iff]; exact Array.mem_of_getElem? ho)))
      rw [← e]
      refine fin _ w (by simp) hJ.inv (fun i f hf => ?_)
      rw [e]
      exact hJ.facts i f hf (hall i (by rw [hcs.1]; exact (Array.getElem?_eq_some_iff.1 hf).1))
    intro fuel
    induction fuel with
    | zero =>
      intro listed a w hu hJ
      have hz := unl_zero (show unl listed = 0 by omega)
      have hall : ∀ i, i < ops.size → listed.getD i false = true := fun i hi => by
        have := hz i
        simpa [hJ.ls, hi] using this
      refine ⟨?_, done listed a w hJ hall⟩
      apply List.eq_nil_iff_forall_not_mem.2
      intro i hi
      have := (mem_ready.1 hi).1
      rw [hz i] at this; cases this
    | succ fuel ih =>
      intro listed a w hu hJ
      refine ⟨fun hr => done listed a w hJ (ready_all hJ.ls (fun k o ho => (hcs.2 k o ho).choose_spec.2.2.1) hr), fun i hi => ?_⟩
      obtain ⟨hun, o, ho, hpre⟩ := mem_ready.1 hi
      obtain ⟨f, hf, hg, _⟩ := hcs.2 i o ho
      unfold wpOp
      rw [ho]
      have hw : Region.wanted o (yielded ops a.tmps) = true := by simp [Region.wanted, hg]
      simp only [hw, if_true]
      refine .inl ?_
      have hx := exec i o f ho hf a w (by rw [hJ.size, hn]) hJ.inv hJ.old (fun e he hb g hg' => hJ.facts e.on g hg' (hpre e he hb))
      refine Oper.wp_mono (fun a' w' ⟨v, ha, hR, hF⟩ => ?_) hx
      rw [ha]
      refine ih _ _ _ ?_ (kinv_step n hn hchk stab istab hJ ho hf hun hpre hR hF)
      have := unl_set hun
      omega
  refine key _ _ _ _ ?_ ⟨rfl, rfl, by simp, fun _ _ => rfl, h0, fun k o ho hk => ?_, fun i f hf hk => ?_⟩
  · unfold unl
    simp
  · have hks := (Array.getElem?_eq_some_iff.1 ho).1
    simp [hks] at hk
  · have hks := (Array.getElem?_eq_some_iff.1 hf).1
    rw [← hcs.1] at hks
    simp [hks] at hk

/-- The same over a list, as the text writes a region out. -/
theorem wp_region_list {id : Nat} {w : World} {l : List Oper} (hm : P.follows .mixedOrders = true) (n : Nat) (hn : a0.tmps.size = n) (hchk : chkB l.toArray fs n = true)
    (stab : ∀ (k i : Nat) (f : Fct), k ≠ i → fs[k]? = some f → ∀ vs w w', R i w w' → f.says vs w → f.says vs w') (istab : ∀ i w w', R i w w' → I w → I w') (h0 : I w.drew)
    (exec : ∀ (i : Nat) (o : Oper) (f : Fct), l.toArray[i]? = some o → fs[i]? = some f → ∀ (a : Act) (w : World), a.tmps.size = n → I w → (∀ t, (∀ (i : Nat) (o : Oper), l.toArray[i]? = some o → o.dst ≠ some t) → a.tmps.getD t undef = a0.tmps.getD t undef) →
      (∀ e ∈ o.after, Region.binds .any e = true → ∀ g, fs[e.on]? = some g → g.at a w) → o.wp P a w (fun a' w' => ∃ v, a' = a.put o.dst v ∧ R i w w' ∧ f.at (a.put o.dst v) w') Q)
    (fin : ∀ (vs : List Value) (w : World), vs.length = l.length → I w → (∀ (i : Nat) (f : Fct), fs[i]? = some f → f.at (putAll l vs a0) w) → Q .normal (putAll l vs a0) w) : (Code.region id l.toArray true).wp P Q a0 w :=
  wp_region_facts hm n hn hchk stab istab h0 exec (fun vs w h1 h2 h3 => fin vs w (by simpa using h1) h2 (by simpa using h3))
/-- What a slot holds behind all operations: what the last one that writes it has yielded. -/
def lastB (l : List Oper) (i d : Nat) : Bool := ((l[i]?).bind (·.dst) == some d) && ((l.drop (i + 1)).all fun o => o.dst != some d)
theorem putAll_keep : ∀ (l : List Oper) (vs : List Value) (a : Act) (d : Nat), (∀ o ∈ l, o.dst ≠ some d) → (putAll l vs a).tmps.getD d undef = a.tmps.getD d undef
  | [], _, _, _, _ => rfl
  | o :: l, [], _, _, _ => rfl
  | o :: l, v :: vs, a, d, h => by
    rw [putAll, putAll_keep l vs _ d (fun o' ho' => h o' (List.mem_cons_of_mem _ ho')), put_get a o.dst v d (h o (List.mem_cons_self ..))]
theorem putAll_last : ∀ (l : List Oper) (vs : List Value) (a : Act) (i d : Nat) (v : Value), lastB l i d = true → vs[i]? = some v → d < a.tmps.size → (putAll l vs a).tmps.getD d undef = v
  | [], vs, a, i, d, v, h, _, _ => by simp [lastB] at h
  | o :: l, [], a, i, d, v, _, h, _ => by simp at h
  | o :: l, x :: vs, a, 0, d, v, h, hv, hd => by
    simp only [lastB, List.getElem?_cons_zero, Option.bind_some, Bool.and_eq_true, beq_iff_eq, Nat.zero_add, List.drop_succ_cons, List.drop_zero, List.all_eq_true] at h
    simp at hv
    subst hv
    rw [putAll, putAll_keep l vs _ d (fun o' ho' => by have := h.2 o' ho'; simpa using this), h.1, put_same a d _ hd]
  | o :: l, x :: vs, a, i + 1, d, v, h, hv, hd => by
    rw [putAll]
    refine putAll_last l vs _ i d v ?_ (by simpa using hv) (by rw [put_size]; exact hd)
    simpa [lastB] using h
theorem last_is {l : List Oper} {vs : List Value} {a : Act} {i d n : Nat} {v u : Value} (h : (putAll l vs a).tmps.getD d undef = u) (hB : lastB l i d = true) (hv : vs[i]? = some v) (hn : a.tmps.size = n) (hd : d < n) : v = u :=
  (putAll_last l vs a i d v hB hv (by rw [hn]; exact hd)).symm.trans h
/-- A slot that no operation of the region writes. -/
def freeB (ops : Array Oper) (t : Nat) : Bool := ops.all fun o => o.dst != some t
theorem free_spec {t : Nat} (h : freeB ops t = true) : ∀ (i : Nat) (o : Oper), ops[i]? = some o → o.dst ≠ some t := fun i o ho => by
  unfold freeB at h
  have := (Array.all_eq_true_iff_forall_mem.1 h) o (Array.mem_of_getElem? ho)
  simpa using this
/-- An operation that yields a value in the world that it got. -/
theorem exec_same {o : Oper} {a : Act} {w : World} {v : Value} {K : Act → World → Prop} (hr : (execOp a.eval o).run P w = .ok (.value v) w) (h : K (a.put o.dst v) w) : o.wp P a w K Q := by
  unfold Oper.wp; rw [hr]; exact h
theorem at_one {d : Nat} {says : List Value → World → Prop} {a : Act} {v : Value} {w : World} (h : d < a.tmps.size) (hs : says [v] w) : (Fct.mk [d] says).at (a.put (some d) v) w := by
  unfold Fct.at
  simp only [List.map_cons, List.map_nil]
  rw [put_same a d v h]; exact hs
theorem of_one {d : Nat} {says : List Value → World → Prop} {a : Act} {w : World} (h : (Fct.mk [d] says).at a w) : says [a.tmps.getD d undef] w := h
theorem of_two {d e : Nat} {says : List Value → World → Prop} {a : Act} {w : World} (h : (Fct.mk [d, e] says).at a w) : says [a.tmps.getD d undef, a.tmps.getD e undef] w := h
/-- A call: what its contract leaves. -/
theorem exec_call {o : Oper} {a : Act} {w : World} {f : FuncId} {args : Array Value} {K : Act → World → Prop} (hr : (execOp a.eval o).run P w = .ok (.enter f args) w) (h : Calls P f args w fun e w' => ∃ v, e = .returned v ∧ K (a.put o.dst v) w') : o.wp P a w K Q := by
  unfold Oper.wp
  rw [hr]
  refine h.mono ?_
  rintro e w' ⟨v, rfl, hk⟩
  exact hk
/-- A new block. -/
theorem exec_made {o : Oper} {a : Act} {w w' : World} {v : Value} {K : Act → World → Prop} (hr : (execOp a.eval o).run P w = .ok (.value v) w') (h : K (a.put o.dst v) w') : o.wp P a w K Q := by
  unfold Oper.wp; rw [hr]; exact h
theorem exec_skip {o : Oper} {a : Act} {w w' : World} {K : Act → World → Prop} (hr : (execOp a.eval o).run P w = .ok .skip w') (h : K (a.put o.dst undef) w') : o.wp P a w K Q := by
  unfold Oper.wp; rw [hr]; exact h
theorem list8 {α : Type} (l : List α) (h : l.length = 8) : ∃ a0 a1 a2 a3 a4 a5 a6 a7, l = [a0, a1, a2, a3, a4, a5, a6, a7] := by
  match l, h with
  | [a0, a1, a2, a3, a4, a5, a6, a7], _ => exact ⟨a0, a1, a2, a3, a4, a5, a6, a7, rfl⟩
theorem list9 {α : Type} (l : List α) (h : l.length = 9) : ∃ a0 a1 a2 a3 a4 a5 a6 a7 a8, l = [a0, a1, a2, a3, a4, a5, a6, a7, a8] := by
  match l, h with
  | [a0, a1, a2, a3, a4, a5, a6, a7, a8], _ => exact ⟨a0, a1, a2, a3, a4, a5, a6, a7, a8, rfl⟩
theorem list10 {α : Type} (l : List α) (h : l.length = 10) : ∃ a0 a1 a2 a3 a4 a5 a6 a7 a8 a9, l = [a0, a1, a2, a3, a4, a5, a6, a7, a8, a9] := by
  match l, h with
  | [a0, a1, a2, a3, a4, a5, a6, a7, a8, a9], _ => exact ⟨a0, a1, a2, a3, a4, a5, a6, a7, a8, a9, rfl⟩
theorem list11 {α : Type} (l : List α) (h : l.length = 11) : ∃ a0 a1 a2 a3 a4 a5 a6 a7 a8 a9 a10, l = [a0, a1, a2, a3, a4, a5, a6, a7, a8, a9, a10] := by
  match l, h with
  | [a0, a1, a2, a3, a4, a5, a6, a7, a8, a9, a10], _ => exact ⟨a0, a1, a2, a3, a4, a5, a6, a7, a8, a9, a10, rfl⟩
theorem list12 {α : Type} (l : List α) (h : l.length = 12) : ∃ a0 a1 a2 a3 a4 a5 a6 a7 a8 a9 a10 a11, l = [a0, a1, a2, a3, a4, a5, a6, a7, a8, a9, a10, a11] := by
  match l, h with
  | [a0, a1, a2, a3, a4, a5, a6, a7, a8, a9, a10, a11], _ => exact ⟨a0, a1, a2, a3, a4, a5, a6, a7, a8, a9, a10, a11, rfl⟩
theorem list13 {α : Type} (l : List α) (h : l.length = 13) : ∃ a0 a1 a2 a3 a4 a5 a6 a7 a8 a9 a10 a11 a12, l = [a0, a1, a2, a3, a4, a5, a6, a7, a8, a9, a10, a11, a12] := by
  match l, h with
  | [a0, a1, a2, a3, a4, a5, a6, a7, a8, a9, a10, a11, a12], _ => exact ⟨a0, a1, a2, a3, a4, a5, a6, a7, a8, a9, a10, a11, a12, rfl⟩
end Go.Proofs.Ytecjpagnifkcaaa
