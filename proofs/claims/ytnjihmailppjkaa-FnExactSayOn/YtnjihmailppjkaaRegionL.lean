/- A region that draws its order, by facts that last until they are used up: as RegionK, and besides: a fact may end with the operation that uses it, and operations may stand under guards that hold. -/
import Derived.Test.YtnjihmailppjkaaRegionK
namespace Go.Proofs.Ytnjihmailppjkaa
open Go.RowKit
set_option linter.unusedVariables false

/-- Every binding edge leads to an operation ahead; every slot written is there; nobody writes a slot of another's fact but ahead of it. -/
def chkL (ops : Array Oper) (fs : Array Fct) (n : Nat) : Bool :=
  ops.size == fs.size && (List.range ops.size).all fun k =>
    match ops[k]?, fs[k]? with
    | some o, some f => (o.after.all fun e => !Region.binds .any e || decide (e.on < k)) && (match o.dst with | some d => decide (d < n) | none => true) &&
        (List.range ops.size).all fun i => i == k || (match (ops[i]?).bind (·.dst) with | some d => !f.slots.contains d || o.after.any fun e => Region.binds .any e && e.on == i | none => true)
    | _, _ => false
theorem chkL_spec {ops : Array Oper} {fs : Array Fct} {n : Nat} (h : chkL ops fs n = true) : ops.size = fs.size ∧ ∀ k o, ops[k]? = some o → ∃ f, fs[k]? = some f ∧ (∀ e ∈ o.after, Region.binds .any e = true → e.on < k) ∧ (∀ d, o.dst = some d → d < n) ∧ (∀ i oi d, ops[i]? = some oi → i ≠ k → oi.dst = some d → d ∈ f.slots → ∃ e ∈ o.after, Region.binds .any e = true ∧ e.on = i) := by
  unfold chkL at h
  rw [Bool.and_eq_true, beq_iff_eq, List.all_eq_true] at h
  refine ⟨h.1, fun k o ho => ?_⟩
  have hk : k < ops.size := (Array.getElem?_eq_some_iff.1 ho).1
  have h1 := h.2 k (List.mem_range.2 hk)
  have hf : fs[k]? = some fs[k] := Array.getElem?_eq_getElem (h.1 ▸ hk)
  rw [ho, hf] at h1
  simp only [Bool.and_eq_true] at h1
  obtain ⟨⟨h3, h4⟩, h5⟩ := h1
  refine ⟨_, hf, fun e he hb => ?_, fun d hd => ?_, fun i oi d hi hik hd hs => ?_⟩
  · have := (Array.all_eq_true_iff_forall_mem.1 h3) e he
    rw [hb] at this
    simpa using this
  · rw [hd] at h4; simpa using h4
  · have h6 := (List.all_eq_true.1 h5) i (List.mem_range.2 (Array.getElem?_eq_some_iff.1 hi).1)
    rw [hi] at h6
    simp only [Option.bind_some, hd, Bool.or_eq_true, beq_iff_eq] at h6
    rcases h6 with h6 | h6
    · exact absurd h6 hik
    · rcases h6 with h6 | h6
      · rw [Bool.not_eq_true', List.contains_eq_mem] at h6
        simp [hs] at h6
      · obtain ⟨e, he, h7⟩ := Array.any_eq_true'.1 h6
        rw [Bool.and_eq_true, beq_iff_eq] at h7
        exact ⟨e, he, h7⟩
/-- Operation i may come while fact k stands: k does not wait for it, and it is not the one that uses k up nor behind that one. -/
def aheadB (ops : Array Oper) (drop : Nat → Option Nat) (k i : Nat) : Bool :=
  (match ops[k]? with | some o => !(o.after.any fun e => Region.binds .any e && e.on == i) | none => true) &&
  (match drop k with
  | none => true
  | some j => (i != j) && (match ops[i]? with | some o => !(o.after.any fun e => Region.binds .any e && e.on == j) | none => true))
structure LInv (ops : Array Oper) (fs : Array Fct) (drop : Nat → Option Nat) (a0 : Act) (I : World → Prop) (listed : Array Bool) (a : Act) (w : World) : Prop where
  size : a.tmps.size = a0.tmps.size
  defers : a.defers = a0.defers
  ls : listed.size = ops.size
  old : ∀ t, (∀ (i : Nat) (o : Oper), ops[i]? = some o → o.dst ≠ some t) → a.tmps.getD t undef = a0.tmps.getD t undef
  inv : I w
  closed : ∀ (k : Nat) (o : Oper), ops[k]? = some o → listed.getD k false = true → ∀ e ∈ o.after, Region.binds .any e = true → listed.getD e.on false = true
  facts : ∀ (i : Nat) (f : Fct), fs[i]? = some f → listed.getD i false = true → (∀ j, drop i = some j → listed.getD j false = false) → f.at a w

variable {P : Program} {ops : Array Oper} {fs : Array Fct} {drop : Nat → Option Nat} {a0 : Act} {I : World → Prop} {R : Nat → World → World → Prop} {Q : Exit → Act → World → Prop}

theorem linv_step (n : Nat) (hn : a0.tmps.size = n) (hchk : chkL ops fs n = true) (stab : ∀ (k i : Nat) (f : Fct), k ≠ i → fs[k]? = some f → aheadB ops drop k i = true → ∀ vs w w', R i w w' → f.says vs w → f.says vs w') (istab : ∀ i w w', R i w w' → I w → I w')
    {listed : Array Bool} {a : Act} {w w' : World} {i : Nat} {o : Oper} {f : Fct} {v : Value} (hJ : LInv ops fs drop a0 I listed a w) (hi : ops[i]? = some o) (hf : fs[i]? = some f) (hun : listed.getD i true = false) (hpre : ∀ e ∈ o.after, Region.binds .any e = true → listed.getD e.on false = true) (hR : R i w w') (hF : f.at (a.put o.dst v) w') :
    LInv ops fs drop a0 I (listed.setIfInBounds i true) (a.put o.dst v) w' := by
  have hc := (chkL_spec hchk).2
  have hil : i < listed.size := by rw [hJ.ls]; exact (Array.getElem?_eq_some_iff.1 hi).1
  refine ⟨(put_size _ _ _).trans hJ.size, (put_defers _ _ _).trans hJ.defers, by simpa using hJ.ls, fun t ht => ?_, istab _ _ _ hR hJ.inv, fun k ok hk hkl e he hb => ?_, fun k g hg hk hdr => ?_⟩
  · rw [put_get a o.dst v t (ht i o hi)]; exact hJ.old t ht
  · have h2 : listed.getD e.on false = true := by
      by_cases ek : k = i
      · subst ek
        rw [hi] at hk
        cases hk
        exact hpre e he hb
      · have hne : ¬ i = k := fun h => ek h.symm
        exact hJ.closed k ok hk (by simpa [Array.getElem?_setIfInBounds, hne] using hkl) e he hb
    have hlt : e.on < listed.size := by
      rcases Nat.lt_or_ge e.on listed.size with h' | h'
      · exact h'
      · simp [Array.getElem?_eq_none h'] at h2
    by_cases ei : i = e.on
    · rw [ei]; simp [hlt]
    · simpa [Array.getElem?_setIfInBounds, ei] using h2
  · by_cases e : k = i
    · subst e
      rw [hf] at hg
      cases hg
      exact hF
    · have hk' : listed.getD k false = true := by
        have hne : ¬ i = k := fun h => e h.symm
        simpa [Array.getElem?_setIfInBounds, hne] using hk
      have hdr' : ∀ j, drop k = some j → j ≠ i ∧ listed.getD j false = false := fun j hj => by
        have h3 := hdr j hj
        by_cases q : j = i
        · subst q
          simp [hil] at h3
        · have hne : ¬ i = j := fun h => q h.symm
          exact ⟨q, by simpa [Array.getElem?_setIfInBounds, hne] using h3⟩
      have h1 := hJ.facts k g hg hk' (fun j hj => (hdr' j hj).2)
      have hah : aheadB ops drop k i = true := by
        unfold aheadB
        rw [Bool.and_eq_true]
        constructor
        · cases hok : ops[k]? with
          | none => rfl
          | some ok =>
            simp only [Bool.not_eq_true']
            rw [Bool.eq_false_iff]
            intro hany
            obtain ⟨e', he', h7⟩ := Array.any_eq_true'.1 hany
            rw [Bool.and_eq_true, beq_iff_eq] at h7
            have := hJ.closed k ok hok hk' e' he' h7.1
            rw [h7.2] at this
            simp [hil] at this hun
            rw [this] at hun; cases hun
        cases hd : drop k with
        | none => rfl
        | some j =>
          obtain ⟨hji, hlj⟩ := hdr' j hd
          have hne : ¬ i = j := fun h => hji h.symm
          simp only [hi, Bool.and_eq_true, bne_iff_ne, ne_eq, hne, not_false_eq_true, true_and, Bool.not_eq_true']
          rw [Bool.eq_false_iff]
          intro hany
          obtain ⟨e', he', h7⟩ := Array.any_eq_true'.1 hany
          rw [Bool.and_eq_true, beq_iff_eq] at h7
          have := hpre e' he' h7.1
          rw [h7.2, hlj] at this
          cases this
      have hks : k < ops.size := by
        rcases Nat.lt_or_ge k listed.size with h' | h'
        · rw [hJ.ls] at h'; exact h'
        · simp [Array.getElem?_eq_none h'] at hk'
      obtain ⟨g', hg', _, _, hw⟩ := hc k _ (Array.getElem?_eq_getElem hks)
      rw [hg] at hg'
      cases hg'
      have hsl : ∀ t ∈ g.slots, (a.put o.dst v).tmps.getD t undef = a.tmps.getD t undef := fun t ht => put_get a o.dst v t (fun hd => by
        obtain ⟨e', he', hb', hon⟩ := hw i o t hi (fun h => e h.symm) hd ht
        have h3 := hJ.closed k _ (Array.getElem?_eq_getElem hks) hk' e' he' hb'
        rw [hon] at h3
        simp [hil] at h3 hun
        rw [h3] at hun; cases hun)
      unfold Fct.at at h1 ⊢
      rw [List.map_congr_left hsl]
      exact stab k i g e hg hah _ _ _ hR h1

/-- THE THEOREM: whatever order is drawn, behind the region every fact that nobody has used up stands. -/
theorem wp_region_used {id : Nat} {w : World} (hm : P.follows .mixedOrders = true) (n : Nat) (hn : a0.tmps.size = n) (hchk : chkL ops fs n = true)
    (stab : ∀ (k i : Nat) (f : Fct), k ≠ i → fs[k]? = some f → aheadB ops drop k i = true → ∀ vs w w', R i w w' → f.says vs w → f.says vs w') (istab : ∀ i w w', R i w w' → I w → I w') (h0 : I w.drew)
    (exec : ∀ (i : Nat) (o : Oper) (f : Fct), ops[i]? = some o → fs[i]? = some f → ∀ (a : Act) (w : World), a.tmps.size = n → I w → (∀ t, (∀ (i : Nat) (o : Oper), ops[i]? = some o → o.dst ≠ some t) → a.tmps.getD t undef = a0.tmps.getD t undef) →
      (∀ e ∈ o.after, Region.binds .any e = true → ∀ g, fs[e.on]? = some g → (drop e.on = none ∨ drop e.on = some i) → g.at a w) → Region.wanted o (yielded ops a.tmps) = true ∧ o.wp P a w (fun a' w' => ∃ v, a' = a.put o.dst v ∧ R i w w' ∧ f.at (a.put o.dst v) w') Q)
    (fin : ∀ (vs : List Value) (w : World), vs.length = ops.size → I w → (∀ (i : Nat) (f : Fct), fs[i]? = some f → drop i = none → f.at (putAll ops.toList vs a0) w) → Q .normal (putAll ops.toList vs a0) w) : (Code.region id ops true).wp P Q a0 w := by
  have hcs := chkL_spec hchk
  refine wp_region_any hm ?_
  have key : ∀ (fuel : Nat) (listed : Array Bool) (a : Act) (w : World), unl listed ≤ fuel → LInv ops fs drop a0 I listed a w → wpAny P .any ops Q fuel listed a w := by
    have done : ∀ (listed : Array Bool) (a : Act) (w : World), LInv ops fs drop a0 I listed a w → (∀ i, i < ops.size → listed.getD i false = true) → Q .normal a w := fun listed a w hJ hall => by
      have e := putAll_eq ops.toList a0 a hJ.size hJ.defers (fun t ht => hJ.old t (fun i o ho => ht o (by rw [Array.mem_toList_iff]; exact Array.mem_of_getElem? ho)))
      rw [← e]
      refine fin _ w (by simp) hJ.inv (fun i f hf hd => ?_)
      rw [e]
      exact hJ.facts i f hf (hall i (by rw [hcs.1]; exact (Array.getElem?_eq_some_iff.1 hf).1)) (fun j hj => by rw [hd] at hj; cases hj)
    intro fuel
    induction fuel with
    | zero =>
      intro listed a w hu hJ
      have hz := unl_zero (show unl listed = 0 by omega)
      have hall : ∀ i, i < ops.size → listed.getD i false = true := fun i hi => by
        have := hz i
        simpa [hJ.ls, hi] using this
      refine ⟨?_, done listed a w hJ hall⟩
      apply List.eq_nil_iff_forall_not_mem.2
      intro i hi
      have := (mem_ready.1 hi).1
      rw [hz i] at this; cases this
    | succ fuel ih =>
      intro listed a w hu hJ
      refine ⟨fun hr => done listed a w hJ (ready_all hJ.ls (fun k o ho => (hcs.2 k o ho).choose_spec.2.1) hr), fun i hi => ?_⟩
      obtain ⟨hun, o, ho, hpre⟩ := mem_ready.1 hi
      obtain ⟨f, hf, _⟩ := hcs.2 i o ho
      have hun' : listed.getD i false = false := by
        rcases Nat.lt_or_ge i listed.size with h' | h'
        · simp [h'] at hun ⊢; exact hun
        · simp [Array.getElem?_eq_none h']
      obtain ⟨hw, hx⟩ := exec i o f ho hf a w (by rw [hJ.size, hn]) hJ.inv hJ.old (fun e he hb g hg' hdr => hJ.facts e.on g hg' (hpre e he hb) (fun j hj => by
        rcases hdr with h1 | h1
        · rw [h1] at hj; cases hj
        · rw [h1] at hj; cases hj; exact hun'))
      unfold wpOp
      rw [ho]
      simp only [hw, if_true]
      refine .inl ?_
      refine Oper.wp_mono (fun a' w' ⟨v, ha, hR, hF⟩ => ?_) hx
      rw [ha]
      refine ih _ _ _ ?_ (linv_step n hn hchk stab istab hJ ho hf hun hpre hR hF)
      have := unl_set hun
      omega
  refine key _ _ _ _ ?_ ⟨rfl, rfl, by simp, fun _ _ => rfl, h0, fun k o ho hk => ?_, fun i f hf hk _ => ?_⟩
  · unfold unl
    simp
  · have hks := (Array.getElem?_eq_some_iff.1 ho).1
    simp [hks] at hk
  · have hks := (Array.getElem?_eq_some_iff.1 hf).1
    rw [← hcs.1] at hks
    simp [hks] at hk
theorem wp_region_usedL {id : Nat} {w : World} {l : List Oper} (hm : P.follows .mixedOrders = true) (n : Nat) (hn : a0.tmps.size = n) (hchk : chkL l.toArray fs n = true)
    (stab : ∀ (k i : Nat) (f : Fct), k ≠ i → fs[k]? = some f → aheadB l.toArray drop k i = true → ∀ vs w w', R i w w' → f.says vs w → f.says vs w') (istab : ∀ i w w', R i w w' → I w → I w') (h0 : I w.drew)
    (exec : ∀ (i : Nat) (o : Oper) (f : Fct), l.toArray[i]? = some o → fs[i]? = some f → ∀ (a : Act) (w : World), a.tmps.size = n → I w → (∀ t, (∀ (i : Nat) (o : Oper), l.toArray[i]? = some o → o.dst ≠ some t) → a.tmps.getD t undef = a0.tmps.getD t undef) →
      (∀ e ∈ o.after, Region.binds .any e = true → ∀ g, fs[e.on]? = some g → (drop e.on = none ∨ drop e.on = some i) → g.at a w) → Region.wanted o (yielded l.toArray a.tmps) = true ∧ o.wp P a w (fun a' w' => ∃ v, a' = a.put o.dst v ∧ R i w w' ∧ f.at (a.put o.dst v) w') Q)
    (fin : ∀ (vs : List Value) (w : World), vs.length = l.length → I w → (∀ (i : Nat) (f : Fct), fs[i]? = some f → drop i = none → f.at (putAll l vs a0) w) → Q .normal (putAll l vs a0) w) : (Code.region id l.toArray true).wp P Q a0 w :=
  wp_region_used hm n hn hchk stab istab h0 exec (fun vs w h1 h2 h3 => fin vs w (by simpa using h1) h2 (by simpa using h3))
theorem list14 {α : Type} (l : List α) (h : l.length = 14) : ∃ a0 a1 a2 a3 a4 a5 a6 a7 a8 a9 a10 a11 a12 a13, l = [a0, a1, a2, a3, a4, a5, a6, a7, a8, a9, a10, a11, a12, a13] := by
  match l, h with
  | [a0, a1, a2, a3, a4, a5, a6, a7, a8, a9, a10, a11, a12, a13], _ => exact ⟨a0, a1, a2, a3, a4, a5, a6, a7, a8, a9, a10, a11, a12, a13, rfl⟩
theorem list15 {α : Type} (l : List α) (h : l.length = 15) : ∃ a0 a1 a2 a3 a4 a5 a6 a7 a8 a9 a10 a11 a12 a13 a14, l = [a0, a1, a2, a3, a4, a5, a6, a7, a8, a9, a10, a11, a12, a13, a14] := by
  match l, h with
  | [a0, a1, a2, a3, a4, a5, a6, a7, a8, a9, a10, a11, a12, a13, a14], _ => exact ⟨a0, a1, a2, a3, a4, a5, a6, a7, a8, a9, a10, a11, a12, a13, a14, rfl⟩
end Go.Proofs.Ytnjihmailppjkaa
