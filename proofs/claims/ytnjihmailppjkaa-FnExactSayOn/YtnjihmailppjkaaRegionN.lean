/- A region that draws its order, by stages: what holds of the world may hang on which operations have been done; each operation's value is a fact that lasts. -/
import Derived.Test.YtnjihmailppjkaaRegionL
namespace Go.Proofs.Ytnjihmailppjkaa
open Go.RowKit
set_option linter.unusedVariables false

/-- What has been done is closed: who was done had all done that it waits for. -/
def ClosedR (ops : Array Oper) (listed : Array Bool) : Prop := ∀ (k : Nat) (o : Oper), ops[k]? = some o → listed.getD k false = true → ∀ e ∈ o.after, Region.binds .any e = true → listed.getD e.on false = true
structure NInv (ops : Array Oper) (fs : Array Fct) (a0 : Act) (I : Array Bool → Act → World → Prop) (listed : Array Bool) (a : Act) (w : World) : Prop where
  size : a.tmps.size = a0.tmps.size
  defers : a.defers = a0.defers
  ls : listed.size = ops.size
  old : ∀ t, (∀ (i : Nat) (o : Oper), ops[i]? = some o → o.dst ≠ some t) → a.tmps.getD t undef = a0.tmps.getD t undef
  inv : I listed a w
  closed : ClosedR ops listed
  facts : ∀ (i : Nat) (f : Fct), fs[i]? = some f → listed.getD i false = true → f.at a w

variable {P : Program} {ops : Array Oper} {fs : Array Fct} {a0 : Act} {I : Array Bool → Act → World → Prop} {Q : Exit → Act → World → Prop}

theorem ninv_step (n : Nat) (hn : a0.tmps.size = n) (hchk : chkL ops fs n = true) (stab : ∀ (k : Nat) (f : Fct), fs[k]? = some f → ∀ vs w w', f.says vs w → f.says vs w')
    {listed : Array Bool} {a : Act} {w w' : World} {i : Nat} {o : Oper} {f : Fct} {v : Value} (hJ : NInv ops fs a0 I listed a w) (hi : ops[i]? = some o) (hf : fs[i]? = some f) (hun : listed.getD i true = false) (hpre : ∀ e ∈ o.after, Region.binds .any e = true → listed.getD e.on false = true) (hR : I (listed.setIfInBounds i true) (a.put o.dst v) w') (hF : f.at (a.put o.dst v) w') :
    NInv ops fs a0 I (listed.setIfInBounds i true) (a.put o.dst v) w' := by
  have hc := (chkL_spec hchk).2
  have hil : i < listed.size := by rw [hJ.ls]; exact (Array.getElem?_eq_some_iff.1 hi).1
  refine ⟨(put_size _ _ _).trans hJ.size, (put_defers _ _ _).trans hJ.defers, by simpa using hJ.ls, fun t ht => ?_, hR, fun k ok hk hkl e he hb => ?_, fun k g hg hk => ?_⟩
  · rw [put_get a o.dst v t (ht i o hi)]; exact hJ.old t ht
  · have h2 : listed.getD e.on false = true := by
      by_cases ek : k = i
      · subst ek
        rw [hi] at hk
        cases hk
        exact hpre e he hb
      · have hne : ¬ i = k := fun h => ek h.symm
        exact hJ.closed k ok hk (by simpa [Array.getElem?_setIfInBounds, hne] using hkl) e he hb
    have hlt : e.on < listed.size := by
      rcases Nat.lt_or_ge e.on listed.size with h' | h'
      · exact h'
      · simp [Array.getElem?_eq_none h'] at h2
    by_cases ei : i = e.on
    · rw [ei]; simp [hlt]
    · simpa [Array.getElem?_setIfInBounds, ei] using h2
  · by_cases e : k = i
    · subst e
      rw [hf] at hg
      cases hg
      exact hF
    · have hk' : listed.getD k false = true := by
        have hne : ¬ i = k := fun h => e h.symm
        simpa [Array.getElem?_setIfInBounds, hne] using hk
      have h1 := hJ.facts k g hg hk'
      have hks : k < ops.size := by
        rcases Nat.lt_or_ge k listed.size with h' | h'
        · rw [hJ.ls] at h'; exact h'
        · simp [Array.getElem?_eq_none h'] at hk'
      obtain ⟨g', hg', _, _, hw⟩ := hc k _ (Array.getElem?_eq_getElem hks)
      rw [hg] at hg'
      cases hg'
      have hsl : ∀ t ∈ g.slots, (a.put o.dst v).tmps.getD t undef = a.tmps.getD t undef := fun t ht => put_get a o.dst v t (fun hd => by
        obtain ⟨e', he', hb', hon⟩ := hw i o t hi (fun h => e h.symm) hd ht
        have h3 := hJ.closed k _ (Array.getElem?_eq_getElem hks) hk' e' he' hb'
        rw [hon] at h3
        simp [hil] at h3 hun
        rw [h3] at hun; cases hun)
      unfold Fct.at at h1 ⊢
      rw [List.map_congr_left hsl]
      exact stab k g hg _ _ _ h1

/-- THE THEOREM: whatever order is drawn, the stages are gone through. -/
theorem wp_region_staged {id : Nat} {w : World} (hm : P.follows .mixedOrders = true) (n : Nat) (hn : a0.tmps.size = n) (hchk : chkL ops fs n = true)
    (stab : ∀ (k : Nat) (f : Fct), fs[k]? = some f → ∀ vs w w', f.says vs w → f.says vs w') (h0 : I (Array.replicate ops.size false) a0 w.drew)
    (exec : ∀ (i : Nat) (o : Oper) (f : Fct), ops[i]? = some o → fs[i]? = some f → ∀ (l : Array Bool) (a : Act) (w : World), l.size = ops.size → a.tmps.size = n → I l a w → l.getD i true = false → ClosedR ops l → (∀ t, (∀ (i : Nat) (o : Oper), ops[i]? = some o → o.dst ≠ some t) → a.tmps.getD t undef = a0.tmps.getD t undef) →
      (∀ e ∈ o.after, Region.binds .any e = true → l.getD e.on false = true ∧ ∀ g, fs[e.on]? = some g → g.at a w) → Region.wanted o (yielded ops a.tmps) = true ∧ o.wp P a w (fun a' w' => ∃ v, a' = a.put o.dst v ∧ I (l.setIfInBounds i true) (a.put o.dst v) w' ∧ f.at (a.put o.dst v) w') Q)
    (fin : ∀ (vs : List Value) (l : Array Bool) (w : World), vs.length = ops.size → (∀ i, i < ops.size → l.getD i false = true) → I l (putAll ops.toList vs a0) w → (∀ (i : Nat) (f : Fct), fs[i]? = some f → f.at (putAll ops.toList vs a0) w) → Q .normal (putAll ops.toList vs a0) w) : (Code.region id ops true).wp P Q a0 w := by
  have hcs := chkL_spec hchk
  refine wp_region_any hm ?_
  have key : ∀ (fuel : Nat) (listed : Array Bool) (a : Act) (w : World), unl listed ≤ fuel → NInv ops fs a0 I listed a w → wpAny P .any ops Q fuel listed a w := by
    have done : ∀ (listed : Array Bool) (a : Act) (w : World), NInv ops fs a0 I listed a w → (∀ i, i < ops.size → listed.getD i false = true) → Q .normal a w := fun listed a w hJ hall => by
      have e := putAll_eq ops.toList a0 a hJ.size hJ.defers (fun t ht => hJ.old t (fun i o ho => ht o (by rw [Array.mem_toList_iff]; exact Array.mem_of_getElem? ho)))
      rw [← e]
      refine fin _ listed w (by simp) hall (by rw [e]; exact hJ.inv) (fun i f hf => ?_)
      rw [e]
      exact hJ.facts i f hf (hall i (by rw [hcs.1]; exact (Array.getElem?_eq_some_iff.1 hf).1))
    intro fuel
    induction fuel with
    | zero =>
      intro listed a w hu hJ
      have hz := unl_zero (show unl listed = 0 by omega)
      have hall : ∀ i, i < ops.size → listed.getD i false = true := fun i hi => by
        have := hz i
        simpa [hJ.ls, hi] using this
      refine ⟨?_, done listed a w hJ hall⟩
      apply List.eq_nil_iff_forall_not_mem.2
      intro i hi
      have := (mem_ready.1 hi).1
      rw [hz i] at this; cases this
    | succ fuel ih =>
      intro listed a w hu hJ
      refine ⟨fun hr => done listed a w hJ (ready_all hJ.ls (fun k o ho => (hcs.2 k o ho).choose_spec.2.1) hr), fun i hi => ?_⟩
      obtain ⟨hun, o, ho, hpre⟩ := mem_ready.1 hi
      obtain ⟨f, hf, _⟩ := hcs.2 i o ho
      obtain ⟨hw, hx⟩ := exec i o f ho hf listed a w hJ.ls (by rw [hJ.size, hn]) hJ.inv hun hJ.closed hJ.old (fun e he hb => ⟨hpre e he hb, fun g hg' => hJ.facts e.on g hg' (hpre e he hb)⟩)
      unfold wpOp
      rw [ho]
      simp only [hw, if_true]
      refine .inl ?_
      refine Oper.wp_mono (fun a' w' ⟨v, ha, hR, hF⟩ => ?_) hx
      rw [ha]
      refine ih _ _ _ ?_ (ninv_step n hn hchk stab hJ ho hf hun hpre hR hF)
      have := unl_set hun
      omega
  refine key _ _ _ _ ?_ ⟨rfl, rfl, by simp, fun _ _ => rfl, h0, fun k o ho hk => ?_, fun i f hf hk => ?_⟩
  · unfold unl
    simp
  · have hks := (Array.getElem?_eq_some_iff.1 ho).1
    simp [hks] at hk
  · have hks := (Array.getElem?_eq_some_iff.1 hf).1
    rw [← hcs.1] at hks
    simp [hks] at hk
theorem wp_region_stagedL {id : Nat} {w : World} {l : List Oper} (hm : P.follows .mixedOrders = true) (n : Nat) (hn : a0.tmps.size = n) (hchk : chkL l.toArray fs n = true)
    (stab : ∀ (k : Nat) (f : Fct), fs[k]? = some f → ∀ vs w w', f.says vs w → f.says vs w') (h0 : I (Array.replicate l.length false) a0 w.drew)
    (exec : ∀ (i : Nat) (o : Oper) (f : Fct), l.toArray[i]? = some o → fs[i]? = some f → ∀ (ls : Array Bool) (a : Act) (w : World), ls.size = l.toArray.size → a.tmps.size = n → I ls a w → ls.getD i true = false → ClosedR l.toArray ls → (∀ t, (∀ (i : Nat) (o : Oper), l.toArray[i]? = some o → o.dst ≠ some t) → a.tmps.getD t undef = a0.tmps.getD t undef) →
      (∀ e ∈ o.after, Region.binds .any e = true → ls.getD e.on false = true ∧ ∀ g, fs[e.on]? = some g → g.at a w) → Region.wanted o (yielded l.toArray a.tmps) = true ∧ o.wp P a w (fun a' w' => ∃ v, a' = a.put o.dst v ∧ I (ls.setIfInBounds i true) (a.put o.dst v) w' ∧ f.at (a.put o.dst v) w') Q)
    (fin : ∀ (vs : List Value) (ls : Array Bool) (w : World), vs.length = l.length → (∀ i, i < l.length → ls.getD i false = true) → I ls (putAll l vs a0) w → (∀ (i : Nat) (f : Fct), fs[i]? = some f → f.at (putAll l vs a0) w) → Q .normal (putAll l vs a0) w) : (Code.region id l.toArray true).wp P Q a0 w :=
  wp_region_staged hm n hn hchk stab (by simpa using h0) exec (fun vs ls w h1 h2 h3 h4 => fin vs ls w (by simpa using h1) (by simpa using h2) h3 (by simpa using h4))
/-- An operation and those that wait for it, straight or through others: if one that waits was done, it was. -/
def waitsB (ops : Array Oper) (i : Nat) : Nat → Nat → Bool
  | 0, _ => false
  | n + 1, j => (match ops[j]? with | some o => o.after.any fun e => Region.binds .any e && (e.on == i || waitsB ops i n e.on) | none => false)
theorem waits_spec {l : Array Bool} (hc : ClosedR ops l) {i : Nat} : ∀ (n j : Nat), waitsB ops i n j = true → l.getD j false = true → l.getD i false = true
  | 0, j, h, _ => by simp [waitsB] at h
  | n + 1, j, h, hj => by
    rw [waitsB] at h
    split at h
    · rename_i o ho
      obtain ⟨e, he, h7⟩ := Array.any_eq_true'.1 h
      rw [Bool.and_eq_true, Bool.or_eq_true, beq_iff_eq] at h7
      have h8 := hc j o ho hj e he h7.1
      rcases h7.2 with h9 | h9
      · rw [h9] at h8; exact h8
      · exact waits_spec hc n e.on h9 h8
    · simp at h
/-- It was not done: so none that waits for it was. -/
theorem not_yet {l : Array Bool} (hc : ClosedR ops l) {i j : Nat} (n : Nat) (hw : waitsB ops i n j = true) (hi : l.getD i true = false) : l.getD j false = false := by
  cases h : l.getD j false with
  | false => rfl
  | true =>
    have := waits_spec hc n j hw h
    rcases Nat.lt_or_ge i l.size with h' | h'
    · simp [h'] at this hi
      rw [this] at hi; cases hi
    · simp [Array.getElem?_eq_none h'] at this
theorem set_other {l : Array Bool} {i j : Nat} (h : i ≠ j) : (l.setIfInBounds i true).getD j false = l.getD j false := by
  simp [h]
theorem set_it {l : Array Bool} {i : Nat} (h : i < l.size) : (l.setIfInBounds i true).getD i false = true := by
  simp [h]
theorem list19 {α : Type} (l : List α) (h : l.length = 19) : ∃ a0 a1 a2 a3 a4 a5 a6 a7 a8 a9 a10 a11 a12 a13 a14 a15 a16 a17 a18, l = [a0, a1, a2, a3, a4, a5, a6, a7, a8, a9, a10, a11, a12, a13, a14, a15, a16, a17, a18] := by
  match l, h with
  | [a0, a1, a2, a3, a4, a5, a6, a7, a8, a9, a10, a11, a12, a13, a14, a15, a16, a17, a18], _ => exact ⟨a0, a1, a2, a3, a4, a5, a6, a7, a8, a9, a10, a11, a12, a13, a14, a15, a16, a17, a18, rfl⟩
end Go.Proofs.Ytnjihmailppjkaa
