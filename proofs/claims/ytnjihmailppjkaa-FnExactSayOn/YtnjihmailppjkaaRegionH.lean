/- A region that draws its order and opens with operations that only read, for all of which the others wait: these are walked once, in the order of the text; what is left is asked from there. -/
import Derived.Test.YtnjihmailppjkaaRegionN
import Derived.StillTactics
namespace Go.Proofs.Ytnjihmailppjkaa
open Go.RowKit
set_option linter.unusedVariables false
variable {P : Program} {ops : Array Oper} {w : World}
/-- One behind the other they yield these values; the world stays. -/
def runsY (P : Program) (ops : Array Oper) (w : World) : List Oper → List Value → Act → Prop
  | [], [], _ => True
  | o :: os, v :: vs, a => YieldsAt P ops w o v a ∧ runsY P ops w os vs (a.put o.dst v)
  | _, _, _ => False
theorem still_vals {Lq : Act → Prop} : ∀ (l : List Oper) (k : Nat) (a : Act), (∀ j, j < l.length → l[j]? = ops[k + j]?) → wpStill P ops w Lq l a → ∃ vs, vs.length = l.length ∧ runsY P ops w l vs a ∧ Lq (putAll l vs a)
  | [], k, a, _, h => ⟨[], rfl, trivial, h⟩
  | o :: l, k, a, hl, h => by
    have h0 : ops[k]? = some o := by have := (hl 0 (by simp)).symm; simpa using this
    have hst : stOp P ops w k (wpStill P ops w Lq l) a := by unfold stOp; simp only [h0]; exact h
    obtain ⟨v, hy, hK⟩ := yieldsAt_of_stOp h0 hst
    obtain ⟨vs, e1, e2, e3⟩ := still_vals l (k + 1) (a.put o.dst v) (fun j hj => by have := hl (j + 1) (by simp; omega); simpa [Nat.add_assoc, Nat.add_comm 1 j] using this) hK
    exact ⟨v :: vs, by simp [e1], ⟨hy, e2⟩, e3⟩
theorem runsY_at : ∀ (l : List Oper) (vs : List Value) (a : Act) (i : Nat) (o : Oper), runsY P ops w l vs a → l[i]? = some o → YieldsAt P ops w o (vs.getD i undef) (putAll (l.take i) (vs.take i) a)
  | [], _, a, i, o, _, h => by simp at h
  | x :: l, [], a, i, o, h, _ => h.elim
  | x :: l, v :: vs, a, 0, o, h, ho => by
    simp at ho; subst ho
    exact h.1
  | x :: l, v :: vs, a, i + 1, o, h, ho => by
    have := runsY_at l vs (a.put x.dst v) i o h.2 (by simpa using ho)
    simpa [putAll] using this
theorem putAll_val : ∀ (l : List Oper) (vs : List Value) (a : Act) (j : Nat) (o : Oper) (d : Nat), l[j]? = some o → o.dst = some d → (∀ k ok, l[k]? = some ok → k ≠ j → ok.dst ≠ some d) → j < vs.length → d < a.tmps.size → (putAll l vs a).tmps.getD d undef = vs.getD j undef
  | [], vs, a, j, o, d, h, _, _, _, _ => by simp at h
  | x :: l, [], a, j, o, d, _, _, _, h, _ => by simp at h
  | x :: l, v :: vs, a, 0, o, d, h, hd, hu, _, hs => by
    simp at h; subst h
    rw [putAll, putAll_keep l vs _ d (fun o' ho' => by
      obtain ⟨k, hk⟩ := List.mem_iff_getElem?.1 ho'
      exact hu (k + 1) o' (by simpa using hk) (by omega)), hd, put_same a d _ hs]
    rfl
  | x :: l, v :: vs, a, j + 1, o, d, h, hd, hu, hj, hs => by
    rw [putAll]
    have := putAll_val l vs (a.put x.dst v) j o d (by simpa using h) hd (fun k ok hk hne => hu (k + 1) ok (by simpa using hk) (by omega)) (by simpa using hj) (by rw [put_size]; exact hs)
    simpa using this
/-- What is asked of the text: of the first m operations each has a slot of its own, no guard, waits for those whose slots it looks at; the others wait for all of them. -/
def hdB (l : List Oper) (m N : Nat) : Bool :=
  decide (m ≤ l.length) && Region.noSelect l.toArray && ((List.range m).all fun i => match l[i]? with
    | some o => o.guard.isNone && (match o.dst with | some d => decide (d < N) | none => false) && (o.after.all fun e => !Region.binds .any e || decide (e.on < i)) &&
        ((List.range m).all fun j => match (l[j]?).bind (·.dst) with | some d => (j == i || o.dst != some d) && (!(o.looksAt l.toArray).contains d || o.after.any fun e => Region.binds .any e && e.on == j) | none => false)
    | none => false) && ((List.range l.length).all fun t => decide (t < m) || ((List.range m).all fun i => waitsB l.toArray i l.length t))
structure HdOk (l : List Oper) (m N : Nat) : Prop where
  le : m ≤ l.length
  sel : Region.noSelect l.toArray = true
  op : ∀ i, i < m → ∃ o d, l[i]? = some o ∧ o.guard = none ∧ o.dst = some d ∧ d < N ∧ (∀ e ∈ o.after, Region.binds .any e = true → e.on < i) ∧
    ∀ j oj dj, j < m → l[j]? = some oj → oj.dst = some dj → (j ≠ i → o.dst ≠ some dj) ∧ (dj ∈ o.looksAt l.toArray → ∃ e ∈ o.after, Region.binds .any e = true ∧ e.on = j)
  wait : ∀ t i, m ≤ t → t < l.length → i < m → waitsB l.toArray i l.length t = true
theorem hdB_spec {l : List Oper} {m N : Nat} (h : hdB l m N = true) : HdOk l m N := by
  simp only [hdB, Bool.and_eq_true, decide_eq_true_eq, List.all_eq_true, List.mem_range] at h
  obtain ⟨⟨⟨h1, h2⟩, h3⟩, h4⟩ := h
  refine ⟨h1, h2, fun i hi => ?_, fun t i ht1 ht2 hi => ?_⟩
  · have h5 := h3 i hi
    have hil : i < l.length := by omega
    rw [List.getElem?_eq_getElem hil] at h5 ⊢
    simp only [Bool.and_eq_true, Option.isNone_iff_eq_none] at h5
    obtain ⟨⟨⟨g1, g2⟩, g3⟩, g4⟩ := h5
    cases hd : l[i].dst with
    | none => rw [hd] at g2; cases g2
    | some d =>
      rw [hd] at g2
      refine ⟨_, d, rfl, g1, hd, by simpa using g2, fun e he hb => ?_, fun j oj dj hj hoj hdj => ?_⟩
      · have := (Array.all_eq_true_iff_forall_mem.1 g3) e he
        rw [hb] at this
        simpa using this
      · have h6 := (List.all_eq_true.1 g4) j (List.mem_range.2 hj)
        rw [hoj] at h6
        simp only [Option.bind_some, hdj, Bool.and_eq_true, Bool.or_eq_true, beq_iff_eq, bne_iff_ne, Bool.not_eq_true'] at h6
        refine ⟨fun hne => ?_, fun hmem => ?_⟩
        · rcases h6.1 with h7 | h7
          · exact absurd h7 hne
          · exact h7
        · rcases h6.2 with h7 | h7
          · have : (l[i].looksAt l.toArray).contains dj = true := by simpa using hmem
            rw [this] at h7; cases h7
          · obtain ⟨e, he, hb⟩ := Array.any_eq_true'.1 h7
            simp only [Bool.and_eq_true, beq_iff_eq] at hb
            exact ⟨e, he, hb.1, hb.2⟩
  · have h5 := h4 t ht2
    simp only [Bool.or_eq_true, decide_eq_true_eq, List.all_eq_true, List.mem_range] at h5
    rcases h5 with h5 | h5
    · omega
    · exact h5 i hi
/-- The first m are done, no other. -/
def hdL (n m : Nat) : Array Bool := (List.replicate m true ++ List.replicate (n - m) false).toArray
theorem hdL_at (n m i : Nat) (hm : m ≤ n) : (hdL n m)[i]? = if i < m then some true else if i < n then some false else none := by
  unfold hdL
  rw [List.getElem?_toArray, List.getElem?_append]
  simp only [List.length_replicate, List.getElem?_replicate]
  by_cases h : i < m
  · simp [h]
  · by_cases h2 : i < n
    · simp [h, h2]; omega
    · simp [h, h2]; omega
structure HInv (l : List Oper) (m : Nat) (vs : List Value) (a0 : Act) (listed : Array Bool) (a : Act) : Prop where
  ls : listed.size = l.length
  size : a.tmps.size = a0.tmps.size
  defers : a.defers = a0.defers
  closed : ClosedR l.toArray listed
  tail : ∀ t, m ≤ t → t < l.length → listed.getD t false = false
  vals : ∀ i o d, i < m → l[i]? = some o → o.dst = some d → listed.getD i false = true → a.tmps.getD d undef = vs.getD i undef
  olds : ∀ t, (∀ i o, i < m → l[i]? = some o → listed.getD i false = true → o.dst ≠ some t) → a.tmps.getD t undef = a0.tmps.getD t undef
theorem getD_setB {x : Array Bool} {i j : Nat} : (x.setIfInBounds i true).getD j false = if i = j then (if i < x.size then true else false) else x.getD j false := by
  by_cases h : i = j
  · subst h
    by_cases h2 : i < x.size
    · simp [h2]
    · simp [h2]
  · simp [h]
theorem un_repl (n i : Nat) : (Array.replicate n false).getD i false = false := by
  rcases Nat.lt_or_ge i n with h | h
  · simp [h]
  · simp [h]
theorem un_in {x : Array Bool} {i : Nat} (hi : i < x.size) (h : x.getD i false = false) : x.getD i true = false := by simpa [hi] using h
theorem un_both {x : Array Bool} {i : Nat} (h : x.getD i true = false) : x.getD i false = false := by
  rcases Nat.lt_or_ge i x.size with h' | h'
  · simpa [h'] using h
  · simp [Array.getElem?_eq_none h'] at h
theorem listed_lt {x : Array Bool} {i : Nat} (h : x.getD i false = true) : i < x.size := by
  rcases Nat.lt_or_ge i x.size with h' | h'
  · exact h'
  · simp [Array.getElem?_eq_none h'] at h
theorem wanted_none {o : Oper} {y : Nat → Option Bool} (h : o.guard = none) : Region.wanted o y = true := by simp [Region.wanted, h]
/-- How many of the first m are not done. -/
def unlH (x : Array Bool) (m : Nat) : Nat := ((List.range m).filter fun i => !x.getD i false).length
theorem unlH_zero {x : Array Bool} {m : Nat} (h : unlH x m = 0) : ∀ i, i < m → x.getD i false = true := fun i hi => by
  have := List.filter_eq_nil_iff.1 (List.length_eq_zero_iff.1 h) i (List.mem_range.2 hi)
  simpa using this
theorem filter_len_one {p q : Nat → Bool} {i : Nat} : ∀ (l : List Nat), l.Nodup → i ∈ l → p i = true → q i = false → (∀ j ∈ l, j ≠ i → q j = p j) → (l.filter q).length + 1 = (l.filter p).length
  | [], _, h, _, _, _ => by cases h
  | x :: l, hn, hi, hp, hq, hr => by
    have hnd := List.nodup_cons.1 hn
    by_cases hx : x = i
    · subst hx
      have e : l.filter q = l.filter p := List.filter_congr (fun j hj => hr j (List.mem_cons_of_mem _ hj) (fun e => hnd.1 (e ▸ hj)))
      simp [hp, hq, e]
    · have hil : i ∈ l := by
        rcases List.mem_cons.1 hi with h | h
        · exact absurd h.symm hx
        · exact h
      have ih := filter_len_one l hnd.2 hil hp hq (fun j hj hne => hr j (List.mem_cons_of_mem _ hj) hne)
      have hxq := hr x (List.mem_cons_self ..) hx
      rw [List.filter_cons, List.filter_cons, hxq]
      split
      · simp only [List.length_cons]; omega
      · exact ih
theorem unlH_set {x : Array Bool} {m i : Nat} (hi : i < m) (hs : i < x.size) (h : x.getD i false = false) : unlH (x.setIfInBounds i true) m + 1 = unlH x m := by
  refine filter_len_one (i := i) (List.range m) List.nodup_range (List.mem_range.2 hi) (by simpa using h) ?_ (fun j _ hne => ?_)
  · rw [getD_setB, if_pos rfl, if_pos hs]; rfl
  · rw [getD_setB, if_neg (fun e => hne e.symm)]
theorem unlH_start (n m : Nat) : unlH (Array.replicate n false) m = m := by
  unfold unlH
  rw [List.filter_eq_self.2 (fun i _ => by rw [un_repl]; rfl), List.length_range]
theorem least_un {x : Array Bool} {m : Nat} (h : ∃ i, i < m ∧ x.getD i false = false) : ∃ i, i < m ∧ x.getD i false = false ∧ ∀ j, j < i → x.getD j false = true := by
  obtain ⟨i, hi, hx⟩ := h
  induction i using Nat.strongRecOn with
  | _ i ih =>
    by_cases hall : ∀ j, j < i → x.getD j false = true
    · exact ⟨i, hi, hx, hall⟩
    · obtain ⟨j, hj⟩ := Classical.not_forall.1 hall
      have h1 : j < i := Classical.byContradiction (fun hn => hj (fun h => absurd h hn))
      have h2 : x.getD j false = false := by
        cases h3 : x.getD j false with
        | false => rfl
        | true => exact absurd (fun _ => h3) hj
      exact ih j h1 (by omega) h2
theorem head_any {l : List Oper} {m N : Nat} {vs : List Value} {a0 : Act} {Q : Exit → Act → World → Prop} (ok : HdOk l m N) (hN : a0.tmps.size = N) (hvl : vs.length = m) (hr : runsY P l.toArray w (l.take m) vs a0)
    (htail : wpAny P .any l.toArray Q (l.length - m) (hdL l.length m) (putAll (l.take m) vs a0) w) :
    ∀ (d : Nat) (listed : Array Bool) (a : Act), HInv l m vs a0 listed a → unlH listed m = d → wpAny P .any l.toArray Q (d + (l.length - m)) listed a w := by
  have hops : ∀ i o, i < m → l[i]? = some o → (l.take m)[i]? = some o := fun i o hi h => by rw [List.getElem?_take]; simp [hi, h]
  intro d
  induction d with
  | zero =>
    intro listed a hJ hd
    have hall := unlH_zero hd
    have e1 : listed = hdL l.length m := by
      apply Array.ext
      · rw [hJ.ls]; unfold hdL; simp; have := ok.le; omega
      · intro i h1 h2
        have h3 := hdL_at l.length m i ok.le
        rw [Array.getElem?_eq_getElem h2] at h3
        have hil : i < l.length := by rw [← hJ.ls]; exact h1
        by_cases him : i < m
        · have h4 := hall i him
          rw [if_pos him] at h3
          have h5 : listed[i] = true := by simpa [h1] using h4
          rw [h5, Option.some.inj h3]
        · have h4 := hJ.tail i (by omega) hil
          rw [if_neg him, if_pos hil] at h3
          have h5 : listed[i] = false := by simpa [h1] using h4
          rw [h5, Option.some.inj h3]
    have e2 : putAll (l.take m) vs a0 = a := by
      have hsz := putAll_size (l.take m) vs a0
      have ht : (putAll (l.take m) vs a0).tmps = a.tmps := by
        apply Array.ext
        · rw [hsz.1, hJ.size]
        · intro t h1 h2
          have h3 : (putAll (l.take m) vs a0).tmps.getD t undef = a.tmps.getD t undef := by
            by_cases hex : ∃ i o, i < m ∧ l[i]? = some o ∧ o.dst = some t
            · obtain ⟨i, o, hi, ho, hd⟩ := hex
              rw [hJ.vals i o t hi ho hd (hall i hi)]
              refine putAll_val (l.take m) vs a0 i o t (hops i o hi ho) hd (fun k ok' hk hne => ?_) (by omega) (by rw [hsz.1] at h1; exact h1)
              rw [List.getElem?_take] at hk
              split at hk
              · rename_i hkm
                obtain ⟨o2, d2, q1, q2, q3, q4, q5, q6⟩ := ok.op k hkm
                rw [hk] at q1
                cases q1
                exact (q6 i o t hi ho hd).1 (fun e => hne e.symm)
              · cases hk
            · rw [hJ.olds t (fun i o hi ho _ hd => hex ⟨i, o, hi, ho, hd⟩)]
              refine putAll_keep (l.take m) vs a0 t (fun o ho hd => ?_)
              obtain ⟨k, hk⟩ := List.mem_iff_getElem?.1 ho
              rw [List.getElem?_take] at hk
              split at hk
              · rename_i hkm; exact hex ⟨k, o, hkm, hk, hd⟩
              · cases hk
          simpa [h1, h2] using h3
      have hdf : (putAll (l.take m) vs a0).defers = a.defers := by rw [hsz.2, hJ.defers]
      generalize putAll (l.take m) vs a0 = b at ht hdf
      cases b; cases a; simp_all
    rw [e1, ← e2, Nat.zero_add]
    exact htail
  | succ d ih =>
    intro listed a hJ hd
    rw [show d + 1 + (l.length - m) = (d + (l.length - m)) + 1 by omega]
    have hex : ∃ i, i < m ∧ listed.getD i false = false := Classical.byContradiction (fun hn => by
      have h1 : ∀ i, i < m → listed.getD i false = true := fun i hi => by
        cases h : listed.getD i false with
        | true => rfl
        | false => exact absurd ⟨i, hi, h⟩ hn
      have : unlH listed m = 0 := by
        unfold unlH
        rw [List.length_eq_zero_iff, List.filter_eq_nil_iff]
        intro i hi
        rw [h1 i (List.mem_range.1 hi)]; simp
      omega)
    refine ⟨fun hr0 => ?_, fun i hi => ?_⟩
    · obtain ⟨i, him, hun, hlo⟩ := least_un hex
      obtain ⟨o, dd, q1, q2, q3, q4, q5, q6⟩ := ok.op i him
      have : i ∈ Region.ready .any l.toArray listed := mem_ready.2 ⟨un_in (by rw [hJ.ls]; have := ok.le; omega) hun, o, by simpa using q1, fun e he hb => hlo e.on (q5 e he hb)⟩
      rw [hr0] at this; cases this
    · obtain ⟨hun, o, ho, hpre⟩ := mem_ready.1 hi
      have hol : l[i]? = some o := by simpa using ho
      have hil : i < l.length := (List.getElem?_eq_some_iff.1 hol).1
      have him : i < m := Classical.byContradiction (fun hge => by
        obtain ⟨k, hk, hku⟩ := hex
        have hw := ok.wait i k (by omega) hil hk
        cases hlen : l.length with
        | zero => omega
        | succ n =>
          rw [hlen, waitsB, ho] at hw
          simp only at hw
          obtain ⟨e, he, h7⟩ := Array.any_eq_true'.1 hw
          rw [Bool.and_eq_true, Bool.or_eq_true, beq_iff_eq] at h7
          have h8 := hpre e he h7.1
          have h9 : listed.getD k false = true := by
            rcases h7.2 with h9 | h9
            · rw [h9] at h8; exact h8
            · exact waits_spec hJ.closed n e.on h9 h8
          rw [hku] at h9; cases h9)
      obtain ⟨o', dd, q1, q2, q3, q4, q5, q6⟩ := ok.op i him
      rw [hol] at q1
      cases q1
      have hsel := Region.noSelect_spec ok.sel i o
      have hy := runsY_at (l.take m) vs a0 i o hr (hops i o him hol)
      have htk : (l.take m).take i = l.take i := by rw [List.take_take]; congr 1; omega
      rw [htk] at hy
      have hsame : ∀ t, t ∈ o.looksAt l.toArray → a.tmps.getD t undef = (putAll (l.take i) (vs.take i) a0).tmps.getD t undef := fun t ht => by
        by_cases hw : ∃ j oj, j < m ∧ l[j]? = some oj ∧ oj.dst = some t
        · obtain ⟨j, oj, hj, hoj, hdj⟩ := hw
          obtain ⟨e, he, hb, hon⟩ := (q6 j oj t hj hoj hdj).2 ht
          have hjl := hpre e he hb
          rw [hon] at hjl
          have hji : j < i := by have := q5 e he hb; omega
          rw [hJ.vals j oj t hj hoj hdj hjl]
          have hv : (vs.take i).getD j undef = vs.getD j undef := by simp [List.getD_eq_getElem?_getD, hji]
          rw [← hv]
          refine (putAll_val (l.take i) (vs.take i) a0 j oj t (by rw [List.getElem?_take]; simp [hji, hoj]) hdj (fun k ok' hk hne => ?_) (by simp; omega) ?_).symm
          · rw [List.getElem?_take] at hk
            split at hk
            · rename_i hki
              obtain ⟨o2, d2, r1, r2, r3, r4, r5, r6⟩ := ok.op k (by omega)
              rw [hk] at r1
              cases r1
              exact (r6 j oj t hj hoj hdj).1 (fun e => hne e.symm)
            · cases hk
          · obtain ⟨o2, d2, r1, r2, r3, r4, r5, r6⟩ := ok.op j hj
            rw [hoj] at r1
            cases r1
            rw [hdj] at r3
            cases r3
            rw [hN]; exact r4
        · rw [hJ.olds t (fun j oj hj hoj _ hd => hw ⟨j, oj, hj, hoj, hd⟩)]
          refine (putAll_keep (l.take i) (vs.take i) a0 t (fun o2 ho2 hd => ?_)).symm
          obtain ⟨k, hk⟩ := List.mem_iff_getElem?.1 ho2
          rw [List.getElem?_take] at hk
          split at hk
          · rename_i hki; exact hw ⟨k, o2, by omega, hk, hd⟩
          · cases hk
      have hex2 : execOp a.eval o = execOp (putAll (l.take i) (vs.take i) a0).eval o := execOp_congr o (fun cs b => hsel cs b (by simpa using hol)) (fun x hx => by
        cases x with
        | tmp t => exact hsame t (List.mem_append_left _ (List.mem_filterMap.2 ⟨.tmp t, by simpa using hx, rfl⟩))
        | _ => rfl)
      have hy2 : YieldsAt P l.toArray w o (vs.getD i undef) a := hy.of_same hex2 (by rw [wanted_none q2, wanted_none q2])
      have hst := YieldsAt.stOp (K := fun a' => wpAny P .any l.toArray Q (d + (l.length - m)) (listed.setIfInBounds i true) a' w) ho hy2 (ih _ _ ?_ ?_)
      · exact wpOp_of_stOp (fun a' h' => h') hst
      · have hls : i < listed.size := by rw [hJ.ls]; exact hil
        refine ⟨by simpa using hJ.ls, (put_size _ _ _).trans hJ.size, (put_defers _ _ _).trans hJ.defers, fun k ok' hk hkl e he hb => ?_, fun t ht1 ht2 => ?_, fun j oj dj hj hoj hdj hjl => ?_, fun t ht => ?_⟩
        · rw [getD_setB] at hkl ⊢
          by_cases eon : i = e.on
          · rw [if_pos eon, if_pos hls]
          · rw [if_neg eon]
            by_cases ek : i = k
            · subst ek
              rw [ho] at hk
              cases hk
              exact hpre e he hb
            · rw [if_neg ek] at hkl
              exact hJ.closed k ok' hk hkl e he hb
        · rw [getD_setB, if_neg (by omega)]; exact hJ.tail t ht1 ht2
        · rw [getD_setB] at hjl
          by_cases e : i = j
          · subst e
            rw [hol] at hoj
            cases hoj
            rw [q3] at hdj
            cases hdj
            rw [q3]
            exact put_same a dd _ (by rw [hJ.size, hN]; exact q4)
          · rw [if_neg e] at hjl
            rw [put_get a o.dst _ dj ((q6 j oj dj hj hoj hdj).1 (fun h => e h.symm))]
            exact hJ.vals j oj dj hj hoj hdj hjl
        · have h1 : o.dst ≠ some t := ht i o him hol (by rw [getD_setB, if_pos rfl, if_pos hls])
          rw [put_get a o.dst _ t h1]
          exact hJ.olds t (fun j oj hj hoj hjl => ht j oj hj hoj (by
            rw [getD_setB]
            by_cases e : i = j
            · rw [if_pos e, if_pos hls]
            · rw [if_neg e]; exact hjl))
      · have := unlH_set him (by rw [hJ.ls]; exact hil) (un_both hun)
        omega
/-- THE THEOREM. -/
theorem wp_region_head {id : Nat} {Q : Exit → Act → World → Prop} {a : Act} {l : List Oper} (m N : Nat) (hm : P.follows .mixedOrders = true) (hN : a.tmps.size = N) (hB : hdB l m N = true)
    (h : wpStill P l.toArray w.drew (fun a' => wpAny P .any l.toArray Q (l.length - m) (hdL l.length m) a' w.drew) (l.take m) a) : (Code.region id l.toArray true).wp P Q a w := by
  have ok := hdB_spec hB
  have htl : (l.take m).length = m := by have := ok.le; simp; omega
  obtain ⟨vs, hvl, hr, htail⟩ := still_vals (l.take m) 0 a (fun j hj => by rw [htl] at hj; simp [hj]) h
  rw [htl] at hvl
  refine wp_region_any hm ?_
  have := head_any ok hN hvl hr htail m (Array.replicate l.length false) a ⟨by simp, rfl, rfl, (fun k o _ hk => by rw [un_repl] at hk; cases hk), fun t _ _ => un_repl _ _, (fun i o d _ _ _ hk => by rw [un_repl] at hk; cases hk), fun _ _ => rfl⟩ (unlH_start _ _)
  rw [show m + (l.length - m) = l.length by have := ok.le; omega] at this
  simpa using this
end Go.Proofs.Ytnjihmailppjkaa
