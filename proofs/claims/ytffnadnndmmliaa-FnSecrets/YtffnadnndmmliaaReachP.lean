/- Chapter 5 in plain words, the program's way: a node is looked at when one of those that it waits for has come; when all that came were looked around, nothing more comes. -/
import Derived.Test.YtffnadnndmmliaaPlainReach3
namespace Go.Proofs.Ytffnadnndmmliaa
set_option linter.unusedVariables false

def lookM (ns : List Nd) (bs : List Bool) (k : Nat) : List Bool := if madeB ns bs (ns.getD k Nd.zero) = true then bs.set k true else bs
/-- A node is looked at: it comes if it can be made; if it is had, its parts come. -/
def lookB (ns : List Nd) (bs : List Bool) (k : Nat) : List Bool := if (lookM ns bs k).getD k false = true then givesB (lookM ns bs k) (ns.getD k Nd.zero) else lookM ns bs k
theorem lookM_len (ns : List Nd) (bs : List Bool) (k : Nat) : (lookM ns bs k).length = bs.length := by unfold lookM; split <;> simp
theorem lookB_len (ns : List Nd) (bs : List Bool) (k : Nat) : (lookB ns bs k).length = bs.length := by
  unfold lookB; split
  · rw [givesB_len, lookM_len]
  · rw [lookM_len]
theorem lookM_mono (ns : List Nd) {bs : List Bool} (k : Nat) {j : Nat} (h : bs.getD j false = true) : (lookM ns bs k).getD j false = true := by
  unfold lookM; split
  · exact set_mono h
  · exact h
theorem lookB_mono (ns : List Nd) {bs : List Bool} (k : Nat) {j : Nat} (h : bs.getD j false = true) : (lookB ns bs k).getD j false = true := by
  unfold lookB; split
  · exact gives_mono _ (lookM_mono ns k h)
  · exact lookM_mono ns k h
theorem lookB_sound {ns : List Nd} (ha : allFrom ns ns 0 = true) {K : Nat → Prop} {bs : List Bool} (h : Sound ns K bs) {k : Nat} (hk : k < ns.length) : Sound ns K (lookB ns bs k) := by
  have hM : Sound ns K (lookM ns bs k) := by
    unfold lookM; split
    · rename_i hm; exact h.set (made_had ha h hk hm)
    · exact h
  unfold lookB; split
  · rename_i hb; exact gives_sound hM hk hb
  · exact hM
theorem lookB_made {ns : List Nd} {bs : List Bool} {k : Nat} (hk : k < bs.length) (hm : madeB ns bs (ns.getD k Nd.zero) = true) : (lookB ns bs k).getD k false = true := by
  have h : (lookM ns bs k).getD k false = true := by unfold lookM; rw [if_pos hm, getD_setT, if_pos ⟨rfl, hk⟩]
  unfold lookB; rw [if_pos h]; exact gives_mono _ h
theorem madeB_mono {ns : List Nd} {ps qs : List Bool} (h : ∀ j, ps.getD j false = true → qs.getD j false = true) {x : Nd} (hm : madeB ns ps x = true) : madeB ns qs x = true := by
  unfold madeB at hm ⊢
  by_cases h1 : x.k = 1
  · rw [if_pos h1] at hm ⊢; exact hm
  · rw [if_neg h1] at hm ⊢
    by_cases h2 : oneK x.k = true
    · rw [if_pos h2] at hm ⊢; exact h _ hm
    · rw [if_neg h2] at hm ⊢
      by_cases h7 : x.k = 7
      · rw [if_pos h7] at hm ⊢
        simp only [Bool.or_eq_true, Bool.and_eq_true, decide_eq_true_eq] at hm ⊢
        rcases hm with ⟨q1, q2, q3⟩ | ⟨q1, q2, q3⟩
        · exact .inl ⟨h _ q1, q2, h _ q3⟩
        · exact .inr ⟨h _ q1, q2, h _ q3⟩
      · rw [if_neg h7] at hm ⊢
        simp only [Bool.and_eq_true] at hm ⊢
        exact ⟨h _ hm.1, h _ hm.2⟩
/-- Closed as far as those of ps tell. -/
structure Half (ns : List Nd) (ps bs : List Bool) : Prop where
  made : ∀ k, k < ns.length → madeB ns ps (ns.getD k Nd.zero) = true → bs.getD k false = true
  pair : ∀ k, k < ns.length → ps.getD k false = true → (ns.getD k Nd.zero).k = 2 → bs.getD (ns.getD k Nd.zero).a.toNat false = true ∧ bs.getD (ns.getD k Nd.zero).b.toNat false = true
  sign : ∀ k, k < ns.length → ps.getD k false = true → (ns.getD k Nd.zero).k = 8 → bs.getD (ns.getD k Nd.zero).b.toNat false = true
  sealed : ∀ k, k < ns.length → ps.getD k false = true → (ns.getD k Nd.zero).k = 5 → ps.getD (ns.getD k Nd.zero).a.toNat false = true → bs.getD (ns.getD k Nd.zero).b.toNat false = true
theorem Half.closed {ns : List Nd} {ps bs : List Bool} (h : Half ns ps bs) (hp : ∀ j, bs.getD j false = true → ps.getD j false = true) : Closed ns bs where
  made := fun k hk hm => h.made k hk (madeB_mono hp hm)
  pair := fun k hk hb h2 => h.pair k hk (hp k hb) h2
  sign := fun k hk hb h8 => h.sign k hk (hp k hb) h8
  sealed := fun k hk hb h5 hA => h.sealed k hk (hp k hb) h5 (hp _ hA)
/-- The node was looked at when those of ps were had. -/
def Looked (ns : List Nd) (ps bs : List Bool) (k : Nat) : Prop := ∃ qs : List Bool, qs.length = ns.length ∧ (∀ j, ps.getD j false = true → qs.getD j false = true) ∧ (∀ j, (lookB ns qs k).getD j false = true → bs.getD j false = true)
theorem Looked.more {ns : List Nd} {ps bs cs : List Bool} {k : Nat} (h : Looked ns ps bs k) (hm : ∀ j, bs.getD j false = true → cs.getD j false = true) : Looked ns ps cs k := by
  obtain ⟨qs, h1, h2, h3⟩ := h
  exact ⟨qs, h1, h2, fun j hj => hm j (h3 j hj)⟩
theorem Looked.made {ns : List Nd} {ps bs : List Bool} {k : Nat} (h : Looked ns ps bs k) (hk : k < ns.length) (hm : madeB ns ps (ns.getD k Nd.zero) = true) : bs.getD k false = true := by
  obtain ⟨qs, h1, h2, h3⟩ := h
  exact h3 _ (lookB_made (by omega) (madeB_mono h2 hm))
theorem Looked.gives {ns : List Nd} {ps bs : List Bool} {k : Nat} (h : Looked ns ps bs k) (hp : ps.getD k false = true) : ∃ qs : List Bool, qs.length = ns.length ∧ (∀ j, ps.getD j false = true → qs.getD j false = true) ∧ (∀ j, (givesB qs (ns.getD k Nd.zero)).getD j false = true → bs.getD j false = true) := by
  obtain ⟨qs, h1, h2, h3⟩ := h
  refine ⟨lookM ns qs k, by rw [lookM_len, h1], fun j hj => lookM_mono ns k (h2 j hj), fun j hj => h3 j ?_⟩
  unfold lookB
  rw [if_pos (lookM_mono ns k (h2 k hp))]
  exact hj
theorem Looked.pair {ns : List Nd} (ha : allFrom ns ns 0 = true) {ps bs : List Bool} {k : Nat} (h : Looked ns ps bs k) (hk : k < ns.length) (hp : ps.getD k false = true) (h2 : (ns.getD k Nd.zero).k = 2) : bs.getD (ns.getD k Nd.zero).a.toNat false = true ∧ bs.getD (ns.getD k Nd.zero).b.toNat false = true := by
  obtain ⟨qs, q1, q2, q3⟩ := h.gives hp
  have hn := nodeB_true (all_at ha hk).1
  have hA : (ns.getD k Nd.zero).a.toNat < qs.length := by omega
  have hB : (ns.getD k Nd.zero).b.toNat < qs.length := by omega
  unfold givesB at q3
  rw [if_pos h2] at q3
  exact ⟨q3 _ (set_mono (by rw [getD_setT, if_pos ⟨rfl, hA⟩])), q3 _ (by rw [getD_setT, if_pos ⟨rfl, by simpa using hB⟩])⟩
theorem Looked.sign {ns : List Nd} (ha : allFrom ns ns 0 = true) {ps bs : List Bool} {k : Nat} (h : Looked ns ps bs k) (hk : k < ns.length) (hp : ps.getD k false = true) (h8 : (ns.getD k Nd.zero).k = 8) : bs.getD (ns.getD k Nd.zero).b.toNat false = true := by
  obtain ⟨qs, q1, q2, q3⟩ := h.gives hp
  have hn := nodeB_true (all_at ha hk).1
  have hB : (ns.getD k Nd.zero).b.toNat < qs.length := by omega
  unfold givesB at q3
  rw [if_neg (by omega), if_pos h8] at q3
  exact q3 _ (by rw [getD_setT, if_pos ⟨rfl, hB⟩])
theorem Looked.sealed {ns : List Nd} (ha : allFrom ns ns 0 = true) {ps bs : List Bool} {k : Nat} (h : Looked ns ps bs k) (hk : k < ns.length) (hp : ps.getD k false = true) (h5 : (ns.getD k Nd.zero).k = 5) (hA : ps.getD (ns.getD k Nd.zero).a.toNat false = true) : bs.getD (ns.getD k Nd.zero).b.toNat false = true := by
  obtain ⟨qs, q1, q2, q3⟩ := h.gives hp
  have hn := nodeB_true (all_at ha hk).1
  have hB : (ns.getD k Nd.zero).b.toNat < qs.length := by omega
  unfold givesB at q3
  rw [if_neg (by omega), if_neg (by omega), if_pos h5, if_pos (q2 _ hA)] at q3
  exact q3 _ (by rw [getD_setT, if_pos ⟨rfl, hB⟩])
/-- Several are looked at. -/
def lookAll (ns : List Nd) (bs : List Bool) : List Nat → List Bool
  | [] => bs
  | k :: ks => lookAll ns (lookB ns bs k) ks
theorem lookAll_append (ns : List Nd) : ∀ (ks : List Nat) (bs : List Bool) (k : Nat), lookAll ns bs (ks ++ [k]) = lookB ns (lookAll ns bs ks) k
  | [], bs, k => rfl
  | j :: ks, bs, k => by simp only [List.cons_append, lookAll]; exact lookAll_append ns ks _ k
theorem lookAll_len (ns : List Nd) : ∀ (ks : List Nat) (bs : List Bool), (lookAll ns bs ks).length = bs.length
  | [], bs => rfl
  | j :: ks, bs => by simp only [lookAll]; rw [lookAll_len ns ks, lookB_len]
theorem lookAll_mono (ns : List Nd) : ∀ (ks : List Nat) {bs : List Bool} {j : Nat}, bs.getD j false = true → (lookAll ns bs ks).getD j false = true
  | [], bs, j, h => h
  | k :: ks, bs, j, h => by simp only [lookAll]; exact lookAll_mono ns ks (lookB_mono ns k h)
theorem lookAll_sound {ns : List Nd} (ha : allFrom ns ns 0 = true) {K : Nat → Prop} : ∀ (ks : List Nat) {bs : List Bool}, Sound ns K bs → (∀ k ∈ ks, k < ns.length) → Sound ns K (lookAll ns bs ks)
  | [], bs, h, _ => h
  | k :: ks, bs, h, hk => by simp only [lookAll]; exact lookAll_sound ha ks (lookB_sound ha h (hk k (by simp))) (fun j hj => hk j (by simp [hj]))
theorem lookAll_looked {ns : List Nd} {ps : List Bool} : ∀ (ks : List Nat) {bs : List Bool}, bs.length = ns.length → (∀ j, ps.getD j false = true → bs.getD j false = true) → ∀ k ∈ ks, Looked ns ps (lookAll ns bs ks) k
  | [], bs, _, _, k, hk => by simp at hk
  | i :: ks, bs, hl, hp, k, hk => by
    simp only [lookAll]
    rcases List.mem_cons.1 hk with rfl | hk
    · exact ⟨bs, hl, hp, fun j hj => lookAll_mono ns ks hj⟩
    · exact lookAll_looked ks (by rw [lookB_len, hl]) (fun j hj => lookB_mono ns i (hp j hj)) k hk
/-- Who has j as A or B: of one node, of the first m. -/
def usK (x : Nd) (j m : Nat) : List Nat := if x.k = 1 then [] else (if x.a.toNat = j then [m] else []) ++ (if oneK x.k = false ∧ x.b.toNat = j then [m] else [])
def usN (ns : List Nd) (j : Nat) : Nat → List Nat
  | 0 => []
  | m + 1 => usN ns j m ++ usK (ns.getD m Nd.zero) j m
theorem usN_lt (ns : List Nd) (j : Nat) : ∀ (m : Nat) {k : Nat}, k ∈ usN ns j m → k < m
  | 0, k, h => by simp [usN] at h
  | m + 1, k, h => by
    rw [usN, List.mem_append] at h
    rcases h with h | h
    · have := usN_lt ns j m h; omega
    · unfold usK at h
      split at h
      · simp at h
      · rw [List.mem_append] at h
        rcases h with h | h <;> split at h <;> simp at h <;> omega
theorem usN_len (ns : List Nd) (j : Nat) : ∀ m : Nat, (usN ns j m).length ≤ 2 * m
  | 0 => by simp [usN]
  | m + 1 => by
    have h := usN_len ns j m
    have : (usK (ns.getD m Nd.zero) j m).length ≤ 2 := by unfold usK; split <;> (try simp) <;> (repeat' split) <;> simp
    rw [usN, List.length_append]; omega
theorem usN_a {ns : List Nd} {j k : Nat} (h1 : (ns.getD k Nd.zero).k ≠ 1) (ha : (ns.getD k Nd.zero).a.toNat = j) : ∀ {m : Nat}, k < m → k ∈ usN ns j m
  | 0, h => by omega
  | m + 1, h => by
    rw [usN, List.mem_append]
    rcases Nat.lt_succ_iff_lt_or_eq.1 h with e | e
    · exact .inl (usN_a h1 ha e)
    · subst e; right; unfold usK; rw [if_neg h1, if_pos ha]; simp
theorem usN_b {ns : List Nd} {j k : Nat} (h1 : (ns.getD k Nd.zero).k ≠ 1) (ho : oneK (ns.getD k Nd.zero).k = false) (hb : (ns.getD k Nd.zero).b.toNat = j) : ∀ {m : Nat}, k < m → k ∈ usN ns j m
  | 0, h => by omega
  | m + 1, h => by
    rw [usN, List.mem_append]
    rcases Nat.lt_succ_iff_lt_or_eq.1 h with e | e
    · exact .inl (usN_b h1 ho hb e)
    · subst e; right; unfold usK; rw [if_neg h1, if_pos (show _ ∧ _ from ⟨ho, hb⟩)]; simp
/-- One that came is looked around. -/
def around (ns : List Nd) (bs : List Bool) (c : Nat) : List Bool :=
  if (ns.getD c Nd.zero).k = 6 then lookAll ns (lookAll ns (lookB ns bs c) (usN ns c ns.length)) (usN ns (ns.getD c Nd.zero).a.toNat ns.length) else lookAll ns (lookB ns bs c) (usN ns c ns.length)
theorem around_len (ns : List Nd) (bs : List Bool) (c : Nat) : (around ns bs c).length = bs.length := by
  unfold around; split
  · rw [lookAll_len, lookAll_len, lookB_len]
  · rw [lookAll_len, lookB_len]
theorem around_mono1 (ns : List Nd) {bs : List Bool} (c : Nat) {j : Nat} (h : (lookAll ns (lookB ns bs c) (usN ns c ns.length)).getD j false = true) : (around ns bs c).getD j false = true := by
  unfold around; split
  · exact lookAll_mono ns _ h
  · exact h
theorem around_mono (ns : List Nd) {bs : List Bool} (c : Nat) {j : Nat} (h : bs.getD j false = true) : (around ns bs c).getD j false = true := around_mono1 ns c (lookAll_mono ns _ (lookB_mono ns c h))
theorem around_sound {ns : List Nd} (ha : allFrom ns ns 0 = true) {K : Nat → Prop} {bs : List Bool} (h : Sound ns K bs) {c : Nat} (hc : c < ns.length) : Sound ns K (around ns bs c) := by
  have h1 : Sound ns K (lookAll ns (lookB ns bs c) (usN ns c ns.length)) := lookAll_sound ha _ (lookB_sound ha h hc) (fun k hk => usN_lt ns c _ hk)
  unfold around; split
  · exact lookAll_sound ha _ h1 (fun k hk => usN_lt ns _ _ hk)
  · exact h1
theorem getD_set_or {ps : List Bool} {c j : Nat} (h : (ps.set c true).getD j false = true) : j = c ∨ ps.getD j false = true := by
  rw [getD_setT] at h
  split at h
  · rename_i e; exact .inl e.1.symm
  · exact .inr h
/-- What can be made by one more waits for it. -/
theorem madeB_dep {ns : List Nd} {ps : List Bool} {c : Nat} {x : Nd} (hm : madeB ns (ps.set c true) x = true) :
    madeB ns ps x = true ∨ (x.k ≠ 1 ∧ x.a.toNat = c) ∨ (x.k ≠ 1 ∧ oneK x.k = false ∧ x.b.toNat = c) ∨ (x.k = 7 ∧ (ns.getD c Nd.zero).k = 6 ∧ ((ns.getD c Nd.zero).a.toNat = x.a.toNat ∨ (ns.getD c Nd.zero).a.toNat = x.b.toNat)) := by
  unfold madeB at hm ⊢
  by_cases h1 : x.k = 1
  · rw [if_pos h1] at hm ⊢; exact .inl hm
  · rw [if_neg h1] at hm ⊢
    by_cases h2 : oneK x.k = true
    · rw [if_pos h2] at hm ⊢
      rcases getD_set_or hm with e | e
      · exact .inr (.inl ⟨h1, e⟩)
      · exact .inl e
    · rw [if_neg h2] at hm ⊢
      have ho : oneK x.k = false := by simpa using h2
      by_cases h7 : x.k = 7
      · rw [if_pos h7] at hm ⊢
        simp only [Bool.or_eq_true, Bool.and_eq_true, decide_eq_true_eq] at hm ⊢
        rcases hm with ⟨q1, q2, q3⟩ | ⟨q1, q2, q3⟩
        · rcases getD_set_or q1 with e | e
          · exact .inr (.inl ⟨h1, e⟩)
          · rcases getD_set_or q3 with e3 | e3
            · obtain ⟨p6, pa⟩ := pubN_is q2
              rw [e3] at p6 pa
              exact .inr (.inr (.inr ⟨h7, p6, .inr pa⟩))
            · exact .inl (.inl ⟨e, q2, e3⟩)
        · rcases getD_set_or q1 with e | e
          · exact .inr (.inr (.inl ⟨h1, ho, e⟩))
          · rcases getD_set_or q3 with e3 | e3
            · obtain ⟨p6, pa⟩ := pubN_is q2
              rw [e3] at p6 pa
              exact .inr (.inr (.inr ⟨h7, p6, .inl pa⟩))
            · exact .inl (.inr ⟨e, q2, e3⟩)
      · rw [if_neg h7] at hm ⊢
        simp only [Bool.and_eq_true] at hm ⊢
        rcases getD_set_or hm.1 with e | e
        · exact .inr (.inl ⟨h1, e⟩)
        · rcases getD_set_or hm.2 with e2 | e2
          · exact .inr (.inr (.inl ⟨h1, ho, e2⟩))
          · exact .inl ⟨e, e2⟩
theorem Half.step {ns : List Nd} (ha : allFrom ns ns 0 = true) {ps bs : List Bool} (h : Half ns ps bs) (hl : bs.length = ns.length) (hp : ∀ j, ps.getD j false = true → bs.getD j false = true) {c : Nat} (hc : c < ns.length) (hb : bs.getD c false = true) : Half ns (ps.set c true) (around ns bs c) := by
  have hp2 : ∀ j, (ps.set c true).getD j false = true → bs.getD j false = true := fun j hj => by
    rcases getD_set_or hj with e | e
    · rw [e]; exact hb
    · exact hp j e
  have l0 : Looked ns (ps.set c true) (around ns bs c) c := ⟨bs, hl, hp2, fun j hj => around_mono1 ns c (lookAll_mono ns _ hj)⟩
  have l1 : ∀ k ∈ usN ns c ns.length, Looked ns (ps.set c true) (around ns bs c) k := fun k hk => (lookAll_looked (ns := ns) (ps := ps.set c true) _ (bs := lookB ns bs c) (by rw [lookB_len, hl]) (fun j hj => lookB_mono ns c (hp2 j hj)) k hk).more (fun j hj => around_mono1 ns c hj)
  have l2 : (ns.getD c Nd.zero).k = 6 → ∀ k ∈ usN ns (ns.getD c Nd.zero).a.toNat ns.length, Looked ns (ps.set c true) (around ns bs c) k := fun h6 k hk => by
    unfold around; rw [if_pos h6]
    exact lookAll_looked (ns := ns) (ps := ps.set c true) _ (by rw [lookAll_len, lookB_len, hl]) (fun j hj => lookAll_mono ns _ (lookB_mono ns c (hp2 j hj))) k hk
  refine ⟨fun k hk hm => ?_, fun k hk hq h2 => ?_, fun k hk hq h8 => ?_, fun k hk hq h5 hA => ?_⟩
  · rcases madeB_dep hm with e | ⟨e1, e2⟩ | ⟨e1, e2, e3⟩ | ⟨e7, e6, e⟩
    · exact around_mono ns c (h.made k hk e)
    · exact (l1 k (usN_a e1 e2 hk)).made hk hm
    · exact (l1 k (usN_b e1 e2 e3 hk)).made hk hm
    · rcases e with e | e
      · exact (l2 e6 k (usN_a (by omega) e.symm hk)).made hk hm
      · exact (l2 e6 k (usN_b (by omega) (by rw [e7]; decide) e.symm hk)).made hk hm
  · rcases getD_set_or hq with e | e
    · subst e; exact l0.pair ha hk hq h2
    · have := h.pair k hk e h2; exact ⟨around_mono ns c this.1, around_mono ns c this.2⟩
  · rcases getD_set_or hq with e | e
    · subst e; exact l0.sign ha hk hq h8
    · exact around_mono ns c (h.sign k hk e h8)
  · rcases getD_set_or hq with e | e
    · subst e; exact l0.sealed ha hk hq h5 hA
    · rcases getD_set_or hA with eA | eA
      · exact (l1 k (usN_a (by omega) eA hk)).sealed ha hk hq h5 hA
      · exact around_mono ns c (h.sealed k hk e h5 eA)
/-- Nothing was looked around yet: only what is made of nothing must be had. -/
theorem Half.zero {ns : List Nd} {bs : List Bool} (h : ∀ k, k < ns.length → madeB ns (List.replicate ns.length false) (ns.getD k Nd.zero) = true → bs.getD k false = true) : Half ns (List.replicate ns.length false) bs := by
  have hf : ∀ j, (List.replicate ns.length false).getD j false = true → False := fun j hj => by
    rw [List.getD_eq_getElem?_getD, List.getElem?_replicate] at hj
    split at hj <;> simp at hj
  exact ⟨h, fun k _ hq => (hf k hq).elim, fun k _ hq => (hf k hq).elim, fun k _ hq => (hf k hq).elim⟩
/-- The second loop: the first m nodes were looked at. -/
structure Look1 (ns : List Nd) (xs : List Int) (m : Nat) (bs : List Bool) : Prop where
  start : Start ns xs xs.length bs
  made : ∀ k, k < m → madeB ns (List.replicate ns.length false) (ns.getD k Nd.zero) = true → bs.getD k false = true
theorem Start.mono {ns : List Nd} {xs : List Int} {m : Nat} {bs cs : List Bool} (h : Start ns xs m bs) (hs : Sound ns (KOf xs) cs) (hm : ∀ j, bs.getD j false = true → cs.getD j false = true) : Start ns xs m cs := ⟨hs, h.2.mono hm⟩
theorem Look1.zero {ns : List Nd} {xs : List Int} {bs : List Bool} (h : Start ns xs xs.length bs) : Look1 ns xs 0 bs := ⟨h, fun k hk => absurd hk (Nat.not_lt_zero _)⟩
theorem Look1.next {ns : List Nd} (ha : allFrom ns ns 0 = true) {xs : List Int} {m : Nat} {bs : List Bool} (h : Look1 ns xs m bs) (hm : m < ns.length) : Look1 ns xs (m + 1) (lookB ns bs m) := by
  refine ⟨h.start.mono (lookB_sound ha h.start.1 hm) (fun j hj => lookB_mono ns m hj), fun k hk hq => ?_⟩
  by_cases e : k = m
  · subst e
    exact lookB_made (by rw [h.start.1.1]; exact hm) (madeB_mono (fun j hj => by
      rw [List.getD_eq_getElem?_getD, List.getElem?_replicate] at hj
      split at hj <;> simp at hj) hq)
  · exact lookB_mono ns m (h.made k (by omega) hq)
/-- The third loop: the first i of those that came were looked around. -/
structure Look2 (ns : List Nd) (xs : List Int) (L : List Nat) (i : Nat) (bs : List Bool) : Prop where
  start : Start ns xs xs.length bs
  half : ∃ ps : List Bool, ps.length = ns.length ∧ (∀ k, ps.getD k false = true ↔ k ∈ L.take i) ∧ Half ns ps bs
theorem Look2.zero {ns : List Nd} {xs : List Int} {bs : List Bool} (L : List Nat) (h : Look1 ns xs ns.length bs) : Look2 ns xs L 0 bs := by
  refine ⟨h.start, List.replicate ns.length false, by simp, fun k => ?_, Half.zero h.made⟩
  rw [List.getD_eq_getElem?_getD, List.getElem?_replicate]
  split <;> simp
theorem Look2.next {ns : List Nd} (ha : allFrom ns ns 0 = true) {xs : List Int} {L L' : List Nat} {i : Nat} {bs : List Bool} (h : Look2 ns xs L i bs) (hi : i < L.length) (hp : L <+: L') (hmem : ∀ k, k ∈ L ↔ bs.getD k false = true) : Look2 ns xs L' (i + 1) (around ns bs (L.getD i 0)) := by
  obtain ⟨ps, p1, p2, p3⟩ := h.half
  have hL : L.getD i 0 ∈ L := by rw [List.getD_eq_getElem?_getD, List.getElem?_eq_getElem hi]; exact List.getElem_mem hi
  have hb := (hmem _).1 hL
  have hlen := h.start.1.1
  have hc : L.getD i 0 < ns.length := by
    rcases Nat.lt_or_ge (L.getD i 0) ns.length with e | e
    · exact e
    · rw [List.getD_eq_getElem?_getD, List.getElem?_eq_none (by omega)] at hb; simp at hb
  refine ⟨h.start.mono (around_sound ha h.start.1 hc) (fun j hj => around_mono ns _ hj), ps.set (L.getD i 0) true, by simp [p1], fun k => ?_, p3.step ha hlen (fun j hj => (hmem j).1 (List.mem_of_mem_take ((p2 j).1 hj))) hc hb⟩
  obtain ⟨T, rfl⟩ := hp
  have e : (L ++ T).take (i + 1) = L.take i ++ [L.getD i 0] := by
    rw [List.take_append_of_le_length (by omega), List.take_add_one, List.getElem?_eq_getElem hi, List.getD_eq_getElem?_getD, List.getElem?_eq_getElem hi]; rfl
  rw [e, List.mem_append, List.mem_singleton, ← p2 k, getD_setT]
  constructor
  · intro q
    split at q
    · rename_i e1; exact .inr e1.1.symm
    · exact .inl q
  · rintro (q | q)
    · split
      · rfl
      · exact q
    · rw [if_pos ⟨q.symm, by omega⟩]
theorem Look2.reach {ns : List Nd} (ha : allFrom ns ns 0 = true) {xs : List Int} {L : List Nat} {bs : List Bool} (h : Look2 ns xs L L.length bs) (hmem : ∀ k, k ∈ L ↔ bs.getD k false = true) : IsReach ns xs bs := by
  obtain ⟨ps, p1, p2, p3⟩ := h.half
  refine IsReach.of ha h.start.1 (p3.closed fun j hj => ?_) (Kn.all h.start.2)
  rw [p2 j, List.take_length]
  exact (hmem j).2 hj
theorem cnt_set_one : ∀ {bs : List Bool} {k : Nat}, k < bs.length → bs.getD k false = false → cnt (bs.set k true) + 1 = cnt bs
  | [], _, h, _ => by simp at h
  | b :: bs, 0, _, h => by simp at h; subst h; simp [cnt]; omega
  | b :: bs, k + 1, h, hb => by
    have := cnt_set_one (bs := bs) (k := k) (by simpa using h) (by simpa using hb)
    simp only [List.set_cons_succ, cnt]; omega
theorem cnt_false : ∀ n : Nat, cnt (List.replicate n false) = n
  | 0 => rfl
  | n + 1 => by rw [List.replicate_succ, cnt, cnt_false n]; simp; omega
end Go.Proofs.Ytffnadnndmmliaa
