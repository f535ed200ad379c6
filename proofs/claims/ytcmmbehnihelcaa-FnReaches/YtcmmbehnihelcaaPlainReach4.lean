/- Chapter 5 in plain words: what FnReaches says. -/
import Derived.Test.YtcmmbehnihelcaaPlainReach2
namespace Go.Proofs.Ytcmmbehnihelcaa
set_option linter.unusedVariables false

/-- The places below k that are had. -/
def allL (bs : List Bool) : Nat → List Int
  | 0 => []
  | k + 1 => if bs.getD k false = true then allL bs k ++ [(k : Int)] else allL bs k
theorem allL_len (bs : List Bool) : ∀ k, (allL bs k).length ≤ k
  | 0 => by simp [allL]
  | k + 1 => by
    have := allL_len bs k
    rw [allL]
    split
    · simp; omega
    · omega
theorem allL_mem (bs : List Bool) {x : Int} : ∀ k, x ∈ allL bs k ↔ ∃ i : Nat, i < k ∧ x = (i : Int) ∧ bs.getD i false = true
  | 0 => by simp [allL]
  | k + 1 => by
    have ih := allL_mem bs (x := x) k
    rw [allL]
    split
    · rename_i h
      rw [List.mem_append, ih]
      constructor
      · rintro (⟨i, h1, h2, h3⟩ | h1)
        · exact ⟨i, by omega, h2, h3⟩
        · simp at h1; exact ⟨k, by omega, h1, h⟩
      · rintro ⟨i, h1, h2, h3⟩
        by_cases e : i = k
        · subst e; right; simp [h2]
        · exact .inl ⟨i, by omega, h2, h3⟩
    · rename_i h
      rw [ih]
      constructor
      · rintro ⟨i, h1, h2, h3⟩
        exact ⟨i, by omega, h2, h3⟩
      · rintro ⟨i, h1, h2, h3⟩
        by_cases e : i = k
        · subst e; exact absurd h3 h
        · exact ⟨i, by omega, h2, h3⟩
/-- Who knows more has no less. -/
theorem reach_more {ns : List Nd} {xs ys : List Int} {bs ms : List Bool} (h : IsReach ns xs bs) (h' : IsReach ns ys ms) (hs : ∀ x ∈ xs, x ∈ ys) {i : Nat} (hi : i < ns.length) (hb : bs.getD i false = true) : ms.getD i false = true :=
  (h'.iff i hi).2 (((h.iff i hi).1 hb).more (fun k hk => hs _ hk))
/-- Who knows what can be had can have no more. -/
theorem reach_again {ns : List Nd} {xs : List Int} {bs gs : List Bool} (h : IsReach ns xs bs) (h' : IsReach ns (allL bs ns.length) gs) : gs = bs := by
  refine IsReach.one h' ⟨h.len, fun k hk => ⟨fun hb => .known hk ((allL_mem bs ns.length).2 ⟨k, hk, rfl, hb⟩), fun hd => ?_⟩⟩
  refine (h.iff k hk).2 (hd.again (fun j hj => ?_))
  obtain ⟨i, h1, h2, h3⟩ := (allL_mem bs ns.length).1 hj
  have : j = i := by omega
  subst this
  exact (h.iff j h1).1 h3
theorem reach_known {ns : List Nd} {xs : List Int} {bs : List Bool} (h : IsReach ns xs bs) {i : Nat} (hi : i < ns.length) (hx : (i : Int) ∈ xs) : bs.getD i false = true := (h.iff i hi).2 (.known hi hx)
theorem reach_seal {ns : List Nd} (ha : allFrom ns ns 0 = true) {xs : List Int} {bs : List Bool} (h : IsReach ns xs bs) {i : Nat} (hi : i < ns.length) (hk : (ns.getD i Nd.zero).k = 5) (h1 : bs.getD i false = true) (h2 : bs.getD (ns.getD i Nd.zero).a.toNat false = true) : bs.getD (ns.getD i Nd.zero).b.toNat false = true := by
  have hn := nodeB_true (all_at ha hi).1
  have hal : (ns.getD i Nd.zero).a.toNat < ns.length := by omega
  have hbl : (ns.getD i Nd.zero).b.toNat < ns.length := by omega
  exact (h.iff _ hbl).2 (.sealed hi hk ((h.iff i hi).1 h1) ((h.iff _ hal).1 h2))
theorem reach_pair {ns : List Nd} (ha : allFrom ns ns 0 = true) {xs : List Int} {bs : List Bool} (h : IsReach ns xs bs) {i : Nat} (hi : i < ns.length) (hk : (ns.getD i Nd.zero).k = 2) (h1 : bs.getD i false = true) : bs.getD (ns.getD i Nd.zero).a.toNat false = true ∧ bs.getD (ns.getD i Nd.zero).b.toNat false = true := by
  have hn := nodeB_true (all_at ha hi).1
  have hal : (ns.getD i Nd.zero).a.toNat < ns.length := by omega
  have hbl : (ns.getD i Nd.zero).b.toNat < ns.length := by omega
  exact ⟨(h.iff _ hal).2 (.pairA hi hk ((h.iff i hi).1 h1)), (h.iff _ hbl).2 (.pairB hi hk ((h.iff i hi).1 h1))⟩
theorem reach_hash {ns : List Nd} (ha : allFrom ns ns 0 = true) {xs : List Int} {bs : List Bool} (h : IsReach ns xs bs) {i : Nat} (hi : i < ns.length) (hk : (ns.getD i Nd.zero).k = 3) (h1 : bs.getD (ns.getD i Nd.zero).a.toNat false = true) : bs.getD i false = true := by
  have hn := nodeB_true (all_at ha hi).1
  have hal : (ns.getD i Nd.zero).a.toNat < ns.length := by omega
  exact (h.iff i hi).2 (.one hi (by rw [hk]; rfl) ((h.iff _ hal).1 h1))
end Go.Proofs.Ytcmmbehnihelcaa
