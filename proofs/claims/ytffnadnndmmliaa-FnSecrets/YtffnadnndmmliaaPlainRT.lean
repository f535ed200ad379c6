/- Plain mathematics of reading a term (chapter 3): the specification's way (with a depth) and the program's (with a number of terms that are left); where both answer, they answer the same; what is read is the term's text. -/
import Derived.Test.YtffnadnndmmliaaReadW
import Derived.Test.YtffnadnndmmliaaPlainTerm
import Derived.Test.YtffnadnndmmliaaPlainText
import Derived.WalkKit
import Derived.WalkLawsBesides
namespace Go.Proofs.Ytffnadnndmmliaa
open Go.RowKit Go.PlainAid
set_option linter.unusedVariables false

/-- The bytes of a number that was read are its own. -/
theorem rvGo_bytes (s : ByteArray) (a : Nat) : ∀ (f k : Nat) (acc : Int) (n : Int) (j : Nat), a + k ≤ s.size → acc = val (nums (tk s a k)) → (∀ x ∈ nums (tk s a k), 128 ≤ x ∧ x ≤ 255) → rvGo s a f k acc = some (n, j) → a ≤ j ∧ j ≤ s.size ∧ nums (tk s a (j - a)) = vb n.toNat
  | 0, _, _, _, _, _, _, _, h => by simp [rvGo] at h
  | f + 1, k, acc, n, j, hk, hacc, hall, h => by
    rw [rvGo] at h
    split at h
    case isFalse => simp at h
    case isTrue hlt =>
      split at h
      case isTrue hb =>
        split at h
        case isTrue => simp at h
        case isFalse hx =>
          simp at h
          obtain ⟨rfl, rfl⟩ := h
          have hl : (nums (tk s a k)).length = k := by unfold nums; rw [List.length_map, tk_len s a k (by omega)]
          have hn : nums (tk s a (k + 1)) = nums (tk s a k) ++ [bt s (a + k)] := by
            rw [tk_succ s a k hlt]; unfold nums; rw [List.map_append, List.map_singleton, get_bt]
          have hc := (canon (nums (tk s a k)) (bt s (a + k)) hall (bt_nonneg _ _) hb).2 (by rw [hl]; exact fun h => hx (.inl h))
          rw [val_snoc, hl, ← hacc, ← hn] at hc
          exact ⟨by omega, by omega, by rw [show a + k + 1 - a = k + 1 by omega]; exact hc.symm⟩
      case isFalse hb =>
        exact rvGo_bytes s a f (k + 1) _ n j (by omega) (val_next hlt hacc) (all_snoc hlt (by omega) hall) h
theorem RV_bytes {s : ByteArray} {a : Nat} {n : Int} {j : Nat} (h : RV s a = some (n, j)) : a ≤ j ∧ j ≤ s.size ∧ nums (tk s a (j - a)) = vb n.toNat := by
  unfold RV at h
  split at h
  · rename_i hr
    exact rvGo_bytes s a 5 0 0 n j (by omega) (by simp [tk, nums, val]) (by simp [tk, nums]) h
  · simp at h
theorem tk_add (s : ByteArray) (a b c : Nat) (h1 : a ≤ b) (h2 : b ≤ c) : tk s a (c - a) = tk s a (b - a) ++ tk s b (c - b) := by
  unfold tk
  rw [show c - a = (b - a) + (c - b) by omega, List.take_add, List.drop_drop, show a + (b - a) = b by omega]
theorem nums_add (s : ByteArray) (a b c : Nat) (h1 : a ≤ b) (h2 : b ≤ c) : nums (tk s a (c - a)) = nums (tk s a (b - a)) ++ nums (tk s b (c - b)) := by
  rw [tk_add s a b c h1 h2]; unfold nums; rw [List.map_append]

/-- Put, where it can be. -/
def putR (ns : List Nd) (x : Nd) (e c : Nat) : Option (List Nd × Nat × Nat × Nat) := if putK ns x < 0 then none else some (putA ns x, (putK ns x).toNat, e, c)
/-- The specification's way: f is how much deeper it may go; what is read, its place, where it ends, how many terms it has. -/
def rdS (s : ByteArray) : Nat → List Nd → Nat → Option (List Nd × Nat × Nat × Nat)
  | 0, _, _ => none
  | f + 1, ns, p =>
    match RV s p with
    | none => none
    | some (kind, q) =>
      if inB kind 1 9 = false then none
      else if kind = 1 then
        match RV s q with
        | none => none
        | some (z, e) => putR ns ⟨1, z, 0, 0⟩ e 1
      else
        match rdS s f ns q with
        | none => none
        | some (ns1, x, m, c1) =>
          if oneK kind = true then putR ns1 ⟨kind, 0, x, 0⟩ m (1 + c1)
          else
            match rdS s f ns1 m with
            | none => none
            | some (ns2, y, e, c2) => putR ns2 ⟨kind, 0, x, y⟩ e (1 + c1 + c2)
/-- nextNumber. -/
def numI (s : ByteArray) (p : Nat) : Int × Nat := match RV s p with | none => (-1, p) | some (n, q) => (n, q)
def putI (ns : List Nd) (x : Nd) (e l : Nat) : List Nd × Int × Nat × Nat := (putA ns x, putK ns x, e, l)
/-- The program's way: l terms are left; f is how often it may go on. -/
def rdI (s : ByteArray) : Nat → List Nd → Nat → Nat → List Nd × Int × Nat × Nat
  | 0, ns, p, l => (ns, -1, p, l)
  | f + 1, ns, p, l =>
    if l = 0 then (ns, -1, p, 0)
    else
      let n := numI s p
      if inB n.1 1 9 = false then putI ns ⟨n.1, 0, 0, 0⟩ n.2 (l - 1)
      else if n.1 = 1 then
        let z := numI s n.2
        putI ns ⟨1, z.1, 0, 0⟩ z.2 (l - 1)
      else
        let r := rdI s f ns n.2 (l - 1)
        if oneK n.1 = true then putI r.1 ⟨n.1, 0, r.2.1, 0⟩ r.2.2.1 r.2.2.2
        else if r.2.1 < 0 then putI r.1 ⟨n.1, 0, r.2.1, 0⟩ r.2.2.1 r.2.2.2
        else
          let r2 := rdI s f r.1 r.2.2.1 r.2.2.2
          putI r2.1 ⟨n.1, 0, r.2.1, r2.2.1⟩ r2.2.2.1 r2.2.2.2
theorem putK_bad {ns : List Nd} {x : Nd} (h : nodeB x ns.length = false) : putK ns x = -1 := by unfold putK; rw [if_neg (by simp [h])]
theorem putK_ge (ns : List Nd) (x : Nd) : putK ns x = -1 ∨ 0 ≤ putK ns x := by
  unfold putK
  split
  · split
    · right; omega
    · rcases findN_range ns x with h | h
      · exact .inl h
      · exact .inr h.1
  · exact .inl rfl
theorem nodeB_noKind {x : Nd} {k : Int} (h : inB x.k 1 9 = false) : nodeB x k = false := by unfold nodeB; rw [if_pos h]
theorem nodeB_neg {z k : Int} (h : z < 0) : nodeB ⟨1, z, 0, 0⟩ k = false := by
  cases hb : nodeB ⟨1, z, 0, 0⟩ k with
  | false => rfl
  | true => rcases nodeB_true hb with h1 | h1 | h1 <;> simp at h1 <;> omega
theorem nodeB_negA {kind a b k : Int} (hk : kind ≠ 1) (h : a < 0) : nodeB ⟨kind, 0, a, b⟩ k = false := by
  cases hb : nodeB ⟨kind, 0, a, b⟩ k with
  | false => rfl
  | true => rcases nodeB_true hb with h1 | h1 | h1 <;> simp at h1 <;> omega
theorem nodeB_negB {kind a b k : Int} (hk : kind ≠ 1) (ho : oneK kind = false) (h : b < 0) : nodeB ⟨kind, 0, a, b⟩ k = false := by
  cases hb : nodeB ⟨kind, 0, a, b⟩ k with
  | false => rfl
  | true =>
    rcases nodeB_true hb with h1 | h1 | h1 <;> simp at h1
    · omega
    · rw [ho] at h1; simp at h1
    · omega
/-- Where the program's way answers, the specification's does, at any depth that is as great. -/
theorem rd_A (s : ByteArray) : ∀ (f F : Nat) (ns : List Nd) (p l : Nat) (ns' : List Nd) (k : Int) (e l' : Nat), l ≤ F → rdI s f ns p l = (ns', k, e, l') → 0 ≤ k → ∃ c, rdS s F ns p = some (ns', k.toNat, e, c) ∧ c + l' = l
  | 0, F, ns, p, l, ns', k, e, l', hF, h, hk => by simp [rdI] at h; omega
  | f + 1, F, ns, p, l, ns', k, e, l', hF, h, hk => by
    rw [rdI] at h
    by_cases hl : l = 0
    · rw [if_pos hl] at h; simp at h; omega
    rw [if_neg hl] at h
    obtain ⟨F, rfl⟩ : ∃ F', F = F' + 1 := ⟨F - 1, by omega⟩
    rw [rdS]
    cases hr : RV s p with
    | none =>
      simp only [numI, hr] at h
      rw [if_pos (by rfl)] at h
      have := putK_bad (ns := ns) (x := ⟨-1, 0, 0, 0⟩) (nodeB_noKind rfl)
      simp [putI] at h
      omega
    | some nq =>
      obtain ⟨kind, q⟩ := nq
      simp only [numI, hr] at h ⊢
      cases hi : inB kind 1 9 with
      | false =>
        rw [if_pos hi] at h
        have := putK_bad (ns := ns) (x := ⟨kind, 0, 0, 0⟩) (nodeB_noKind hi)
        simp [putI] at h
        omega
      | true =>
        rw [if_neg (by simp [hi])] at h
        rw [if_neg (by simp)]
        by_cases h1 : kind = 1
        · rw [if_pos h1] at h ⊢
          cases hz : RV s q with
          | none =>
            simp only [hz] at h
            have := putK_bad (ns := ns) (x := ⟨1, -1, 0, 0⟩) (nodeB_neg (by omega))
            simp [putI] at h
            omega
          | some ze =>
            obtain ⟨z, e2⟩ := ze
            simp only [hz, putI, Prod.mk.injEq] at h ⊢
            obtain ⟨rfl, rfl, rfl, rfl⟩ := h
            unfold putR
            rw [if_neg (by omega)]
            exact ⟨1, rfl, by omega⟩
        · rw [if_neg h1] at h ⊢
          obtain ⟨ns1, x, m, l1, hq⟩ : ∃ ns1 x m l1, rdI s f ns q (l - 1) = (ns1, x, m, l1) := ⟨_, _, _, _, rfl⟩
          rw [hq] at h
          simp only at h
          by_cases hx : x < 0
          · have h5 : putK ns1 ⟨kind, 0, x, 0⟩ = -1 := putK_bad (nodeB_negA h1 hx)
            cases ho : oneK kind <;> simp [ho, hx, putI] at h <;> omega
          · obtain ⟨c1, hs1, hc1⟩ := rd_A s f F ns q (l - 1) ns1 x m l1 (by omega) hq (by omega)
            rw [hs1]
            simp only
            cases ho : oneK kind with
            | true =>
              rw [if_pos ho] at h
              rw [if_pos rfl]
              simp only [putI, Prod.mk.injEq] at h
              obtain ⟨rfl, rfl, rfl, rfl⟩ := h
              unfold putR
              rw [show ((x.toNat : Nat) : Int) = x by omega, if_neg (by omega)]
              exact ⟨1 + c1, rfl, by omega⟩
            | false =>
              rw [if_neg (by simp [ho]), if_neg hx] at h
              rw [if_neg (by simp)]
              obtain ⟨ns2, y, e2, l2, hq2⟩ : ∃ ns2 y e2 l2, rdI s f ns1 m l1 = (ns2, y, e2, l2) := ⟨_, _, _, _, rfl⟩
              rw [hq2] at h
              simp only [putI, Prod.mk.injEq] at h
              obtain ⟨rfl, rfl, rfl, rfl⟩ := h
              by_cases hy : y < 0
              · have h5 : putK ns2 ⟨kind, 0, x, y⟩ = -1 := putK_bad (nodeB_negB h1 ho hy)
                omega
              · obtain ⟨c2, hs2, hc2⟩ := rd_A s f F ns1 m l1 ns2 y e2 l2 (by omega) hq2 (by omega)
                rw [hs2]
                simp only
                unfold putR
                rw [show ((x.toNat : Nat) : Int) = x by omega, show ((y.toNat : Nat) : Int) = y by omega, if_neg (by omega)]
                exact ⟨1 + c1 + c2, rfl, by omega⟩
/-- Where the specification's way answers with as many terms as are left, the program's does. -/
theorem rd_B (s : ByteArray) : ∀ (F f : Nat) (ns : List Nd) (p l : Nat) (ns' : List Nd) (k e c : Nat), rdS s F ns p = some (ns', k, e, c) → c ≤ l → l ≤ f → rdI s f ns p l = (ns', (k : Int), e, l - c) ∧ 1 ≤ c
  | 0, f, ns, p, l, ns', k, e, c, h, hc, hf => by simp [rdS] at h
  | F + 1, f, ns, p, l, ns', k, e, c, h, hc, hf => by
    rw [rdS] at h
    cases hr : RV s p with
    | none => simp [hr] at h
    | some nq =>
      obtain ⟨kind, q⟩ := nq
      simp only [hr] at h
      cases hi : inB kind 1 9 with
      | false => simp [hi] at h
      | true =>
        rw [if_neg (by simp [hi])] at h
        by_cases h1 : kind = 1
        · rw [if_pos h1] at h
          cases hz : RV s q with
          | none => simp [hz] at h
          | some ze =>
            obtain ⟨z, e2⟩ := ze
            simp only [hz, putR] at h
            by_cases hp : putK ns ⟨1, z, 0, 0⟩ < 0
            · simp [hp] at h
            · rw [if_neg hp] at h
              simp at h
              obtain ⟨rfl, rfl, rfl, rfl⟩ := h
              obtain ⟨f, rfl⟩ : ∃ f', f = f' + 1 := ⟨f - 1, by omega⟩
              refine ⟨?_, Nat.le_refl _⟩
              rw [rdI, if_neg (by omega)]
              simp only [numI, hr]
              rw [if_neg (by simp [hi]), if_pos h1]
              simp only [hz, putI]
              rw [show (((putK ns ⟨1, z, 0, 0⟩).toNat : Nat) : Int) = putK ns ⟨1, z, 0, 0⟩ by omega]
        · rw [if_neg h1] at h
          cases hs1 : rdS s F ns q with
          | none => simp [hs1] at h
          | some r1 =>
            obtain ⟨ns1, x, m, c1⟩ := r1
            simp only [hs1] at h
            cases ho : oneK kind with
            | true =>
              rw [if_pos ho] at h
              unfold putR at h
              by_cases hp : putK ns1 ⟨kind, 0, (x : Int), 0⟩ < 0
              · rw [if_pos hp] at h; simp at h
              · rw [if_neg hp] at h
                simp at h
                obtain ⟨rfl, rfl, rfl, rfl⟩ := h
                obtain ⟨f, rfl⟩ : ∃ f', f = f' + 1 := ⟨f - 1, by omega⟩
                obtain ⟨hI, hc1⟩ := rd_B s F f ns q (l - 1) ns1 x m c1 hs1 (by omega) (by omega)
                refine ⟨?_, by omega⟩
                rw [rdI, if_neg (by omega)]
                simp only [numI, hr]
                rw [if_neg (by simp [hi]), if_neg h1, hI]
                simp only
                rw [if_pos ho]
                simp only [putI]
                rw [show (((putK ns1 ⟨kind, 0, (x : Int), 0⟩).toNat : Nat) : Int) = putK ns1 ⟨kind, 0, (x : Int), 0⟩ by omega, show l - 1 - c1 = l - (1 + c1) by omega]
            | false =>
              rw [if_neg (by simp [ho])] at h
              cases hs2 : rdS s F ns1 m with
              | none => simp [hs2] at h
              | some r2 =>
                obtain ⟨ns2, y, e2, c2⟩ := r2
                simp only [hs2] at h
                unfold putR at h
                by_cases hp : putK ns2 ⟨kind, 0, (x : Int), (y : Int)⟩ < 0
                · rw [if_pos hp] at h; simp at h
                · rw [if_neg hp] at h
                  simp at h
                  obtain ⟨rfl, rfl, rfl, rfl⟩ := h
                  obtain ⟨f, rfl⟩ : ∃ f', f = f' + 1 := ⟨f - 1, by omega⟩
                  obtain ⟨hI, hc1⟩ := rd_B s F f ns q (l - 1) ns1 x m c1 hs1 (by omega) (by omega)
                  obtain ⟨hI2, hc2⟩ := rd_B s F f ns1 m (l - 1 - c1) ns2 y e2 c2 hs2 (by omega) (by omega)
                  refine ⟨?_, by omega⟩
                  rw [rdI, if_neg (by omega)]
                  simp only [numI, hr]
                  rw [if_neg (by simp [hi]), if_neg h1, hI]
                  simp only
                  rw [if_neg (by simp [ho]), if_neg (by omega), hI2]
                  simp only [putI]
                  rw [show (((putK ns2 ⟨kind, 0, (x : Int), (y : Int)⟩).toNat : Nat) : Int) = putK ns2 ⟨kind, 0, (x : Int), (y : Int)⟩ by omega, show l - 1 - c1 - c2 = l - (1 + c1 + c2) by omega]
end Go.Proofs.Ytffnadnndmmliaa
