/- Numbers of a tag, plain mathematics: carried on limb by limb. -/
import Derived.Test.YtopdjfgomclffaaPolyP
namespace Go.Proofs.Ytopdjfgomclffaa
theorem lcar_snoc : ∀ {bs l : List Int} (b x c : Int), l.length = bs.length → lcar (bs ++ [b]) c (l ++ [x]) = ((lcar bs c l).1 ++ [(x + (lcar bs c l).2) % b], (x + (lcar bs c l).2) / b)
  | [], [], b, x, c, _ => rfl
  | [], _ :: _, _, _, _, h => by cases h
  | _ :: _, [], _, _, _, h => by cases h
  | b' :: bs, y :: l, b, x, c, h => by
    simp only [List.cons_append, lcar]
    rw [lcar_snoc b x _ (by simpa using h)]
/-- Ahead of limb k: what is done, and what is not. -/
def ck (l : List Int) (k : Nat) : List Int := (lcar (pb.take k) 0 (l.take k)).1 ++ l.drop k
def co (l : List Int) (k : Nat) : Int := (lcar (pb.take k) 0 (l.take k)).2
theorem pb_at {k : Nat} (h : k < 5) : pb.getD k 0 = 67108864 := by
  rcases (show k = 0 ∨ k = 1 ∨ k = 2 ∨ k = 3 ∨ k = 4 by omega) with rfl | rfl | rfl | rfl | rfl <;> rfl
theorem take_snocP {l : List Int} {k : Nat} (h : k < l.length) : l.take (k + 1) = l.take k ++ [l.getD k 0] := by
  rw [List.take_succ_eq_append_getElem h, List.getD_eq_getElem?_getD, List.getElem?_eq_getElem h]; rfl
theorem ck_fst {l : List Int} {k : Nat} (hl : l.length = 5) (hk : k ≤ 5) : (lcar (pb.take k) 0 (l.take k)).1.length = k := by
  rw [lcar_len _ (by rw [List.length_take, List.length_take, hl]; rfl), List.length_take]
  show min k 5 = k; omega
theorem ck_len {l : List Int} {k : Nat} (hl : l.length = 5) (hk : k ≤ 5) : (ck l k).length = 5 := by
  unfold ck
  rw [List.length_append, ck_fst hl hk, List.length_drop]; omega
theorem ck_at {l : List Int} {k : Nat} (hl : l.length = 5) (hk : k < 5) : (ck l k).getD k 0 = l.getD k 0 := by
  unfold ck
  rw [List.getD_eq_getElem?_getD, List.getElem?_append_right (by rw [ck_fst hl (by omega)]; omega), ck_fst hl (by omega), Nat.sub_self, List.getElem?_drop, Nat.add_zero, List.getD_eq_getElem?_getD]
theorem ck_next {l : List Int} {k : Nat} (hl : l.length = 5) (hk : k < 5) : co l (k + 1) = (l.getD k 0 + co l k) / 67108864 ∧ (ck l k).set k ((l.getD k 0 + co l k) % 67108864) = ck l (k + 1) := by
  have e1 := take_snocP (l := l) (k := k) (by omega)
  have e2 := take_snocP (l := pb) (k := k) (by show k < 5; omega)
  rw [pb_at hk] at e2
  have hq : (l.take k).length = (pb.take k).length := by rw [List.length_take, List.length_take, hl]; rfl
  have e3 := lcar_snoc 67108864 (l.getD k 0) 0 hq
  unfold co ck
  rw [e1, e2, e3]
  refine ⟨rfl, ?_⟩
  have hd : l.drop k = l.getD k 0 :: l.drop (k + 1) := by
    rw [List.drop_eq_getElem_cons (by omega), List.getD_eq_getElem?_getD, List.getElem?_eq_getElem (by omega)]; rfl
  rw [hd, List.set_append_right _ _ (by rw [ck_fst hl (by omega)]; omega), ck_fst hl (by omega), Nat.sub_self]
  simp
theorem ck_start (l : List Int) : ck l 0 = l ∧ co l 0 = 0 := by
  unfold ck co
  cases l <;> exact ⟨rfl, rfl⟩
theorem ck_end {l : List Int} (hl : l.length = 5) : ck l 5 = (lcar pb 0 l).1 ∧ co l 5 = (lcar pb 0 l).2 := by
  unfold ck co
  rw [show pb.take 5 = pb from rfl, List.take_of_length_le (show l.length ≤ 5 by omega), List.drop_of_length_le (show l.length ≤ 5 by omega), List.append_nil]
  exact ⟨rfl, rfl⟩
theorem bd_at {l : List Int} (h : bdP l) (k : Nat) : 0 ≤ l.getD k 0 ∧ l.getD k 0 ≤ 1152921504606846976 := by
  rcases Nat.lt_or_ge k l.length with hk | hk
  · rw [List.getD_eq_getElem?_getD, List.getElem?_eq_getElem hk]; exact h.2 _ (List.getElem_mem _)
  · rw [List.getD_eq_getElem?_getD, List.getElem?_eq_none hk]; exact ⟨Int.le_refl _, by decide⟩
theorem co_bd {l : List Int} (h : bdP l) : ∀ k, k ≤ 5 → 0 ≤ co l k ∧ co l k ≤ 1152921504606846976
  | 0, _ => by rw [(ck_start l).2]; decide
  | k + 1, hk => by
    have ih := co_bd h k (by omega)
    have hx := bd_at h k
    rw [(ck_next h.1 (show k < 5 by omega)).1]
    omega
theorem addP_set {l : List Int} (d : Int) (h : l.length = 5) : l.set 0 (l.getD 0 0 + d) = addP d l := by
  cases l with
  | nil => cases h
  | cons x l => rfl
theorem head_at {l : List Int} (h : headP l) : 0 ≤ l.getD 0 0 ∧ l.getD 0 0 ≤ 1099511627776 := by
  obtain ⟨x, r, rfl, -, h0, h1⟩ := h
  exact ⟨h0, h1⟩
/-- As ck, what is carried on added already. -/
def sk (l : List Int) (k : Nat) : List Int := (ck l k).set k (l.getD k 0 + co l k)
theorem getD_set_same {l : List Int} {k : Nat} (x : Int) (h : k < l.length) : (l.set k x).getD k 0 = x := by
  rw [List.getD_eq_getElem?_getD, List.getElem?_set_self h]; rfl
theorem getD_set_other {l : List Int} {k j : Nat} (x : Int) (h : k ≠ j) : (l.set k x).getD j 0 = l.getD j 0 := by
  rw [List.getD_eq_getElem?_getD, List.getElem?_set_ne h, List.getD_eq_getElem?_getD]
theorem ck_after {l : List Int} {k j : Nat} (hl : l.length = 5) (hk : k ≤ 5) (hj : k ≤ j) : (ck l k).getD j 0 = l.getD j 0 := by
  unfold ck
  rw [List.getD_eq_getElem?_getD, List.getElem?_append_right (by rw [ck_fst hl hk]; omega), ck_fst hl hk, List.getElem?_drop, show k + (j - k) = j by omega, List.getD_eq_getElem?_getD]
theorem sk_len {l : List Int} {k : Nat} (hl : l.length = 5) (hk : k ≤ 5) : (sk l k).length = 5 := by unfold sk; rw [List.length_set, ck_len hl hk]
theorem sk_start {l : List Int} (hl : l.length = 5) : sk l 0 = l := by
  unfold sk
  rw [(ck_start l).1, (ck_start l).2, Int.add_zero]
  obtain ⟨a, b, c, d, e, rfl⟩ := five hl
  rfl
theorem sk_at {l : List Int} {k : Nat} (hl : l.length = 5) (hk : k < 5) : (sk l k).getD k 0 = l.getD k 0 + co l k := getD_set_same _ (by rw [ck_len hl (by omega)]; exact hk)
theorem sk_after {l : List Int} {k : Nat} (hl : l.length = 5) (hk : k < 5) : (sk l k).getD (k + 1) 0 = l.getD (k + 1) 0 := by
  unfold sk
  rw [getD_set_other _ (by omega), ck_after hl (by omega) (by omega)]
theorem sk_next {l : List Int} {k : Nat} (hl : l.length = 5) (hk : k < 4) (y : Int) (hy : (sk l k).getD k 0 = y) :
    ((sk l k).set k (y % 67108864)).set (k + 1) (l.getD (k + 1) 0 + y / 67108864) = sk l (k + 1) := by
  rw [sk_at hl (by omega)] at hy
  have hn := ck_next hl (show k < 5 by omega)
  rw [hy] at hn
  show _ = (ck l (k + 1)).set (k + 1) (l.getD (k + 1) 0 + co l (k + 1))
  rw [hn.1, ← hn.2]
  unfold sk
  rw [hy, List.set_set]
theorem sk_next2 {l : List Int} {k : Nat} (hl : l.length = 5) (hk : k < 4) (y : Int) (hy : (sk l k).getD k 0 = y) :
    ((sk l k).set (k + 1) (l.getD (k + 1) 0 + y / 67108864)).set k (y % 67108864) = sk l (k + 1) := by
  rw [List.set_comm _ _ (by omega)]
  exact sk_next hl hk y hy
theorem sk_end {l : List Int} (hl : l.length = 5) (y : Int) (hy : (sk l 4).getD 4 0 = y) : (sk l 4).set 4 (y % 67108864) = (lcar pb 0 l).1 ∧ y / 67108864 = (lcar pb 0 l).2 := by
  rw [sk_at hl (by omega)] at hy
  have hn := ck_next hl (show 4 < 5 by omega)
  have he := ck_end hl
  rw [hy] at hn
  refine ⟨?_, by rw [← he.2, hn.1]⟩
  rw [← he.1, ← hn.2]
  unfold sk
  rw [hy, List.set_set]
theorem sk_bd {l : List Int} (h : bdP l) {k : Nat} (hk : k < 5) : 0 ≤ (sk l k).getD k 0 ∧ (sk l k).getD k 0 ≤ 2305843009213693952 := by
  rw [sk_at h.1 hk]
  have := bd_at h k
  have := co_bd h k (by omega)
  omega
end Go.Proofs.Ytopdjfgomclffaa
