/- Numbers of the curve, plain mathematics: carried on as the machine does, limb by limb. -/
import Derived.Test.YtjhglbdknjoeeaaFieldP
namespace Go.Proofs.Ytjhglbdknjoeeaa
/-- A whole number as the machine keeps it. -/
def w64 (x : Int) : Int := (x + 9223372036854775808) % 18446744073709551616 - 9223372036854775808
theorem w64_id {x : Int} (h : -9223372036854775808 ≤ x) (h2 : x < 9223372036854775808) : w64 x = x := by unfold w64; omega
theorem w64_lo (x : Int) : -9223372036854775808 ≤ w64 x := by unfold w64; omega
theorem w64_hi (x : Int) : w64 x < 9223372036854775808 := by unfold w64; omega
/-- Carried on as the machine does. -/
def lcw : List Int → Int → List Int → List Int × Int
  | b :: bs, c, x :: l => ((w64 (x + c) % b) :: (lcw bs (w64 (x + c) / b) l).1, (lcw bs (w64 (x + c) / b) l).2)
  | _, c, _ => ([], c)
theorem lcw_len : ∀ {bs l : List Int} (c : Int), l.length = bs.length → (lcw bs c l).1.length = bs.length
  | [], l, c, h => by cases l <;> rfl
  | _ :: _, [], _, h => by cases h
  | b :: bs, x :: l, c, h => by
    simp only [lcw, List.length_cons]
    rw [lcw_len _ (by simpa using h)]
theorem lcw_ok : ∀ {bs l : List Int} (c : Int), (∀ b ∈ bs, 0 < b) → l.length = bs.length → lok bs (lcw bs c l).1
  | [], [], _, _, _ => trivial
  | [], _ :: _, _, _, h => by cases h
  | _ :: _, [], _, _, h => by cases h
  | b :: bs, x :: l, c, hp, h => by
    have hb := hp b (by simp)
    exact ⟨Int.emod_nonneg _ (by omega), Int.emod_lt_of_pos _ hb, lcw_ok _ (fun y hy => hp y (by simp [hy])) (by simpa using h)⟩
theorem lcw_snoc : ∀ {bs l : List Int} (b x c : Int), l.length = bs.length → lcw (bs ++ [b]) c (l ++ [x]) = ((lcw bs c l).1 ++ [w64 (x + (lcw bs c l).2) % b], w64 (x + (lcw bs c l).2) / b)
  | [], [], b, x, c, _ => rfl
  | [], _ :: _, _, _, _, h => by cases h
  | _ :: _, [], _, _, _, h => by cases h
  | b' :: bs, y :: l, b, x, c, h => by
    simp only [List.cons_append, lcw]
    rw [lcw_snoc b x _ (by simpa using h)]
theorem div_small {y b : Int} (hb : 2 ≤ b) (h : -2305843009213693952 ≤ y) (h2 : y ≤ 2305843009213693952) : -1152921504606846976 ≤ y / b ∧ y / b ≤ 1152921504606846976 := by
  have e := Int.emod_add_mul_ediv y b
  have h3 := Int.emod_nonneg y (show b ≠ 0 by omega)
  have h4 := Int.emod_lt_of_pos y (show 0 < b by omega)
  generalize y / b = q at e
  constructor
  · rcases Int.lt_or_le q (-1152921504606846976) with h5 | h5
    · have h6 : b * q ≤ b * (-1152921504606846977) := Int.mul_le_mul_of_nonneg_left (by omega) (by omega)
      have : b * (-1152921504606846977) = -(1152921504606846977 * b) := by omega
      omega
    · exact h5
  · rcases Int.lt_or_le 1152921504606846976 q with h5 | h5
    · have h6 : b * 1152921504606846977 ≤ b * q := Int.mul_le_mul_of_nonneg_left (by omega) (by omega)
      omega
    · exact h5
def small (l : List Int) : Prop := ∀ x ∈ l, -1152921504606846976 ≤ x ∧ x ≤ 1152921504606846976
theorem lcw_small : ∀ {bs l : List Int} (c : Int), (∀ b ∈ bs, 2 ≤ b) → small l → -1152921504606846976 ≤ c → c ≤ 1152921504606846976 → lcw bs c l = lcar bs c l
  | [], _, _, _, _, _, _ => by unfold lcw lcar; rfl
  | _ :: _, [], _, _, _, _, _ => by unfold lcw lcar; rfl
  | b :: bs, x :: l, c, hb, hs, h1, h2 => by
    have hx := hs x (by simp)
    have hy := div_small (hb b (by simp)) (show -2305843009213693952 ≤ x + c by omega) (show x + c ≤ 2305843009213693952 by omega)
    simp only [lcw, lcar]
    rw [w64_id (by omega) (by omega), lcw_small _ (fun y h => hb y (by simp [h])) (fun y h => hs y (by simp [h])) hy.1 hy.2]
/-- What stands above is small, whatever the limbs are. -/
theorem lcw_over {bs l : List Int} {b x : Int} (c : Int) (hl : l.length = bs.length) (hb : 32768 ≤ b) : -281474976710656 ≤ (lcw (bs ++ [b]) c (l ++ [x])).2 ∧ (lcw (bs ++ [b]) c (l ++ [x])).2 ≤ 281474976710656 := by
  rw [lcw_snoc b x c hl]
  have h1 := w64_lo (x + (lcw bs c l).2)
  have h2 := w64_hi (x + (lcw bs c l).2)
  show _ ≤ _ / b ∧ _ / b ≤ _
  generalize w64 (x + (lcw bs c l).2) = y at h1 h2
  have e := Int.emod_add_mul_ediv y b
  have h3 := Int.emod_nonneg y (show b ≠ 0 by omega)
  have h4 := Int.emod_lt_of_pos y (show 0 < b by omega)
  generalize y / b = q at e
  constructor
  · rcases Int.lt_or_le q (-281474976710656) with h5 | h5
    · have h6 : b * q ≤ b * (-281474976710657) := Int.mul_le_mul_of_nonneg_left (by omega) (by omega)
      omega
    · exact h5
  · rcases Int.lt_or_le 281474976710656 q with h5 | h5
    · have h6 : b * 281474976710657 ≤ b * q := Int.mul_le_mul_of_nonneg_left (by omega) (by omega)
      omega
    · exact h5
/-- Ahead of limb k: what is done, and what is not. -/
def cwk (l : List Int) (k : Nat) : List Int := (lcw (fb.take k) 0 (l.take k)).1 ++ l.drop k
def cwo (l : List Int) (k : Nat) : Int := (lcw (fb.take k) 0 (l.take k)).2
def fbit (k : Nat) : Nat := if k = 15 then 15 else 16
theorem fbit_is {k : Nat} (h : k < 16) : fb.getD k 0 = 2 ^ fbit k := by
  rcases (show k = 0 ∨ k = 1 ∨ k = 2 ∨ k = 3 ∨ k = 4 ∨ k = 5 ∨ k = 6 ∨ k = 7 ∨ k = 8 ∨ k = 9 ∨ k = 10 ∨ k = 11 ∨ k = 12 ∨ k = 13 ∨ k = 14 ∨ k = 15 by omega) with rfl | rfl | rfl | rfl | rfl | rfl | rfl | rfl | rfl | rfl | rfl | rfl | rfl | rfl | rfl | rfl <;> decide
theorem take_snoc {l : List Int} {k : Nat} (h : k < l.length) : l.take (k + 1) = l.take k ++ [l.getD k 0] := by
  rw [List.take_succ_eq_append_getElem h, List.getD_eq_getElem?_getD, List.getElem?_eq_getElem h]; rfl
theorem cwk_fst {l : List Int} {k : Nat} (hl : l.length = 16) (hk : k ≤ 16) : (lcw (fb.take k) 0 (l.take k)).1.length = k := by
  rw [lcw_len _ (by rw [List.length_take, List.length_take, hl]; rfl), List.length_take]
  show min k 16 = k; omega
theorem cwk_len {l : List Int} {k : Nat} (hl : l.length = 16) (hk : k ≤ 16) : (cwk l k).length = 16 := by
  unfold cwk
  rw [List.length_append, cwk_fst hl hk, List.length_drop]; omega
theorem cwk_at {l : List Int} {k : Nat} (hl : l.length = 16) (hk : k < 16) : (cwk l k).getD k 0 = l.getD k 0 := by
  unfold cwk
  rw [List.getD_eq_getElem?_getD, List.getElem?_append_right (by rw [cwk_fst hl (by omega)]; omega), cwk_fst hl (by omega), Nat.sub_self, List.getElem?_drop, Nat.add_zero, List.getD_eq_getElem?_getD]
theorem cw_next {l : List Int} {k : Nat} (hl : l.length = 16) (hk : k < 16) : cwo l (k + 1) = w64 (l.getD k 0 + cwo l k) / 2 ^ fbit k ∧ (cwk l k).set k (w64 (l.getD k 0 + cwo l k) % 2 ^ fbit k) = cwk l (k + 1) := by
  have e1 := take_snoc (l := l) (k := k) (by omega)
  have e2 := take_snoc (l := fb) (k := k) (by show k < 16; omega)
  rw [fbit_is hk] at e2
  have hq : (l.take k).length = (fb.take k).length := by rw [List.length_take, List.length_take, hl]; rfl
  have e3 := lcw_snoc (2 ^ fbit k) (l.getD k 0) 0 hq
  unfold cwo cwk
  rw [e1, e2, e3]
  refine ⟨rfl, ?_⟩
  have hd : l.drop k = l.getD k 0 :: l.drop (k + 1) := by
    rw [List.drop_eq_getElem_cons (by omega), List.getD_eq_getElem?_getD, List.getElem?_eq_getElem (by omega)]; rfl
  rw [hd, List.set_append_right _ _ (by rw [cwk_fst hl (by omega)]; omega), cwk_fst hl (by omega), Nat.sub_self]
  simp
theorem cw_start (l : List Int) : cwk l 0 = l ∧ cwo l 0 = 0 := by
  unfold cwk cwo
  cases l <;> exact ⟨rfl, rfl⟩
theorem cw_end {l : List Int} (hl : l.length = 16) : cwk l 16 = (lcw fb 0 l).1 ∧ cwo l 16 = (lcw fb 0 l).2 := by
  unfold cwk cwo
  rw [show fb.take 16 = fb from rfl, List.take_of_length_le (show l.length ≤ 16 by omega), List.drop_of_length_le (show l.length ≤ 16 by omega), List.append_nil]
  exact ⟨rfl, rfl⟩
theorem cw_over {l : List Int} (hl : l.length = 16) : -281474976710656 ≤ (lcw fb 0 l).2 ∧ (lcw fb 0 l).2 ≤ 281474976710656 := by
  have e1 := take_snoc (l := l) (k := 15) (by omega)
  rw [List.take_of_length_le (by omega)] at e1
  have hq : (l.take 15).length = (fb.take 15).length := by rw [List.length_take, hl]; rfl
  have := lcw_over (b := 32768) (x := l.getD 15 0) 0 hq (by omega)
  rw [← e1] at this
  exact this
theorem cw_small {l : List Int} (hs : small l) : lcw fb 0 l = lcar fb 0 l := lcw_small 0 (by decide) hs (by decide) (by decide)
theorem lok_small : ∀ {bs l : List Int}, (∀ b ∈ bs, b ≤ 65536) → lok bs l → ∀ x ∈ l, 0 ≤ x ∧ x < 65536
  | [], [], _, _, _, hx => by cases hx
  | [], _ :: _, _, h, _, _ => by cases h
  | _ :: _, [], _, h, _, _ => by cases h
  | b :: bs, y :: l, hb, h, x, hx => by
    rcases List.mem_cons.1 hx with rfl | hx
    · have := hb b (by simp); exact ⟨h.1, by have := h.2.1; omega⟩
    · exact lok_small (fun z hz => hb z (by simp [hz])) h.2.2 x hx
theorem fb_le : ∀ b ∈ fb, b ≤ 65536 := by decide
/-- With little more in the first limb. -/
theorem addH_small {l : List Int} {d : Int} (h : lok fb l) (h1 : -1125899906842624000 ≤ d) (h2 : d ≤ 1125899906842624000) : small (addH d l) := by
  have hs := lok_small fb_le h
  cases l with
  | nil => intro x hx; cases hx
  | cons y l =>
    intro x hx
    rcases List.mem_cons.1 hx with rfl | hx
    · have := hs y (by simp); omega
    · have := hs x (by simp [hx]); omega
end Go.Proofs.Ytjhglbdknjoeeaa
