/- Numbers of the curve, plain mathematics: sums and products of limbs. -/
import Derived.Test.YtjhglbdknjoeeaaCarP
namespace Go.Proofs.Ytjhglbdknjoeeaa
/-- One place of a row with more in it. -/
def addAt (l : List Int) (k : Nat) (d : Int) : List Int := l.set k (l.getD k 0 + d)
theorem addAt_len (l : List Int) (k : Nat) (d : Int) : (addAt l k d).length = l.length := by simp [addAt]
theorem addAt_same {l : List Int} {k : Nat} (h : k < l.length) (d : Int) : (addAt l k d).getD k 0 = l.getD k 0 + d := by
  unfold addAt
  rw [List.getD_eq_getElem?_getD, List.getElem?_set_self h]; rfl
theorem addAt_other {l : List Int} {k j : Nat} (h : j ≠ k) (d : Int) : (addAt l k d).getD j 0 = l.getD j 0 := by
  unfold addAt
  rw [List.getD_eq_getElem?_getD, List.getElem?_set_ne (Ne.symm h), List.getD_eq_getElem?_getD]
def B16 : Int := 65536
/-- The value of limbs of 16 bits, however many. -/
def v16 : List Int → Int
  | [] => 0
  | x :: l => x + B16 * v16 l
theorem v16_fb {l : List Int} (h : l.length = 16) : lval fb l = v16 l := by
  match l, h with
  | [a0, a1, a2, a3, a4, a5, a6, a7, a8, a9, a10, a11, a12, a13, a14, a15], _ => simp only [fb, lval, v16, B16]; omega
theorem v16_add : ∀ (l : List Int) (k : Nat) (d : Int), k < l.length → v16 (addAt l k d) = v16 l + B16 ^ k * d
  | [], k, d, h => by cases h
  | x :: l, 0, d, _ => by show x + d + B16 * v16 l = x + B16 * v16 l + B16 ^ 0 * d; rw [Int.pow_zero]; omega
  | x :: l, k + 1, d, h => by
    have e := v16_add l k d (by simpa using h)
    show x + B16 * v16 (addAt l k d) = x + B16 * v16 l + B16 ^ (k + 1) * d
    rw [e, Int.pow_succ, Int.mul_add, Int.mul_comm (B16 ^ k) B16, Int.mul_assoc]; omega
theorem v16_app : ∀ (l m : List Int), v16 (l ++ m) = v16 l + B16 ^ l.length * v16 m
  | [], m => by show v16 m = 0 + B16 ^ 0 * v16 m; rw [Int.pow_zero]; omega
  | x :: l, m => by
    show x + B16 * v16 (l ++ m) = x + B16 * v16 l + B16 ^ (l.length + 1) * v16 m
    rw [v16_app l m, Int.pow_succ, Int.mul_add, Int.mul_comm (B16 ^ l.length) B16, Int.mul_assoc]; omega
theorem v16_take {l : List Int} {k : Nat} (h : k < l.length) : v16 (l.take (k + 1)) = v16 (l.take k) + B16 ^ k * l.getD k 0 := by
  rw [take_snoc h, v16_app, List.length_take, Nat.min_eq_left (by omega)]
  show _ + _ * (_ + B16 * 0) = _
  rw [Int.mul_zero, Int.add_zero]
theorem v16_zero : ∀ n, v16 (List.replicate n 0) = 0
  | 0 => rfl
  | n + 1 => by rw [List.replicate_succ]; show 0 + B16 * v16 _ = 0; rw [v16_zero n]; rfl
/-- Two rows, place by place. -/
def zipA (f : Int → Int → Int) : List Int → List Int → List Int
  | x :: l, y :: m => f x y :: zipA f l m
  | _, _ => []
theorem zipA_len (f : Int → Int → Int) : ∀ {l m : List Int}, l.length = m.length → (zipA f l m).length = l.length
  | [], [], _ => rfl
  | [], _ :: _, h => by cases h
  | _ :: _, [], h => by cases h
  | x :: l, y :: m, h => by simp only [zipA, List.length_cons]; rw [zipA_len f (by simpa using h)]
theorem zipA_at (f : Int → Int → Int) : ∀ {l m : List Int} (k : Nat), l.length = m.length → k < l.length → (zipA f l m).getD k 0 = f (l.getD k 0) (m.getD k 0)
  | [], _, _, _, h => by cases h
  | _ :: _, [], _, h, _ => by cases h
  | x :: l, y :: m, 0, _, _ => rfl
  | x :: l, y :: m, k + 1, h, hk => by
    show (zipA f l m).getD k 0 = f (l.getD k 0) (m.getD k 0)
    exact zipA_at f k (by simpa using h) (by simpa using hk)
theorem v16_lin (a b : Int) : ∀ {l m : List Int}, l.length = m.length → v16 (zipA (fun x y => a * x + b * y) l m) = a * v16 l + b * v16 m
  | [], [], _ => by show (0 : Int) = a * 0 + b * 0; omega
  | [], _ :: _, h => by cases h
  | _ :: _, [], h => by cases h
  | x :: l, y :: m, h => by
    have e := v16_lin a b (l := l) (m := m) (by simpa using h)
    show a * x + b * y + B16 * v16 (zipA _ l m) = a * (x + B16 * v16 l) + b * (y + B16 * v16 m)
    rw [e, Int.mul_add, Int.mul_add, Int.mul_add, Int.mul_left_comm a B16, Int.mul_left_comm b B16]; omega
/-- Two rows are one when all their places are. -/
theorem list_ext {l m : List Int} (h : l.length = m.length) (e : ∀ k, k < l.length → l.getD k 0 = m.getD k 0) : l = m := by
  apply List.ext_getElem?
  intro k
  rcases Nat.lt_or_ge k l.length with hk | hk
  · have := e k hk
    rw [List.getD_eq_getElem?_getD, List.getD_eq_getElem?_getD, List.getElem?_eq_getElem hk, List.getElem?_eq_getElem (by omega)] at this
    rw [List.getElem?_eq_getElem hk, List.getElem?_eq_getElem (by omega)]
    exact congrArg some this
  · rw [List.getElem?_eq_none hk, List.getElem?_eq_none (by omega)]
/-- The first k places done. -/
def zipTo (f : Int → Int → Int) (l m : List Int) (k : Nat) : List Int := (zipA f l m).take k ++ l.drop k
theorem zipTo_len (f : Int → Int → Int) {l m : List Int} (h : l.length = m.length) {k : Nat} (hk : k ≤ l.length) : (zipTo f l m k).length = l.length := by
  unfold zipTo
  rw [List.length_append, List.length_take, List.length_drop, zipA_len f h]; omega
theorem zipTo_zero (f : Int → Int → Int) (l m : List Int) : zipTo f l m 0 = l := rfl
theorem zipTo_all (f : Int → Int → Int) {l m : List Int} (h : l.length = m.length) : zipTo f l m l.length = zipA f l m := by
  unfold zipTo
  rw [List.take_of_length_le (by rw [zipA_len f h]; exact Nat.le_refl _), List.drop_of_length_le (Nat.le_refl _), List.append_nil]
theorem zipTo_at (f : Int → Int → Int) {l m : List Int} (h : l.length = m.length) {k : Nat} (hk : k < l.length) : (zipTo f l m k).getD k 0 = l.getD k 0 := by
  unfold zipTo
  rw [List.getD_eq_getElem?_getD, List.getElem?_append_right (by rw [List.length_take, zipA_len f h]; omega), List.length_take, zipA_len f h, Nat.min_eq_left (by omega), Nat.sub_self, List.getElem?_drop, Nat.add_zero, List.getD_eq_getElem?_getD]
theorem zipTo_next (f : Int → Int → Int) {l m : List Int} (h : l.length = m.length) {k : Nat} (hk : k < l.length) : (zipTo f l m k).set k (f (l.getD k 0) (m.getD k 0)) = zipTo f l m (k + 1) := by
  unfold zipTo
  have hd : l.drop k = l.getD k 0 :: l.drop (k + 1) := by
    rw [List.drop_eq_getElem_cons (by omega), List.getD_eq_getElem?_getD, List.getElem?_eq_getElem (by omega)]; rfl
  have ht : ((zipA f l m).take k).length = k := by rw [List.length_take, zipA_len f h]; omega
  rw [hd, List.set_append_right _ _ (by rw [ht]; omega), ht, Nat.sub_self, take_snoc (by rw [zipA_len f h]; exact hk), zipA_at f k h hk]
  simp
/-- All places are within these bounds. -/
def within (lo hi : Int) (l : List Int) : Prop := ∀ k, k < l.length → lo ≤ l.getD k 0 ∧ l.getD k 0 ≤ hi
theorem within_small {lo hi : Int} {l : List Int} (h : within lo hi l) (h1 : -1152921504606846976 ≤ lo) (h2 : hi ≤ 1152921504606846976) : small l := by
  intro x hx
  obtain ⟨k, hk, rfl⟩ := List.getElem_of_mem hx
  have := h k hk
  rw [List.getD_eq_getElem?_getD, List.getElem?_eq_getElem hk] at this
  have e : (some l[k]).getD 0 = l[k] := rfl
  rw [e] at this; omega
theorem within_zip {f : Int → Int → Int} {a b c d lo hi : Int} {l m : List Int} (h : l.length = m.length) (h1 : within a b l) (h2 : within c d m) (hf : ∀ x y, a ≤ x → x ≤ b → c ≤ y → y ≤ d → lo ≤ f x y ∧ f x y ≤ hi) : within lo hi (zipA f l m) := by
  intro k hk
  rw [zipA_len f h] at hk
  rw [zipA_at f k h hk]
  exact hf _ _ (h1 k hk).1 (h1 k hk).2 (h2 k (by omega)).1 (h2 k (by omega)).2
theorem within_lok {l : List Int} (h : lok fb l) : within 0 65535 l := by
  intro k hk
  have hs := lok_small fb_le h (l.getD k 0) (by rw [List.getD_eq_getElem?_getD, List.getElem?_eq_getElem hk]; exact List.getElem_mem hk)
  omega
theorem within_mono {lo hi lo' hi' : Int} {l : List Int} (h : within lo hi l) (h1 : lo' ≤ lo) (h2 : hi ≤ hi') : within lo' hi' l := fun k hk => ⟨by have := (h k hk).1; omega, by have := (h k hk).2; omega⟩
def MM : Int := 68719476736
/-- What has come so far: from place b on a row less. -/
structure Bd16 (b i : Nat) (l : List Int) : Prop where
  len : l.length = 16
  low : ∀ q, q < 16 → 0 ≤ l.getD q 0
  up : ∀ q, q < 16 → l.getD q 0 ≤ ((i : Int) + 1) * MM
  not : ∀ q, q < 16 → b ≤ q → l.getD q 0 ≤ (i : Int) * MM
theorem Bd16.start {i : Nat} {l : List Int} (b : Nat) (hl : l.length = 16) (h : within 0 ((i : Int) * MM) l) : Bd16 b i l :=
  ⟨hl, fun q hq => (h q (by omega)).1, fun q hq => by have := (h q (by omega)).2; unfold MM at *; omega, fun q hq _ => (h q (by omega)).2⟩
theorem Bd16.done {b i : Nat} {l : List Int} (h : Bd16 b i l) : within 0 (((i + 1 : Nat) : Int) * MM) l :=
  fun q hq => by have hl := h.len; have h1 := h.low q (by omega); have h2 := h.up q (by omega); exact ⟨h1, by push_cast; exact h2⟩
theorem Bd16.step {b i : Nat} {l : List Int} {d : Int} (h : Bd16 b i l) (hb : b < 16) (h0 : 0 ≤ d) (h1 : d ≤ MM) : Bd16 (b + 1) i (addAt l b d) := by
  refine ⟨by rw [addAt_len]; exact h.len, fun q hq => ?_, fun q hq => ?_, fun q hq hbq => ?_⟩
  · by_cases e : q = b
    · subst e; rw [addAt_same (by rw [h.len]; exact hq)]; have := h.low q hq; omega
    · rw [addAt_other e]; exact h.low q hq
  · by_cases e : q = b
    · subst e; rw [addAt_same (by rw [h.len]; exact hq)]; have := h.not q hq (Nat.le_refl _); rw [Int.add_mul]; omega
    · rw [addAt_other e]; exact h.up q hq
  · rw [addAt_other (by omega)]; exact h.not q hq (by omega)
theorem Bd16.val {b i : Nat} {l : List Int} (h : Bd16 b i l) (hi : i < 16) (hb : b < 16) : 0 ≤ l.getD b 0 ∧ l.getD b 0 ≤ 1030792151040 := by
  have h1 := h.low b hb
  have h2 := h.not b hb (Nat.le_refl _)
  have h3 : (i : Int) * MM ≤ 15 * MM := Int.mul_le_mul_of_nonneg_right (by omega) (by decide)
  have h4 : (15 : Int) * MM = 1030792151040 := by decide
  omega
theorem prod_bd {x y : Int} (h1 : 0 ≤ x) (h2 : x ≤ 262143) (h3 : 0 ≤ y) (h4 : y ≤ 262143) : 0 ≤ x * y ∧ x * y ≤ MM := by
  refine ⟨Int.mul_nonneg h1 h3, ?_⟩
  have := Int.mul_le_mul h2 h4 h3 (by decide)
  unfold MM; omega
theorem b256 : B16 ^ 16 = 115792089237316195423570985008687907853269984665640564039457584007913129639936 := by decide
/-- The numbers that two rows of limbs make together, with what stands beyond folded in. -/
theorem mul_mod {low high : List Int} (hl : low.length = 16) (hh : high.length = 16) (P : Int) (h : v16 low + B16 ^ 16 * v16 high = P) : lval fb (zipA (fun x y => 1 * x + 38 * y) low high) % fp = P % fp := by
  rw [v16_fb (by rw [zipA_len _ (by omega), hl]), v16_lin 1 38 (by omega)]
  rw [b256] at h
  generalize v16 low = a at h ⊢
  generalize v16 high = b at h ⊢
  unfold fp
  omega
/-- One more product of a row. -/
theorem mul_low {low high g : List Int} {i j : Nat} {P x : Int} (hl : low.length = 16) (hg : g.length = 16) (hij : i + j < 16) (h : v16 low + B16 ^ 16 * v16 high = P + B16 ^ i * x * v16 (g.take j)) :
    v16 (addAt low (i + j) (x * g.getD j 0)) + B16 ^ 16 * v16 high = P + B16 ^ i * x * v16 (g.take (j + 1)) := by
  rw [v16_add _ _ _ (by omega), v16_take (by omega), Int.mul_add, Int.pow_add]
  have e : B16 ^ i * B16 ^ j * (x * g.getD j 0) = B16 ^ i * x * (B16 ^ j * g.getD j 0) := by
    rw [Int.mul_assoc, Int.mul_assoc, Int.mul_left_comm (B16 ^ j) x]
  rw [e]; omega
theorem mul_high {low high g : List Int} {i j : Nat} {P x : Int} (hh : high.length = 16) (hg : g.length = 16) (hi : i ≤ 16) (hij : j < i) (h : v16 low + B16 ^ 16 * v16 high = P + B16 ^ i * x * v16 (g.take (16 - i + j))) :
    v16 low + B16 ^ 16 * v16 (addAt high j (x * g.getD (16 - i + j) 0)) = P + B16 ^ i * x * v16 (g.take (16 - i + j + 1)) := by
  rw [v16_add _ _ _ (by omega), v16_take (by omega), Int.mul_add, Int.mul_add]
  have e0 : B16 ^ 16 * B16 ^ j = B16 ^ i * B16 ^ (16 - i + j) := by rw [← Int.pow_add, ← Int.pow_add]; congr 1; omega
  have e : B16 ^ 16 * (B16 ^ j * (x * g.getD (16 - i + j) 0)) = B16 ^ i * x * (B16 ^ (16 - i + j) * g.getD (16 - i + j) 0) := by
    rw [← Int.mul_assoc, e0, Int.mul_assoc, Int.mul_assoc, Int.mul_left_comm (B16 ^ (16 - i + j)) x]
  rw [e]; omega
theorem mul_row {low high f g : List Int} {i : Nat} (hf : f.length = 16) (hg : g.length = 16) (hi : i < 16) (h : v16 low + B16 ^ 16 * v16 high = v16 (f.take i) * v16 g + B16 ^ i * f.getD i 0 * v16 (g.take (16 - i + i))) :
    v16 low + B16 ^ 16 * v16 high = v16 (f.take (i + 1)) * v16 g := by
  rw [show 16 - i + i = 16 by omega, List.take_of_length_le (show g.length ≤ 16 by omega)] at h
  rw [v16_take (by omega), Int.add_mul]; exact h
end Go.Proofs.Ytjhglbdknjoeeaa
