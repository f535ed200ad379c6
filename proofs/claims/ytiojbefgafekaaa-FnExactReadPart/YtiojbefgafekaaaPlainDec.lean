/- Plain mathematics of decimal figures (chapter 1): over no dump. -/
import Derived.WalkKit
import Derived.WalkLawsBesides
import Derived.Lib.Strings
import Derived.PlainAid
import Derived.Test.YtiojbefgafekaaaPlain
import Derived.Test.YtiojbefgafekaaaPlainRead
namespace Go.Proofs.Ytiojbefgafekaaa
open Go.RowKit Go.PlainAid

/-- Decimal figures of a natural number, at most f and one of them. -/
def decF : Nat → Nat → List Int
  | 0, n => [48 + (n : Int)]
  | f + 1, n => if n < 10 then [48 + (n : Int)] else decF f (n / 10) ++ [48 + ((n % 10 : Nat) : Int)]
theorem decF_more : ∀ (f g n : Nat), n ≤ f → n ≤ g → decF f n = decF g n
  | 0, 0, n, _, _ => rfl
  | 0, g + 1, n, h, _ => by rw [decF, decF, if_pos (by omega)]
  | f + 1, 0, n, _, h => by rw [decF, decF, if_pos (by omega)]
  | f + 1, g + 1, n, hf, hg => by
    rw [decF, decF]
    split
    · rfl
    · rw [decF_more f g (n / 10) (by omega) (by omega)]
/-- Decimal figures of a natural number. -/
def dec (n : Nat) : List Int := decF n n
theorem dec_small {n : Nat} (h : n < 10) : dec n = [48 + (n : Int)] := by
  unfold dec
  cases n with
  | zero => rfl
  | succ m => rw [decF, if_pos h]
theorem dec_big {n : Nat} (h : 10 ≤ n) : dec n = dec (n / 10) ++ [48 + ((n % 10 : Nat) : Int)] := by
  unfold dec
  cases n with
  | zero => omega
  | succ m => rw [decF, if_neg (by omega), decF_more m ((m + 1) / 10) ((m + 1) / 10) (by omega) (Nat.le_refl _)]
/-- The same, nothing for 0. -/
def dz (m : Nat) : List Int := if m = 0 then [] else dec m
theorem dz_zero : dz 0 = [] := rfl
theorem dz_pos {m : Nat} (h : 0 < m) : dz m = dec m := by unfold dz; rw [if_neg (by omega)]
theorem dz_step {m : Nat} (h : 0 < m) : dz m = dz (m / 10) ++ [48 + ((m % 10 : Nat) : Int)] := by
  rw [dz_pos h]
  by_cases h1 : m < 10
  · rw [dec_small h1, show m / 10 = 0 by omega, dz_zero, show m % 10 = m by omega]; rfl
  · rw [dec_big (by omega), dz_pos (show 0 < m / 10 by omega)]
theorem dec_len : ∀ (k n : Nat), n < 10 ^ (k + 1) → (dec n).length ≤ k + 1
  | 0, n, h => by rw [dec_small (by omega)]; simp
  | k + 1, n, h => by
    by_cases hn : n < 10
    · rw [dec_small hn]; simp
    · rw [dec_big (by omega)]
      have := dec_len k (n / 10) (by rw [Nat.pow_succ] at h; omega)
      simp; omega
theorem dec_len20 (n : Nat) (h : n ≤ 9223372036854775808) : (dec n).length ≤ 20 := dec_len 19 n (by simp; omega)
theorem dec_range (n : Nat) : ∀ x ∈ dec n, 0 ≤ x ∧ x ≤ 255 := by
  induction n using Nat.strongRecOn with
  | ind n ih =>
    intro x hx
    by_cases h : n < 10
    · rw [dec_small h] at hx; simp at hx; omega
    · rw [dec_big (by omega)] at hx
      rcases List.mem_append.mp hx with hx | hx
      · exact ih (n / 10) (by omega) x hx
      · simp at hx; omega

/-- Decimal figures of an integer. -/
def decI (n : Int) : List Int := if n < 0 then 45 :: dec n.natAbs else dec n.natAbs
theorem decI_neg {n : Nat} (h : 0 < n) : decI (-(n : Int)) = 45 :: dec n := by unfold decI; rw [if_pos (by omega)]; simp
theorem decI_nat (n : Nat) : decI (n : Int) = dec n := by unfold decI; rw [if_neg (by omega)]; simp

/-- What figures are worth. -/
def valD (l : List Int) : Int := l.foldl (fun a d => 10 * a + d) 0
theorem valD_snoc (l : List Int) (d : Int) : valD (l ++ [d]) = 10 * valD l + d := by unfold valD; rw [List.foldl_append]; rfl
theorem valD_nil : valD [] = 0 := rfl

/-- A list built from behind. -/
theorem snoc_ind {p : List Int → Prop} (h0 : p []) (h1 : ∀ l x, p l → p (l ++ [x])) : ∀ l, p l := by
  intro l
  have : ∀ n (l : List Int), l.length = n → p l := by
    intro n
    induction n with
    | zero => intro l hl; rw [List.length_eq_zero_iff.mp hl]; exact h0
    | succ n ih =>
      intro l hl
      have hne : l ≠ [] := by intro e; rw [e] at hl; simp at hl
      rw [← List.dropLast_concat_getLast hne]
      exact h1 _ _ (ih _ (by rw [List.length_dropLast]; omega))
  exact this l.length l rfl

theorem valD_nonneg : ∀ l : List Int, (∀ x ∈ l, 0 ≤ x ∧ x ≤ 9) → 0 ≤ valD l :=
  snoc_ind (fun _ => by simp [valD_nil]) (fun l x ih h => by
    rw [valD_snoc]
    have := ih (fun y hy => h y (by simp [hy]))
    have := h x (by simp)
    omega)
theorem valD_zero : ∀ l : List Int, (∀ x ∈ l, 0 ≤ x ∧ x ≤ 9) → valD l = 0 → ∀ x ∈ l, x = 0 :=
  snoc_ind (fun _ _ x hx => by simp at hx) (fun l x ih h e y hy => by
    rw [valD_snoc] at e
    have h1 := valD_nonneg l (fun y hy => h y (by simp [hy]))
    have h2 := h x (by simp)
    rcases List.mem_append.mp hy with hy | hy
    · exact ih (fun y hy => h y (by simp [hy])) (by omega) y hy
    · simp at hy; omega)
/-- The figures are the number's own: unless a needless nought stands ahead, or there is none. -/
theorem dec_valD : ∀ l : List Int, (∀ x ∈ l, 0 ≤ x ∧ x ≤ 9) → (dec (valD l).toNat = l.map (fun d => 48 + d) ↔ l ≠ [] ∧ ¬ (1 < l.length ∧ l.head? = some 0)) := by
  apply snoc_ind
  · intro _
    rw [valD_nil, show ((0 : Int).toNat) = 0 from rfl, dec_small (by omega)]; simp
  · intro l x ih h
    have hl : ∀ y ∈ l, 0 ≤ y ∧ y ≤ 9 := fun y hy => h y (by simp [hy])
    have hx := h x (by simp)
    have hn := valD_nonneg l hl
    rw [valD_snoc, List.map_append, List.map_singleton]
    by_cases hz : valD l = 0
    · have hall := valD_zero l hl hz
      rw [hz, dec_small (by omega)]
      cases l with
      | nil => simp; omega
      | cons y l =>
        have hy : y = 0 := hall y (by simp)
        subst hy
        constructor
        · intro e; have := congrArg List.length e; simp at this
        · intro e; exact absurd e.2 (by simp)
    · rw [dec_big (by omega), show (10 * valD l + x).toNat / 10 = (valD l).toNat by omega, show (((10 * valD l + x).toNat % 10 : Nat) : Int) = x by omega]
      have hne : l ≠ [] := by intro e; rw [e] at hz; exact hz valD_nil
      constructor
      · intro e
        have e' := (List.append_inj' e rfl).1
        have h1 := (ih hl).mp e'
        refine ⟨by simp, fun ⟨_, hh⟩ => ?_⟩
        cases l with
        | nil => exact hne rfl
        | cons y l =>
          simp at hh
          subst hh
          cases l with
          | nil => exact hz rfl
          | cons z l => exact h1.2 ⟨by simp, rfl⟩
      · rintro ⟨_, h2⟩
        have : dec (valD l).toNat = l.map (fun d => 48 + d) := by
          rw [ih hl]
          refine ⟨hne, fun ⟨h3, h4⟩ => h2 ⟨by simp; omega, ?_⟩⟩
          cases l with
          | nil => exact absurd rfl hne
          | cons y l => simpa using h4
        rw [this]

theorem strOfNums_cons (x : Int) (xs : List Int) : strOfNums [x] ++ strOfNums xs = strOfNums (x :: xs) := by
  unfold strOfNums; rw [ByteArray.mk_append_mk]; simp
theorem minus_cons (xs : List Int) : (⟨#[45]⟩ : ByteArray) ++ strOfNums xs = strOfNums (45 :: xs) := strOfNums_cons 45 xs

end Go.Proofs.Ytiojbefgafekaaa
