/- The specification's products of limbs, plain mathematics. -/
import Derived.Test.YtjhglbdknjoeeaaScoP
namespace Go.Proofs.Ytjhglbdknjoeeaa
/-- What has come so far, in a row of 31: from place b on a row less. -/
structure Bd31 (b i : Nat) (l : List Int) : Prop where
  len : l.length = 31
  up : ∀ q, q < 31 → -(((i : Int) + 1) * MM) ≤ l.getD q 0 ∧ l.getD q 0 ≤ ((i : Int) + 1) * MM
  not : ∀ q, q < 31 → b ≤ q → -((i : Int) * MM) ≤ l.getD q 0 ∧ l.getD q 0 ≤ (i : Int) * MM
theorem Bd31.start {i : Nat} {l : List Int} (b : Nat) (hl : l.length = 31) (h : within (-((i : Int) * MM)) ((i : Int) * MM) l) : Bd31 b i l :=
  ⟨hl, fun q hq => by have := h q (by omega); unfold MM at *; omega, fun q hq _ => h q (by omega)⟩
theorem Bd31.done {b i : Nat} {l : List Int} (h : Bd31 b i l) : within (-(((i + 1 : Nat) : Int) * MM)) (((i + 1 : Nat) : Int) * MM) l :=
  fun q hq => by have hl := h.len; have h2 := h.up q (by omega); push_cast; exact h2
theorem Bd31.step {b i : Nat} {l : List Int} {d : Int} (h : Bd31 b i l) (hb : b < 31) (h0 : -MM ≤ d) (h1 : d ≤ MM) : Bd31 (b + 1) i (addAt l b d) := by
  refine ⟨by rw [addAt_len]; exact h.len, fun q hq => ?_, fun q hq hbq => ?_⟩
  · by_cases e : q = b
    · subst e; rw [addAt_same (by rw [h.len]; exact hq)]; have := h.not q hq (Nat.le_refl _); rw [Int.add_mul]; omega
    · rw [addAt_other e]; exact h.up q hq
  · rw [addAt_other (by omega)]; exact h.not q hq (by omega)
theorem Bd31.val {b i : Nat} {l : List Int} (h : Bd31 b i l) (hi : i < 16) (hb : b < 31) : -1030792151040 ≤ l.getD b 0 ∧ l.getD b 0 ≤ 1030792151040 := by
  have h2 := h.not b hb (Nat.le_refl _)
  have h3 : (i : Int) * MM ≤ 15 * MM := Int.mul_le_mul_of_nonneg_right (by omega) (by decide)
  have h4 : (15 : Int) * MM = 1030792151040 := by decide
  omega
theorem prod_sg {x y : Int} (h1 : -262144 ≤ x) (h2 : x ≤ 262144) (h3 : -262144 ≤ y) (h4 : y ≤ 262144) : -MM ≤ x * y ∧ x * y ≤ MM := by
  have a : (x * y).natAbs ≤ 262144 * 262144 := by
    rw [Int.natAbs_mul]
    exact Nat.mul_le_mul (by omega) (by omega)
  unfold MM
  omega
theorem smul_low {t m : List Int} {i j : Nat} {P x : Int} (ht : t.length = 31) (hm : m.length = 16) (hi : i < 16) (hj : j < 16) (h : v16 t = P + B16 ^ i * x * v16 (m.take j)) :
    v16 (addAt t (i + j) (x * m.getD j 0)) = P + B16 ^ i * x * v16 (m.take (j + 1)) := by
  rw [v16_add _ _ _ (by omega), v16_take (by omega), Int.mul_add, Int.pow_add]
  have e : B16 ^ i * B16 ^ j * (x * m.getD j 0) = B16 ^ i * x * (B16 ^ j * m.getD j 0) := by
    rw [Int.mul_assoc, Int.mul_assoc, Int.mul_left_comm (B16 ^ j) x]
  rw [e]; omega
theorem smul_row {t f m : List Int} {i : Nat} (hf : f.length = 16) (hm : m.length = 16) (hi : i < 16) (h : v16 t = v16 (f.take i) * v16 m + B16 ^ i * f.getD i 0 * v16 (m.take 16)) :
    v16 t = v16 (f.take (i + 1)) * v16 m := by
  rw [List.take_of_length_le (show m.length ≤ 16 by omega)] at h
  rw [v16_take (by omega), Int.add_mul]; exact h
/-- What stands above 256 bits folded in, k places of it. -/
def foldK (t : List Int) (k : Nat) : List Int := (List.range 31).map fun q => if q < k then t.getD q 0 + 38 * t.getD (q + 16) 0 else t.getD q 0
theorem foldK_len (t : List Int) (k : Nat) : (foldK t k).length = 31 := by simp [foldK]
theorem foldK_get (t : List Int) (k : Nat) {q : Nat} (h : q < 31) : (foldK t k).getD q 0 = if q < k then t.getD q 0 + 38 * t.getD (q + 16) 0 else t.getD q 0 := by
  simp [foldK, List.getD, List.getElem?_map, List.getElem?_range h]
theorem foldK_zero {t : List Int} (h : t.length = 31) : foldK t 0 = t := by
  refine list_ext (by rw [foldK_len, h]) (fun q hq => ?_)
  rw [foldK_len] at hq
  rw [foldK_get t 0 hq, if_neg (by omega)]
theorem foldK_next (t : List Int) {k : Nat} (h : k < 15) : (foldK t k).set k (t.getD k 0 + 38 * t.getD (k + 16) 0) = foldK t (k + 1) := by
  refine list_ext (by rw [List.length_set, foldK_len, foldK_len]) (fun q hq => ?_)
  rw [List.length_set, foldK_len] at hq
  rw [foldK_get t (k + 1) hq]
  by_cases e : q = k
  · subst e
    rw [if_pos (by omega), List.getD_eq_getElem?_getD, List.getElem?_set_self (by rw [foldK_len]; exact hq)]; rfl
  · rw [List.getD_eq_getElem?_getD, List.getElem?_set_ne (Ne.symm e), ← List.getD_eq_getElem?_getD, foldK_get t k hq]
    by_cases h2 : q < k
    · rw [if_pos h2, if_pos (by omega)]
    · rw [if_neg h2, if_neg (by omega)]
theorem fold_is {t : List Int} (h : t.length = 31) : (foldK t 15).take 16 = zipA (fun x y => 1 * x + 38 * y) (t.take 16) (t.drop 16 ++ [0]) := by
  have h1 : (t.take 16).length = (t.drop 16 ++ [0]).length := by simp [h]
  refine list_ext (by rw [zipA_len _ h1, List.length_take, List.length_take, foldK_len, h]) (fun q hq => ?_)
  rw [List.length_take, foldK_len] at hq
  rw [zipA_at _ q h1 (by rw [List.length_take, h]; omega)]
  have e1 : ((foldK t 15).take 16).getD q 0 = (foldK t 15).getD q 0 := by
    rw [List.getD_eq_getElem?_getD, List.getElem?_take, if_pos (by omega), ← List.getD_eq_getElem?_getD]
  have e2 : (t.take 16).getD q 0 = t.getD q 0 := by
    rw [List.getD_eq_getElem?_getD, List.getElem?_take, if_pos (by omega), ← List.getD_eq_getElem?_getD]
  have e3 : (t.drop 16 ++ [0]).getD q 0 = if q < 15 then t.getD (q + 16) 0 else 0 := by
    rw [List.getD_eq_getElem?_getD]
    by_cases h2 : q < 15
    · rw [if_pos h2, List.getElem?_append_left (by simp [h]; omega), List.getElem?_drop, ← List.getD_eq_getElem?_getD, Nat.add_comm]
    · rw [if_neg h2, List.getElem?_append_right (by simp [h]; omega)]
      have : q = 15 := by omega
      subst this
      simp [h]
  rw [e1, e2, e3, foldK_get t 15 (by omega)]
  split <;> omega
theorem fold31_mod {t : List Int} (h : t.length = 31) : v16 ((foldK t 15).take 16) % fp = v16 t % fp := by
  have h1 : (t.take 16).length = (t.drop 16 ++ [0]).length := by simp [h]
  have e : t = t.take 16 ++ t.drop 16 := (List.take_append_drop 16 t).symm
  have hv : v16 t = v16 (t.take 16) + B16 ^ 16 * v16 (t.drop 16) := by
    conv => lhs; rw [e]
    rw [v16_app, List.length_take, h]; rfl
  have h0 : v16 (t.drop 16 ++ [0]) = v16 (t.drop 16) := by
    rw [v16_app]
    show _ + _ * (0 + B16 * 0) = _
    simp
  rw [fold_is h, v16_lin 1 38 h1, h0, hv, b256]
  generalize v16 (t.take 16) = a
  generalize v16 (t.drop 16) = b
  unfold fp
  omega
theorem fold_in {t : List Int} (h : t.length = 31) (hw : within (-((16 : Int) * MM)) ((16 : Int) * MM) t) : within (-LIM) LIM ((foldK t 15).take 16) := by
  intro q hq
  rw [List.length_take, foldK_len] at hq
  have e1 : ((foldK t 15).take 16).getD q 0 = (foldK t 15).getD q 0 := by
    rw [List.getD_eq_getElem?_getD, List.getElem?_take, if_pos (by omega), ← List.getD_eq_getElem?_getD]
  rw [e1, foldK_get t 15 (by omega)]
  have h1 := hw q (by omega)
  unfold MM at h1
  unfold LIM
  split
  · have h2 := hw (q + 16) (by omega)
    unfold MM at h2
    omega
  · omega
end Go.Proofs.Ytjhglbdknjoeeaa
