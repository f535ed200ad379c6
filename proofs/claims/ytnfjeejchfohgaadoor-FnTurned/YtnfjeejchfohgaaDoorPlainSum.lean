/- Plain mathematics of sums (chapter 2), over no dump: one step on numbers, its table of four steps, that steps lose nothing, the four bytes of a sum. -/
import Derived.WalkKit
import Derived.WalkLawsBesides
import Derived.PlainAid
import Derived.Laws.BitsAllLaws
import Derived.Laws.BytesArg
namespace Go.Proofs.YtnfjeejchfohgaaDoor
open Go.RowKit Go.PlainAid

/-- One step: half, exclusive-or the number where it was odd. -/
def half (n : Nat) : Nat := n / 2 ^^^ (n % 2 * 3558460437)
def four (n : Nat) : Nat := half (half (half (half n)))
def eight (n : Nat) : Nat := four (four n)

theorem xor_div2 (a b : Nat) : (a ^^^ b) / 2 = a / 2 ^^^ b / 2 := by
  apply Nat.eq_of_testBit_eq; intro i
  rw [Nat.testBit_xor, Nat.testBit_div_two, Nat.testBit_div_two, Nat.testBit_div_two, Nat.testBit_xor]
theorem half_odd {n : Nat} (h : n % 2 = 1) : half n = n / 2 ^^^ 3558460437 := by unfold half; rw [h]
theorem half_even {n : Nat} (h : n % 2 = 0) : half n = n / 2 := by unfold half; rw [h]; simp
theorem half_two (m : Nat) : half (2 * m) = m := by rw [half_even (by omega)]; omega
theorem xor_mid (a b c : Nat) : a ^^^ c ^^^ (b ^^^ c) = a ^^^ b := by
  rw [Nat.xor_comm b c, ← Nat.xor_assoc, Nat.xor_assoc a c c, Nat.xor_self, Nat.xor_zero]
theorem half_xor (a b : Nat) : half (a ^^^ b) = half a ^^^ half b := by
  have hm : (a ^^^ b) % 2 = (a % 2 + b % 2) % 2 := by
    have h := Nat.testBit_xor (x := a) (y := b) (i := 0)
    rw [Nat.testBit_zero, Nat.testBit_zero, Nat.testBit_zero] at h
    have hx := Nat.mod_two_eq_zero_or_one (a ^^^ b)
    rcases Nat.mod_two_eq_zero_or_one a with ha | ha <;> rcases Nat.mod_two_eq_zero_or_one b with hb | hb <;> rw [ha, hb] at h ⊢ <;> rcases hx with hx | hx <;> rw [hx] at h ⊢ <;> revert h <;> decide
  rcases Nat.mod_two_eq_zero_or_one a with ha | ha <;> rcases Nat.mod_two_eq_zero_or_one b with hb | hb
  · rw [half_even ha, half_even hb, half_even (by omega), xor_div2]
  · rw [half_even ha, half_odd hb, half_odd (by omega), xor_div2, Nat.xor_assoc]
  · rw [half_odd ha, half_even hb, half_odd (by omega), xor_div2, Nat.xor_assoc, Nat.xor_assoc, Nat.xor_comm (b / 2)]
  · rw [half_odd ha, half_odd hb, half_even (by omega), xor_div2, xor_mid]
theorem half_lt {n : Nat} (h : n < 4294967296) : half n < 4294967296 := by
  have : half n < 2 ^ 32 := by
    rcases Nat.mod_two_eq_zero_or_one n with hn | hn
    · rw [half_even hn]; omega
    · rw [half_odd hn]; exact Nat.xor_lt_two_pow (by omega) (by decide)
  omega
theorem half_zero {n : Nat} (h : n < 4294967296) (e : half n = 0) : n = 0 := by
  rcases Nat.mod_two_eq_zero_or_one n with hn | hn
  · rw [half_even hn] at e; omega
  · rw [half_odd hn] at e
    have : n / 2 = 3558460437 := by
      have e2 : n / 2 ^^^ 3558460437 ^^^ 3558460437 = 0 ^^^ 3558460437 := by rw [e]
      rw [Nat.xor_assoc, Nat.xor_self, Nat.xor_zero, Nat.zero_xor] at e2
      exact e2
    omega
theorem xor_lt32 {a b : Nat} (ha : a < 4294967296) (hb : b < 4294967296) : a ^^^ b < 4294967296 := by
  have : a ^^^ b < 2 ^ 32 := Nat.xor_lt_two_pow (by omega) (by omega)
  omega
theorem xor_zero_eq {a b : Nat} (h : a ^^^ b = 0) : a = b := by
  have e : a ^^^ b ^^^ b = 0 ^^^ b := by rw [h]
  rw [Nat.xor_assoc, Nat.xor_self, Nat.xor_zero, Nat.zero_xor] at e
  exact e
theorem half_inj {a b : Nat} (ha : a < 4294967296) (hb : b < 4294967296) (h : half a = half b) : a = b := by
  apply xor_zero_eq
  apply half_zero (xor_lt32 ha hb)
  rw [half_xor, h, Nat.xor_self]
theorem four_lt {n : Nat} (h : n < 4294967296) : four n < 4294967296 := half_lt (half_lt (half_lt (half_lt h)))
theorem eight_lt {n : Nat} (h : n < 4294967296) : eight n < 4294967296 := four_lt (four_lt h)
theorem four_inj {a b : Nat} (ha : a < 4294967296) (hb : b < 4294967296) (h : four a = four b) : a = b :=
  half_inj ha hb (half_inj (half_lt ha) (half_lt hb) (half_inj (half_lt (half_lt ha)) (half_lt (half_lt hb)) (half_inj (half_lt (half_lt (half_lt ha))) (half_lt (half_lt (half_lt hb))) h)))
theorem eight_inj {a b : Nat} (ha : a < 4294967296) (hb : b < 4294967296) (h : eight a = eight b) : a = b :=
  four_inj ha hb (four_inj (four_lt ha) (four_lt hb) h)
theorem four_xor (a b : Nat) : four (a ^^^ b) = four a ^^^ four b := by
  unfold four; rw [half_xor, half_xor, half_xor, half_xor]
theorem four_high (q : Nat) : four (16 * q) = q := by
  unfold four
  rw [show 16 * q = 2 * (2 * (2 * (2 * q))) by omega, half_two, half_two, half_two, half_two]
theorem parts16 (n : Nat) : n = 16 * (n / 16) ^^^ n % 16 := by
  apply Nat.eq_of_testBit_eq; intro i
  rw [Nat.testBit_xor]
  have h1 := Nat.testBit_two_pow_mul (i := 4) (j := i) (a := n / 16)
  have h2 := Nat.testBit_mod_two_pow n 4 i
  have h3 := Nat.testBit_div_two_pow (n := 4) n (i - 4)
  rw [show (2 : Nat) ^ 4 = 16 by decide] at h1 h2 h3
  rw [h1, h2]
  by_cases h : i < 4
  · simp [h, show ¬ 4 ≤ i by omega]
  · simp [h, show 4 ≤ i by omega]
    rw [h3, show i - 4 + 4 = i by omega]
/-- What four steps make of a number below 16. -/
def tab (r : Nat) : Nat := [0x00000000, 0x4589ac8d, 0x8b13591a, 0xce9af597, 0xbe152a1f, 0xfb9c8692, 0x35067305, 0x708fdf88, 0xd419cc15, 0x91906098, 0x5f0a950f, 0x1a833982, 0x6a0ce60a, 0x2f854a87, 0xe11fbf10, 0xa496139d].getD r 0
theorem four_low {r : Nat} (h : r < 16) : four r = tab r := by
  rcases (show r = 0 ∨ r = 1 ∨ r = 2 ∨ r = 3 ∨ r = 4 ∨ r = 5 ∨ r = 6 ∨ r = 7 ∨ r = 8 ∨ r = 9 ∨ r = 10 ∨ r = 11 ∨ r = 12 ∨ r = 13 ∨ r = 14 ∨ r = 15 by omega) with rfl | rfl | rfl | rfl | rfl | rfl | rfl | rfl | rfl | rfl | rfl | rfl | rfl | rfl | rfl | rfl <;> decide
theorem four_tab (n : Nat) : four n = n / 16 ^^^ tab (n % 16) := by
  conv => lhs; rw [parts16 n]
  rw [four_xor, four_high, four_low (Nat.mod_lt _ (by omega))]
theorem tab_lt {r : Nat} (h : r < 16) : tab r < 4294967296 := by rw [← four_low h]; exact four_lt (by omega)

/-- The sum behind the first k bytes. -/
def sumTo (s0 : Nat) (t : ByteArray) : Nat → Nat
  | 0 => s0
  | k + 1 => eight (sumTo s0 t k ^^^ (bt t k).toNat)
theorem bt_lt (t : ByteArray) (k : Nat) : (bt t k).toNat < 256 := by have := bt_le t k; omega
theorem sumTo_lt {s0 : Nat} (h : s0 < 4294967296) (t : ByteArray) : ∀ k, sumTo s0 t k < 4294967296
  | 0 => h
  | k + 1 => eight_lt (xor_lt32 (sumTo_lt h t k) (by have := bt_lt t k; omega))
theorem sumTo_same (s0 : Nat) (t u : ByteArray) : ∀ k, (∀ j, j < k → bt t j = bt u j) → sumTo s0 t k = sumTo s0 u k
  | 0, _ => rfl
  | k + 1, h => by
    simp only [sumTo]
    rw [sumTo_same s0 t u k (fun j hj => h j (by omega)), h k (by omega)]
/-- One byte is another: the sum is another, from there on. -/
theorem sumTo_other {s0 : Nat} (h0 : s0 < 4294967296) (t u : ByteArray) (i : Nat) (hi : bt t i ≠ bt u i) (hs : ∀ j, j ≠ i → bt t j = bt u j) : ∀ k, i < k → sumTo s0 t k ≠ sumTo s0 u k
  | k + 1, h => by
    simp only [sumTo]
    intro e
    have e2 := eight_inj (xor_lt32 (sumTo_lt h0 t k) (by have := bt_lt t k; omega)) (xor_lt32 (sumTo_lt h0 u k) (by have := bt_lt u k; omega)) e
    by_cases hk : i = k
    · subst hk
      rw [sumTo_same s0 t u i (fun j hj => hs j (by omega))] at e2
      have e3 : (bt t i).toNat = (bt u i).toNat := by
        have := congrArg (fun x => sumTo s0 u i ^^^ x) e2
        simp only [← Nat.xor_assoc, Nat.xor_self, Nat.zero_xor] at this
        exact this
      have := bt_nonneg t i
      have := bt_nonneg u i
      omega
    · rw [hs k (fun h => hk h.symm)] at e2
      have e3 : sumTo s0 t k = sumTo s0 u k := by
        have := congrArg (fun x => x ^^^ (bt u k).toNat) e2
        simp only [Nat.xor_assoc, Nat.xor_self, Nat.xor_zero] at this
        exact this
      exact sumTo_other h0 t u i hi hs k (by omega) e3

/-- The sum of a text. -/
def sumOf (t : ByteArray) : Nat := sumTo 4294967295 t t.size
theorem sumOf_lt (t : ByteArray) : sumOf t < 4294967296 := sumTo_lt (by decide) t _
/-- Four bytes, the highest first. -/
def be4 (n : Nat) : List Int := [(n : Int) / 16777216, (n : Int) / 65536 % 256, (n : Int) / 256 % 256, (n : Int) % 256]
theorem be4_inj {a b : Nat} (ha : a < 4294967296) (hb : b < 4294967296) (h : be4 a = be4 b) : a = b := by
  simp only [be4, List.cons.injEq] at h
  omega
theorem be4_range {n : Nat} (h : n < 4294967296) : ∀ x ∈ be4 n, 0 ≤ x ∧ x ≤ 255 := by
  intro x hx
  simp only [be4, List.mem_cons, List.not_mem_nil, or_false] at hx
  omega
end Go.Proofs.YtnfjeejchfohgaaDoor
