/- Numbers of a tag, plain mathematics: a text as a number, bit by bit and byte by byte. -/
import Derived.Test.YtopdjfgomclffaaMulQ
namespace Go.Proofs.Ytopdjfgomclffaa
/-- The number of the first k bytes, the lowest first. -/
def nv (f : Nat → Nat) : Nat → Nat
  | 0 => 0
  | k + 1 => f 0 + 256 * nv (fun i => f (i + 1)) k
theorem nv_snoc : ∀ (f : Nat → Nat) (k : Nat), nv f (k + 1) = nv f k + f k * 256 ^ k
  | f, 0 => by simp [nv]
  | f, k + 1 => by
    have ih := nv_snoc (fun i => f (i + 1)) k
    show f 0 + 256 * nv (fun i => f (i + 1)) (k + 1) = f 0 + 256 * nv (fun i => f (i + 1)) k + f (k + 1) * 256 ^ (k + 1)
    rw [ih, Nat.mul_add, Nat.pow_succ, Nat.add_assoc]
    congr 2
    rw [Nat.mul_comm (256 ^ k) 256, Nat.mul_left_comm]
theorem nv_lt : ∀ {f : Nat → Nat} (k : Nat), (∀ i, f i < 256) → nv f k < 256 ^ k
  | _, 0, _ => Nat.one_pos
  | f, k + 1, h => by
    have ih := nv_lt (f := fun i => f (i + 1)) k (fun i => h (i + 1))
    have h0 := h 0
    show f 0 + 256 * nv (fun i => f (i + 1)) k < _
    rw [Nat.pow_succ]; omega
theorem nv_byte : ∀ {f : Nat → Nat} (k q : Nat), (∀ i, f i < 256) → q < k → nv f k / 256 ^ q % 256 = f q
  | f, k + 1, 0, h, _ => by
    have h0 := h 0
    show (f 0 + 256 * nv (fun i => f (i + 1)) k) / 1 % 256 = _
    omega
  | f, k + 1, q + 1, h, hq => by
    have ih := nv_byte (f := fun i => f (i + 1)) k q (fun i => h (i + 1)) (by omega)
    have h0 := h 0
    show (f 0 + 256 * nv (fun i => f (i + 1)) k) / 256 ^ (q + 1) % 256 = f (q + 1)
    rw [Nat.pow_succ, Nat.mul_comm (256 ^ q) 256, ← Nat.div_div_eq_div_mul, show (f 0 + 256 * nv (fun i => f (i + 1)) k) / 256 = nv (fun i => f (i + 1)) k by omega]
    exact ih
theorem nv_bit {f : Nat → Nat} {k i : Nat} (h : ∀ i, f i < 256) (hi : i < 8 * k) : nv f k / 2 ^ i % 2 = f (i / 8) / 2 ^ (i % 8) % 2 := by
  have e := nv_byte k (i / 8) h (by omega)
  have hp : (2 : Nat) ^ i = 256 ^ (i / 8) * 2 ^ (i % 8) := by
    rw [show (256 : Nat) = 2 ^ 8 from rfl, ← Nat.pow_mul, ← Nat.pow_add]; congr 1; omega
  rw [hp, ← Nat.div_div_eq_div_mul, ← e]
  generalize nv f k / 256 ^ (i / 8) = x
  rcases (show i % 8 = 0 ∨ i % 8 = 1 ∨ i % 8 = 2 ∨ i % 8 = 3 ∨ i % 8 = 4 ∨ i % 8 = 5 ∨ i % 8 = 6 ∨ i % 8 = 7 by omega) with h | h | h | h | h | h | h | h <;> rw [h] <;> simp <;> omega
/-- Limb number k of a number; the last one has all that is above. -/
def limbN (V k : Nat) : Nat := if k = 4 then V / 20282409603651670423947251286016 else V / 67108864 ^ k % 67108864
def lv (V : Nat) : List Int := [((limbN V 0 : Nat) : Int), ((limbN V 1 : Nat) : Int), ((limbN V 2 : Nat) : Int), ((limbN V 3 : Nat) : Int), ((limbN V 4 : Nat) : Int)]
theorem lv_len (V : Nat) : (lv V).length = 5 := rfl
theorem lv_at (V : Nat) {k : Nat} (hk : k < 5) : (lv V).getD k 0 = ((limbN V k : Nat) : Int) := by
  rcases (show k = 0 ∨ k = 1 ∨ k = 2 ∨ k = 3 ∨ k = 4 by omega) with rfl | rfl | rfl | rfl | rfl <;> rfl
theorem lv_val (V : Nat) : lval pb (lv V) = (V : Int) := by
  simp only [lv, limbN, lval, pb]
  simp
  omega
theorem lv_bd {V : Nat} (h : V < 87112285931760246646623899502532662132736) : bdP (lv V) := by
  refine ⟨rfl, fun x hx => ?_⟩
  simp only [lv, limbN, List.mem_cons, List.not_mem_nil, or_false] at hx
  simp at hx
  rcases hx with rfl | rfl | rfl | rfl | rfl <;> omega
theorem lv_zero : lv 0 = List.replicate 5 0 := rfl
theorem lv_step {V L P b : Nat} (hL : L ≤ 4) (hP : L < 4 → 2 * P ≤ 67108864) (hV : V < P * 67108864 ^ L) (hb : b ≤ 1) :
    (lv V).set L ((limbN V L + b * P : Nat) : Int) = lv (V + b * (P * 67108864 ^ L)) := by
  rcases (show b = 0 ∨ b = 1 by omega) with rfl | rfl
  · rw [Nat.zero_mul, Nat.zero_mul, Nat.add_zero, Nat.add_zero, ← lv_at V (show L < 5 by omega)]
    rcases (show L = 0 ∨ L = 1 ∨ L = 2 ∨ L = 3 ∨ L = 4 by omega) with rfl | rfl | rfl | rfl | rfl <;> rfl
  · rw [Nat.one_mul, Nat.one_mul]
    rcases (show L = 0 ∨ L = 1 ∨ L = 2 ∨ L = 3 ∨ L = 4 by omega) with rfl | rfl | rfl | rfl | rfl
    · have hp := hP (by omega)
      simp at hV
      simp only [lv, limbN, List.set_cons_zero, List.cons.injEq, and_true]
      simp
      (repeat' apply And.intro) <;> omega
    · have hp := hP (by omega)
      simp at hV
      simp only [lv, limbN, List.set_cons_succ, List.set_cons_zero, List.cons.injEq, and_true]
      simp
      (repeat' apply And.intro) <;> omega
    · have hp := hP (by omega)
      simp at hV
      simp only [lv, limbN, List.set_cons_succ, List.set_cons_zero, List.cons.injEq, and_true]
      simp
      (repeat' apply And.intro) <;> omega
    · have hp := hP (by omega)
      simp at hV
      simp only [lv, limbN, List.set_cons_succ, List.set_cons_zero, List.cons.injEq, and_true]
      simp
      (repeat' apply And.intro) <;> omega
    · simp at hV
      simp only [lv, limbN, List.set_cons_succ, List.set_cons_zero, List.cons.injEq, and_true]
      simp
      (repeat' apply And.intro) <;> omega
theorem limb_lt {V L P : Nat} (hL : L ≤ 4) (hV : V < P * 67108864 ^ L) : limbN V L < P := by
  have h : V / 67108864 ^ L < P := Nat.div_lt_of_lt_mul (by rw [Nat.mul_comm]; exact hV)
  unfold limbN
  split
  · rename_i e; subst e; exact h
  · exact Nat.lt_of_le_of_lt (Nat.mod_le _ _) h
/-- The limb of bit i. -/
def lbit (i : Nat) : Nat := if 4 < i / 26 then 4 else i / 26
theorem lbit_le (i : Nat) : lbit i ≤ 4 := by unfold lbit; split <;> omega
theorem lbit_low (i : Nat) : 26 * lbit i ≤ i := by unfold lbit; split <;> omega
theorem two_at (i : Nat) : 2 ^ i = 2 ^ (i - 26 * lbit i) * 67108864 ^ lbit i := by
  have h := lbit_low i
  rw [show (67108864 : Nat) = 2 ^ 26 from rfl, ← Nat.pow_mul, ← Nat.pow_add]
  congr 1; omega
/-- The number's first i bits. -/
theorem mod_step (N i : Nat) : N % 2 ^ (i + 1) = N % 2 ^ i + (N / 2 ^ i % 2) * 2 ^ i := by
  rw [Nat.pow_succ, Nat.mod_mul]
  rw [Nat.mul_comm]
theorem lbit_small {i : Nat} (h : lbit i < 4) : 2 * 2 ^ (i - 26 * lbit i) ≤ 67108864 := by
  have h1 : i - 26 * lbit i ≤ 25 := by unfold lbit at h ⊢; split at h <;> split <;> omega
  have := Nat.pow_le_pow_right (show 0 < 2 by omega) h1
  omega
theorem bit_set (N i : Nat) : (lv (N % 2 ^ i)).set (lbit i) ((limbN (N % 2 ^ i) (lbit i) + (N / 2 ^ i % 2) * 2 ^ (i - 26 * lbit i) : Nat) : Int) = lv (N % 2 ^ (i + 1)) := by
  have hV : N % 2 ^ i < 2 ^ (i - 26 * lbit i) * 67108864 ^ lbit i := by rw [← two_at]; exact Nat.mod_lt _ (Nat.pow_pos (by decide))
  have h := lv_step (b := N / 2 ^ i % 2) (lbit_le i) lbit_small hV (by omega)
  rw [h, ← two_at, ← mod_step]
theorem bit_lt (N i : Nat) : limbN (N % 2 ^ i) (lbit i) < 2 ^ (i - 26 * lbit i) :=
  limb_lt (lbit_le i) (by rw [← two_at]; exact Nat.mod_lt _ (Nat.pow_pos (by decide)))
/-- What stands below, and a bit above it. -/
theorem or_addP {x b s : Nat} (h : x < 2 ^ s) : x ||| b * 2 ^ s = x + b * 2 ^ s := by
  have := Nat.two_pow_add_eq_or_of_lt h b
  rw [Nat.or_comm, Nat.mul_comm b, ← this, Nat.add_comm]
/-- The specification's way: byte by byte. -/
def kb (i : Nat) : Nat := lbit (8 * i)
def sto (f : Nat → Nat) : Nat → List Int
  | 0 => List.replicate 5 0
  | i + 1 => (sto f i).set (kb i) ((sto f i).getD (kb i) 0 + ((f i * 2 ^ (8 * i - 26 * kb i) : Nat) : Int))
theorem sto_len (f : Nat → Nat) : ∀ i, (sto f i).length = 5
  | 0 => rfl
  | i + 1 => by show ((sto f i).set _ _).length = 5; rw [List.length_set]; exact sto_len f i
theorem kb_lt (i : Nat) : kb i < 5 := Nat.lt_succ_of_le (lbit_le _)
theorem sto_val (f : Nat → Nat) : ∀ i, lval pb (sto f i) = ((nv f i : Nat) : Int)
  | 0 => (by decide : lval pb (List.replicate 5 0) = ((0 : Nat) : Int))
  | i + 1 => by
    show lval pb ((sto f i).set _ _) = _
    rw [lval_set (sto_len f i) (kb_lt i), sto_val f i, nv_snoc]
    have h := two_at (8 * i)
    have e : (256 : Nat) ^ i = 2 ^ (8 * i) := by rw [show (256 : Nat) = 2 ^ 8 from rfl, ← Nat.pow_mul]
    rw [e, h]
    unfold pw kb
    rw [Int.natCast_add, Int.natCast_mul, Int.natCast_mul, Int.natCast_mul, Int.mul_assoc, Int.natCast_pow 67108864]
    rfl
theorem sh_le {i : Nat} (h : i < 17) : 8 * i - 26 * kb i ≤ 25 := by unfold kb lbit; split <;> omega
theorem put_le {f : Nat → Nat} (hf : ∀ i, f i < 256) {i : Nat} (h : i < 17) : f i * 2 ^ (8 * i - 26 * kb i) ≤ 8589934592 := by
  have h1 := Nat.pow_le_pow_right (show 0 < 2 by omega) (sh_le h)
  have h2 := hf i
  have h3 : f i * 2 ^ (8 * i - 26 * kb i) ≤ 256 * 2 ^ 25 := Nat.mul_le_mul (by omega) h1
  omega
theorem sto_bd {f : Nat → Nat} (hf : ∀ i, f i < 256) : ∀ i, i ≤ 17 → ∀ k, k < 5 → 0 ≤ (sto f i).getD k 0 ∧ (sto f i).getD k 0 ≤ (i : Int) * 8589934592
  | 0, _, k, hk => by
    have : (sto f 0).getD k 0 = 0 := by
      show (List.replicate 5 (0 : Int)).getD k 0 = 0
      rw [List.getD_eq_getElem?_getD, List.getElem?_replicate, if_pos hk]; rfl
    rw [this]; simp
  | i + 1, hi, k, hk => by
    have ih := sto_bd hf i (by omega) k hk
    have hp := put_le hf (show i < 17 by omega)
    show 0 ≤ ((sto f i).set _ _).getD k 0 ∧ ((sto f i).set _ _).getD k 0 ≤ _
    by_cases e : kb i = k
    · subst e
      rw [getD_set_same _ (by rw [sto_len]; exact kb_lt i)]
      omega
    · rw [getD_set_other _ e]
      omega
theorem sto_ok {f : Nat → Nat} (hf : ∀ i, f i < 256) {i : Nat} (hi : i ≤ 17) : bdP (sto f i) := ⟨sto_len f i, fun x hx => by
  obtain ⟨j, hj, rfl⟩ := List.getElem_of_mem hx
  have := sto_bd hf i hi j (by rw [sto_len] at hj; exact hj)
  rw [List.getD_eq_getElem?_getD, List.getElem?_eq_getElem hj, Option.getD_some] at this
  omega⟩
end Go.Proofs.Ytopdjfgomclffaa
