/- Plain mathematics of reading a number's bytes (chapter 1): over no dump. -/
import Derived.WalkKit
import Derived.WalkLawsBesides
import Derived.Lib.Strings
import Derived.PlainAid
import Derived.Test.YthpkhbcahihbnaaDoorPlain
namespace Go.Proofs.YthpkhbcahihbnaaDoor
open Go.RowKit Go.PlainAid

/-- 128 to the k. -/
def pw (k : Nat) : Int := 128 ^ k
theorem pw_zero : pw 0 = 1 := rfl
theorem pw_succ (k : Nat) : pw (k + 1) = pw k * 128 := by unfold pw; rw [Int.pow_succ]
theorem pw_lt {k : Nat} (h : k < 5) : 1 ≤ pw k ∧ pw k ≤ 268435456 := by
  rcases (show k = 0 ∨ k = 1 ∨ k = 2 ∨ k = 3 ∨ k = 4 by omega) with rfl | rfl | rfl | rfl | rfl <;> decide
theorem pw_five : pw 5 = 34359738368 := by decide
theorem pw_pos (k : Nat) : 1 ≤ pw k := by
  induction k with
  | zero => decide
  | succ k ih => rw [pw_succ]; omega

/-- Reading: at most 'fuel' bytes more from place a + k on; acc: what the k bytes read so far weigh. -/
def rvGo (s : ByteArray) (a : Nat) : Nat → Nat → Int → Option (Int × Nat)
  | 0, _, _ => none
  | f + 1, k, acc =>
    if a + k < s.size then
      if bt s (a + k) < 128 then
        if (bt s (a + k) = 0 ∧ 0 < k) ∨ 1000000000 < acc + bt s (a + k) % 128 * pw k then none
        else some (acc + bt s (a + k) % 128 * pw k, a + k + 1)
      else rvGo s a f (k + 1) (acc + bt s (a + k) % 128 * pw k)
    else none

/-- The answer of ReadVar at a place within the text. -/
def rvOut (s : ByteArray) (a : Nat) : Option (Int × Nat) := rvGo s a 5 0 0

theorem rv_end {s : ByteArray} {a f k : Nat} {acc : Int} (h : s.size ≤ a + k) : rvGo s a f k acc = none := by
  cases f with
  | zero => rfl
  | succ f => rw [rvGo, if_neg (by omega)]
theorem rv_out {s : ByteArray} {a k : Nat} {acc : Int} (h : 5 ≤ k) : rvGo s a (5 - k) k acc = none := by
  rw [show 5 - k = 0 by omega]; rfl
theorem rv_more {s : ByteArray} {a k : Nat} {acc : Int} (hk : k < 5) (h : a + k < s.size) (hb : 128 ≤ bt s (a + k)) :
    rvGo s a (5 - k) k acc = rvGo s a (5 - (k + 1)) (k + 1) (acc + bt s (a + k) % 128 * pw k) := by
  rw [show 5 - k = (5 - (k + 1)) + 1 by omega, rvGo, if_pos h, if_neg (by omega)]
theorem rv_bad {s : ByteArray} {a k : Nat} {acc : Int} (hk : k < 5) (h : a + k < s.size) (hb : bt s (a + k) < 128)
    (hx : (bt s (a + k) = 0 ∧ 0 < k) ∨ 1000000000 < acc + bt s (a + k) % 128 * pw k) : rvGo s a (5 - k) k acc = none := by
  rw [show 5 - k = (5 - (k + 1)) + 1 by omega, rvGo, if_pos h, if_pos hb, if_pos hx]
theorem rv_good {s : ByteArray} {a k : Nat} {acc : Int} (hk : k < 5) (h : a + k < s.size) (hb : bt s (a + k) < 128)
    (hx : ¬ ((bt s (a + k) = 0 ∧ 0 < k) ∨ 1000000000 < acc + bt s (a + k) % 128 * pw k)) :
    rvGo s a (5 - k) k acc = some (acc + bt s (a + k) % 128 * pw k, a + k + 1) := by
  rw [show 5 - k = (5 - (k + 1)) + 1 by omega, rvGo, if_pos h, if_pos hb, if_neg hx]

theorem mul_bd {x p : Int} (hx : 0 ≤ x) (hx' : x ≤ 127) (hp : 0 ≤ p) : 0 ≤ x * p ∧ x * p ≤ 127 * p :=
  ⟨Int.mul_nonneg hx hp, Int.mul_le_mul_of_nonneg_right hx' hp⟩

/-- What the bytes weigh. -/
def val : List Int → Int
  | [] => 0
  | b :: bs => b % 128 + 128 * val bs
theorem val_nonneg : ∀ l, 0 ≤ val l
  | [] => by simp [val]
  | b :: bs => by have := val_nonneg bs; simp only [val]; omega
theorem val_snoc : ∀ (l : List Int) (b : Int), val (l ++ [b]) = val l + b % 128 * pw l.length
  | [], b => by simp [val, pw]
  | x :: l, b => by
    simp only [List.cons_append, val, val_snoc l b, List.length_cons, pw_succ]
    rw [Int.mul_add, ← Int.mul_assoc (b % 128), Int.mul_comm (b % 128 * pw l.length) 128]
    omega
theorem val_pos : ∀ (l : List Int) (b : Int), 0 < b → b < 128 → 0 < val (l ++ [b])
  | [], b, h, h' => by simp [val]; omega
  | x :: l, b, h, h' => by have := val_pos l b h h'; simp only [List.cons_append, val]; omega

/-- The bytes read are the number's own bytes: unless a last byte 0 stands behind others. -/
theorem canon : ∀ (l : List Int) (b : Int), (∀ x ∈ l, 128 ≤ x ∧ x ≤ 255) → 0 ≤ b → b < 128 → (vb (val (l ++ [b])).toNat = l ++ [b] ↔ ¬ (b = 0 ∧ 0 < l.length))
  | [], b, _, h0, h1 => by
    have e : val ([] ++ [b]) = b := by simp [val]; omega
    rw [e, vb_small (by omega)]
    simp; omega
  | x :: l, b, hl, h0, h1 => by
    have hx := hl x (by simp)
    have ih := canon l b (fun y hy => hl y (by simp [hy])) h0 h1
    have hv := val_nonneg (l ++ [b])
    have e : val (x :: l ++ [b]) = x % 128 + 128 * val (l ++ [b]) := rfl
    by_cases hz : val (l ++ [b]) = 0
    · have hb : b = 0 := by
        by_cases hb : b = 0
        · exact hb
        · have := val_pos l b (by omega) h1; omega
      rw [e, hz, vb_small (by omega)]
      constructor
      · intro h; have := congrArg List.length h; simp at this
      · intro h; exact absurd ⟨hb, by simp⟩ h
    · rw [e, vb_big (by omega)]
      have e1 : ((x % 128 + 128 * val (l ++ [b])).toNat : Int) % 128 + 128 = x := by omega
      have e2 : (x % 128 + 128 * val (l ++ [b])).toNat / 128 = (val (l ++ [b])).toNat := by omega
      rw [e1, e2, List.cons_append, List.cons.injEq, ih]
      constructor
      · rintro ⟨_, h⟩ ⟨hb, _⟩
        refine h ⟨hb, ?_⟩
        cases l with
        | nil => simp [val, hb] at hz
        | cons y l => simp
      · intro h; exact ⟨rfl, fun h' => h ⟨h'.1, by simp⟩⟩

theorem vb_range (n : Nat) : ∀ x ∈ vb n, 0 ≤ x ∧ x ≤ 255 := by
  induction n using Nat.strongRecOn with
  | ind n ih =>
    intro x hx
    by_cases h : n ≤ 127
    · rw [vb_small h] at hx; simp at hx; omega
    · rw [vb_big (by omega)] at hx
      rcases List.mem_cons.mp hx with rfl | hx
      · omega
      · exact ih (n / 128) (by omega) x hx

/-- The bytes of s from a on, k of them. -/
def tk (s : ByteArray) (a k : Nat) : List UInt8 := (s.data.toList.drop a).take k
def nums (l : List UInt8) : List Int := l.map fun b => (b.toNat : Int)
theorem tk_succ (s : ByteArray) (a k : Nat) (h : a + k < s.size) : tk s a (k + 1) = tk s a k ++ [s[a + k]'h] := by
  unfold tk
  have h' : a + k < s.data.toList.length := by simpa using h
  rw [List.take_succ_eq_append_getElem (by rw [List.length_drop]; omega)]
  congr 2
  rw [List.getElem_drop]; rfl
theorem tk_len (s : ByteArray) (a k : Nat) (h : a + k ≤ s.size) : (tk s a k).length = k := by
  unfold tk
  have h' : a + k ≤ s.data.toList.length := by simpa using h
  rw [List.length_take, List.length_drop]; omega

theorem strOfNums_eq {xs : List Int} {l : List UInt8} (h : ∀ x ∈ xs, 0 ≤ x ∧ x ≤ 255) : (xs.map fun n => UInt8.ofNat n.toNat) = l ↔ xs = nums l := by
  constructor
  · intro e; subst e
    unfold nums; rw [List.map_map]
    conv => lhs; rw [← List.map_id xs]
    apply List.map_congr_left
    intro x hx
    have := h x hx
    simp only [id, Function.comp, UInt8.toNat_ofNat']
    omega
  · intro e; subst e
    unfold nums; rw [List.map_map]
    conv => rhs; rw [← List.map_id l]
    apply List.map_congr_left
    intro x _
    simp [Function.comp]

/-- A number's own bytes against those that were read. -/
theorem same_bytes {s : ByteArray} {a k : Nat} {acc : Int} (h : a + k < s.size) (hb : bt s (a + k) < 128) (hacc : acc = val (nums (tk s a k))) (hall : ∀ x ∈ nums (tk s a k), 128 ≤ x ∧ x ≤ 255) :
    ((strOfNums (vb (acc + bt s (a + k) % 128 * pw k).toNat)).toList == (s.extract a (a + k + 1)).toList) = decide (¬ (bt s (a + k) = 0 ∧ 0 < k)) := by
  have hl : (nums (tk s a k)).length = k := by unfold nums; rw [List.length_map, tk_len s a k (by omega)]
  have he : (s.extract a (a + k + 1)).data.toList = tk s a (k + 1) := by rw [Lib.extract_data]; unfold tk; rw [show a + k + 1 - a = k + 1 by omega]
  have hn : nums (tk s a (k + 1)) = nums (tk s a k) ++ [bt s (a + k)] := by
    rw [tk_succ s a k h]; unfold nums; rw [List.map_append, List.map_singleton, get_bt]
  have hc := canon (nums (tk s a k)) (bt s (a + k)) hall (bt_nonneg _ _) hb
  rw [val_snoc, hl, ← hacc, ← hn] at hc
  rw [ByteArray.toList_eq, ByteArray.toList_eq, he, strOfNums_data, Bool.eq_iff_iff, beq_iff_eq, decide_eq_true_iff, ← hc]
  exact strOfNums_eq (vb_range _)

theorem all_snoc {s : ByteArray} {a k : Nat} (h : a + k < s.size) (hb : 128 ≤ bt s (a + k)) (hall : ∀ x ∈ nums (tk s a k), 128 ≤ x ∧ x ≤ 255) :
    ∀ x ∈ nums (tk s a (k + 1)), 128 ≤ x ∧ x ≤ 255 := by
  have hn : nums (tk s a (k + 1)) = nums (tk s a k) ++ [bt s (a + k)] := by
    rw [tk_succ s a k h]; unfold nums; rw [List.map_append, List.map_singleton, get_bt]
  rw [hn]; intro x hx
  rcases List.mem_append.mp hx with hx | hx
  · exact hall x hx
  · simp at hx; subst hx; exact ⟨hb, bt_le _ _⟩
theorem val_next {s : ByteArray} {a k : Nat} {acc : Int} (h : a + k < s.size) (hacc : acc = val (nums (tk s a k))) :
    acc + bt s (a + k) % 128 * pw k = val (nums (tk s a (k + 1))) := by
  have hl : (nums (tk s a k)).length = k := by unfold nums; rw [List.length_map, tk_len s a k (by omega)]
  have hn : nums (tk s a (k + 1)) = nums (tk s a k) ++ [bt s (a + k)] := by
    rw [tk_succ s a k h]; unfold nums; rw [List.map_append, List.map_singleton, get_bt]
  rw [hn, val_snoc, hl, ← hacc]

end Go.Proofs.YthpkhbcahihbnaaDoor
