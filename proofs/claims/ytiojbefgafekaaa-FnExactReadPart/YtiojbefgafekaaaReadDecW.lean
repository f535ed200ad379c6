/- The contracts of ReadDecimal (chapter 1). -/
import Derived.Test.YtiojbefgafekaaaProg
import Derived.Test.YtiojbefgafekaaaPlainDec
import Derived.Test.YtiojbefgafekaaaFigW
import Derived.Test.YtiojbefgafekaaaDecW
import Derived.WalkKit
import Derived.WalkLawsBesides
import Derived.WalkSpells
import Derived.Laws.OwnMore
namespace Go.Proofs.Ytiojbefgafekaaa
open Go.RowKit Go.PlainAid

theorem vals_range {s : ByteArray} {k : Nat} (h : ∀ j, j < k → 0 ≤ hvb 10 (bt s j)) : ∀ x ∈ vals 10 s k, 0 ≤ x ∧ x ≤ 9 := by
  intro x hx
  unfold vals at hx
  simp only [List.mem_map, List.mem_range] at hx
  obtain ⟨j, hj, rfl⟩ := hx
  refine ⟨h j hj, ?_⟩
  unfold hvb; split
  · omega
  · split <;> omega
theorem valD_bd : ∀ (k : Nat) (s : ByteArray), (∀ j, j < k → 0 ≤ hvb 10 (bt s j)) → 0 ≤ valD (vals 10 s k) ∧ valD (vals 10 s k) < 10 ^ k
  | 0, s, _ => by simp [vals, valD]
  | k + 1, s, h => by
    have ih := valD_bd k s (fun j hj => h j (by omega))
    have hr := vals_range h (hvb 10 (bt s k)) (by rw [vals_succ]; simp)
    rw [vals_succ, valD_snoc, Int.pow_succ]
    omega
theorem pow10_le {k : Nat} (h : k ≤ 10) : (10 : Int) ^ k ≤ 10000000000 := by
  rcases (show k = 0 ∨ k = 1 ∨ k = 2 ∨ k = 3 ∨ k = 4 ∨ k = 5 ∨ k = 6 ∨ k = 7 ∨ k = 8 ∨ k = 9 ∨ k = 10 by omega) with rfl | rfl | rfl | rfl | rfl | rfl | rfl | rfl | rfl | rfl | rfl <;> decide
theorem valD_le {s : ByteArray} {k : Nat} (hk : k ≤ 10) (h : ∀ j, j < k → 0 ≤ hvb 10 (bt s j)) : 0 ≤ valD (vals 10 s k) ∧ valD (vals 10 s k) < 10000000000 := by
  have := valD_bd k s h; have := pow10_le hk; omega
theorem fig10_of {x : Int} (h : 0 ≤ hvb 10 x) : 48 ≤ x ∧ x ≤ 57 ∧ hvb 10 x = x - 48 := by
  by_cases hd : 48 ≤ x ∧ x ≤ 57
  · exact ⟨hd.1, hd.2, hvb_dig hd.1 hd.2⟩
  · rw [hvb_no hd (by omega)] at h; omega

/-- ReadDecimal's answer. -/
def RD (s : ByteArray) : Option Int := if s.size ≤ 10 ∧ 0 < s.size ∧ ¬ (1 < s.size ∧ bt s 0 = 48) ∧ (∀ j, j < s.size → 0 ≤ hvb 10 (bt s j)) ∧ valD (vals 10 s s.size) ≤ 1000000000 then some (valD (vals 10 s s.size)) else none

theorem nums_all {s : ByteArray} (h : ∀ j, j < s.size → 0 ≤ hvb 10 (bt s j)) : nums s.data.toList = (vals 10 s s.size).map (fun d => 48 + d) := by
  apply List.ext_getElem
  · simp [nums, vals]
  · intro j h1 h2
    have hj : j < s.size := by simpa [nums] using h1
    have hf := fig10_of (h j hj)
    simp only [nums, vals, List.getElem_map, List.getElem_range]
    rw [hf.2.2]
    have := get_bt s j hj
    have e : (s.data.toList[j]'(by simpa using hj)) = s[j]'hj := rfl
    rw [e, this]; omega

/-- The number's own figures against the text. -/
theorem same_dec {s : ByteArray} (h : ∀ j, j < s.size → 0 ≤ hvb 10 (bt s j)) :
    ((strOfNums (decI (valD (vals 10 s s.size)))).toList == s.toList) = decide (0 < s.size ∧ ¬ (1 < s.size ∧ bt s 0 = 48)) := by
  have hr := vals_range h
  have h0 := valD_nonneg _ hr
  obtain ⟨n, hn⟩ : ∃ n : Nat, valD (vals 10 s s.size) = (n : Int) := ⟨_, (Int.toNat_of_nonneg h0).symm⟩
  have hd := dec_valD _ hr
  rw [hn, Int.toNat_natCast] at hd
  rw [hn, decI_nat, ByteArray.toList_eq, ByteArray.toList_eq, strOfNums_data, Bool.eq_iff_iff, beq_iff_eq, decide_eq_true_iff, strOfNums_eq (dec_range n), nums_all h, hd, vals_len]
  constructor
  · rintro ⟨h1, h2⟩
    have hp : 0 < s.size := by
      rcases Nat.eq_zero_or_pos s.size with e | e
      · exact absurd (List.length_eq_zero_iff.mp (by rw [vals_len]; exact e)) h1
      · exact e
    refine ⟨hp, fun ⟨h3, h4⟩ => h2 ⟨h3, ?_⟩⟩
    unfold vals; rw [List.head?_map, List.head?_range]; simp [Nat.ne_of_gt hp, h4, hvb]
  · rintro ⟨h1, h2⟩
    refine ⟨fun e => ?_, fun ⟨h3, h4⟩ => h2 ⟨h3, ?_⟩⟩
    · have h5 : s.size = 0 := by have := congrArg List.length e; rwa [vals_len] at this
      omega
    · have hf := fig10_of (h 0 h1)
      unfold vals at h4; rw [List.head?_map, List.head?_range] at h4; simp [Nat.ne_of_gt h1] at h4; omega

end Go.Proofs.Ytiojbefgafekaaa
