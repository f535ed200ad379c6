/- The contracts of ReadDecimal (chapter 1). -/
import Derived.Test.YtbnpllcmjkapmaaDoorProg
import Derived.Test.YtbnpllcmjkapmaaDoorPlainDec
import Derived.Test.YtbnpllcmjkapmaaDoorFigW
import Derived.Test.YtbnpllcmjkapmaaDoorDecW
import Derived.WalkKit
import Derived.WalkLawsBesides
import Derived.WalkSpells
import Derived.Laws.OwnMore
namespace Go.Proofs.YtbnpllcmjkapmaaDoor
open Go.RowKit Go.PlainAid

theorem vals_range {s : ByteArray} {k : Nat} (h : ∀ j, j < k → 0 ≤ hvb 10 (bt s j)) : ∀ x ∈ vals 10 s k, 0 ≤ x ∧ x ≤ 9 := by
  intro x hx
  unfold vals at hx
  simp only [List.mem_map, List.mem_range] at hx
  obtain ⟨j, hj, rfl⟩ := hx
  refine ⟨h j hj, ?_⟩
  unfold hvb; split
  · omega
  · split <;> omega
theorem valD_bd : ∀ (k : Nat) (s : ByteArray), (∀ j, j < k → 0 ≤ hvb 10 (bt s j)) → 0 ≤ valD (vals 10 s k) ∧ valD (vals 10 s k) < 10 ^ k
  | 0, s, _ => by simp [vals, valD]
  | k + 1, s, h => by
    have ih := valD_bd k s (fun j hj => h j (by omega))
    have hr := vals_range h (hvb 10 (bt s k)) (by rw [vals_succ]; simp)
    rw [vals_succ, valD_snoc, Int.pow_succ]
    omega
theorem pow10_le {k : Nat} (h : k ≤ 10) : (10 : Int) ^ k ≤ 10000000000 := by
  rcases (show k = 0 ∨ k = 1 ∨ k = 2 ∨ k = 3 ∨ k = 4 ∨ k = 5 ∨ k = 6 ∨ k = 7 ∨ k = 8 ∨ k = 9 ∨ k = 10 by omega) with rfl | rfl | rfl | rfl | rfl | rfl | rfl | rfl | rfl | rfl | rfl <;> decide
theorem valD_le {s : ByteArray} {k : Nat} (hk : k ≤ 10) (h : ∀ j, j < k → 0 ≤ hvb 10 (bt s j)) : 0 ≤ valD (vals 10 s k) ∧ valD (vals 10 s k) < 10000000000 := by
  have := valD_bd k s h; have := pow10_le hk; omega
theorem fig10_of {x : Int} (h : 0 ≤ hvb 10 x) : 48 ≤ x ∧ x ≤ 57 ∧ hvb 10 x = x - 48 := by
  by_cases hd : 48 ≤ x ∧ x ≤ 57
  · exact ⟨hd.1, hd.2, hvb_dig hd.1 hd.2⟩
  · rw [hvb_no hd (by omega)] at h; omega

/-- ReadDecimal's answer. -/
def RD (s : ByteArray) : Option Int := if s.size ≤ 10 ∧ 0 < s.size ∧ ¬ (1 < s.size ∧ bt s 0 = 48) ∧ (∀ j, j < s.size → 0 ≤ hvb 10 (bt s j)) ∧ valD (vals 10 s s.size) ≤ 1000000000 then some (valD (vals 10 s s.size)) else none

theorem nums_all {s : ByteArray} (h : ∀ j, j < s.size → 0 ≤ hvb 10 (bt s j)) : nums s.data.toList = (vals 10 s s.size).map (fun d => 48 + d) := by
  apply List.ext_getElem
  · simp [nums, vals]
  · intro j h1 h2
    have hj : j < s.size := by simpa [nums] using h1
    have hf := fig10_of (h j hj)
    simp only [nums, vals, List.getElem_map, List.getElem_range]
    rw [hf.2.2]
    have := get_bt s j hj
    have e : (s.data.toList[j]'(by simpa using hj)) = s[j]'hj := rfl
    rw [e, this]; omega

/-- The number's own figures against the text. -/
theorem same_dec {s : ByteArray} (h : ∀ j, j < s.size → 0 ≤ hvb 10 (bt s j)) :
    ((strOfNums (decI (valD (vals 10 s s.size)))).toList == s.toList) = decide (0 < s.size ∧ ¬ (1 < s.size ∧ bt s 0 = 48)) := by
  have hr := vals_range h
  have h0 := valD_nonneg _ hr
  obtain ⟨n, hn⟩ : ∃ n : Nat, valD (vals 10 s s.size) = (n : Int) := ⟨_, (Int.toNat_of_nonneg h0).symm⟩
  have hd := dec_valD _ hr
  rw [hn, Int.toNat_natCast] at hd
  rw [hn, decI_nat, ByteArray.toList_eq, ByteArray.toList_eq, strOfNums_data, Bool.eq_iff_iff, beq_iff_eq, decide_eq_true_iff, strOfNums_eq (dec_range n), nums_all h, hd, vals_len]
  constructor
  · rintro ⟨h1, h2⟩
    have hp : 0 < s.size := by
      rcases Nat.eq_zero_or_pos s.size with e | e
      · exact absurd (List.length_eq_zero_iff.mp (by rw [vals_len]; exact e)) h1
      · exact e
    refine ⟨hp, fun ⟨h3, h4⟩ => h2 ⟨h3, ?_⟩⟩
    unfold vals; rw [List.head?_map, List.head?_range]; simp [Nat.ne_of_gt hp, h4, hvb]
  · rintro ⟨h1, h2⟩
    refine ⟨fun e => ?_, fun ⟨h3, h4⟩ => h2 ⟨h3, ?_⟩⟩
    · have h5 : s.size = 0 := by have := congrArg List.length e; rwa [vals_len] at this
      omega
    · have hf := fig10_of (h 0 h1)
      unfold vals at h4; rw [List.head?_map, List.head?_range] at h4; simp [Nat.ne_of_gt h1] at h4; omega

theorem implRD_no (s : ByteArray) (w : World) (hs : s.size ≤ 1048576) (h : s.size = 0 ∨ 10 < s.size ∨ 1 < s.size ∧ bt s 0 = 48) :
    Calls Tryd.prog 8 #[.string s] w fun e w' => e = .returned (.tuple #[.int .i64 0, .bool false]) ∧ w = w' := by
  have hg := get_bt s
  by_cases h0 : s.size = 0
  · have he : s = ⟨#[]⟩ := by apply ByteArray.ext; exact Array.eq_empty_of_size_eq_zero h0
    subst he
    clear hg h h0 hs
    go_enter Tryd.func8, Tryd.ntmps8
    go_wp2
    go_ret2
    exact ⟨rfl, rfl⟩
  · have hne : s.toList.isEmpty = false := by
      rw [ByteArray.toList_eq]
      cases hl : s.data.toList with
      | nil => exact absurd (by rw [Lib.size_eq, hl]; rfl) h0
      | cons a l => rfl
    by_cases h10 : 10 < s.size
    · have h' : (10 : Int) < (s.size : Int) := by omega
      clear h
      go_enter Tryd.func8, Tryd.ntmps8
      go_wp2
      go_ret2
      exact ⟨rfl, rfl⟩
    · have h' : ¬ (10 : Int) < (s.size : Int) := by omega
      have h1 : (1 : Int) < (s.size : Int) := by omega
      have h2 : 0 < s.size := by omega
      have hb : bt s 0 = 48 := by omega
      clear h
      go_enter Tryd.func8, Tryd.ntmps8
      go_wp2
      go_ret2
      exact ⟨rfl, rfl⟩

set_option maxHeartbeats 1600000 in
theorem implRD (s : ByteArray) (w : World) (hs : s.size ≤ 1048576) :
    Calls Tryd.prog 8 #[.string s] w fun e w' => ((∃ n, RD s = some n ∧ e = .returned (.tuple #[.int .i64 n, .bool true])) ∨ RD s = none ∧ e = .returned (.tuple #[.int .i64 0, .bool false])) ∧ Below w.heap.size w w' := by
  by_cases hbad : s.size = 0 ∨ 10 < s.size ∨ 1 < s.size ∧ bt s 0 = 48
  · have hn : RD s = none := by unfold RD; rw [if_neg (by rintro ⟨h1, h2, h3, _, _⟩; rcases hbad with h | h | h <;> first | omega | exact h3 h)]
    exact (implRD_no s w hs hbad).mono fun e w' ⟨h1, h2⟩ => ⟨Or.inr ⟨hn, h1⟩, h2 ▸ Below.refl _ _⟩
  · have hp : 0 < s.size := by omega
    have h10 : ¬ (10 : Int) < (s.size : Int) := by omega
    have hne : s.toList.isEmpty = false := by
      rw [ByteArray.toList_eq]
      cases hl : s.data.toList with
      | nil => exact absurd (by rw [Lib.size_eq, hl]; rfl) (show s.size ≠ 0 by omega)
      | cons a l => rfl
    have hc : ¬ (1 < s.size ∧ bt s 0 = 48) := by omega
    have HC : Hid (¬ (1 < s.size ∧ bt s 0 = 48)) := hc
    have hg := get_bt s
    have hlead : (decide ((1 : Int) < (s.size : Int)) = false) ∨ (1 : Int) < (s.size : Int) ∧ (bt s 0 == 48) = false := by
      by_cases h1 : 1 < s.size
      · right; refine ⟨by omega, ?_⟩; simp; intro e; exact hc ⟨h1, e⟩
      · left; simp; omega
    have HS : Hid (s.size ≤ 10 ∧ 0 < s.size) := ⟨by omega, hp⟩
    clear hbad hc
    rcases hlead with hl | ⟨hl, hl2⟩
    all_goals
      go_enter Tryd.func8, Tryd.ntmps8
      go_wp2_with fail
      refine (figures_any s 10 _ hs (Or.inl rfl)).mono ?_
      rintro e w1 ⟨(⟨⟨v, rfl, hown⟩, hA⟩ | ⟨rfl, hA⟩), hbel⟩
      · rcases hown.2 with ⟨_, h0⟩ | ⟨g, cap, cur, rfl, hgb, hb, hcc, hcm, hsz, htake⟩
        · exact absurd h0 (by omega)
        · clear hgb hb hcc hcm hsz htake
          have hcell : ∀ j, j < s.size → w1.cell? ⟨g, j, none⟩ = some (.int .i64 (hvb 10 (bt s j))) := fun j hj => by
            rw [hown.cellAt j (by omega)]; simp [vals, hj]
          have HCE : Hid (∀ j, j < s.size → w1.cell? ⟨g, j, none⟩ = some (.int .i64 (hvb 10 (bt s j)))) := hcell
          have HAF : Hid (AllFig 10 s) := hA
          clear hcell hA
          go_wp2
          go_loop [6, 35] (fun n i => ∃ k : Nat, k ≤ s.size ∧ i = .int .i64 k ∧ n = .int .i64 (valD (vals 10 s k)))
            (fun _ i => s.size - (intOf i).toNat)
          case atStart => exact ⟨0, Nat.zero_le _, rfl, rfl⟩
          case round =>
            obtain ⟨k, hk, rfl, rfl⟩ := hrel
            have hvd := valD_le (show k ≤ 10 by have := HS.out; omega) (fun j hj => HAF.out j (by omega))
            by_cases hlt : k < s.size
            · have hck := HCE.out k hlt
              have hf := fig10_of (HAF.out k hlt)
              have hv9 : 0 ≤ hvb 10 (bt s k) ∧ hvb 10 (bt s k) ≤ 9 := by omega
              have hnext : Hid (valD (vals 10 s (k + 1)) = 10 * valD (vals 10 s k) + hvb 10 (bt s k)) := by
                show _ = _; rw [vals_succ, valD_snoc]
              clear hf
              go_wp2
              go_round
              case rel => exact ⟨k + 1, by omega, by go_num, by rw [hnext.out]⟩
              case measure => simp [intOf]; omega
            · obtain rfl : k = s.size := by omega
              by_cases hbig : 1000000000 < valD (vals 10 s s.size)
              · have HN : Hid (RD s = none) := by show _ = _; unfold RD; rw [if_neg (by rintro ⟨_, _, _, _, h5⟩; omega)]
                go_wp2
                go_ret2
                exact ⟨Or.inr ⟨HN.out, rfl⟩, hbel⟩
              · have HN : Hid (RD s = some (valD (vals 10 s s.size))) := by show _ = _; unfold RD; rw [if_pos ⟨HS.out.1, HS.out.2, HC.out, HAF.out, by omega⟩]
                go_wp2
                go_ret2
                exact ⟨Or.inl ⟨_, HN.out, rfl⟩, hbel⟩
      · have HN : Hid (RD s = none) := by show _ = _; unfold RD; rw [if_neg (by rintro ⟨_, _, _, h4, _⟩; exact hA h4)]
        clear hA
        go_wp2
        go_ret2
        exact ⟨Or.inr ⟨HN.out, rfl⟩, hbel⟩
end Go.Proofs.YtbnpllcmjkapmaaDoor
