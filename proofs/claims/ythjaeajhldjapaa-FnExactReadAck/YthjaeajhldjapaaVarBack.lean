/- A number's bytes amid others are read back. -/
import Derived.Test.YthjaeajhldjapaaPlainRead
import Derived.Test.YthjaeajhldjapaaReadW
namespace Go.Proofs.Ythjaeajhldjapaa
open Go.RowKit Go.PlainAid

theorem app_data (a b : ByteArray) : (a ++ b).data.toList = a.data.toList ++ b.data.toList := by
  obtain ⟨a⟩ := a; obtain ⟨b⟩ := b
  simp
theorem bt_list (s : ByteArray) (j : Nat) : bt s j = (((s.data.toList[j]?).getD 0).toNat : Int) := by
  by_cases h : j < s.size
  · rw [← get_bt s j h, List.getElem?_eq_getElem (by simpa using h)]; rfl
  · rw [bt_end s (by omega), List.getElem?_eq_none (by simpa using h)]; rfl
theorem bt_nums {xs : List Int} (hr : ∀ x ∈ xs, 0 ≤ x ∧ x ≤ 255) {j : Nat} (h : j < xs.length) : bt (strOfNums xs) j = xs[j]'h := by
  rw [bt_list, strOfNums_data, List.getElem?_map, List.getElem?_eq_getElem h]
  have := hr _ (List.getElem_mem h)
  simp only [Option.map_some, Option.getD_some, UInt8.toNat_ofNat']
  omega
theorem bt_right (a b : ByteArray) (j : Nat) : bt (a ++ b) (a.size + j) = bt b j := by
  rw [bt_list, bt_list, app_data, List.getElem?_append_right (by simp)]; simp
theorem bt_left (a b : ByteArray) {j : Nat} (h : j < a.size) : bt (a ++ b) j = bt a j := by
  rw [bt_list, bt_list, app_data, List.getElem?_append_left (by simpa using h)]
theorem size_app (a b : ByteArray) : (a ++ b).size = a.size + b.size := by
  have h1 : ∀ c : ByteArray, c.size = c.data.toList.length := fun c => by simp
  rw [h1, app_data, List.length_append, ← h1, ← h1]

theorem mul_parts (m : Nat) (p : Int) : ((m % 128 : Nat) : Int) * p + ((m / 128 : Nat) : Int) * (p * 128) = (m : Int) * p := by
  have e : (m : Int) = 128 * ((m / 128 : Nat) : Int) + ((m % 128 : Nat) : Int) := by omega
  conv => rhs; rw [e]
  rw [Int.add_mul, Int.mul_comm p 128, ← Int.mul_assoc, Int.mul_comm ((m / 128 : Nat) : Int) 128]
  omega

theorem rvGo_vb (s : ByteArray) (a : Nat) : ∀ (m f k : Nat) (acc : Int), (vb m).length ≤ f → (k = 0 ∨ 0 < m) → (∀ j, j < (vb m).length → a + k + j < s.size ∧ bt s (a + k + j) = (vb m).getD j 0) → acc + (m : Int) * pw k ≤ 1000000000 →
    rvGo s a f k acc = some (acc + (m : Int) * pw k, a + k + (vb m).length) := by
  intro m
  induction m using Nat.strongRecOn with
  | ind m ih =>
    intro f k acc hf hk hb hn
    by_cases h : m ≤ 127
    · rw [vb_small h] at hf hb ⊢
      obtain ⟨f, rfl⟩ : ∃ f', f = f' + 1 := ⟨f - 1, by simp at hf; omega⟩
      have h0 := hb 0 (by simp)
      simp only [Nat.add_zero, List.getD_cons_zero] at h0
      rw [rvGo, if_pos h0.1, h0.2, if_pos (by omega), show (m : Int) % 128 = m by omega, if_neg (by rintro (⟨h1, h2⟩ | h1) <;> omega)]
      rfl
    · have hv := vb_big (show 127 < m by omega)
      rw [hv] at hf hb ⊢
      obtain ⟨f, rfl⟩ : ∃ f', f = f' + 1 := ⟨f - 1, by simp at hf; omega⟩
      have h0 := hb 0 (by simp)
      simp only [Nat.add_zero, List.getD_cons_zero] at h0
      have hmp := mul_parts m (pw k)
      have hps := pw_succ k
      have e1 : ((m : Int) % 128 + 128) % 128 = ((m % 128 : Nat) : Int) := by omega
      rw [rvGo, if_pos h0.1, h0.2, if_neg (by omega), e1]
      have := ih (m / 128) (by omega) f (k + 1) (acc + ((m % 128 : Nat) : Int) * pw k) (by simp at hf; omega) (Or.inr (by omega)) (fun j hj => by
        have := hb (j + 1) (by simp; omega)
        rw [show a + (k + 1) + j = a + k + (j + 1) by omega]
        refine ⟨this.1, this.2.trans ?_⟩
        simp) (by rw [hps]; omega)
      rw [this, hps]
      simp only [List.length_cons]
      congr 2
      · omega
      · omega

theorem rv_round {s : ByteArray} {a n : Nat} (hn : n ≤ 1000000000) (hb : ∀ j, j < (vb n).length → a + j < s.size ∧ bt s (a + j) = (vb n).getD j 0) : rvOut s a = some ((n : Int), a + (vb n).length) := by
  have := rvGo_vb s a n 5 0 0 (vb_len 4 n (by omega)) (Or.inl rfl) (fun j hj => by simpa using hb j hj) (by rw [pw_zero]; omega)
  rw [pw_zero] at this
  unfold rvOut; rw [this]; simp

/-- VarText amid other bytes is read back. -/
theorem var_back {A C : ByteArray} {n : Nat} (hn : n ≤ 1000000000) : RV (A ++ strOfNums (vb n) ++ C) (A.size : Int) = some ((n : Int), A.size + (strOfNums (vb n)).size) := by
  unfold RV
  rw [if_pos ⟨by omega, by rw [size_app, size_app]; omega⟩, Int.toNat_natCast, strOfNums_size]
  apply rv_round hn
  intro j hj
  have hj' : j < (strOfNums (vb n)).size := by rw [strOfNums_size]; exact hj
  refine ⟨by rw [size_app, size_app]; omega, ?_⟩
  rw [bt_left _ _ (by rw [size_app]; omega), bt_right, bt_nums (vb_range n) hj]
  simp [List.getD, List.getElem?_eq_getElem hj]
end Go.Proofs.Ythjaeajhldjapaa
