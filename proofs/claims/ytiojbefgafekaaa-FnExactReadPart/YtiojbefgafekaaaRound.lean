/- What is written is read back (chapter 1): plain mathematics. -/
import Derived.Test.YtiojbefgafekaaaPlainRead
import Derived.Test.YtiojbefgafekaaaPlainDec
import Derived.Test.YtiojbefgafekaaaReadW
import Derived.Test.YtiojbefgafekaaaShortW
import Derived.Test.YtiojbefgafekaaaHexW
import Derived.Test.YtiojbefgafekaaaFigW
import Derived.Test.YtiojbefgafekaaaUnhexW
import Derived.Test.YtiojbefgafekaaaReadDecW
namespace Go.Proofs.Ytiojbefgafekaaa
open Go.RowKit Go.PlainAid

theorem app_data (a b : ByteArray) : (a ++ b).data.toList = a.data.toList ++ b.data.toList := by
  obtain ⟨a⟩ := a; obtain ⟨b⟩ := b
  simp
theorem bt_list (s : ByteArray) (j : Nat) : bt s j = (((s.data.toList[j]?).getD 0).toNat : Int) := by
  by_cases h : j < s.size
  · rw [← get_bt s j h, List.getElem?_eq_getElem (by simpa using h)]; rfl
  · rw [bt_end s (by omega), List.getElem?_eq_none (by simpa using h)]; rfl
theorem bt_nums {xs : List Int} (hr : ∀ x ∈ xs, 0 ≤ x ∧ x ≤ 255) {j : Nat} (h : j < xs.length) : bt (strOfNums xs) j = xs[j]'h := by
  rw [bt_list, strOfNums_data, List.getElem?_map, List.getElem?_eq_getElem h]
  have := hr _ (List.getElem_mem h)
  simp only [Option.map_some, Option.getD_some, UInt8.toNat_ofNat']
  omega
theorem bt_right (a b : ByteArray) (j : Nat) : bt (a ++ b) (a.size + j) = bt b j := by
  rw [bt_list, bt_list, app_data, List.getElem?_append_right (by simp)]; simp
theorem bt_left (a b : ByteArray) {j : Nat} (h : j < a.size) : bt (a ++ b) j = bt a j := by
  rw [bt_list, bt_list, app_data, List.getElem?_append_left (by simpa using h)]
theorem size_app (a b : ByteArray) : (a ++ b).size = a.size + b.size := by
  have h1 : ∀ c : ByteArray, c.size = c.data.toList.length := fun c => by simp
  rw [h1, app_data, List.length_append, ← h1, ← h1]

theorem mul_parts (m : Nat) (p : Int) : ((m % 128 : Nat) : Int) * p + ((m / 128 : Nat) : Int) * (p * 128) = (m : Int) * p := by
  have e : (m : Int) = 128 * ((m / 128 : Nat) : Int) + ((m % 128 : Nat) : Int) := by omega
  conv => rhs; rw [e]
  rw [Int.add_mul, Int.mul_comm p 128, ← Int.mul_assoc, Int.mul_comm ((m / 128 : Nat) : Int) 128]
  omega

theorem rvGo_vb (s : ByteArray) (a : Nat) : ∀ (m f k : Nat) (acc : Int), (vb m).length ≤ f → (k = 0 ∨ 0 < m) → (∀ j, j < (vb m).length → a + k + j < s.size ∧ bt s (a + k + j) = (vb m).getD j 0) → acc + (m : Int) * pw k ≤ 1000000000 →
    rvGo s a f k acc = some (acc + (m : Int) * pw k, a + k + (vb m).length) := by
  intro m
  induction m using Nat.strongRecOn with
  | ind m ih =>
    intro f k acc hf hk hb hn
    by_cases h : m ≤ 127
    · rw [vb_small h] at hf hb ⊢
      obtain ⟨f, rfl⟩ : ∃ f', f = f' + 1 := ⟨f - 1, by simp at hf; omega⟩
      have h0 := hb 0 (by simp)
      simp only [Nat.add_zero, List.getD_cons_zero] at h0
      rw [rvGo, if_pos h0.1, h0.2, if_pos (by omega), show (m : Int) % 128 = m by omega, if_neg (by rintro (⟨h1, h2⟩ | h1) <;> omega)]
      rfl
    · have hv := vb_big (show 127 < m by omega)
      rw [hv] at hf hb ⊢
      obtain ⟨f, rfl⟩ : ∃ f', f = f' + 1 := ⟨f - 1, by simp at hf; omega⟩
      have h0 := hb 0 (by simp)
      simp only [Nat.add_zero, List.getD_cons_zero] at h0
      have hmp := mul_parts m (pw k)
      have hps := pw_succ k
      have e1 : ((m : Int) % 128 + 128) % 128 = ((m % 128 : Nat) : Int) := by omega
      rw [rvGo, if_pos h0.1, h0.2, if_neg (by omega), e1]
      have := ih (m / 128) (by omega) f (k + 1) (acc + ((m % 128 : Nat) : Int) * pw k) (by simp at hf; omega) (Or.inr (by omega)) (fun j hj => by
        have := hb (j + 1) (by simp; omega)
        rw [show a + (k + 1) + j = a + k + (j + 1) by omega]
        refine ⟨this.1, this.2.trans ?_⟩
        simp) (by rw [hps]; omega)
      rw [this, hps]
      simp only [List.length_cons]
      congr 2
      · omega
      · omega

theorem rv_round {s : ByteArray} {a n : Nat} (hn : n ≤ 1000000000) (hb : ∀ j, j < (vb n).length → a + j < s.size ∧ bt s (a + j) = (vb n).getD j 0) : rvOut s a = some ((n : Int), a + (vb n).length) := by
  have := rvGo_vb s a n 5 0 0 (vb_len 4 n (by omega)) (Or.inl rfl) (fun j hj => by simpa using hb j hj) (by rw [pw_zero]; omega)
  rw [pw_zero] at this
  unfold rvOut; rw [this]; simp

/-- VarText amid other bytes is read back. -/
theorem var_back {A C : ByteArray} {n : Nat} (hn : n ≤ 1000000000) : RV (A ++ strOfNums (vb n) ++ C) (A.size : Int) = some ((n : Int), A.size + (strOfNums (vb n)).size) := by
  unfold RV
  rw [if_pos ⟨by omega, by rw [size_app, size_app]; omega⟩, Int.toNat_natCast, strOfNums_size]
  apply rv_round hn
  intro j hj
  have hj' : j < (strOfNums (vb n)).size := by rw [strOfNums_size]; exact hj
  refine ⟨by rw [size_app, size_app]; omega, ?_⟩
  rw [bt_left _ _ (by rw [size_app]; omega), bt_right, bt_nums (vb_range n) hj]
  simp [List.getD, List.getElem?_eq_getElem hj]

theorem short_back (t : ByteArray) (ht : t.size ≤ 20000) : RS (shortOf t) 0 = some ((strOfNums (vb t.size)).size, (strOfNums (vb t.size)).size + t.size) := by
  have h := var_back (A := ⟨#[]⟩) (C := t) (n := t.size) (by omega)
  have e : (⟨#[]⟩ : ByteArray) ++ strOfNums (vb t.size) ++ t = shortOf t := by
    unfold shortOf
    have : (⟨#[]⟩ : ByteArray) ++ strOfNums (vb t.size) = strOfNums (vb t.size) := by
      apply Go.WideShapes.bytes_inj; rw [app_data]; rfl
    rw [this]
  rw [e] at h
  have e0 : (⟨#[]⟩ : ByteArray).size = 0 := rfl
  rw [e0, Nat.zero_add] at h
  have h' : RV (shortOf t) 0 = some ((t.size : Int), (strOfNums (vb t.size)).size) := h
  unfold RS
  rw [h']
  have hs : (shortOf t).size = (strOfNums (vb t.size)).size + t.size := by unfold shortOf; exact size_app _ _
  simp only [Int.toNat_natCast]
  rw [if_pos ⟨by omega, by omega⟩]
theorem short_cut (t : ByteArray) : (shortOf t).extract (strOfNums (vb t.size)).size ((strOfNums (vb t.size)).size + t.size) = t := by
  apply Go.WideShapes.bytes_inj
  have h1 : ∀ c : ByteArray, c.size = c.data.toList.length := fun c => by simp
  rw [Lib.extract_data]
  unfold shortOf
  rw [app_data, h1 (strOfNums _), List.drop_left, Nat.add_sub_cancel_left, h1 t, List.take_length]

theorem valD_dec (n : Nat) : valD ((dec n).map fun x => x - 48) = (n : Int) := by
  induction n using Nat.strongRecOn with
  | ind n ih =>
    by_cases h : n < 10
    · rw [dec_small h]; simp [valD]; omega
    · rw [dec_big (by omega), List.map_append, List.map_singleton, valD_snoc, ih (n / 10) (by omega)]; omega
theorem dec_digit (n : Nat) : ∀ x ∈ dec n, 48 ≤ x ∧ x ≤ 57 := by
  induction n using Nat.strongRecOn with
  | ind n ih =>
    intro x hx
    by_cases h : n < 10
    · rw [dec_small h] at hx; simp at hx; omega
    · rw [dec_big (by omega)] at hx
      rcases List.mem_append.mp hx with hx | hx
      · exact ih (n / 10) (by omega) x hx
      · simp at hx; omega
theorem vals_at (base : Int) (s : ByteArray) (k j : Nat) (h : j < (vals base s k).length) : (vals base s k)[j]'h = hvb base (bt s j) := by simp [vals]
theorem unN_at (s : ByteArray) (m j : Nat) (h : j < (unN s m).length) : (unN s m)[j]'h = 16 * hvb 16 (bt s (2 * j)) + hvb 16 (bt s (2 * j + 1)) := by simp [unN]
theorem vals_dec (n : Nat) : vals 10 (strOfNums (dec n)) (strOfNums (dec n)).size = (dec n).map fun x => x - 48 := by
  apply List.ext_getElem
  · rw [vals_len, strOfNums_size, List.length_map]
  · intro j h1 h2
    have hj : j < (dec n).length := by simpa using h2
    have hd := dec_digit n _ (List.getElem_mem hj)
    rw [vals_at, List.getElem_map, bt_nums (dec_range n) hj, hvb_dig hd.1 hd.2]
theorem dec_back (n : Nat) (hn : n ≤ 1000000000) : RD (strOfNums (dec n)) = some (n : Int) := by
  have hv := valD_dec n
  have hmap : ((dec n).map fun x => x - 48).map (fun d => 48 + d) = dec n := by
    rw [List.map_map]
    conv => rhs; rw [← List.map_id (dec n)]
    apply List.map_congr_left; intro x _; simp only [Function.comp, id]; omega
  have hrange : ∀ x ∈ (dec n).map (fun x => x - 48), 0 ≤ x ∧ x ≤ 9 := by
    intro x hx
    simp only [List.mem_map] at hx
    obtain ⟨y, hy, rfl⟩ := hx
    have := dec_digit n y hy; omega
  have hd := (dec_valD _ hrange).mp (by rw [hv, hmap, Int.toNat_natCast])
  have hl : (dec n).length ≤ 10 := dec_len 9 n (by omega)
  have hp : 0 < (dec n).length := by
    rcases Nat.eq_zero_or_pos (dec n).length with h | h
    · exact absurd (List.length_eq_zero_iff.mp (by rw [List.length_map]; exact h)) hd.1
    · exact h
  have hall : ∀ j, j < (strOfNums (dec n)).size → 0 ≤ hvb 10 (bt (strOfNums (dec n)) j) := by
    intro j hj
    rw [strOfNums_size] at hj
    have h1 := dec_digit n _ (List.getElem_mem hj)
    rw [bt_nums (dec_range n) hj, hvb_dig h1.1 h1.2]; omega
  unfold RD
  rw [vals_dec, hv, if_pos]
  refine ⟨by rw [strOfNums_size]; exact hl, by rw [strOfNums_size]; exact hp, ?_, hall, by omega⟩
  rintro ⟨h1, h2⟩
  rw [strOfNums_size] at h1
  rw [bt_nums (dec_range n) hp] at h2
  refine hd.2 ⟨by rw [List.length_map]; exact h1, ?_⟩
  rw [List.head?_map, List.head?_eq_getElem?, List.getElem?_eq_getElem hp]; simp [h2]

theorem fig_range {x : Int} (h0 : 0 ≤ x) (h1 : x < 16) : 0 ≤ fig x ∧ fig x ≤ 255 := by unfold fig; split <;> omega
theorem hvb_fig {x : Int} (h0 : 0 ≤ x) (h1 : x < 16) : hvb 16 (fig x) = x := by
  unfold fig
  split
  · rw [hvb_dig (by omega) (by omega)]; omega
  · rw [hvb_let (by omega) (by omega)]; omega
theorem hexN_range : ∀ l : List Int, (∀ x ∈ l, 0 ≤ x ∧ x ≤ 255) → ∀ y ∈ hexN l, 0 ≤ y ∧ y ≤ 255
  | [], _, y, hy => by simp [hexN] at hy
  | b :: l, h, y, hy => by
    have hb := h b (by simp)
    simp only [hexN, List.mem_cons] at hy
    rcases hy with rfl | rfl | hy
    · exact fig_range (by omega) (by omega)
    · exact fig_range (by omega) (by omega)
    · exact hexN_range l (fun x hx => h x (by simp [hx])) y hy
theorem hexN_at : ∀ (l : List Int) (j : Nat) (h : j < l.length), (hexN l)[2 * j]? = some (fig (l[j]'h / 16)) ∧ (hexN l)[2 * j + 1]? = some (fig (l[j]'h % 16))
  | [], j, h => by simp at h
  | b :: l, 0, h => by simp [hexN]
  | b :: l, j + 1, h => by
    have := hexN_at l j (by simpa using h)
    rw [show 2 * (j + 1) = 2 * j + 1 + 1 by omega]
    simpa [hexN] using this
theorem nums_range (l : List UInt8) : ∀ x ∈ nums l, 0 ≤ x ∧ x ≤ 255 := by
  intro x hx
  unfold nums at hx
  simp only [List.mem_map] at hx
  obtain ⟨y, _, rfl⟩ := hx
  have := y.toNat_lt; omega
theorem hex_back (t : ByteArray) : (strOfNums (hexN (nums t.data.toList))).size = 2 * t.size ∧ AllFig 16 (strOfNums (hexN (nums t.data.toList))) ∧ strOfNums (unN (strOfNums (hexN (nums t.data.toList))) t.size) = t := by
  have hr := hexN_range _ (nums_range t.data.toList)
  have hl : (nums t.data.toList).length = t.size := by unfold nums; simp
  have hlen : (hexN (nums t.data.toList)).length = 2 * t.size := by rw [hexN_len, hl]
  have hb0 : ∀ (j : Nat) (h : j < t.size), bt (strOfNums (hexN (nums t.data.toList))) (2 * j) = fig ((nums t.data.toList)[j]'(by omega) / 16) := fun j h => by
    rw [bt_nums hr (by omega)]
    have := (hexN_at (nums t.data.toList) j (by omega)).1
    rw [List.getElem?_eq_getElem (by omega)] at this
    exact Option.some.inj this
  have hb1 : ∀ (j : Nat) (h : j < t.size), bt (strOfNums (hexN (nums t.data.toList))) (2 * j + 1) = fig ((nums t.data.toList)[j]'(by omega) % 16) := fun j h => by
    rw [bt_nums hr (by omega)]
    have := (hexN_at (nums t.data.toList) j (by omega)).2
    rw [List.getElem?_eq_getElem (by omega)] at this
    exact Option.some.inj this
  have hnr : ∀ (j : Nat) (h : j < (nums t.data.toList).length), 0 ≤ (nums t.data.toList)[j]'h ∧ (nums t.data.toList)[j]'h ≤ 255 := fun j h => nums_range t.data.toList _ (List.getElem_mem h)
  refine ⟨by rw [strOfNums_size]; exact hlen, ?_, ?_⟩
  · intro k hk
    rw [strOfNums_size, hlen] at hk
    have hj : k / 2 < t.size := by omega
    have h3 := hnr (k / 2) (by omega)
    rcases (show k = 2 * (k / 2) ∨ k = 2 * (k / 2) + 1 by omega) with e | e
    · rw [e, hb0 _ hj, hvb_fig (by omega) (by omega)]; omega
    · rw [e, hb1 _ hj, hvb_fig (by omega) (by omega)]; omega
  · have e : unN (strOfNums (hexN (nums t.data.toList))) t.size = nums t.data.toList := by
      apply List.ext_getElem
      · rw [unN_len, hl]
      · intro j h1 h2
        have hj : j < t.size := by rw [unN_len] at h1; exact h1
        have h3 := hnr j h2
        rw [unN_at, hb0 j hj, hb1 j hj, hvb_fig (by omega) (by omega), hvb_fig (by omega) (by omega)]; omega
    rw [e]
    apply Go.WideShapes.bytes_inj
    rw [strOfNums_data]
    exact (strOfNums_eq (nums_range _)).mpr rfl
end Go.Proofs.Ytiojbefgafekaaa
