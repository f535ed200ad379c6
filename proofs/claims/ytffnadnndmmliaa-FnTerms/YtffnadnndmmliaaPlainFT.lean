/- Plain mathematics: the text of a term is read back, into an arena of its own, and into one that has it (chapter 3). -/
import Derived.Test.YtffnadnndmmliaaPlainAll
import Derived.Test.YtffnadnndmmliaaPlainRT3
import Derived.Test.YtffnadnndmmliaaPlainPlaces
import Derived.Test.YtffnadnndmmliaaDrawArena
import Derived.Test.YtffnadnndmmliaaMakeOrd
import Derived.Test.YtffnadnndmmliaaRdTop
namespace Go.Proofs.Ytffnadnndmmliaa
open Go.RowKit Go.PlainAid
set_option linter.unusedVariables false
theorem app_data (a b : ByteArray) : (a ++ b).data.toList = a.data.toList ++ b.data.toList := by
  obtain ⟨a⟩ := a; obtain ⟨b⟩ := b
  simp
theorem bt_list (s : ByteArray) (j : Nat) : bt s j = (((s.data.toList[j]?).getD 0).toNat : Int) := by
  by_cases h : j < s.size
  · rw [← get_bt s j h, List.getElem?_eq_getElem (by simpa using h)]; rfl
  · rw [bt_end s (by omega), List.getElem?_eq_none (by simpa using h)]; rfl
theorem bt_nums {xs : List Int} (hr : ∀ x ∈ xs, 0 ≤ x ∧ x ≤ 255) {j : Nat} (h : j < xs.length) : bt (strOfNums xs) j = xs[j]'h := by
  rw [bt_list, strOfNums_data, List.getElem?_map, List.getElem?_eq_getElem h]
  have := hr _ (List.getElem_mem h)
  simp only [Option.map_some, Option.getD_some, UInt8.toNat_ofNat']
  omega
theorem bt_right (a b : ByteArray) (j : Nat) : bt (a ++ b) (a.size + j) = bt b j := by
  rw [bt_list, bt_list, app_data, List.getElem?_append_right (by simp)]; simp
theorem bt_left (a b : ByteArray) {j : Nat} (h : j < a.size) : bt (a ++ b) j = bt a j := by
  rw [bt_list, bt_list, app_data, List.getElem?_append_left (by simpa using h)]
theorem size_app (a b : ByteArray) : (a ++ b).size = a.size + b.size := by
  have h1 : ∀ c : ByteArray, c.size = c.data.toList.length := fun c => by simp
  rw [h1, app_data, List.length_append, ← h1, ← h1]

theorem mul_parts (m : Nat) (p : Int) : ((m % 128 : Nat) : Int) * p + ((m / 128 : Nat) : Int) * (p * 128) = (m : Int) * p := by
  have e : (m : Int) = 128 * ((m / 128 : Nat) : Int) + ((m % 128 : Nat) : Int) := by omega
  conv => rhs; rw [e]
  rw [Int.add_mul, Int.mul_comm p 128, ← Int.mul_assoc, Int.mul_comm ((m / 128 : Nat) : Int) 128]
  omega

theorem rvGo_vb (s : ByteArray) (a : Nat) : ∀ (m f k : Nat) (acc : Int), (vb m).length ≤ f → (k = 0 ∨ 0 < m) → (∀ j, j < (vb m).length → a + k + j < s.size ∧ bt s (a + k + j) = (vb m).getD j 0) → acc + (m : Int) * pw k ≤ 1000000000 →
    rvGo s a f k acc = some (acc + (m : Int) * pw k, a + k + (vb m).length) := by
  intro m
  induction m using Nat.strongRecOn with
  | ind m ih =>
    intro f k acc hf hk hb hn
    by_cases h : m ≤ 127
    · rw [vb_small h] at hf hb ⊢
      obtain ⟨f, rfl⟩ : ∃ f', f = f' + 1 := ⟨f - 1, by simp at hf; omega⟩
      have h0 := hb 0 (by simp)
      simp only [Nat.add_zero, List.getD_cons_zero] at h0
      rw [rvGo, if_pos h0.1, h0.2, if_pos (by omega), show (m : Int) % 128 = m by omega, if_neg (by rintro (⟨h1, h2⟩ | h1) <;> omega)]
      rfl
    · have hv := vb_big (show 127 < m by omega)
      rw [hv] at hf hb ⊢
      obtain ⟨f, rfl⟩ : ∃ f', f = f' + 1 := ⟨f - 1, by simp at hf; omega⟩
      have h0 := hb 0 (by simp)
      simp only [Nat.add_zero, List.getD_cons_zero] at h0
      have hmp := mul_parts m (pw k)
      have hps := pw_succ k
      have e1 : ((m : Int) % 128 + 128) % 128 = ((m % 128 : Nat) : Int) := by omega
      rw [rvGo, if_pos h0.1, h0.2, if_neg (by omega), e1]
      have := ih (m / 128) (by omega) f (k + 1) (acc + ((m % 128 : Nat) : Int) * pw k) (by simp at hf; omega) (Or.inr (by omega)) (fun j hj => by
        have := hb (j + 1) (by simp; omega)
        rw [show a + (k + 1) + j = a + k + (j + 1) by omega]
        refine ⟨this.1, this.2.trans ?_⟩
        simp) (by rw [hps]; omega)
      rw [this, hps]
      simp only [List.length_cons]
      congr 2
      · omega
      · omega

theorem rv_round {s : ByteArray} {a n : Nat} (hn : n ≤ 1000000000) (hb : ∀ j, j < (vb n).length → a + j < s.size ∧ bt s (a + j) = (vb n).getD j 0) : rvOut s a = some ((n : Int), a + (vb n).length) := by
  have := rvGo_vb s a n 5 0 0 (vb_len 4 n (by omega)) (Or.inl rfl) (fun j hj => by simpa using hb j hj) (by rw [pw_zero]; omega)
  rw [pw_zero] at this
  unfold rvOut; rw [this]; simp

/-- These bytes stand in s from p on. -/
def AtB (s : ByteArray) (p : Nat) (xs : List Int) : Prop := ∀ j, j < xs.length → p + j < s.size ∧ bt s (p + j) = xs.getD j 0
theorem AtB.left {s : ByteArray} {p : Nat} {xs ys : List Int} (h : AtB s p (xs ++ ys)) : AtB s p xs := fun j hj => by
  have := h j (by simp; omega)
  rw [List.getD_eq_getElem?_getD, List.getElem?_append_left hj, ← List.getD_eq_getElem?_getD] at this
  exact this
theorem AtB.right {s : ByteArray} {p : Nat} {xs ys : List Int} (h : AtB s p (xs ++ ys)) : AtB s (p + xs.length) ys := fun j hj => by
  have := h (xs.length + j) (by simp; omega)
  rw [List.getD_eq_getElem?_getD, List.getElem?_append_right (by omega), Nat.add_sub_cancel_left, ← List.getD_eq_getElem?_getD, ← Nat.add_assoc] at this
  exact this
theorem AtB.whole {xs : List Int} (h : ∀ x ∈ xs, 0 ≤ x ∧ x ≤ 255) : AtB (strOfNums xs) 0 xs := fun j hj => by
  refine ⟨by rw [strOfNums_size]; omega, ?_⟩
  rw [Nat.zero_add, bt_nums h hj, List.getD_eq_getElem?_getD, List.getElem?_eq_getElem hj]; rfl
theorem RV_at {s : ByteArray} {p n : Nat} (hn : n ≤ 1000000000) (h : AtB s p (vb n)) : RV s p = some ((n : Int), p + (vb n).length) := by
  have h0 : 0 < (vb n).length := by
    by_cases hs : n ≤ 127
    · rw [vb_small hs]; simp
    · rw [vb_big (by omega)]; simp
  have := (h 0 h0).1
  unfold RV
  rw [if_pos ⟨by omega, by omega⟩, Int.toNat_natCast]
  exact rv_round hn h
theorem putR_self {ns : List Nd} (h : allFrom ns ns 0 = true) {k e c : Nat} {x : Nd} (hk : k < ns.length) (hx : ns.getD k Nd.zero = x) : putR ns x e c = some (ns, k, e, c) := by
  obtain ⟨h1, h2⟩ := put_self h hk
  unfold putR
  rw [← hx, h1, h2, if_neg (by omega)]; simp
/-- Read into an arena that has it: nothing comes. -/
theorem rd_self (s : ByteArray) {ns : List Nd} (h : allFrom ns ns 0 = true) : ∀ k, k < ns.length → ∀ F p, k < F → AtB s p (tx ns k) → ∃ c, rdS s F ns p = some (ns, k, p + (tx ns k).length, c) := by
  intro k
  induction k using Nat.strongRecOn with
  | ind k ih =>
    intro hk F p hF hA
    obtain ⟨F, rfl⟩ : ∃ f, F = f + 1 := ⟨F - 1, by omega⟩
    have hg := all_good h hk
    obtain ⟨x, hx⟩ : ∃ x, ns.getD k Nd.zero = x := ⟨_, rfl⟩
    have hn := (all_at h hk).1
    rw [hx] at hn
    obtain ⟨xk, xn, xa, xb⟩ := x
    rcases nodeB_true hn with h1 | h1 | h1
    · obtain ⟨rfl, h3, h4, rfl, rfl⟩ : xk = 1 ∧ 0 ≤ xn ∧ xn ≤ 999999 ∧ xa = 0 ∧ xb = 0 := h1
      have ht := tx_atom (ns := ns) (k := k) (by rw [hx])
      rw [hx] at ht
      simp only at ht
      rw [ht] at hA ⊢
      have r1 := RV_at (n := 1) (by omega) hA.left
      have r2 := RV_at (n := xn.toNat) (by omega) hA.right
      rw [rdS, r1]
      simp only
      rw [if_neg (by decide), if_pos (by rfl)]
      rw [show ((xn.toNat : Nat) : Int) = xn by omega] at r2
      rw [r2]
      simp only
      rw [putR_self h hk hx]
      exact ⟨1, by rw [List.length_append, Nat.add_assoc]⟩
    · obtain ⟨h2, h3, rfl, h5, h6, h7, rfl⟩ : 2 ≤ xk ∧ xk ≤ 9 ∧ xn = 0 ∧ 0 ≤ xa ∧ xa < (k : Int) ∧ oneK xk = true ∧ xb = 0 := h1
      have ht := tx_one hg (by rw [hx]; exact h2) (by rw [hx]; exact h7)
      rw [hx] at ht
      simp only at ht
      rw [ht] at hA ⊢
      have r1 := RV_at (n := xk.toNat) (by omega) hA.left
      rw [show ((xk.toNat : Nat) : Int) = xk by omega] at r1
      obtain ⟨c, r2⟩ := ih xa.toNat (by omega) (by omega) F (p + (vb xk.toNat).length) (by omega) hA.right
      rw [rdS, r1]
      simp only
      rw [if_neg (by rw [inB_mk ⟨by omega, h3⟩]; simp), if_neg (by omega), r2]
      simp only
      rw [if_pos h7, putR_self h hk (by rw [hx]; congr 1; omega)]
      exact ⟨1 + c, by rw [List.length_append, Nat.add_assoc]⟩
    · obtain ⟨h2, h3, rfl, h5, h6, h7, h8, h9⟩ : 2 ≤ xk ∧ xk ≤ 9 ∧ xn = 0 ∧ 0 ≤ xa ∧ xa < (k : Int) ∧ oneK xk = false ∧ 0 ≤ xb ∧ xb < (k : Int) := h1
      have ht := tx_two hg (by rw [hx]; exact h2) (by rw [hx]; exact h7)
      rw [hx] at ht
      simp only at ht
      rw [ht] at hA ⊢
      have r1 := RV_at (n := xk.toNat) (by omega) hA.left
      rw [show ((xk.toNat : Nat) : Int) = xk by omega] at r1
      obtain ⟨c, r2⟩ := ih xa.toNat (by omega) (by omega) F (p + (vb xk.toNat).length) (by omega) hA.right.left
      obtain ⟨c', r3⟩ := ih xb.toNat (by omega) (by omega) F (p + (vb xk.toNat).length + (tx ns xa.toNat).length) (by omega) hA.right.right
      rw [rdS, r1]
      simp only
      rw [if_neg (by rw [inB_mk ⟨by omega, h3⟩]; simp), if_neg (by omega), r2]
      simp only
      rw [if_neg (by rw [h7]; simp), r3]
      simp only
      rw [putR_self h hk (by rw [hx]; congr 1 <;> omega)]
      exact ⟨1 + c + c', by simp only [List.length_append, Nat.add_assoc]⟩
theorem putR_room {bs : List Nd} (h : allFrom bs bs 0 = true) {x : Nd} {e c : Nat} (hx : nodeB x bs.length = true) (hr : bs.length < 3000) : ∃ bs' j, putR bs x e c = some (bs', j, e, c) ∧ allFrom bs' bs' 0 = true ∧ bs'.length ≤ bs.length + 1 := by
  refine ⟨putA bs x, (putK bs x).toNat, ?_, all_put h, put_len.1⟩
  unfold putR
  rw [if_neg]
  unfold putK
  rw [if_pos hx]
  split
  · omega
  · rename_i hn
    rcases findN_range bs x with e | e
    · exact absurd ⟨e, hr⟩ hn
    · omega
theorem szv_sum {ns : List Nd} {k : Nat} (h : Good ns k) (hz : szv ns k ≤ 2000) : szv ns k = szSum ns (ns.getD k Nd.zero) := by
  have := good_szR h
  split at this
  · omega
  · exact this
/-- Read into an arena that has room. -/
theorem rd_room (s : ByteArray) {ns : List Nd} (h : allFrom ns ns 0 = true) : ∀ k, k < ns.length → szv ns k ≤ 2000 → ∀ F p (bs : List Nd), k < F → AtB s p (tx ns k) → allFrom bs bs 0 = true → (bs.length : Int) + szv ns k ≤ 3000 →
    ∃ bs' j c, rdS s F bs p = some (bs', j, p + (tx ns k).length, c) ∧ (c : Int) = szv ns k ∧ allFrom bs' bs' 0 = true ∧ (bs'.length : Int) ≤ (bs.length : Int) + szv ns k := by
  intro k
  induction k using Nat.strongRecOn with
  | ind k ih =>
    intro hk hz F p bs hF hA hb hrm
    obtain ⟨F, rfl⟩ : ∃ f, F = f + 1 := ⟨F - 1, by omega⟩
    have hg := all_good h hk
    have hsum := szv_sum hg hz
    obtain ⟨x, hx⟩ : ∃ x, ns.getD k Nd.zero = x := ⟨_, rfl⟩
    have hn := (all_at h hk).1
    rw [hx] at hn hsum
    have hpos := fun j (hj : j < ns.length) => (szv_range ns j (all_good h hj).2).1
    have hposk := hpos k hk
    obtain ⟨xk, xn, xa, xb⟩ := x
    rcases nodeB_true hn with h1 | h1 | h1
    · obtain ⟨rfl, h3, h4, rfl, rfl⟩ : xk = 1 ∧ 0 ≤ xn ∧ xn ≤ 999999 ∧ xa = 0 ∧ xb = 0 := h1
      have ht := tx_atom (ns := ns) (k := k) (by rw [hx])
      rw [hx] at ht
      simp only at ht
      rw [ht] at hA ⊢
      have r1 := RV_at (n := 1) (by omega) hA.left
      have r2 := RV_at (n := xn.toNat) (by omega) hA.right
      rw [show ((xn.toNat : Nat) : Int) = xn by omega] at r2
      have hs1 : szv ns k = 1 := by rw [hsum]; unfold szSum; simp
      obtain ⟨bs', j, r3, hb', hl'⟩ := putR_room hb (x := ⟨1, xn, 0, 0⟩) (e := p + (vb 1).length + (vb xn.toNat).length) (c := 1) (atomB h3 h4 _) (by omega)
      refine ⟨bs', j, 1, ?_, by omega, hb', by omega⟩
      rw [rdS, r1]
      simp only
      rw [if_neg (by decide), if_pos (by rfl), r2]
      simp only
      rw [r3, List.length_append, Nat.add_assoc]
    · obtain ⟨h2, h3, rfl, h5, h6, h7, rfl⟩ : 2 ≤ xk ∧ xk ≤ 9 ∧ xn = 0 ∧ 0 ≤ xa ∧ xa < (k : Int) ∧ oneK xk = true ∧ xb = 0 := h1
      have ht := tx_one hg (by rw [hx]; exact h2) (by rw [hx]; exact h7)
      rw [hx] at ht
      simp only at ht
      rw [ht] at hA ⊢
      have hs1 : szv ns k = 1 + szv ns xa.toNat := by rw [hsum]; unfold szSum; simp only; rw [if_neg (by omega), if_pos h7]
      have r1 := RV_at (n := xk.toNat) (by omega) hA.left
      rw [show ((xk.toNat : Nat) : Int) = xk by omega] at r1
      obtain ⟨b1, j1, c1, r2, hc1, hb1, hl1⟩ := ih xa.toNat (by omega) (by omega) (by omega) F (p + (vb xk.toNat).length) bs (by omega) hA.right hb (by omega)
      have hC := rd_C s F bs _ b1 j1 _ c1 r2
      have hnb : nodeB ⟨xk, 0, (j1 : Int), 0⟩ b1.length = true := by
        unfold nodeB
        simp only
        rw [if_neg (by rw [inB_mk ⟨by omega, h3⟩]; simp), if_neg (by omega), if_neg (by rintro (e | e); exact e rfl; rw [inB_mk ⟨by omega, by have := hC.2.1; omega⟩] at e; simp at e), if_pos h7]; rfl
      obtain ⟨bs', j, r3, hb', hl'⟩ := putR_room hb1 (x := ⟨xk, 0, (j1 : Int), 0⟩) (e := p + (vb xk.toNat).length + (tx ns xa.toNat).length) (c := 1 + c1) hnb (by omega)
      refine ⟨bs', j, 1 + c1, ?_, by omega, hb', by omega⟩
      rw [rdS, r1]
      simp only
      rw [if_neg (by rw [inB_mk ⟨by omega, h3⟩]; simp), if_neg (by omega), r2]
      simp only
      rw [if_pos h7, r3, List.length_append, Nat.add_assoc]
    · obtain ⟨h2, h3, rfl, h5, h6, h7, h8, h9⟩ : 2 ≤ xk ∧ xk ≤ 9 ∧ xn = 0 ∧ 0 ≤ xa ∧ xa < (k : Int) ∧ oneK xk = false ∧ 0 ≤ xb ∧ xb < (k : Int) := h1
      have ht := tx_two hg (by rw [hx]; exact h2) (by rw [hx]; exact h7)
      rw [hx] at ht
      simp only at ht
      rw [ht] at hA ⊢
      have hs1 : szv ns k = 1 + szv ns xa.toNat + szv ns xb.toNat := by rw [hsum]; unfold szSum; simp only; rw [if_neg (by omega), if_neg (by rw [h7]; simp)]
      have hpa := hpos xa.toNat (by omega)
      have hpb := hpos xb.toNat (by omega)
      have r1 := RV_at (n := xk.toNat) (by omega) hA.left
      rw [show ((xk.toNat : Nat) : Int) = xk by omega] at r1
      obtain ⟨b1, j1, c1, r2, hc1, hb1, hl1⟩ := ih xa.toNat (by omega) (by omega) (by omega) F (p + (vb xk.toNat).length) bs (by omega) hA.right.left hb (by omega)
      obtain ⟨b2, j2, c2, r3, hc2, hb2, hl2⟩ := ih xb.toNat (by omega) (by omega) (by omega) F (p + (vb xk.toNat).length + (tx ns xa.toNat).length) b1 (by omega) hA.right.right hb1 (by omega)
      have hC1 := rd_C s F bs _ b1 j1 _ c1 r2
      have hC2 := rd_C s F b1 _ b2 j2 _ c2 r3
      have hle := hC2.1.length_le
      have hnb : nodeB ⟨xk, 0, (j1 : Int), (j2 : Int)⟩ b2.length = true := by
        unfold nodeB
        simp only
        rw [if_neg (by rw [inB_mk ⟨by omega, h3⟩]; simp), if_neg (by omega), if_neg (by rintro (e | e); exact e rfl; rw [inB_mk ⟨by omega, by have := hC1.2.1; omega⟩] at e; simp at e), if_neg (by rw [h7]; simp)]
        exact inB_mk ⟨by omega, by have := hC2.2.1; omega⟩
      obtain ⟨bs', j, r4, hb', hl'⟩ := putR_room hb2 (x := ⟨xk, 0, (j1 : Int), (j2 : Int)⟩) (e := p + (vb xk.toNat).length + (tx ns xa.toNat).length + (tx ns xb.toNat).length) (c := 1 + c1 + c2) hnb (by omega)
      refine ⟨bs', j, 1 + c1 + c2, ?_, by omega, hb', by omega⟩
      rw [rdS, r1]
      simp only
      rw [if_neg (by rw [inB_mk ⟨by omega, h3⟩]; simp), if_neg (by omega), r2]
      simp only
      rw [if_neg (by rw [h7]; simp), r3]
      simp only
      rw [r4]
      simp only [List.length_append, Nat.add_assoc]
/-- The text of a term of a right arena is read back. -/
theorem text_back {ns : List Nd} {k : Nat} (h : allFrom ns ns 0 = true) (hl : ns.length ≤ 1000) (hk : k < ns.length) (ht : txB ns (k : Int) = true) :
    rtOk (txS ns (k : Int)) ns = some (ns, k) ∧ ∃ ms j, rtOk (txS ns (k : Int)) [] = some (ms, j) ∧ txB ms (j : Int) = true ∧ txS ms (j : Int) = txS ns (k : Int) ∧ sizeN ms (j : Int) = sizeN ns (k : Int) ∧ arenaB ms = true ∧ ms.length ≤ 2000 := by
  have hg := all_good h hk
  have hb := inB_true ht
  have hsz : sizeN ns (k : Int) = szv ns k := sizeN_in ns k hk
  have hr : ∀ x ∈ tx ns k, 0 ≤ x ∧ x ≤ 255 := tx_range ns (k + 1) k
  have hS : txS ns (k : Int) = strOfNums (tx ns k) := by unfold txS; rw [ht]; simp
  have hA : AtB (strOfNums (tx ns k)) 0 (tx ns k) := AtB.whole hr
  have hsize : (strOfNums (tx ns k)).size = (tx ns k).length := strOfNums_size _
  obtain ⟨c, r1⟩ := rd_self (strOfNums (tx ns k)) h k hk 2001 0 (by omega) hA
  obtain ⟨ms, j, c2, r2, hc2, hb2, hl2⟩ := rd_room (strOfNums (tx ns k)) h k hk (by omega) 2001 0 [] (by omega) hA rfl (by simp; omega)
  rw [Nat.zero_add] at r1 r2
  have C1 := rd_C _ _ _ _ _ _ _ _ r1
  have C2 := rd_C _ _ _ _ _ _ _ _ r2
  have g2 := all_good hb2 C2.2.1
  have t1 := C1.2.2.2.2 ns (List.prefix_refl _) hg
  have t2 := C2.2.2.2.2 ms (List.prefix_refl _) g2
  have hsm : sizeN ms (j : Int) = sizeN ns (k : Int) := by rw [sizeN_in ms j C2.2.1, hsz, t2.2]; omega
  have hml : ms.length ≤ 2000 := by simp at hl2; omega
  rw [hS]
  refine ⟨?_, ms, j, ?_, ?_, ?_, hsm, ?_, hml⟩
  · unfold rtOk
    rw [r1]
    simp only
    rw [if_pos ⟨hsize.symm, ht⟩]
  · unfold rtOk
    rw [r2]
    simp only
    rw [if_pos ⟨hsize.symm, by rw [hsm]; exact ht⟩]
  · unfold txB; rw [hsm]; exact ht
  · unfold txS txB
    rw [hsm]
    have e : inB (sizeN ns (k : Int)) 1 2000 = true := ht
    rw [e]
    simp only [if_true, Int.toNat_natCast]
    rw [t2.1, ← t1.1]
  · unfold arenaB; rw [hb2, decide_eq_true (show ms.length ≤ 3000 by omega)]; rfl
end Go.Proofs.Ytffnadnndmmliaa
