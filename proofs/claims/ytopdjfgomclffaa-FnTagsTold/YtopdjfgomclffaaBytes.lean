/- Plain laws of texts as rows of bytes: what is joined, what is cut; over no dump. -/
import Derived.WalkKit
import Derived.WalkLawsBesides
import Derived.Lib.Strings
import Derived.PlainAid
import Derived.WideShapes
import Derived.Laws.BytesArg
namespace Go.Proofs.Ytopdjfgomclffaa
open Go.RowKit Go.PlainAid

theorem dat_app (a b : ByteArray) : (a ++ b).data.toList = a.data.toList ++ b.data.toList := by
  obtain ⟨a⟩ := a; obtain ⟨b⟩ := b
  simp
theorem sz_len (c : ByteArray) : c.size = c.data.toList.length := by simp
theorem sz_app (a b : ByteArray) : (a ++ b).size = a.size + b.size := by rw [sz_len, dat_app, List.length_append, ← sz_len, ← sz_len]
theorem bt_at (s : ByteArray) (j : Nat) : bt s j = (((s.data.toList[j]?).getD 0).toNat : Int) := by
  by_cases h : j < s.size
  · rw [← get_bt s j h, List.getElem?_eq_getElem (by simpa using h)]; rfl
  · rw [bt_end s (by omega), List.getElem?_eq_none (by simpa using h)]; rfl
theorem bt_strOf {xs : List Int} (hr : ∀ x ∈ xs, 0 ≤ x ∧ x ≤ 255) {j : Nat} (h : j < xs.length) : bt (strOfNums xs) j = xs[j]'h := by
  rw [bt_at, strOfNums_data, List.getElem?_map, List.getElem?_eq_getElem h]
  have := hr _ (List.getElem_mem h)
  simp only [Option.map_some, Option.getD_some, UInt8.toNat_ofNat']
  omega
theorem bt_app_right (a b : ByteArray) (j : Nat) : bt (a ++ b) (a.size + j) = bt b j := by
  rw [bt_at, bt_at, dat_app, List.getElem?_append_right (by simp)]; simp
theorem bt_app_left (a b : ByteArray) {j : Nat} (h : j < a.size) : bt (a ++ b) j = bt a j := by
  rw [bt_at, bt_at, dat_app, List.getElem?_append_left (by simpa using h)]
theorem cut_size (t : ByteArray) (n : Nat) (h : n ≤ t.size) : (t.extract 0 n).size = n := by
  rw [sz_len, Lib.extract_data, List.length_take, List.length_drop, ← sz_len]; omega
theorem cut_all (t : ByteArray) (n : Nat) (h : n ≤ t.size) : t.data.toList = (t.extract 0 n).data.toList ++ (t.extract n t.size).data.toList := by
  have hl := sz_len t
  rw [Lib.extract_data, Lib.extract_data, List.drop_zero, Nat.sub_zero, List.take_of_length_le (l := List.drop n _) (by rw [List.length_drop]; omega), List.take_append_drop]
theorem bt_cut (t : ByteArray) (n j : Nat) (h : j < n) : bt (t.extract 0 n) j = bt t j := by
  rw [bt_at, bt_at, Lib.extract_data, List.drop_zero, Nat.sub_zero, List.getElem?_take, if_pos h]
/-- Texts of one length with the same bytes are one. -/
theorem same_text {a b : ByteArray} (hs : a.size = b.size) (h : ∀ j, j < a.size → bt a j = bt b j) : a = b := by
  apply Go.WideShapes.bytes_inj
  apply List.ext_getElem?
  intro j
  by_cases hj : j < a.size
  · have := h j hj
    rw [bt_at, bt_at] at this
    have ha : j < a.data.toList.length := by rw [← sz_len]; exact hj
    have hb : j < b.data.toList.length := by rw [← sz_len]; omega
    rw [List.getElem?_eq_getElem ha, List.getElem?_eq_getElem hb] at this ⊢
    simp only [Option.getD_some] at this
    congr 1
    apply UInt8.toNat.inj
    omega
  · rw [List.getElem?_eq_none (by rw [← sz_len]; omega), List.getElem?_eq_none (by rw [← sz_len]; omega)]
theorem eq_text (a b : ByteArray) : (a.toList == b.toList) = decide (a = b) := by
  rw [ByteArray.toList_eq, ByteArray.toList_eq, Bool.eq_iff_iff, beq_iff_eq, decide_eq_true_iff]
  exact ⟨Go.WideShapes.bytes_inj, fun h => by rw [h]⟩
end Go.Proofs.Ytopdjfgomclffaa
