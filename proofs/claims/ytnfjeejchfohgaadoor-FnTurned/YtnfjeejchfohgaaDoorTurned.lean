/- A sealed text of which one byte is another is no seal (chapter 2): plain mathematics; and a text's bytes laid in memory. -/
import Derived.Test.YtnfjeejchfohgaaDoorUnsealW
import Derived.Test.YtnfjeejchfohgaaDoorBytes
import Derived.Lib.ConvBytes
import Derived.Laws.OwnMore
namespace Go.Proofs.YtnfjeejchfohgaaDoor
open Go.RowKit Go.PlainAid

theorem bt_seal_left (s : ByteArray) {j : Nat} (h : j < s.size) : bt (sealOf s) j = bt s j := by unfold sealOf; exact bt_app_left _ _ h
theorem bt_seal_right (s : ByteArray) {j : Nat} (h : j < 4) : bt (sealOf s) (s.size + j) = (be4 (sumOf s))[j]'h := by
  unfold sealOf; rw [bt_app_right]; exact bt_strOf (be4_range (sumOf_lt s)) h
theorem be4_same {a b : Nat} (ha : a < 4294967296) (hb : b < 4294967296) (h : ∀ j (hj : j < 4), (be4 a)[j]'hj = (be4 b)[j]'hj) : a = b := by
  apply be4_inj ha hb
  exact List.ext_getElem rfl (fun j h1 _ => h j h1)

theorem turned_bad {s u : ByteArray} {i : Nat} (hu : u.size = s.size + 4) (hi : bt u i ≠ bt (sealOf s) i) (hs : ∀ j, j ≠ i → bt u j = bt (sealOf s) j) : sealOf (u.extract 0 s.size) ≠ u := by
  intro e
  have hv := cut_size u s.size (by omega)
  by_cases hin : i < s.size
  · have h1 : ∀ j, j < s.size → bt (u.extract 0 s.size) j = bt u j := fun j hj => bt_cut u s.size j hj
    have hne : sumOf (u.extract 0 s.size) ≠ sumOf s := by
      unfold sumOf
      rw [hv]
      refine sumTo_other (by decide) _ _ i ?_ ?_ _ hin
      · rw [h1 i hin, ← bt_seal_left s hin]; exact hi
      · intro j hj
        by_cases hjs : j < s.size
        · rw [h1 j hjs, hs j hj, bt_seal_left s hjs]
        · rw [bt_end _ (by omega), bt_end _ (by omega)]
    apply hne
    apply be4_same (sumOf_lt _) (sumOf_lt _)
    intro j hj
    rw [← bt_seal_right (u.extract 0 s.size) hj, ← bt_seal_right s hj, e, hv]
    exact hs _ (by omega)
  · have hx : u.extract 0 s.size = s := by
      apply same_text hv
      intro j hj
      rw [hv] at hj
      rw [bt_cut u s.size j hj, hs j (by omega), bt_seal_left s hj]
    rw [hx] at e
    exact hi (by rw [e])

/-- The bytes of a text, one of them another. -/
def turnedOf (t : ByteArray) (i : Nat) (x : Int) : ByteArray := strOfNums ((List.range t.size).map fun j => if j = i then x else bt t j)
theorem turnedOf_size (t : ByteArray) (i : Nat) (x : Int) : (turnedOf t i x).size = t.size := by unfold turnedOf; rw [strOfNums_size]; simp
theorem turnedOf_bt (t : ByteArray) (i : Nat) (x : Int) (h0 : 0 ≤ x) (h1 : x ≤ 255) (hi : i < t.size) (j : Nat) : bt (turnedOf t i x) j = if j = i then x else bt t j := by
  by_cases hj : j < t.size
  · unfold turnedOf
    have hl : j < ((List.range t.size).map fun j => if j = i then x else bt t j).length := by simpa using hj
    rw [bt_strOf (by
      intro y hy
      simp only [List.mem_map, List.mem_range] at hy
      obtain ⟨k, _, rfl⟩ := hy
      split
      · exact ⟨h0, h1⟩
      · exact ⟨bt_nonneg _ _, bt_le _ _⟩) hl]
    simp
  · rw [bt_end _ (by rw [turnedOf_size]; omega), if_neg (by omega), bt_end _ (by omega)]

/-- '[]byte(t)'. -/
theorem bytes_new (t : ByteArray) (w : World) : ∃ cap w', (convert 9 22 (.string t)).run Tryd.prog w = .ok (.slice (some ⟨w.heap.size, 0, none⟩) t.size cap) w' ∧ (∀ j, j < t.size → w'.cell? ⟨w.heap.size, j, none⟩ = some (.int .u8 (bt t j))) ∧ (∀ j, j < t.size → w'.frozen? ⟨w.heap.size, j, none⟩ = false) ∧ Below w.heap.size w w' ∧ w'.heap.size = w.heap.size + 1 := by
  refine ⟨_, _, Lib.run_convert_string_bytes w 9 22 5 t Tryd.underlying9 Tryd.underlying22 Tryd.underlying5, ?_, ?_, ?_, Lib.bytesWorld_size _ _ _⟩
  · intro j hj
    rw [Lib.bytesWorld_cell w _ t j hj, bt_at]; rfl
  · intro j hj
    have h := Lib.bytesWorld_at_new w 5 t
    have hc : t.size ≤ (Lib.bytesCells w 5 t).size := by unfold Lib.bytesCells; simp
    simp only [World.frozen?, h]
    simp; omega
  · exact ⟨rfl, rfl, rfl, by rw [Lib.bytesWorld_size]; omega, fun k hk => Lib.bytesWorld_at_old w _ t k hk⟩

/-- 'string(b)' behind one byte set. -/
theorem turned_conv (t : ByteArray) (i : Nat) (x : Int) (g cap : Nat) (w : World) (hi : i < t.size) (hc : ∀ j, j < t.size → w.cell? ⟨g, j, none⟩ = some (.int .u8 (bt t j))) :
    (convert 22 9 (.slice (some ⟨g, 0, none⟩) t.size cap)).run Tryd.prog (w.setCell ⟨g, i, none⟩ (.int .u8 x)).drew = .ok (.string (turnedOf t i x)) (w.setCell ⟨g, i, none⟩ (.int .u8 x)).drew := by
  unfold turnedOf
  refine run_convert_bytes_arg _ 22 5 Tryd.underlying22 Tryd.underlying5 g 0 t.size cap _ (by simp) ?_ 9 Tryd.underlying9
  intro j hj
  rw [show 0 + j = j by omega]
  show (w.setCell ⟨g, i, none⟩ (.int .u8 x)).cell? ⟨g, j, none⟩ = _
  by_cases hji : j = i
  · subst hji
    rw [World.cell?_setCell_same (h := hc j hj)]
    simp [List.getD, hj]
  · rw [World.cell?_setCell_other (h := fun e => hji (congrArg Addr.off e).symm), hc j hj]
    simp [List.getD, hj, hji]
/-- SumMore goes on. -/
theorem more_on (s t : ByteArray) : ∀ k, sumTo (sumOf s) t k = sumTo 4294967295 (s ++ t) (s.size + k)
  | 0 => by
    show sumTo 4294967295 s s.size = _
    exact sumTo_same _ _ _ _ (fun j hj => (bt_app_left s t hj).symm)
  | k + 1 => by
    show eight (sumTo (sumOf s) t k ^^^ (bt t k).toNat) = eight (sumTo 4294967295 (s ++ t) (s.size + k) ^^^ (bt (s ++ t) (s.size + k)).toNat)
    rw [more_on s t k, bt_app_right]
theorem more_all (s t : ByteArray) : sumTo (sumOf s) t t.size = sumOf (s ++ t) := by rw [more_on]; unfold sumOf; rw [sz_app]
end Go.Proofs.YtnfjeejchfohgaaDoor
