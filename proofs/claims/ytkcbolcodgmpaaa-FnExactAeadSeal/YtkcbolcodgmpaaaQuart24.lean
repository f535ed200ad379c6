/- QuarterTurn of both sides. -/
import Derived.Test.YtkcbolcodgmpaaaSpecB24
import Derived.WalkKit
import Derived.WalkLawsBesides
import Derived.WalkSpells
import Derived.Great.Walk
namespace Go.Proofs.Ytkcbolcodgmpaaa
open Go.RowKit Go.PlainAid
set_option maxRecDepth 20000
set_option linter.unusedVariables false
set_option linter.unusedSimpArgs false
theorem addTurn_ext {n : Nat} {f f' : Nat → Nat} (h : ∀ i, i < n → f i = f' i) {a b c : Nat} (k : Nat) (ha : a < n) (hb : b < n) (hc : c < n) : ∀ i, i < n → addTurn f a b c k i = addTurn f' a b c k i := by
  have h1 : ∀ i, i < n → upd f a ((f a + f b) % 4294967296) i = upd f' a ((f' a + f' b) % 4294967296) i := by
    rw [h a ha, h b hb]; exact upd_ext h _ _
  intro i hi
  unfold addTurn
  rw [h1 c hc, h1 a ha]
  exact upd_ext h1 _ _ i hi
theorem quarter_ext {n : Nat} {f f' : Nat → Nat} (h : ∀ i, i < n → f i = f' i) {a b c d : Nat} (ha : a < n) (hb : b < n) (hc : c < n) (hd : d < n) : ∀ i, i < n → quarter f a b c d i = quarter f' a b c d i :=
  addTurn_ext (addTurn_ext (addTurn_ext (addTurn_ext h 16 ha hb hd) 12 hc hd hb) 8 ha hb hd) 7 hc hd hb
def quartL (a b c d : Int) : List Int := bytesV 4 (quarter (wordsOf [a, b, c, d] 4) 0 1 2 3)
theorem quartL_len (a b c d : Int) : (quartL a b c d).length = 4 := bytesV_len _ _
theorem own_ofRow {w : World} {B g cap n : Nat} {f : Nat → Nat} (h : RowC w g .i64 n f) (hw : ∃ cs, w.heap[g]? = some (.cells cs 3 (0, 0)) ∧ cs.size = cap) (hg : B ≤ g) (hn : n ≤ cap) (hm : cap ≤ maxLen) : OwnInt B w (.slice (some ⟨g, 0, none⟩) n cap) (bytesV n f) := by
  obtain ⟨cs, hh, hcs⟩ := hw
  unfold OwnInt
  rw [bytesV_len]
  refine ⟨by rw [List.length_map, bytesV_len]; omega, .inr ⟨g, cap, cs, rfl, hg, hh, hn, hm, by omega, ?_⟩⟩
  apply List.ext_getElem?
  intro j
  by_cases hj : j < n
  · have hc := h.c j hj
    rw [cell_of_row _ _ _ _ _ _ hh] at hc
    rw [List.getElem?_take, if_pos (by omega), Array.getElem?_toList, hc, List.getElem?_map]
    have := bytesV_get f hj
    rw [List.getD_eq_getElem?_getD, List.getElem?_eq_getElem (by rw [bytesV_len]; exact hj)] at this
    rw [List.getElem?_eq_getElem (by rw [bytesV_len]; exact hj)]
    simp only [Option.getD_some] at this
    rw [Option.map_some, this]
  · rw [List.getElem?_eq_none (by simp; omega), List.getElem?_eq_none (by rw [List.length_map, bytesV_len]; omega)]
end Go.Proofs.Ytkcbolcodgmpaaa
