/- The contracts of Unhex (chapter 1). -/
import Derived.Test.YtbnpllcmjkapmaaDoorProg
import Derived.Test.YtbnpllcmjkapmaaDoorPlainRead
import Derived.Test.YtbnpllcmjkapmaaDoorVarW
import Derived.Test.YtbnpllcmjkapmaaDoorFigW
import Derived.WalkKit
import Derived.WalkLawsBesides
import Derived.WalkSpells
import Derived.BigRegion
namespace Go.Proofs.YtbnpllcmjkapmaaDoor
open Go.RowKit Go.PlainAid

/-- The first m bytes that the figures tell. -/
def unN (s : ByteArray) (m : Nat) : List Int := (List.range m).map fun j => 16 * hvb 16 (bt s (2 * j)) + hvb 16 (bt s (2 * j + 1))
theorem unN_succ (s : ByteArray) (m : Nat) : unN s (m + 1) = unN s m ++ [16 * hvb 16 (bt s (2 * m)) + hvb 16 (bt s (2 * m + 1))] := by
  unfold unN; rw [List.range_succ, List.map_append, List.map_singleton]
theorem unN_len (s : ByteArray) (m : Nat) : (unN s m).length = m := by simp [unN]
theorem hvb_le (x : Int) : -1 ≤ hvb 16 x ∧ hvb 16 x ≤ 15 := by unfold hvb; split <;> (try split) <;> omega
theorem own_un {B : Nat} {w : World} {v : Value} {e j : Nat} {s : ByteArray} (h : w.ownsRow B e 1 v (j + 1) ((unN s j).map (Value.int .u8) ++ [.int .u8 (16 * hvb 16 (bt s (2 * j)) + hvb 16 (bt s (2 * j + 1)))])) :
    w.ownsRow B e 1 v (j + 1) ((unN s (j + 1)).map (Value.int .u8)) := by
  rw [unN_succ, List.map_append]; exact h

theorem implUnhex_odd (s : ByteArray) (w : World) (hm : s.size ≤ 1048576) (h : 40000 < s.size ∨ s.size % 2 ≠ 0) :
    Calls Tryd.prog 14 #[.string s] w fun e w' => e = .returned (.tuple #[.string ByteArray.empty, .bool false]) ∧ Below w.heap.size w w' := by
  by_cases h1 : s.size % 2 ≠ 0
  · have h2 : ((s.size : Int) % 2 != 0) = true := by simp; omega
    go_enter Tryd.func14, Tryd.ntmps14
    go_wp2
    go_ret2
    exact ⟨rfl, Below.refl _ _⟩
  · have h' : (40000 : Int) < (s.size : Int) := by omega
    have h2 : ((s.size : Int) % 2 != 0) = false := by simp; omega
    go_enter Tryd.func14, Tryd.ntmps14
    go_wp2
    go_ret2
    exact ⟨rfl, Below.refl _ _⟩

theorem take_set_succ {xs : List Value} {ys : List Int} {k : Nat} {x : Int} (hk : k < xs.length) (h : xs.take k = ys.map (Value.int .u8)) : (xs.set k (.int .u8 x)).take (k + 1) = (ys ++ [x]).map (Value.int .u8) := by
  rw [List.take_succ_eq_append_getElem (by simpa using hk), List.take_set_of_le (Nat.le_refl k), h, List.getElem_set_self, List.map_append, List.map_singleton]

set_option maxHeartbeats 1600000 in
theorem implUnhex_even (s : ByteArray) (m : Nat) (w : World) (hm : s.size = 2 * m) (hs : s.size ≤ 40000) :
    Calls Tryd.prog 14 #[.string s] w fun e w' => (e = .returned (.tuple #[.string (strOfNums (unN s m)), .bool true]) ∧ AllFig 16 s ∨ e = .returned (.tuple #[.string ByteArray.empty, .bool false]) ∧ ¬ AllFig 16 s) ∧ Below w.heap.size w w' := by
  obtain ⟨i0, hi, hz0, hz1, hz2⟩ := info_parts Tryd.info5
  have h' : ¬ (40000 : Int) < (s.size : Int) := by omega
  have h2 : ((s.size : Int) % 2 != 0) = false := by simp; omega
  have HM : Hid (s.size = 2 * m) := hm
  have hmi : Hid (((s.size : Int) / 2) = (m : Int)) := by show _ = _; omega
  clear hm
  go_enter Tryd.func14, Tryd.ntmps14
  go_wp2_with fail
  refine (figures_any s 16 _ (by omega) (Or.inr rfl)).mono ?_
  rintro e w1 ⟨(⟨⟨v, rfl, hown⟩, hA⟩ | ⟨rfl, hA⟩), hbel⟩
  · go_wp2_with (at_make; refine wpList_make_full _ rfl _ _ 22 rfl w1.heap.size 5 i0 (.int .u8 0) 1 Tryd.underlying22 hi hz0 hz1 .i64 .i64 _ _ m rfl rfl (by exact hmi.out) (by exact hmi.out) (by rw [hz2]; have := HM.out; omega) (by unfold maxLen; have := HM.out; omega) (Nat.le_refl _) ?_; intro w2 hown2 hgrow2)
    have hB2 : Below w1.heap.size w1 w2 := (Below.refl _ _).grown hgrow2 (Nat.le_refl _) (by simp)
    clear hgrow2 h2 h'
    go_loopw [30] (fun i wr => ∃ (k : Nat) (xs : List Value), k ≤ m ∧ i = .int .i64 k ∧ wr.ownsRow w1.heap.size 5 1 (.slice (some ⟨w1.heap.size, 0, none⟩) m m) m xs ∧ xs.take k = (unN s k).map (Value.int .u8) ∧ Below w1.heap.size w1 wr)
      (fun i _ => m - (intOf i).toNat)
    case atStart => exact ⟨0, _, Nat.zero_le _, rfl, hown2, by simp [unN], hB2⟩
    case round =>
      obtain ⟨k, xs, hk, rfl, hownr, htk, hbr⟩ := hrel
      have HT : Hid (xs.take k = (unN s k).map (Value.int .u8)) := htk
      clear htk
      have hxl : xs.length = m := by have := hownr.1; simpa using this
      by_cases hlt : k < m
      · have hM := HM.out
        have hk2 : 2 * k + 1 < s.size := by omega
        clear hM
        rcases hown.2 with ⟨_, h0⟩ | ⟨g, cap, cur, rfl, hg, hb, hc, hcm, hsz, htake⟩
        · exact absurd h0 (by omega)
        · have hgl := (hown.lt g rfl).2
          have hv0 := hvb_le (bt s (2 * k))
          have hv1 := hvb_le (bt s (2 * k + 1))
          have hp0 : 0 ≤ hvb 16 (bt s (2 * k)) := hA _ (by omega)
          have hp1 : 0 ≤ hvb 16 (bt s (2 * k + 1)) := hA _ (by omega)
          have hc0 : wr.cell? ⟨g, 2 * k, none⟩ = some (.int .i64 (hvb 16 (bt s (2 * k)))) := by
            rw [hbr.cell (p := ⟨g, 2 * k, none⟩) hgl, hown.cellAt (2 * k) (by omega)]; simp [vals, show 2 * k < s.size by omega]
          have hc1 : wr.cell? ⟨g, 2 * k + 1, none⟩ = some (.int .i64 (hvb 16 (bt s (2 * k + 1)))) := by
            rw [hbr.cell (p := ⟨g, 2 * k + 1, none⟩) hgl, hown.cellAt (2 * k + 1) (by omega)]; simp [vals, hk2]
          obtain ⟨u0, hu0⟩ : ∃ u, wr.cell? ⟨w1.heap.size, k, none⟩ = some u := by
            rw [hownr.cellAt k (by omega)]; exact ⟨_, List.getElem?_eq_getElem (by omega)⟩
          have hf0 := hownr.frozenAt k
          have hne : g ≠ w1.heap.size := by omega
          have hst := hownr.stored k (.int .u8 (16 * hvb 16 (bt s (2 * k)) + hvb 16 (bt s (2 * k + 1))))
          have hi0 : (0 : Int) ≤ 2 * (k : Int) := by omega
          have hi1 : 2 * (k : Int) < (s.size : Int) := by omega
          have hi2 : 2 * (k : Int) + 1 < (s.size : Int) := by omega
          have HS := hst.1
          have HB : Below w1.heap.size w1 (wr.setCell ⟨w1.heap.size, k, none⟩ (.int .u8 (16 * hvb 16 (bt s (2 * k)) + hvb 16 (bt s (2 * k + 1))))) := hbr.setCell (Nat.le_refl _) _
          clear hst hb hg hc hcm hsz htake
          go_wp2
          go_region
          have hT' := take_set_succ (x := 16 * hvb 16 (bt s (2 * k)) + hvb 16 (bt s (2 * k + 1))) (by omega) HT.out
          rw [← unN_succ] at hT'
          have HT' : Hid _ := hT'
          clear hT' HT hc0 hc1 hu0 hf0 hownr
          go_wp2
          go_roundw
          case rel => exact ⟨k + 1, _, by omega, by go_num, HS.drew, HT'.out, HB.drew⟩
          case measure => simp [intOf]; omega
      · obtain rfl : k = m := by omega
        have hx : xs = (unN s k).map (Value.int .u8) := by rw [← HT.out, List.take_of_length_le (by omega)]
        subst hx
        have hc := conv_own wr 22 9 5 Tryd.underlying22 Tryd.underlying5 Tryd.underlying9 (P := Tryd.prog) hownr
        clear HT
        go_wp2
        go_ret2
        exact ⟨Or.inl ⟨rfl, hA⟩, hbel.trans (hbr.mono hbel.size)⟩
  · clear h2 h'
    go_wp2
    go_ret2
    exact ⟨Or.inr ⟨rfl, hA⟩, hbel⟩
end Go.Proofs.YtbnpllcmjkapmaaDoor
