/- The contracts of Unhex (chapter 1). -/
import Derived.Test.YtbnpllcmjkapmajProg
import Derived.Test.YtbnpllcmjkapmajPlainRead
import Derived.Test.YtbnpllcmjkapmajVarW
import Derived.Test.YtbnpllcmjkapmajFigW
import Derived.WalkKit
import Derived.WalkLawsBesides
import Derived.WalkSpells
import Derived.BigRegion
namespace Go.Proofs.Ytbnpllcmjkapmaj
open Go.RowKit Go.PlainAid

/-- The first m bytes that the figures tell. -/
def unN (s : ByteArray) (m : Nat) : List Int := (List.range m).map fun j => 16 * hvb 16 (bt s (2 * j)) + hvb 16 (bt s (2 * j + 1))
theorem unN_succ (s : ByteArray) (m : Nat) : unN s (m + 1) = unN s m ++ [16 * hvb 16 (bt s (2 * m)) + hvb 16 (bt s (2 * m + 1))] := by
  unfold unN; rw [List.range_succ, List.map_append, List.map_singleton]
theorem unN_len (s : ByteArray) (m : Nat) : (unN s m).length = m := by simp [unN]
theorem hvb_le (x : Int) : -1 ≤ hvb 16 x ∧ hvb 16 x ≤ 15 := by unfold hvb; split <;> (try split) <;> omega
theorem own_un {B : Nat} {w : World} {v : Value} {e j : Nat} {s : ByteArray} (h : w.ownsRow B e 1 v (j + 1) ((unN s j).map (Value.int .u8) ++ [.int .u8 (16 * hvb 16 (bt s (2 * j)) + hvb 16 (bt s (2 * j + 1)))])) :
    w.ownsRow B e 1 v (j + 1) ((unN s (j + 1)).map (Value.int .u8)) := by
  rw [unN_succ, List.map_append]; exact h

theorem value_any (x : Int) (w : World) (h0 : 0 ≤ x) (h1 : x ≤ 255) :
    Calls Try.prog 26 #[.int .u8 x] w fun e w' => e = .returned (.int .i64 (hvb 16 x)) ∧ w = w' := by
  by_cases hd : 48 ≤ x ∧ x ≤ 57
  · have hv : Hid (hvb 16 x = x - 48) := hvb_dig hd.1 hd.2
    obtain ⟨hd0, hd1⟩ := hd
    go_enter Try.func26, Try.ntmps26
    go_wp2
    go_ret
    exact ⟨by rw [hv.out]; rfl, rfl⟩
  · by_cases hl : 97 ≤ x ∧ x ≤ 102
    · have hv : Hid (hvb 16 x = x - 87) := hvb_let hl.1 hl.2
      obtain ⟨hl0, hl1⟩ := hl
      have hd2 : decide (x ≤ 57) = false := by simp; omega
      go_enter Try.func26, Try.ntmps26
      go_wp2
      go_ret
      exact ⟨by rw [hv.out]; go_num, rfl⟩
    · have hv : Hid (hvb 16 x = -1) := hvb_no hd (by omega)
      by_cases hd3 : 48 ≤ x
      · have hd2 : decide (x ≤ 57) = false := by simp; omega
        by_cases hd4 : 97 ≤ x
        · have hd5 : decide (x ≤ 102) = false := by simp; omega
          clear hl hd
          go_enter Try.func26, Try.ntmps26
          go_wp2
          go_ret
          exact ⟨by rw [hv.out]; rfl, rfl⟩
        · have hd5 : decide (97 ≤ x) = false := by simp; omega
          clear hl hd
          go_enter Try.func26, Try.ntmps26
          go_wp2
          go_ret
          exact ⟨by rw [hv.out]; rfl, rfl⟩
      · have hd2 : decide (48 ≤ x) = false := by simp; omega
        have hd5 : decide (97 ≤ x) = false := by simp; omega
        clear hl hd
        go_enter Try.func26, Try.ntmps26
        go_wp2
        go_ret
        exact ⟨by rw [hv.out]; rfl, rfl⟩

theorem specUnhex_odd (s : ByteArray) (w : World) (hm : s.size ≤ 1048576) (h : 40000 < s.size ∨ s.size % 2 ≠ 0) :
    Calls Try.prog 19 #[.string s] w fun e w' => e = .returned (.tuple #[.string ByteArray.empty, .bool false]) ∧ Below w.heap.size w w' := by
  by_cases h1 : 40000 < s.size
  · have h' : (40000 : Int) < (s.size : Int) := by omega
    go_enter Try.func19, Try.ntmps19
    go_wp2
    go_ret2
    exact ⟨rfl, Below.refl _ _⟩
  · have h' : ¬ (40000 : Int) < (s.size : Int) := by omega
    have h2 : ((s.size : Int) % 2 != 0) = true := by simp; omega
    go_enter Try.func19, Try.ntmps19
    go_wp2
    go_ret2
    exact ⟨rfl, Below.refl _ _⟩
theorem implUnhex_odd (s : ByteArray) (w : World) (hm : s.size ≤ 1048576) (h : 40000 < s.size ∨ s.size % 2 ≠ 0) :
    Calls Try.prog 20 #[.string s] w fun e w' => e = .returned (.tuple #[.string ByteArray.empty, .bool false]) ∧ Below w.heap.size w w' := by
  by_cases h1 : s.size % 2 ≠ 0
  · have h2 : ((s.size : Int) % 2 != 0) = true := by simp; omega
    go_enter Try.func20, Try.ntmps20
    go_wp2
    go_ret2
    exact ⟨rfl, Below.refl _ _⟩
  · have h' : (40000 : Int) < (s.size : Int) := by omega
    have h2 : ((s.size : Int) % 2 != 0) = false := by simp; omega
    go_enter Try.func20, Try.ntmps20
    go_wp2
    go_ret2
    exact ⟨rfl, Below.refl _ _⟩

set_option maxHeartbeats 800000 in
theorem specUnhex_even (s : ByteArray) (m : Nat) (w : World) (hm : s.size = 2 * m) (hs : s.size ≤ 40000) :
    Calls Try.prog 19 #[.string s] w fun e w' => (e = .returned (.tuple #[.string (strOfNums (unN s m)), .bool true]) ∧ AllFig 16 s ∨ e = .returned (.tuple #[.string ByteArray.empty, .bool false]) ∧ ¬ AllFig 16 s) ∧ Below w.heap.size w w' := by
  obtain ⟨i0, hi, hz0, hz1, hz2⟩ := info_parts Try.info5
  have h' : ¬ (40000 : Int) < (s.size : Int) := by omega
  have h2 : ((s.size : Int) % 2 != 0) = false := by simp; omega
  have HM : Hid (s.size = 2 * m) := hm
  clear hm
  go_enter Try.func19, Try.ntmps19
  go_wp2
  clear h' h2
  go_loopw [4, 5] (fun v i wr => ∃ j : Nat, 2 * j ≤ s.size ∧ i = .int .i64 ((2 * j : Nat) : Int) ∧ wr.ownsRow w.heap.size 5 1 v j ((unN s j).map (Value.int .u8)) ∧ Below w.heap.size w wr ∧ ∀ k, k < 2 * j → 0 ≤ hvb 16 (bt s k))
    (fun _ i _ => s.size - (intOf i).toNat)
  case atStart => exact ⟨0, Nat.zero_le _, rfl, World.ownsRow_made _ _ _ (Nat.le_refl _) (by decide) rfl, (Below.refl _ _).alloc (Nat.le_refl _) _, fun k hk => absurd hk (by omega)⟩
  case round =>
    obtain ⟨j, hj, rfl, hown, hbel, hall⟩ := hrel
    have HA : Hid (∀ k, k < 2 * j → 0 ≤ hvb 16 (bt s k)) := hall
    clear hall
    have hg := get_bt s
    have hsz := hbel.size
    by_cases hlt : 2 * j < s.size
    · have hl2 : 2 * j + 1 < s.size := by have := HM.out; omega
      have hb0 := bt_nonneg s (2 * j)
      have hb1 := bt_le s (2 * j)
      have hc0 := bt_nonneg s (2 * j + 1)
      have hc1 := bt_le s (2 * j + 1)
      have hh := hvb_le (bt s (2 * j))
      have hl := hvb_le (bt s (2 * j + 1))
      by_cases hp : 0 ≤ hvb 16 (bt s (2 * j))
      · by_cases hq : 0 ≤ hvb 16 (bt s (2 * j + 1))
        · go_wp2_with fail
          refine (value_any _ _ hb0 hb1).mono ?_
          rintro e w' ⟨rfl, rfl⟩
          go_wp2_with fail
          refine (value_any _ _ hc0 hc1).mono ?_
          rintro e w' ⟨rfl, rfl⟩
          go_wp2_with (at_builtin; refine wpList_append_own _ rfl _ _ 34 rfl w.heap.size 5 i0 (.int .u8 0) 1 1 Try.underlying34 hi hz0 hz1 hz2 rfl (by decide) _ _ _ rfl (hown.alloc _) ⟨wr.heap.size, 0, none⟩ 1 1 [.int .u8 (16 * hvb 16 (bt s (2 * j)) + hvb 16 (bt s (2 * j + 1)))] rfl rfl ?c1 ?c2 ?c3 ?c4 ?c5 ?_)
          case c1 => exact cell_one_new _ _ _
          case c2 => first | rfl | (intro u hu; simp at hu; subst hu; rfl)
          case c3 => unfold maxLen; omega
          case c4 => omega
          case c5 => first | omega | (simp; omega)
          · intro v' w1 hown' hgrow _
            have hB := below_app hown hbel hsz hgrow
            have ho := own_un hown'
            have HA' : Hid (∀ k, k < 2 * (j + 1) → 0 ≤ hvb 16 (bt s k)) := fun k hk => by
              by_cases e1 : k = 2 * j
              · rw [e1]; exact hp
              · by_cases e2 : k = 2 * j + 1
                · rw [e2]; exact hq
                · exact HA.out k (by omega)
            clear hown' hgrow hown hbel HA
            go_wp2
            go_roundw
            case rel => exact ⟨j + 1, by omega, by go_num, ho, hB, HA'.out⟩
            case measure => simp [intOf]; omega
        · have hno : ¬ AllFig 16 s := fun hA => hq (hA _ hl2)
          have hq' : hvb 16 (bt s (2 * j + 1)) < 0 := by omega
          go_wp2_with fail
          refine (value_any _ _ hb0 hb1).mono ?_
          rintro e w' ⟨rfl, rfl⟩
          go_wp2_with fail
          refine (value_any _ _ hc0 hc1).mono ?_
          rintro e w' ⟨rfl, rfl⟩
          go_wp2
          go_ret2
          exact ⟨Or.inr ⟨rfl, hno⟩, hbel⟩
      · have hno : ¬ AllFig 16 s := fun hA => hp (hA _ hlt)
        have hp' : hvb 16 (bt s (2 * j)) < 0 := by omega
        go_wp2_with fail
        refine (value_any _ _ hb0 hb1).mono ?_
        rintro e w' ⟨rfl, rfl⟩
        go_wp2_with fail
        refine (value_any _ _ hc0 hc1).mono ?_
        rintro e w' ⟨rfl, rfl⟩
        go_wp2
        go_ret2
        exact ⟨Or.inr ⟨rfl, hno⟩, hbel⟩
    · obtain rfl : j = m := by have := HM.out; omega
      have hA : AllFig 16 s := fun k hk => HA.out k (by have := HM.out; omega)
      have hc := conv_own wr 34 9 5 Try.underlying34 Try.underlying5 Try.underlying9 (P := Try.prog) hown
      clear HA
      go_wp2
      go_ret2
      exact ⟨Or.inl ⟨rfl, hA⟩, hbel⟩

theorem take_set_succ {xs : List Value} {ys : List Int} {k : Nat} {x : Int} (hk : k < xs.length) (h : xs.take k = ys.map (Value.int .u8)) : (xs.set k (.int .u8 x)).take (k + 1) = (ys ++ [x]).map (Value.int .u8) := by
  rw [List.take_succ_eq_append_getElem (by simpa using hk), List.take_set_of_le (Nat.le_refl k), h, List.getElem_set_self, List.map_append, List.map_singleton]

set_option maxHeartbeats 1600000 in
theorem implUnhex_even (s : ByteArray) (m : Nat) (w : World) (hm : s.size = 2 * m) (hs : s.size ≤ 40000) :
    Calls Try.prog 20 #[.string s] w fun e w' => (e = .returned (.tuple #[.string (strOfNums (unN s m)), .bool true]) ∧ AllFig 16 s ∨ e = .returned (.tuple #[.string ByteArray.empty, .bool false]) ∧ ¬ AllFig 16 s) ∧ Below w.heap.size w w' := by
  obtain ⟨i0, hi, hz0, hz1, hz2⟩ := info_parts Try.info5
  have h' : ¬ (40000 : Int) < (s.size : Int) := by omega
  have h2 : ((s.size : Int) % 2 != 0) = false := by simp; omega
  have HM : Hid (s.size = 2 * m) := hm
  have hmi : Hid (((s.size : Int) / 2) = (m : Int)) := by show _ = _; omega
  clear hm
  go_enter Try.func20, Try.ntmps20
  go_wp2_with fail
  refine (figures_any s 16 _ (by omega) (Or.inr rfl)).mono ?_
  rintro e w1 ⟨(⟨⟨v, rfl, hown⟩, hA⟩ | ⟨rfl, hA⟩), hbel⟩
  · go_wp2_with (at_make; refine wpList_make_full _ rfl _ _ 34 rfl w1.heap.size 5 i0 (.int .u8 0) 1 Try.underlying34 hi hz0 hz1 .i64 .i64 _ _ m rfl rfl (by exact hmi.out) (by exact hmi.out) (by rw [hz2]; have := HM.out; omega) (by unfold maxLen; have := HM.out; omega) (Nat.le_refl _) ?_; intro w2 hown2 hgrow2)
    have hB2 : Below w1.heap.size w1 w2 := (Below.refl _ _).grown hgrow2 (Nat.le_refl _) (by simp)
    clear hgrow2 h2 h'
    go_loopw [30] (fun i wr => ∃ (k : Nat) (xs : List Value), k ≤ m ∧ i = .int .i64 k ∧ wr.ownsRow w1.heap.size 5 1 (.slice (some ⟨w1.heap.size, 0, none⟩) m m) m xs ∧ xs.take k = (unN s k).map (Value.int .u8) ∧ Below w1.heap.size w1 wr)
      (fun i _ => m - (intOf i).toNat)
    case atStart => exact ⟨0, _, Nat.zero_le _, rfl, hown2, by simp [unN], hB2⟩
    case round =>
      obtain ⟨k, xs, hk, rfl, hownr, htk, hbr⟩ := hrel
      have HT : Hid (xs.take k = (unN s k).map (Value.int .u8)) := htk
      clear htk
      have hxl : xs.length = m := by have := hownr.1; simpa using this
      by_cases hlt : k < m
      · have hM := HM.out
        have hk2 : 2 * k + 1 < s.size := by omega
        clear hM
        rcases hown.2 with ⟨_, h0⟩ | ⟨g, cap, cur, rfl, hg, hb, hc, hcm, hsz, htake⟩
        · exact absurd h0 (by omega)
        · have hgl := (hown.lt g rfl).2
          have hv0 := hvb_le (bt s (2 * k))
          have hv1 := hvb_le (bt s (2 * k + 1))
          have hp0 : 0 ≤ hvb 16 (bt s (2 * k)) := hA _ (by omega)
          have hp1 : 0 ≤ hvb 16 (bt s (2 * k + 1)) := hA _ (by omega)
          have hc0 : wr.cell? ⟨g, 2 * k, none⟩ = some (.int .i64 (hvb 16 (bt s (2 * k)))) := by
            rw [hbr.cell (p := ⟨g, 2 * k, none⟩) hgl, hown.cellAt (2 * k) (by omega)]; simp [vals, show 2 * k < s.size by omega]
          have hc1 : wr.cell? ⟨g, 2 * k + 1, none⟩ = some (.int .i64 (hvb 16 (bt s (2 * k + 1)))) := by
            rw [hbr.cell (p := ⟨g, 2 * k + 1, none⟩) hgl, hown.cellAt (2 * k + 1) (by omega)]; simp [vals, hk2]
          obtain ⟨u0, hu0⟩ : ∃ u, wr.cell? ⟨w1.heap.size, k, none⟩ = some u := by
            rw [hownr.cellAt k (by omega)]; exact ⟨_, List.getElem?_eq_getElem (by omega)⟩
          have hf0 := hownr.frozenAt k
          have hne : g ≠ w1.heap.size := by omega
          have hst := hownr.stored k (.int .u8 (16 * hvb 16 (bt s (2 * k)) + hvb 16 (bt s (2 * k + 1))))
          have hi0 : (0 : Int) ≤ 2 * (k : Int) := by omega
          have hi1 : 2 * (k : Int) < (s.size : Int) := by omega
          have hi2 : 2 * (k : Int) + 1 < (s.size : Int) := by omega
          have HS := hst.1
          have HB : Below w1.heap.size w1 (wr.setCell ⟨w1.heap.size, k, none⟩ (.int .u8 (16 * hvb 16 (bt s (2 * k)) + hvb 16 (bt s (2 * k + 1))))) := hbr.setCell (Nat.le_refl _) _
          clear hst hb hg hc hcm hsz htake
          go_wp2
          go_region
          have hT' := take_set_succ (x := 16 * hvb 16 (bt s (2 * k)) + hvb 16 (bt s (2 * k + 1))) (by omega) HT.out
          rw [← unN_succ] at hT'
          have HT' : Hid _ := hT'
          clear hT' HT hc0 hc1 hu0 hf0 hownr
          go_wp2
          go_roundw
          case rel => exact ⟨k + 1, _, by omega, by go_num, HS.drew, HT'.out, HB.drew⟩
          case measure => simp [intOf]; omega
      · obtain rfl : k = m := by omega
        have hx : xs = (unN s k).map (Value.int .u8) := by rw [← HT.out, List.take_of_length_le (by omega)]
        subst hx
        have hc := conv_own wr 34 9 5 Try.underlying34 Try.underlying5 Try.underlying9 (P := Try.prog) hownr
        clear HT
        go_wp2
        go_ret2
        exact ⟨Or.inl ⟨rfl, hA⟩, hbel.trans (hbr.mono hbel.size)⟩
  · clear h2 h'
    go_wp2
    go_ret2
    exact ⟨Or.inr ⟨rfl, hA⟩, hbel⟩
end Go.Proofs.Ytbnpllcmjkapmaj
