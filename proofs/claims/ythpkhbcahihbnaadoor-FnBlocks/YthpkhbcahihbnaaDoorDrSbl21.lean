/- Drawn states and blocks (chapter 21): DrawShaBlock. -/
import Derived.Test.YthpkhbcahihbnaaDoorCurW
import Derived.Test.YthpkhbcahihbnaaDoorRowS
import Derived.Test.YthpkhbcahihbnaaDoorTab21
import Derived.Test.YthpkhbcahihbnaaDoorSubT
import Derived.Laws.OwnMore
import Derived.WalkKit
import Derived.WalkLawsBesides
import Derived.WalkSpells
import Derived.BigRegion
namespace Go.Proofs.YthpkhbcahihbnaaDoor
open Go.RowKit
set_option maxRecDepth 20000
set_option linter.unusedVariables false
set_option linter.unusedSimpArgs false
theorem row_tail {w : World} {g n : Nat} {x : Int} {l : List Int} (h : RowI n w (some ⟨g, 0, none⟩) (x :: l)) : RowI n w (some ⟨g, 1, none⟩) l := by
  rcases h with h | ⟨b, off, e, hb, hc⟩
  · cases h
  · cases e
    refine .inr ⟨g, 1, rfl, hb, fun j hj => ?_⟩
    have := hc (j + 1) (by simpa using hj)
    rw [show 1 + j = 0 + (j + 1) by omega, this]
    simp [List.getD]
theorem own8 {B : Nat} {w : World} {v : Value} {xs : List Int} (h : w.ownsRow B 3 1 v 8 (xs.map (Value.int .i64))) : ∃ g cap, v = .slice (some ⟨g, 0, none⟩) 8 cap ∧ 8 ≤ cap ∧ RowS B w g 8 cap xs := by
  rcases h.2 with ⟨_, h0⟩ | ⟨g, cap, cur, rfl, hb, hg, hnc, hr⟩
  · omega
  · exact ⟨g, cap, rfl, hnc, ⟨h.1, .inr ⟨g, cap, cur, rfl, hb, hg, hnc, hr⟩⟩⟩
set_option maxHeartbeats 3200000 in
theorem drawSbl_any (a : Option Addr) (len cap : Nat) (w : World) (hc : CodeIn w.heap.size w a len) :
    Calls Tryd.prog 9 #[.slice a len cap] w fun e w' => ∃ (x : Option Addr) (y : Nat) (xs : List Int) (s : ByteArray), e = .returned (.tuple #[.slice x xs.length y, .string s]) ∧ xs.length ≤ 8 ∧ AddrN x y ∧ RowI w'.heap.size w' x xs ∧ s.size ≤ 64 ∧ Below w.heap.size w w' := by
  obtain ⟨i0, hi, hz0, hz1, hz2⟩ := info_parts infoIntS
  go_enter Tryd.func9, Tryd.ntmps9
  go_wp2_with fail
  refine (new_any a len cap _ hc).mono ?_
  rintro e w1 ⟨g, rfl, hc1, hb1⟩
  have hg := hc1.1
  go_wp2_with fail
  refine (below_any w.heap.size g 10 _ (by omega) (by omega) hc1).mono ?_
  rintro e w2 ⟨q, rfl, hq, hc2, hg2⟩
  have hb2 : Below w.heap.size w w2 := hb1.grown hg2 hb1.size (fun k hk => by cases hk; exact hg)
  go_wp2_with fail
  refine (text_any w.heap.size g 64 _ (by omega) hc2).mono ?_
  rintro e w3 ⟨s, rfl, hs, hc3, hg3⟩
  have hb3 : Below w.heap.size w w3 := hb2.grown hg3 hb2.size (fun k hk => by cases hk; exact hg)
  have hgl : g < w3.heap.size := hc3.2.1
  have HBW : Hid (Below w.heap.size w w3) := hb3
  have HC3 : Hid (Cur w.heap.size w3 g) := hc3
  clear hc1 hb1 hc2 hg2 hb2 hg3 hb3 hc3 hc
  go_wp2
  go_loopw [7, 8] (fun v i wr => ∃ (k : Nat) (xs : List Int), k ≤ 8 ∧ i = .int .i64 (k : Int) ∧ xs.length = k ∧ Hid (wr.ownsRow w3.heap.size 3 1 v k (xs.map (Value.int .i64))) ∧ Hid (Cur w.heap.size wr g) ∧ Hid (w3.grownBy wr (some g)))
    (fun _ i _ => 8 - (intOf i).toNat)
  case atStart => exact ⟨0, [], by omega, rfl, rfl, World.ownsRow_made _ _ _ (Nat.le_refl _) (by decide) rfl, HC3.out.grown ((Below.refl _ _).alloc (Nat.le_refl _) _), grown_below ((Below.refl _ _).alloc (Nat.le_refl _) _) _⟩
  case round =>
    obtain ⟨k, xs, hk, rfl, hxl, HO, HC, HG⟩ := hrel
    by_cases hlt : k < 8
    · have hi1 : (k : Int) < 8 := by omega
      have hrow := heap_alloc_new wr (.cells #[.int .i64 0, .int .i64 1, .int .i64 4294967295, .int .i64 2147483648, .int .i64 12345678] 3)
      have hbA : Below wr.heap.size wr (wr.alloc (.cells #[.int .i64 0, .int .i64 1, .int .i64 4294967295, .int .i64 2147483648, .int .i64 12345678] 3)) := (Below.refl _ _).alloc (Nat.le_refl _) _
      have hcA := HC.out.grown hbA
      have hoA := World.ownsRow.alloc HO.out (.cells #[.int .i64 0, .int .i64 1, .int .i64 4294967295, .int .i64 2147483648, .int .i64 12345678] 3)
      have hgA := grown_trans HG.out (grown_below hbA (some g))
      have hgr : g < wr.heap.size := HC.out.2.1
      have HCL : Hid (∀ i, i < 5 → (wr.alloc (.cells #[.int .i64 0, .int .i64 1, .int .i64 4294967295, .int .i64 2147483648, .int .i64 12345678] 3)).cell? ⟨wr.heap.size, i, none⟩ = some (.int .i64 (([0, 1, 4294967295, 2147483648, 12345678] : List Int).getD i 0))) := fun i hi => by
        rw [cell_of_row _ _ i _ _ _ hrow]
        rcases (show i = 0 ∨ i = 1 ∨ i = 2 ∨ i = 3 ∨ i = 4 by omega) with rfl | rfl | rfl | rfl | rfl <;> rfl
      clear hrow hbA
      go_wp2_with fail
      generalize wr.alloc (.cells #[.int .i64 0, .int .i64 1, .int .i64 4294967295, .int .i64 2147483648, .int .i64 12345678] 3) = wA at hcA hoA hgA HCL ⊢
      refine (pickInt_any w.heap.size g wr.heap.size 5 _ [0, 1, 4294967295, 2147483648, 12345678] _ (by omega) (by omega) rfl (by omega) HCL.out hcA).mono ?_
      rintro e w4 ⟨z, hz, rfl, hc4, hg4⟩
      have hbz : 0 ≤ z ∧ z ≤ 4294967295 := by simp at hz; omega
      have hw : IntKind.i64.wrap z = z := by rw [IntKind.wrap_i64]; omega
      have ho4 := own_grown hoA hg4 hgl
      have hg34 := grown_trans hgA hg4
      have hsz := hg34.size
      clear hz HCL hcA hoA hgA hg4 HO HC HG
      go_wp2_with (at_builtin; refine wpList_append_own _ rfl _ _ 26 rfl w3.heap.size 3 i0 (.int .i64 0) 1 8 Tryd.underlying26 hi hz0 hz1 hz2 rfl (by decide) _ _ _ rfl (ho4.alloc _) ⟨w4.heap.size, 0, none⟩ 1 1 [.int .i64 z] rfl rfl ?c1 ?c2 ?c3 ?c4 ?c5 ?_)
      case c1 => exact cell_one_new _ _ _
      case c2 => first | rfl | (intro u hu; simp at hu; subst hu; rfl)
      case c3 => unfold maxLen; omega
      case c4 => omega
      case c5 => first | omega | (simp; omega)
      intro v' w5 hown' hgrow _
      have ho : w5.ownsRow w3.heap.size 3 1 v' (k + 1) ((xs ++ [z]).map (Value.int .i64)) := by rw [List.map_append]; exact hown'
      have hB : Below w3.heap.size w4 w5 := below_app ho4 (Below.refl _ _) hsz hgrow
      have hgr2 := grown_then hg34 hB
      have hc5 := hc4.beyond hgl hB
      clear hown' hgrow ho4 hc4 hg34 hB
      go_wp2
      go_roundw
      case rel => exact ⟨k + 1, xs ++ [z], by omega, by go_num, by simp; omega, ho, hc5, hgr2⟩
      case measure => simp [intOf]; omega
    · obtain rfl : k = 8 := by omega
      obtain ⟨gg, cg, rfl, hcg, hrs⟩ := own8 HO.out
      have HBr : Hid (Below w.heap.size w wr) := HBW.out.grown HG.out HBW.out.size (fun k hk => by cases hk; exact hg)
      have HRS : Hid (RowS w3.heap.size wr gg 8 cg xs) := hrs
      have hgg : g < gg := Nat.lt_of_lt_of_le hgl hrs.lt.1
      have hwg : w.heap.size ≤ gg := by have := HBW.out.size; have := hrs.lt.1; omega
      have HXL : Hid (xs.length = 8) := hxl
      clear hrs HO HG HBW HC3
      have n1 : ¬ cg = 1 := by omega
      have hs1 : ((s.size : Nat) : Int) = 64 := by omega
      have hc1 : (1 : Int) ≤ ((cg : Nat) : Int) := by omega
      by_cases h0 : q = 0
      · subst h0
        have HRT : Hid (∃ l : List Int, l.length = 7 ∧ RowI wr.heap.size wr (some ⟨gg, 1, none⟩) l) := by
          have hr := HRS.out.row
          have hl := HXL.out
          cases xs with
          | nil => cases hl
          | cons x l => exact ⟨l, by simpa using hl, row_tail hr⟩
        clear HRS HXL hxl
        go_wp2
        go_ret2
        obtain ⟨l, hl, hr⟩ := HRT.out
        exact ⟨some ⟨gg, 1, none⟩, _, l, s, by rw [hl]; first | rfl | (simp; done), by omega, .inr ⟨_, _, rfl⟩, hr, by omega, HBr.out⟩
      by_cases h1 : q = 1
      · subst h1
        have hx : (s.extract 1 64).size ≤ 64 := by rw [ByteArray.size_extract]; omega
        have hx2 : (s.extract 1 s.size).size ≤ 64 := by rw [ByteArray.size_extract]; omega
        clear hxl
        go_wp2
        go_ret2
        have hl := HXL.out
        exact ⟨some ⟨gg, 0, none⟩, _, xs, _, by rw [hl]; first | rfl | (simp; done), by omega, .inr ⟨_, _, rfl⟩, HRS.out.row, by first | exact hx | exact hx2, HBr.out⟩
      by_cases h2 : q = 2
      · subst h2
        have hrow := heap_alloc_new wr (.cells #[.int .i64 (-1), .int .i64 4294967296, .int .i64 9223372036854775807] 3)
        have hbA : Below wr.heap.size wr (wr.alloc (.cells #[.int .i64 (-1), .int .i64 4294967296, .int .i64 9223372036854775807] 3)) := (Below.refl _ _).alloc (Nat.le_refl _) _
        have hcA := HC.out.grown hbA
        have hgr : g < wr.heap.size := HC.out.2.1
        have HCL : Hid (∀ i, i < 3 → (wr.alloc (.cells #[.int .i64 (-1), .int .i64 4294967296, .int .i64 9223372036854775807] 3)).cell? ⟨wr.heap.size, i, none⟩ = some (.int .i64 (([-1, 4294967296, 9223372036854775807] : List Int).getD i 0))) := fun i hi => by
          rw [cell_of_row _ _ i _ _ _ hrow]
          rcases (show i = 0 ∨ i = 1 ∨ i = 2 by omega) with rfl | rfl | rfl <;> rfl
        have hrA := HRS.out.next hbA
        have hBA := HBr.out.trans (hbA.mono HBr.out.size)
        clear hrow hbA hxl
        go_wp2_with fail
        generalize wr.alloc (.cells #[.int .i64 (-1), .int .i64 4294967296, .int .i64 9223372036854775807] 3) = wA at hcA HCL hrA hBA ⊢
        refine (pickInt_any w.heap.size g wr.heap.size 3 _ [-1, 4294967296, 9223372036854775807] _ (by omega) (by omega) rfl (by omega) HCL.out hcA).mono ?_
        rintro e w4 ⟨z, hz, rfl, hc4, hg4⟩
        have hr4 := hrA.grown hg4 (by omega)
        have c3 := hr4.cell (i := 3) (by omega)
        have z3 := hr4.froz 3
        have HB4 : Hid (Below w.heap.size w (w4.setCell ⟨gg, 3, none⟩ (.int .i64 z))) := (hBA.grown hg4 hBA.size (fun k hk => by cases hk; exact hg)).setCell hwg _
        have HR4 : Hid (RowI (w4.setCell ⟨gg, 3, none⟩ (.int .i64 z)).heap.size (w4.setCell ⟨gg, 3, none⟩ (.int .i64 z)) (some ⟨gg, 0, none⟩) (xs.set 3 z)) := (hr4.set 3 z).row
        clear hz HCL hcA hrA hBA hg4 hr4 hc4
        go_wp2
        go_ret2
        have hl := HXL.out
        exact ⟨some ⟨gg, 0, none⟩, _, xs.set 3 z, s, by rw [List.length_set, hl]; first | rfl | (simp; done), by rw [List.length_set]; omega, .inr ⟨_, _, rfl⟩, HR4.out, by omega, HB4.out⟩
      by_cases h3 : q = 3
      · subst h3
        clear hxl
        go_wp2_with fail
        refine (specFirst_any wr).mono ?_
        rintro e w4 ⟨v, rfl, ho, hb⟩
        obtain ⟨x, y, rfl, hA, hr⟩ := ho.row
        have HB4 : Hid (Below w.heap.size w w4) := HBr.out.trans (hb.mono HBr.out.size)
        have HR4 : Hid (RowI w4.heap.size w4 x firstI) := hr
        clear ho hb hr
        go_wp2
        go_ret2
        exact ⟨x, y, firstI, s, rfl, by rw [firstI_len]; omega, hA, HR4.out, by omega, HB4.out⟩
      have e0 : ¬ (q : Int) = 0 := by omega
      have e1 : ¬ (q : Int) = 1 := by omega
      have e2 : ¬ (q : Int) = 2 := by omega
      have e3 : ¬ (q : Int) = 3 := by omega
      clear hxl
      go_wp2
      go_ret2
      have hl := HXL.out
      exact ⟨some ⟨gg, 0, none⟩, _, xs, s, by rw [hl]; first | rfl | (simp; done), by omega, .inr ⟨_, _, rfl⟩, HRS.out.row, by omega, HBr.out⟩
end Go.Proofs.YthpkhbcahihbnaaDoor
