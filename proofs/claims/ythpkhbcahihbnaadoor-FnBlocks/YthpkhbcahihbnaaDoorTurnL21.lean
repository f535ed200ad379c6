/- A drawn text, and one with a byte turned (the laws of chapter 21): DrawTextOf, turned. -/
import Derived.Test.YthpkhbcahihbnaaDoorCodeW
import Derived.Test.YthpkhbcahihbnaaDoorCurW
import Derived.Test.YthpkhbcahihbnaaDoorRowC
import Derived.Test.YthpkhbcahihbnaaDoorPad21
import Derived.WalkKit
import Derived.WalkLawsBesides
import Derived.WalkSpells
import Derived.BigRegion
namespace Go.Proofs.YthpkhbcahihbnaaDoor
open Go.RowKit Go.PlainAid
set_option maxRecDepth 20000
set_option linter.unusedVariables false
theorem grownThen21 {w w1 w2 : World} {r : Option Nat} (h : Below w.heap.size w w1) (h2 : w1.grownBy w2 r) : w.grownBy w2 r :=
  ⟨h2.os.trans h.os, h2.tape.trans h.tape, h2.output.trans h.output, Nat.le_trans h.size h2.size, fun k hk hne => (h2.block k (Nat.lt_of_lt_of_le hk h.size) hne).trans (h.block k hk)⟩
theorem grownTwice21 {w w1 w2 : World} {r : Option Nat} (h : w.grownBy w1 r) (h2 : w1.grownBy w2 r) : w.grownBy w2 r :=
  ⟨h2.os.trans h.os, h2.tape.trans h.tape, h2.output.trans h.output, Nat.le_trans h.size h2.size, fun k hk hne => (h2.block k (Nat.lt_of_lt_of_le hk h.size) hne).trans (h.block k hk hne)⟩
set_option maxHeartbeats 800000 in
theorem some21_any (B g : Nat) (w : World) (hc : Cur B w g) :
    Calls Tryd.prog 15 #[.pointer (some ⟨g, 0, none⟩)] w fun e w' => ∃ s : ByteArray, e = .returned (.string s) ∧ s.size ≤ 200 ∧ Cur B w' g ∧ w.grownBy w' (some g) := by
  have hgl : g < w.heap.size := hc.2.1
  have hrow := heap_alloc_new w (.cells #[.int .i64 0, .int .i64 1, .int .i64 3, .int .i64 9, .int .i64 54, .int .i64 55, .int .i64 56, .int .i64 63, .int .i64 64, .int .i64 65, .int .i64 119, .int .i64 120, .int .i64 200] 3)
  have hbA : Below w.heap.size w (w.alloc (.cells #[.int .i64 0, .int .i64 1, .int .i64 3, .int .i64 9, .int .i64 54, .int .i64 55, .int .i64 56, .int .i64 63, .int .i64 64, .int .i64 65, .int .i64 119, .int .i64 120, .int .i64 200] 3)) := (Below.refl _ _).alloc (Nat.le_refl _) _
  have hc2 : Cur B (w.alloc (.cells #[.int .i64 0, .int .i64 1, .int .i64 3, .int .i64 9, .int .i64 54, .int .i64 55, .int .i64 56, .int .i64 63, .int .i64 64, .int .i64 65, .int .i64 119, .int .i64 120, .int .i64 200] 3)) g := hc.grown hbA
  have HCL : Hid (∀ i, i < 13 → (w.alloc (.cells #[.int .i64 0, .int .i64 1, .int .i64 3, .int .i64 9, .int .i64 54, .int .i64 55, .int .i64 56, .int .i64 63, .int .i64 64, .int .i64 65, .int .i64 119, .int .i64 120, .int .i64 200] 3)).cell? ⟨w.heap.size, i, none⟩ = some (.int .i64 (([0, 1, 3, 9, 54, 55, 56, 63, 64, 65, 119, 120, 200] : List Int).getD i 0))) := fun i hi => by
    rw [cell_of_row _ _ i _ _ _ hrow]
    rcases (show i = 0 ∨ i = 1 ∨ i = 2 ∨ i = 3 ∨ i = 4 ∨ i = 5 ∨ i = 6 ∨ i = 7 ∨ i = 8 ∨ i = 9 ∨ i = 10 ∨ i = 11 ∨ i = 12 by omega) with rfl | rfl | rfl | rfl | rfl | rfl | rfl | rfl | rfl | rfl | rfl | rfl | rfl <;> rfl
  clear hrow hc
  go_enter Tryd.func15, Tryd.ntmps15
  go_wp2_with fail
  generalize w.alloc (.cells #[.int .i64 0, .int .i64 1, .int .i64 3, .int .i64 9, .int .i64 54, .int .i64 55, .int .i64 56, .int .i64 63, .int .i64 64, .int .i64 65, .int .i64 119, .int .i64 120, .int .i64 200] 3) = w2 at hc2 hbA HCL ⊢
  refine (pickInt_any B g w.heap.size 13 _ [0, 1, 3, 9, 54, 55, 56, 63, 64, 65, 119, 120, 200] _ (by omega) (by omega) rfl (by omega) HCL.out hc2).mono ?_
  rintro e w3 ⟨z, hz, rfl, hc3, hg3⟩
  have hbz : 0 ≤ z ∧ z ≤ 200 := by simp at hz; omega
  have HG3 : Hid (w.grownBy w3 (some g)) := grownThen21 hbA hg3
  clear hz HCL hc2 hbA hg3
  obtain ⟨k, rfl⟩ : ∃ k : Nat, z = (k : Int) := ⟨z.toNat, by omega⟩
  go_wp2_with fail
  refine (text_any B g k _ (by omega) hc3).mono ?_
  rintro e w4 ⟨s, rfl, hs, hc4, hg4⟩
  have HG4 : Hid (w.grownBy w4 (some g)) := grownTwice21 HG3.out hg4
  clear hg4 hc3
  go_wp2
  go_ret
  exact ⟨s, rfl, by omega, hc4, HG4.out⟩
theorem drawText_any (a : Option Addr) (len cap : Nat) (w : World) (hc : CodeIn w.heap.size w a len) :
    Calls Tryd.prog 5 #[.slice a len cap] w fun e w' => ∃ s : ByteArray, e = .returned (.string s) ∧ s.size ≤ 200 ∧ Below w.heap.size w w' := by
  go_enter Tryd.func5, Tryd.ntmps5
  go_wp2_with fail
  refine (new_any a len cap _ hc).mono ?_
  rintro e w1 ⟨g, rfl, hc1, hb1⟩
  go_wp2_with fail
  refine (some21_any w.heap.size g _ hc1).mono ?_
  rintro e w2 ⟨s, rfl, hs, hc2, hg2⟩
  go_wp2
  go_ret
  exact ⟨s, rfl, hs, hb1.grown hg2 hb1.size (fun k hk => by cases hk; exact hc1.1)⟩
theorem fill_ne {t u : ByteArray} (hs : u.size = t.size) (h : ∃ i, i < t.size ∧ btN u i ≠ btN t i) : fillT t ≠ fillT u := by
  obtain ⟨i, hi, hne⟩ := h
  intro e
  apply hne
  have h1 : btN (fillT t) i = btN t i := by
    unfold fillT
    unfold btN
    rw [bt_app_left _ _ (by rw [sz_app, sz_app]; omega), bt_app_left _ _ (by rw [sz_app]; omega), bt_app_left _ _ hi]
  have h2 : btN (fillT u) i = btN u i := by
    unfold fillT
    unfold btN
    rw [bt_app_left _ _ (by rw [sz_app, sz_app]; omega), bt_app_left _ _ (by rw [sz_app]; omega), bt_app_left _ _ (by omega)]
  rw [← h1, ← h2, e]
end Go.Proofs.YthpkhbcahihbnaaDoor
