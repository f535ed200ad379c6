/- What chapter 1's drawing functions hand out: some number, some text. -/
import Derived.Test.YtbnpllcmjkapmaaDoorCurW
import Derived.WalkKit
import Derived.WalkLawsBesides
import Derived.WalkSpells
namespace Go.Proofs.YtbnpllcmjkapmaaDoor
open Go.RowKit

theorem Cur.size {B g : Nat} {w : World} (h : Cur B w g) : g < w.heap.size := h.2.1
theorem Cur.base {B g : Nat} {w : World} (h : Cur B w g) : B ≤ g := h.1
theorem Cur.alloc {B g : Nat} {w : World} (h : Cur B w g) (o : Obj) : Cur B (w.alloc o) g := h.grown ((Below.refl _ _).alloc (Nat.le_refl _) _)
theorem grown_alloc (w : World) (o : Obj) (r : Option Nat) : w.grownBy (w.alloc o) r := grown_below ((Below.refl _ _).alloc (Nat.le_refl _) _) r

set_option maxHeartbeats 800000 in
theorem number_any (B g : Nat) (w : World) (hc : Cur B w g) :
    Calls Tryd.prog 15 #[.pointer (some ⟨g, 0, none⟩)] w fun e w' => ∃ n : Int, e = .returned (.int .i64 n) ∧ Cur B w' g ∧ w.grownBy w' (some g) := by
  go_enter Tryd.func15, Tryd.ntmps15
  go_wp2_with fail
  refine (below_any B g 4 _ (by omega) (by omega) hc).mono ?_
  rintro e w1 ⟨x, rfl, hx, hc1, hg1⟩
  rcases (show x = 0 ∨ x = 1 ∨ (x = 2 ∨ x = 3) by omega) with rfl | rfl | hx2
  · have hne : w1.heap.size ≠ g := by have := hc1.size; omega
    have hp := pickInt_any B g w1.heap.size 10 10 [-1, 0, 127, 128, 16383, 16384, 1000000000, 1000000001, 9223372036854775807, -9223372036854775808] (w1.alloc (.cells #[.int .i64 (-1), .int .i64 0, .int .i64 127, .int .i64 128, .int .i64 16383, .int .i64 16384, .int .i64 1000000000, .int .i64 1000000001, .int .i64 9223372036854775807, .int .i64 (-9223372036854775808)] 3)) (by omega) (by omega) rfl hne (fun i hi => by
      rw [cell_of_row _ w1.heap.size i _ _ _ (heap_alloc_new w1 _)]
      rcases (show i = 0 ∨ i = 1 ∨ i = 2 ∨ i = 3 ∨ i = 4 ∨ i = 5 ∨ i = 6 ∨ i = 7 ∨ i = 8 ∨ i = 9 by omega) with rfl | rfl | rfl | rfl | rfl | rfl | rfl | rfl | rfl | rfl <;> rfl) (hc1.alloc _)
    have HP : Hid _ := hp
    clear hp
    go_wp2_with fail
    refine Calls.mono HP.out ?_
    rintro e w2 ⟨z, _, rfl, hc2, hg2⟩
    clear HP
    go_wp2
    go_ret
    exact ⟨z, rfl, hc2, grown_trans hg1 (grown_trans (grown_alloc _ _ _) hg2)⟩
  · go_wp2_with fail
    refine (below_any B g 1000000000 _ (by omega) (by omega) hc1).mono ?_
    rintro e w2 ⟨z, rfl, _, hc2, hg2⟩
    go_wp2
    go_ret
    exact ⟨_, rfl, hc2, grown_trans hg1 hg2⟩
  · have h0 : ((x : Int) == 0) = false := by simp; omega
    have h1 : ((x : Int) == 1) = false := by simp; omega
    clear hx2
    go_wp2_with fail
    refine (below_any B g 400 _ (by omega) (by omega) hc1).mono ?_
    rintro e w2 ⟨z, rfl, _, hc2, hg2⟩
    go_wp2
    go_ret
    exact ⟨_, rfl, hc2, grown_trans hg1 hg2⟩

theorem drawVar_any (a : Option Addr) (len cap : Nat) (w : World) (hc : CodeIn w.heap.size w a len) :
    Calls Tryd.prog 5 #[.slice a len cap] w fun e w' => ∃ n : Int, e = .returned (.int .i64 n) ∧ Below w.heap.size w w' := by
  go_enter Tryd.func5, Tryd.ntmps5
  go_wp2_with fail
  refine (new_any a len cap _ hc).mono ?_
  rintro e w1 ⟨g, rfl, hc1, hb1⟩
  go_wp2_with fail
  refine (number_any w.heap.size g _ hc1).mono ?_
  rintro e w2 ⟨n, rfl, hc2, hg2⟩
  go_wp2
  go_ret
  exact ⟨n, rfl, hb1.grown hg2 hb1.size (fun k hk => by cases hk; exact hc1.base)⟩

set_option maxHeartbeats 400000 in
theorem drawHex_any (a : Option Addr) (len cap : Nat) (w : World) (hc : CodeIn w.heap.size w a len) :
    Calls Tryd.prog 10 #[.slice a len cap] w fun e w' => ∃ s : ByteArray, e = .returned (.string s) ∧ s.size ≤ 20001 ∧ Below w.heap.size w w' := by
  go_enter Tryd.func10, Tryd.ntmps10
  go_wp2_with fail
  refine (new_any a len cap _ hc).mono ?_
  rintro e w1 ⟨g, rfl, hc1, hb1⟩
  go_wp2_with fail
  refine (once_any w.heap.size g 60 _ (by omega) (by omega) hc1).mono ?_
  rintro e w2 ⟨x, rfl, hc2, hg2⟩
  have hb2 : Below w.heap.size w w2 := hb1.grown hg2 hb1.size (fun k hk => by cases hk; exact hc1.base)
  cases x with
  | true =>
    go_wp2_with fail
    refine (below_any w.heap.size g 2 _ (by omega) (by omega) hc2).mono ?_
    rintro e w3 ⟨y, rfl, hy, hc3, hg3⟩
    have hb3 : Below w.heap.size w w3 := hb2.grown hg3 hb2.size (fun k hk => by cases hk; exact hc1.base)
    have hL := long_any (20000 + y) 200 w3 (by omega)
    rw [show ((20000 + y : Nat) : Int) = 20000 + (y : Int) by omega] at hL
    have HL : Hid _ := hL
    clear hL
    go_wp2_with fail
    refine Calls.mono HL.out ?_
    rintro e w4 ⟨s, rfl, hs, hb4⟩
    clear HL
    go_wp2
    go_ret
    exact ⟨s, rfl, by omega, hb3.trans (hb4.mono hb3.size)⟩
  | false =>
    go_wp2_with fail
    refine (below_any w.heap.size g 30 _ (by omega) (by omega) hc2).mono ?_
    rintro e w3 ⟨y, rfl, hy, hc3, hg3⟩
    have hb3 : Below w.heap.size w w3 := hb2.grown hg3 hb2.size (fun k hk => by cases hk; exact hc1.base)
    go_wp2_with fail
    refine (text_any w.heap.size g y _ (by omega) hc3).mono ?_
    rintro e w4 ⟨s, rfl, hs, hc4, hg4⟩
    go_wp2
    go_ret
    exact ⟨s, rfl, by omega, hb3.grown hg4 hb3.size (fun k hk => by cases hk; exact hc1.base)⟩
end Go.Proofs.YtbnpllcmjkapmaaDoor
