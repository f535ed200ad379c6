/- The laws' own helpers over arenas: markNodeS, markArena, heldNodeS, heldArena. -/
import Derived.Test.YtffnadnndmmliaaLawArena2
import Derived.WalkKit
import Derived.WalkLawsBesides
import Derived.WalkSpells
import Derived.OwnWalk
import Derived.Laws.OwnMore
import Derived.Laws.Rows
import Derived.BigRegion
namespace Go.Proofs.Ytffnadnndmmliaa
open Go.RowKit

/-- The marks: numbers that go on. -/
def markN (k : Int) : Nd := ⟨k, k + 1, k + 1 + 1, k + 1 + 1 + 1⟩
def marksN (k : Int) : Nat → List Nd
  | 0 => []
  | n + 1 => marksN k n ++ [markN (k + 4 * (n : Int))]
theorem marksN_len (k : Int) : ∀ n, (marksN k n).length = n
  | 0 => rfl
  | n + 1 => by simp [marksN, marksN_len k n]
theorem marksN_at (k : Int) : ∀ n i, i < n → (marksN k n).getD i Nd.zero = markN (k + 4 * (i : Int))
  | n + 1, i, h => by
    rw [marksN, List.getD_eq_getElem?_getD]
    by_cases hi : i < n
    · rw [List.getElem?_append_left (by rw [marksN_len]; exact hi), ← List.getD_eq_getElem?_getD]; exact marksN_at k n i hi
    · obtain rfl : i = n := by omega
      rw [List.getElem?_append_right (by rw [marksN_len]; exact Nat.le_refl _), marksN_len]; simp

theorem gb_refl (w : World) (r : Option Nat) : w.grownBy w r := ⟨rfl, rfl, rfl, Nat.le_refl _, fun _ _ _ => rfl⟩
theorem gb_set {w w' : World} {g : Nat} (h : w.grownBy w' (some g)) (j : Nat) (u : Value) : w.grownBy (w'.setCell ⟨g, j, none⟩ u) (some g) :=
  ⟨h.os, h.tape, h.output, by simpa using h.size, fun k hk hne => (Below.heap_setCell _ _ _ _ (by simpa using hne)).trans (h.block k hk hne)⟩
theorem gb_below {w w' : World} {B g : Nat} (h : w.grownBy w' (some g)) (hB : B ≤ g) (hs : B ≤ w.heap.size) : Below B w w' := ⟨h.os, h.tape, h.output, h.size, fun k hk => h.block k (by omega) (by simp; omega)⟩
set_option maxHeartbeats 1600000 in
theorem markNodeS_any (base g cap n k0 : Nat) (xs0 : List Value) (w : World) (hn : n ≤ 2097152) (hk : k0 ≤ 1000) (hown : w.ownsRow base 45 4 (.slice (some ⟨g, 0, none⟩) n cap) n xs0) :
    Calls Try.prog 84 #[.slice (some ⟨g, 0, none⟩) n cap, .int .i64 (k0 : Int)] w fun e w' => e = .returned (.int .i64 ((k0 : Int) + 4 * (n : Int))) ∧ OwnN base w' (.slice (some ⟨g, 0, none⟩) n cap) (marksN k0 n) ∧ w.grownBy w' (some g) := by
  go_enter Try.func84, Try.ntmps84
  go_wp2
  go_loopw [1, 5] (fun kk i wr => ∃ (j : Nat) (xs : List Value), j ≤ n ∧ i = .int .i64 (j : Int) ∧ kk = .int .i64 ((k0 : Int) + 4 * (j : Int)) ∧ wr.ownsRow base 45 4 (.slice (some ⟨g, 0, none⟩) n cap) n xs ∧ Hid (xs.take (j * 4) = cellsN (marksN k0 j)) ∧ Hid (w.grownBy wr (some g)))
    (fun _ i _ => n - (intOf i).toNat)
  case atStart => exact ⟨0, _, Nat.zero_le _, rfl, by simp, hown, (by show _ = _; simp [cellsN, marksN]), gb_refl _ _⟩
  case round =>
    obtain ⟨j, xs, hj, rfl, rfl, ho, HT, HG⟩ := hrel
    have hxl : xs.length = n * 4 := ho.1
    by_cases hlt : j < n
    · have hi0 : (0 : Int) ≤ (j : Int) := by omega
      have hi1 : (j : Int) < (n : Int) := by omega
      obtain ⟨u0, e0⟩ : ∃ u, wr.cell? ⟨g, j * 4, none⟩ = some u := by rw [ho.cellAt (j * 4) (by omega)]; exact ⟨_, List.getElem?_eq_getElem (by omega)⟩
      obtain ⟨u1, e1⟩ : ∃ u, wr.cell? ⟨g, j * 4 + 1, none⟩ = some u := by rw [ho.cellAt (j * 4 + 1) (by omega)]; exact ⟨_, List.getElem?_eq_getElem (by omega)⟩
      obtain ⟨u2, e2⟩ : ∃ u, wr.cell? ⟨g, j * 4 + 2, none⟩ = some u := by rw [ho.cellAt (j * 4 + 2) (by omega)]; exact ⟨_, List.getElem?_eq_getElem (by omega)⟩
      obtain ⟨u3, e3⟩ : ∃ u, wr.cell? ⟨g, j * 4 + 3, none⟩ = some u := by rw [ho.cellAt (j * 4 + 3) (by omega)]; exact ⟨_, List.getElem?_eq_getElem (by omega)⟩
      have f0 := ho.frozenAt (j * 4)
      have f1 := ho.frozenAt (j * 4 + 1)
      have f2 := ho.frozenAt (j * 4 + 2)
      have f3 := ho.frozenAt (j * 4 + 3)
      have HS : Hid _ := ((((ho.stored (j * 4) (.int .i64 ((k0 : Int) + 4 * (j : Int)))).1.stored (j * 4 + 1) (.int .i64 ((k0 : Int) + 4 * (j : Int) + 1))).1.stored (j * 4 + 2) (.int .i64 ((k0 : Int) + 4 * (j : Int) + 1 + 1))).1.stored (j * 4 + 3) (.int .i64 ((k0 : Int) + 4 * (j : Int) + 1 + 1 + 1))).1
      have HG4 : Hid _ := gb_set (gb_set (gb_set (gb_set HG.out (j * 4) (.int .i64 ((k0 : Int) + 4 * (j : Int)))) (j * 4 + 1) (.int .i64 ((k0 : Int) + 4 * (j : Int) + 1))) (j * 4 + 2) (.int .i64 ((k0 : Int) + 4 * (j : Int) + 1 + 1))) (j * 4 + 3) (.int .i64 ((k0 : Int) + 4 * (j : Int) + 1 + 1 + 1))
      have HT4 : Hid (((((xs.set (j * 4) (.int .i64 ((k0 : Int) + 4 * (j : Int)))).set (j * 4 + 1) (.int .i64 ((k0 : Int) + 4 * (j : Int) + 1))).set (j * 4 + 2) (.int .i64 ((k0 : Int) + 4 * (j : Int) + 1 + 1))).set (j * 4 + 3) (.int .i64 ((k0 : Int) + 4 * (j : Int) + 1 + 1 + 1))).take ((j + 1) * 4) = cellsN (marksN k0 (j + 1))) := by
        show _ = _
        rw [show (j + 1) * 4 = j * 4 + 4 by omega, set4_take xs (j * 4) _ _ _ _ (by omega), HT.out, marksN, cellsN_append]; rfl
      clear ho HT HG
      go_wp2
      go_roundw
      case rel => exact ⟨j + 1, _, by omega, by go_num, by go_num, HS.out, HT4, HG4⟩
      case measure => simp [intOf]; omega
    · obtain rfl : j = n := by omega
      have HE : Hid (xs = cellsN (marksN k0 j)) := by
        show _ = _
        have := HT.out
        rw [List.take_of_length_le (by omega)] at this
        exact this
      clear HT
      go_wp2
      go_ret
      exact ⟨rfl, by unfold OwnN; rw [← HE.out, marksN_len]; exact ho, HG.out⟩
theorem markNodeS_nil (k : Int) (w : World) :
    Calls Try.prog 84 #[.slice none 0 0, .int .i64 k] w fun e w' => e = .returned (.int .i64 k) ∧ w = w' := by
  go_enter Try.func84, Try.ntmps84
  go_wp2
  go_loop [1, 5] (fun kk i => kk = .int .i64 k ∧ i = .int .i64 0) (fun _ _ => 0)
  case atStart => exact ⟨rfl, rfl⟩
  case round =>
    obtain ⟨rfl, rfl⟩ := hrel
    go_wp2
    go_ret
    exact ⟨rfl, rfl⟩
set_option maxHeartbeats 1600000 in
theorem heldNodeS_any (a : Option Addr) (cap n k0 : Nat) (w : World) (hn : n ≤ 2097152) (hk : k0 ≤ 1000) (hr : RowN w.heap.size w a (marksN k0 n)) :
    Calls Try.prog 85 #[.slice a n cap, .int .i64 (k0 : Int)] w fun e w' => e = .returned (.int .i64 ((k0 : Int) + 4 * (n : Int))) ∧ Below w.heap.size w w' := by
  have HR : Hid (RowN w.heap.size w a (marksN k0 n)) := hr
  clear hr
  go_enter Try.func85, Try.ntmps85
  go_wp2
  go_loopw [1, 5] (fun kk i wr => ∃ j : Nat, j ≤ n ∧ i = .int .i64 (j : Int) ∧ kk = .int .i64 ((k0 : Int) + 4 * (j : Int)) ∧ Below w.heap.size w wr)
    (fun _ i _ => n - (intOf i).toNat)
  case atStart => exact ⟨0, Nat.zero_le _, rfl, by simp, Below.refl _ _⟩
  case round =>
    obtain ⟨j, hj, rfl, rfl, hbel⟩ := hrel
    by_cases hlt : j < n
    · have hi0 : (0 : Int) ≤ (j : Int) := by omega
      have hi1 : (j : Int) < (n : Int) := by omega
      have hjl : j < (marksN k0 n).length := by rw [marksN_len]; exact hlt
      obtain ⟨b, off, rfl⟩ := HR.out.addr hjl
      obtain ⟨hb, c0, c1, c2, c3⟩ := HR.out.at hbel hjl
      rw [marksN_at k0 n j hlt] at c0 c1 c2 c3
      simp only [markN] at c0 c1 c2 c3
      clear hjl
      go_wp2
      go_roundw
      case rel => exact ⟨j + 1, by omega, by go_num, by go_num, hbel⟩
      case measure => simp [intOf]; omega
    · obtain rfl : j = n := by omega
      go_wp2
      go_ret
      exact ⟨rfl, hbel⟩
theorem gb_alloc {w w' : World} {r : Option Nat} {o : Obj} (h : (w.alloc o).grownBy w' r) : w.grownBy w' r :=
  ⟨h.os, h.tape, h.output, Nat.le_trans (by simp) h.size, fun k hk hne => (h.block k (by simp; omega) hne).trans (heap_alloc_old w o hk)⟩
/-- markArena on an arena that the call owns: it holds marks then; nothing else has turned. -/
theorem markArena_any (base k0 : Nat) (v : Value) (ns : List Nd) (w : World) (hn : ns.length ≤ 2097152) (hk : k0 ≤ 1000) (hown : OwnN base w v ns) :
    Calls Try.prog 20 #[.agg #[v], .int .i64 (k0 : Int)] w fun e w' => e = .returned (.int .i64 ((k0 : Int) + 4 * (ns.length : Int))) ∧ OwnN base w' v (marksN k0 ns.length) ∧ w.grownBy w' v.ownBlock := by
  rcases hown.2 with ⟨rfl, h0⟩ | ⟨g, cap, cur, rfl, hg, hh, _⟩
  · have HO : Hid (OwnN base (w.alloc (.cells #[.slice none 0 0] 28)) (.slice none 0 0) (marksN k0 ns.length)) := by
      rw [h0]; exact ⟨rfl, .inl ⟨rfl, rfl⟩⟩
    have hz : (ns.length : Int) = 0 := by omega
    have HG : Hid (w.grownBy (w.alloc (.cells #[.slice none 0 0] 28)) (Value.slice none 0 0).ownBlock) := gb_alloc (gb_refl _ _)
    clear hown
    go_enter Try.func20, Try.ntmps20
    go_wp2_with fail
    refine (markNodeS_nil _ _).mono ?_
    rintro e w1 ⟨rfl, rfl⟩
    go_wp2
    go_ret
    exact ⟨by go_num, HO.out, HG.out⟩
  · have HM : Hid _ := markNodeS_any base g cap ns.length k0 (cellsN ns) (w.alloc (.cells #[.slice (some ⟨g, 0, none⟩) ns.length cap] 28)) hn hk (hown.alloc _)
    clear hown hh
    go_enter Try.func20, Try.ntmps20
    go_wp2_with fail
    refine Calls.mono HM.out ?_
    rintro e w1 ⟨rfl, ho, hgr⟩
    have hgb : w.grownBy w1 (Value.slice (some ⟨g, 0, none⟩) ns.length cap).ownBlock := gb_alloc hgr
    clear HM hgr
    go_wp2
    go_ret
    exact ⟨rfl, ho, hgb⟩
theorem heldArena_any (k0 : Nat) (a : Option Addr) (n cap : Nat) (w : World) (hn : n ≤ 2097152) (hk : k0 ≤ 1000) (hr : RowN w.heap.size w a (marksN k0 n)) :
    Calls Try.prog 21 #[.agg #[.slice a n cap], .int .i64 (k0 : Int)] w fun e w' => e = .returned (.int .i64 ((k0 : Int) + 4 * (n : Int))) ∧ Below w.heap.size w w' := by
  have hb0 : Below w.heap.size w (w.alloc (.cells #[.slice a n cap] 28)) := (Below.refl _ _).alloc (Nat.le_refl _) _
  have HH : Hid _ := heldNodeS_any a cap n k0 (w.alloc (.cells #[.slice a n cap] 28)) hn hk (hr.grown hb0)
  have HB : Hid _ := hb0
  clear hr hb0
  go_enter Try.func21, Try.ntmps21
  go_wp2_with fail
  refine Calls.mono HH.out ?_
  rintro e w1 ⟨rfl, hb1⟩
  go_wp2
  go_ret
  exact ⟨rfl, HB.out.trans (hb1.mono HB.out.size)⟩
end Go.Proofs.Ytffnadnndmmliaa
