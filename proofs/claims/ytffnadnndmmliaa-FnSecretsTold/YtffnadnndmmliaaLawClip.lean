/- The laws' marks on an arena whose slice shows less room than its block has (slices.Clip). -/
import Derived.Test.YtffnadnndmmliaaLawArena3
import Derived.Test.YtffnadnndmmliaaLawKeep
import Derived.WalkKit
import Derived.WalkLawsBesides
import Derived.OwnWalk
namespace Go.Proofs.Ytffnadnndmmliaa
open Go.RowKit
/-- A row of nodes that the call owns, shown with whatever room. -/
def OwnC (base : Nat) (w : World) (v : Value) (ns : List Nd) : Prop := ∃ a cap cp, v = .slice a ns.length cap ∧ AddrN a cap ∧ OwnN base w (.slice a ns.length cp) ns
theorem OwnN.clip {base : Nat} {w : World} {v : Value} {ns : List Nd} (h : OwnN base w v ns) : OwnC base w v ns := by
  obtain ⟨a, cap, rfl, ha, _⟩ := h.row
  exact ⟨a, cap, cap, rfl, ha, h⟩
set_option maxHeartbeats 1600000 in
theorem markNodeSC_any (base g cap cp n k0 : Nat) (xs0 : List Value) (w : World) (hn : n ≤ 2097152) (hk : k0 ≤ 1000) (hown : w.ownsRow base 45 4 (.slice (some ⟨g, 0, none⟩) n cp) n xs0) :
    Calls Try.prog 84 #[.slice (some ⟨g, 0, none⟩) n cap, .int .i64 (k0 : Int)] w fun e w' => e = .returned (.int .i64 ((k0 : Int) + 4 * (n : Int))) ∧ OwnN base w' (.slice (some ⟨g, 0, none⟩) n cp) (marksN k0 n) ∧ w.grownBy w' (some g) := by
  go_enter Try.func84, Try.ntmps84
  go_wp2
  go_loopw [1, 5] (fun kk i wr => ∃ (j : Nat) (xs : List Value), j ≤ n ∧ i = .int .i64 (j : Int) ∧ kk = .int .i64 ((k0 : Int) + 4 * (j : Int)) ∧ wr.ownsRow base 45 4 (.slice (some ⟨g, 0, none⟩) n cp) n xs ∧ Hid (xs.take (j * 4) = cellsN (marksN k0 j)) ∧ Hid (w.grownBy wr (some g)))
    (fun _ i _ => n - (intOf i).toNat)
  case atStart => exact ⟨0, _, Nat.zero_le _, rfl, by simp, hown, (by show _ = _; simp [cellsN, marksN]), gb_refl _ _⟩
  case round =>
    obtain ⟨j, xs, hj, rfl, rfl, ho, HT, HG⟩ := hrel
    have hxl : xs.length = n * 4 := ho.1
    by_cases hlt : j < n
    · have hi0 : (0 : Int) ≤ (j : Int) := by omega
      have hi1 : (j : Int) < (n : Int) := by omega
      obtain ⟨u0, e0⟩ : ∃ u, wr.cell? ⟨g, j * 4, none⟩ = some u := by rw [ho.cellAt (j * 4) (by omega)]; exact ⟨_, List.getElem?_eq_getElem (by omega)⟩
      obtain ⟨u1, e1⟩ : ∃ u, wr.cell? ⟨g, j * 4 + 1, none⟩ = some u := by rw [ho.cellAt (j * 4 + 1) (by omega)]; exact ⟨_, List.getElem?_eq_getElem (by omega)⟩
      obtain ⟨u2, e2⟩ : ∃ u, wr.cell? ⟨g, j * 4 + 2, none⟩ = some u := by rw [ho.cellAt (j * 4 + 2) (by omega)]; exact ⟨_, List.getElem?_eq_getElem (by omega)⟩
      obtain ⟨u3, e3⟩ : ∃ u, wr.cell? ⟨g, j * 4 + 3, none⟩ = some u := by rw [ho.cellAt (j * 4 + 3) (by omega)]; exact ⟨_, List.getElem?_eq_getElem (by omega)⟩
      have f0 := ho.frozenAt (j * 4)
      have f1 := ho.frozenAt (j * 4 + 1)
      have f2 := ho.frozenAt (j * 4 + 2)
      have f3 := ho.frozenAt (j * 4 + 3)
      have HS : Hid _ := ((((ho.stored (j * 4) (.int .i64 ((k0 : Int) + 4 * (j : Int)))).1.stored (j * 4 + 1) (.int .i64 ((k0 : Int) + 4 * (j : Int) + 1))).1.stored (j * 4 + 2) (.int .i64 ((k0 : Int) + 4 * (j : Int) + 1 + 1))).1.stored (j * 4 + 3) (.int .i64 ((k0 : Int) + 4 * (j : Int) + 1 + 1 + 1))).1
      have HG4 : Hid _ := gb_set (gb_set (gb_set (gb_set HG.out (j * 4) (.int .i64 ((k0 : Int) + 4 * (j : Int)))) (j * 4 + 1) (.int .i64 ((k0 : Int) + 4 * (j : Int) + 1))) (j * 4 + 2) (.int .i64 ((k0 : Int) + 4 * (j : Int) + 1 + 1))) (j * 4 + 3) (.int .i64 ((k0 : Int) + 4 * (j : Int) + 1 + 1 + 1))
      have HT4 : Hid (((((xs.set (j * 4) (.int .i64 ((k0 : Int) + 4 * (j : Int)))).set (j * 4 + 1) (.int .i64 ((k0 : Int) + 4 * (j : Int) + 1))).set (j * 4 + 2) (.int .i64 ((k0 : Int) + 4 * (j : Int) + 1 + 1))).set (j * 4 + 3) (.int .i64 ((k0 : Int) + 4 * (j : Int) + 1 + 1 + 1))).take ((j + 1) * 4) = cellsN (marksN k0 (j + 1))) := by
        show _ = _
        rw [show (j + 1) * 4 = j * 4 + 4 by omega, set4_take xs (j * 4) _ _ _ _ (by omega), HT.out, marksN, cellsN_append]; rfl
      clear ho HT HG
      go_wp2
      go_roundw
      case rel => exact ⟨j + 1, _, by omega, by go_num, by go_num, HS.out, HT4, HG4⟩
      case measure => simp [intOf]; omega
    · obtain rfl : j = n := by omega
      have HE : Hid (xs = cellsN (marksN k0 j)) := by
        show _ = _
        have := HT.out
        rw [List.take_of_length_le (by omega)] at this
        exact this
      clear HT
      go_wp2
      go_ret
      exact ⟨rfl, by unfold OwnN; rw [← HE.out, marksN_len]; exact ho, HG.out⟩
/-- markArena on an arena that the call owns, whatever room it shows. -/
theorem markArenaC_any (base k0 : Nat) (a : Option Addr) (cap cp : Nat) (ns : List Nd) (w : World) (hn : ns.length ≤ 2097152) (hk : k0 ≤ 1000) (ha : AddrN a cap) (hown : OwnN base w (.slice a ns.length cp) ns) :
    Calls Try.prog 20 #[.agg #[.slice a ns.length cap], .int .i64 (k0 : Int)] w fun e w' => e = .returned (.int .i64 ((k0 : Int) + 4 * (ns.length : Int))) ∧ OwnN base w' (.slice a ns.length cp) (marksN k0 ns.length) ∧ w.grownBy w' (Value.slice a ns.length cp).ownBlock := by
  rcases hown.2 with ⟨e, h0⟩ | ⟨g, cp', cur, e, hg, hh, _⟩
  · obtain ⟨rfl, h1, rfl⟩ : a = none ∧ ns.length = 0 ∧ cp = 0 := by simpa using e
    rcases ha with ⟨_, rfl⟩ | ⟨b, off, e⟩
    · have := markArena_any base k0 (.slice none ns.length 0) ns w hn hk hown
      exact this
    · cases e
  · obtain ⟨rfl, rfl⟩ : a = some ⟨g, 0, none⟩ ∧ cp = cp' := by simpa using e
    have HM : Hid _ := markNodeSC_any base g cap cp ns.length k0 (cellsN ns) (w.alloc (.cells #[.slice (some ⟨g, 0, none⟩) ns.length cap] 28)) hn hk (hown.alloc _)
    clear hown hh ha
    go_enter Try.func20, Try.ntmps20
    go_wp2_with fail
    refine Calls.mono HM.out ?_
    rintro e w1 ⟨rfl, ho, hgr⟩
    have hgb : w.grownBy w1 (Value.slice (some ⟨g, 0, none⟩) ns.length cp).ownBlock := gb_alloc hgr
    clear HM hgr
    go_wp2
    go_ret
    exact ⟨rfl, ho, hgb⟩
end Go.Proofs.Ytffnadnndmmliaa
