/- The drawing functions DrawArena and DrawReadTerm of the specification: what they hand back, within bounds. -/
import Derived.Test.YtpfncjnhmkjceaaDrawSpoilt
import Derived.WalkKit
import Derived.WalkLawsBesides
import Derived.WalkSpells
import Derived.Laws.Rows
import Derived.Laws.ResultCell
namespace Go.Proofs.Ytpfncjnhmkjceaa
open Go.RowKit Go.PlainAid
set_option linter.unusedVariables false
/-- The cursor stays where a box of another kind is written. -/
theorem cur_set {B g r : Nat} {w : World} {a' : Option Addr} {n c : Nat} {v : Value} (h : Cur B w g) (hr : w.heap[r]? = some (.cells #[.slice a' n c] 26 (0, 0))) (hne : r ≠ g) : Cur B (w.setCell ⟨r, 0, none⟩ v) g := by
  obtain ⟨h1, h2, a, len, cap, i, hh, h3, h4, h5⟩ := h
  refine ⟨h1, by simpa using h2, a, len, cap, i, hh, h3, ⟨h4.1, ?_⟩, (Below.heap_setCell _ _ _ _ (by simpa using Ne.symm hne)).trans h5⟩
  rcases h4.2 with h0 | ⟨b, off, rfl, hbB, hc⟩
  · exact .inl h0
  · refine .inr ⟨b, off, rfl, hbB, fun j hj => ?_⟩
    obtain ⟨z, hz, h6⟩ := hc j hj
    by_cases e : b = r
    · subst e
      rw [cell_of_row w b (off + j) _ _ _ hr] at hz
      rcases Nat.eq_zero_or_pos (off + j) with e0 | e0
      · rw [e0] at hz; simp at hz
      · rw [Array.getElem?_eq_none (by simp; omega)] at hz; simp at hz
    · refine ⟨z, ?_, h6⟩
      rw [World.cell?_of_block (w := w) (Below.heap_setCell _ _ _ _ (by simpa using e))]; exact hz
set_option maxHeartbeats 800000 in
theorem drawArena_any (a : Option Addr) (len cap : Nat) (w : World) (hc : CodeIn w.heap.size w a len) :
    Calls Try.prog 10 #[.slice a len cap] w fun e w' => ∃ v ns, e = .returned (.agg #[v]) ∧ 1 ≤ ns.length ∧ ns.length ≤ 13 ∧ allFrom ns ns 0 = true ∧ OwnN w.heap.size w' v ns ∧ Below w.heap.size w w' := by
  have hb0 : Below w.heap.size w (w.alloc (.cells #[.slice none 0 0] 26)) := (Below.refl _ _).alloc (Nat.le_refl _) _
  have hx0 := heap_alloc_new w (.cells #[.slice none 0 0] 26)
  have hc0 := codeIn_later hc hb0
  have hs0 : (w.alloc (.cells #[.slice none 0 0] 26)).heap.size = w.heap.size + 1 := by simp
  clear hc
  go_enter Try.func10, Try.ntmps10
  go_wp2_with fail
  generalize w.alloc (.cells #[.slice none 0 0] 26) = w0 at hb0 hx0 hc0 hs0 ⊢
  refine (new_any _ _ _ _ hc0).mono ?_
  rintro e w1 ⟨g, rfl, hc1, hb1⟩
  have hge := hc1.1
  go_wp2_with fail
  refine (arena_any w0.heap.size g _ hc1).mono ?_
  rintro e w2 ⟨v2, ns, rfl, hn1, hn2, hall, ho2, hc2, hg2⟩
  have hs1 := hb1.size
  have hs2 := hg2.size
  have hB2 : Below w0.heap.size w0 w2 := hb1.grown hg2 hb1.size (fun k hk => by cases hk; exact hge)
  obtain ⟨a2, cap2, rfl, _, _⟩ := ho2.row
  have hx2 := (hB2.block w.heap.size (by omega)).trans hx0
  have r0 : w2.cell? ⟨w.heap.size, 0, none⟩ = some (.slice none 0 0) := (cell_of_row _ _ 0 _ _ _ hx2).trans rfl
  have f0 : w2.frozen? ⟨w.heap.size, 0, none⟩ = false := frozen_of_row _ _ 0 _ _ hx2
  have HBL : Hid ((w2.setCell ⟨w.heap.size, 0, none⟩ (.slice a2 ns.length cap2)).heap[w.heap.size]? = some (.cells #[.slice a2 ns.length cap2] 26 (0, 0))) := (heap_setCell_same _ _ 0 _ _ _ hx2).trans rfl
  have HO : Hid (OwnN w.heap.size (w2.setCell ⟨w.heap.size, 0, none⟩ (.slice a2 ns.length cap2)) (.slice a2 ns.length cap2) ns) := OwnN.base (ownsRow_setCell_below ho2 (show w.heap.size < w1.heap.size by omega) _) (by omega)
  have HB : Hid (Below w.heap.size w (w2.setCell ⟨w.heap.size, 0, none⟩ (.slice a2 ns.length cap2))) := (hb0.trans (hB2.mono (by omega))).setCell (Nat.le_refl _) _
  have HALL : Hid _ := hall
  clear hc0 hc1 hc2 hg2 hb1 hx0 hx2 hB2 hb0 ho2 hall
  go_wp2
  refine bodyPost_ret (results_cell_row rfl _ _ w.heap.size 26 #[.slice a2 ns.length cap2] (0, 0) _ rfl ?_ Try.underlying26 rfl arenaSize) rfl ?_
  · exact HBL.out
  · exact ⟨_, ns, rfl, hn1, hn2, HALL.out, HO.out, HB.out⟩
end Go.Proofs.Ytpfncjnhmkjceaa
