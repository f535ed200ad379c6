/- The contract of chapter 4's l04Kept, the specification's. -/
import Derived.Test.YtffnadnndmmliaaMakeA
import Derived.WalkKit
import Derived.WalkLawsBesides
import Derived.WalkSpells
import Derived.Laws.Rows
namespace Go.Proofs.Ytffnadnndmmliaa
open Go.RowKit
set_option linter.unusedVariables false
/-- The arena that was made, or the one that came when the term can't be. -/
def keptA (ns A : List Nd) (K : Int) : List Nd := if K < 0 then ns else A
theorem keptA_neg {ns A : List Nd} {K : Int} (h : K < 0) : keptA ns A K = ns := by unfold keptA; rw [if_pos h]
theorem keptA_pos {ns A : List Nd} {K : Int} (h : ¬ K < 0) : keptA ns A K = A := by unfold keptA; rw [if_neg h]
/-- What it answers. -/
def KeptP (w : World) (ns : List Nd) (u : Value) (k : Int) (v : Value) (w' : World) : Prop := (k < 0 → OwnN w.heap.size w' v ns) ∧ (¬ k < 0 → v = u)
set_option maxHeartbeats 1600000 in
theorem kept_any (a b : Option Addr) (cap cb : Nat) (ns ms : List Nd) (k : Int) (w : World) (hl : ns.length ≤ 1048576) (ha : AddrN a cap) (hr : RowN w.heap.size w a ns) :
    Calls Try.prog 108 #[.agg #[.slice a ns.length cap], .agg #[.slice b ms.length cb], .int .i64 k] w fun e w' => ∃ v, e = .returned (.agg #[v]) ∧ Below w.heap.size w w' ∧ KeptP w ns (.slice b ms.length cb) k v w' := by
  have hb0 : Below w.heap.size w (((w.alloc (.cells #[.slice a ns.length cap] 28)).alloc (.cells #[.slice b ms.length cb] 28)).alloc (.cells #[.slice none 0 0] 28)) := (((Below.refl _ _).alloc (Nat.le_refl _) _).alloc (by simp) _).alloc (by simp <;> omega) _
  have hs0 : (((w.alloc (.cells #[.slice a ns.length cap] 28)).alloc (.cells #[.slice b ms.length cb] 28)).alloc (.cells #[.slice none 0 0] 28)).heap.size = w.heap.size + 3 := by simp
  have hA0 : (((w.alloc (.cells #[.slice a ns.length cap] 28)).alloc (.cells #[.slice b ms.length cb] 28)).alloc (.cells #[.slice none 0 0] 28)).heap[w.heap.size]? = some (.cells #[.slice a ns.length cap] 28 (0, 0)) := (heap_alloc_old _ _ (by simp <;> omega)).trans ((heap_alloc_old _ _ (by simp)).trans (heap_alloc_new w _))
  have hM0 : (((w.alloc (.cells #[.slice a ns.length cap] 28)).alloc (.cells #[.slice b ms.length cb] 28)).alloc (.cells #[.slice none 0 0] 28)).heap[w.heap.size + 1]? = some (.cells #[.slice b ms.length cb] 28 (0, 0)) := (heap_alloc_old _ _ (by simp <;> omega)).trans (by have := heap_alloc_new (w.alloc (.cells #[.slice a ns.length cap] 28)) (.cells #[.slice b ms.length cb] 28); simpa using this)
  have hR0 : (((w.alloc (.cells #[.slice a ns.length cap] 28)).alloc (.cells #[.slice b ms.length cb] 28)).alloc (.cells #[.slice none 0 0] 28)).heap[w.heap.size + 2]? = some (.cells #[.slice none 0 0] 28 (0, 0)) := by have := heap_alloc_new ((w.alloc (.cells #[.slice a ns.length cap] 28)).alloc (.cells #[.slice b ms.length cb] 28)) (.cells #[.slice none 0 0] 28); simpa using this
  have HR : Hid (RowN w.heap.size w a ns) := hr
  have HA : Hid (AddrN a cap) := ha
  have c0 := (cell_of_row _ _ 0 _ _ _ hA0).trans rfl
  have c1 := (cell_of_row _ _ 0 _ _ _ hM0).trans rfl
  clear hr ha
  go_enter Try.func108, Try.ntmps108
  by_cases hk : k < 0
  · go_wp2_with fail
    generalize ((w.alloc (.cells #[.slice a ns.length cap] 28)).alloc (.cells #[.slice b ms.length cb] 28)).alloc (.cells #[.slice none 0 0] 28) = w0 at hb0 hs0 hA0 hM0 hR0 ⊢
    refine (specCopy_any a cap ns w0 hl HA.out (HR.out.grown hb0)).mono ?_
    rintro e w1 ⟨v, rfl, hown, hb1⟩
    obtain ⟨a1, cap1, rfl, -, -⟩ := hown.row
    have hR1 := (hb1.block (w.heap.size + 2) (by omega)).trans hR0
    have r0 : w1.cell? ⟨w.heap.size + 2, 0, none⟩ = some (.slice none 0 0) := (cell_of_row w1 _ 0 _ _ _ hR1).trans rfl
    have f0 : w1.frozen? ⟨w.heap.size + 2, 0, none⟩ = false := frozen_of_row w1 _ 0 _ _ hR1
    have HBL : Hid ((w1.setCell ⟨w.heap.size + 2, 0, none⟩ (.slice a1 ns.length cap1)).heap[w.heap.size + 2]? = some (.cells #[.slice a1 ns.length cap1] 28 (0, 0))) := (heap_setCell_same w1 _ 0 _ _ _ hR1).trans rfl
    have HO : Hid (OwnN w.heap.size (w1.setCell ⟨w.heap.size + 2, 0, none⟩ (.slice a1 ns.length cap1)) (.slice a1 ns.length cap1) ns) := OwnN.base (ownsRow_setCell_below hown (show w.heap.size + 2 < w0.heap.size by omega) _) (by omega)
    have HB : Hid (Below w.heap.size w (w1.setCell ⟨w.heap.size + 2, 0, none⟩ (.slice a1 ns.length cap1))) := (hb0.trans (hb1.mono (by omega))).setCell (show w.heap.size ≤ w.heap.size + 2 by omega) _
    clear hown hb1 hR1 hb0 hA0 hM0 hR0 c0 c1
    go_wp2
    refine bodyPost_ret (results_cell_row rfl _ _ (w.heap.size + 2) 28 #[.slice a1 ns.length cap1] (0, 0) _ rfl ?_ Try.underlying28 rfl arenaSize) rfl ?_
    · exact HBL.out
    · exact ⟨_, rfl, HB.out, ⟨fun _ => HO.out, fun h => absurd hk h⟩⟩
  · have r0 := (cell_of_row _ _ 0 _ _ _ hR0).trans rfl
    have f0 := frozen_of_row _ _ 0 _ _ hR0
    have HB : Hid (Below w.heap.size w (((w.alloc (.cells #[.slice a ns.length cap] 28)).alloc (.cells #[.slice b ms.length cb] 28)).alloc (.cells #[.slice b ms.length cb] 28))) := (((Below.refl _ _).alloc (Nat.le_refl _) _).alloc (by simp) _).alloc (by simp <;> omega) _
    clear hb0 hA0 hM0 hR0
    go_wp2
    refine bodyPost_ret (results_cell_row rfl _ _ (w.heap.size + 2) 28 #[.slice b ms.length cb] (0, 0) _ rfl ?_ Try.underlying28 rfl arenaSize) rfl ?_
    · have := heap_alloc_new ((w.alloc (.cells #[.slice a ns.length cap] 28)).alloc (.cells #[.slice b ms.length cb] 28)) (.cells #[.slice b ms.length cb] 28)
      simpa using this
    · exact ⟨_, rfl, HB.out, ⟨fun h => by omega, fun _ => rfl⟩⟩
end Go.Proofs.Ytffnadnndmmliaa
