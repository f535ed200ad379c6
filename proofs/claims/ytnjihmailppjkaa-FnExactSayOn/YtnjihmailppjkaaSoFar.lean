/- The program's builder, read as it is by now. -/
import Derived.Test.YtnjihmailppjkaaBldPut2
import Derived.Test.YtnjihmailppjkaaTermPut
namespace Go.Proofs.Ytnjihmailppjkaa
open Go.RowKit
set_option linter.unusedVariables false
set_option maxHeartbeats 800000 in
theorem soFar_any (mx B gb gm f : Nat) (ns : List Nd) (av : Option Addr) (cv : Nat) (w : World) (hb : BldM mx B gb gm ns.length f ns (.slice av ns.length cv) w) :
    Calls Try.prog 58 #[.pointer (some ⟨gb, 0, none⟩)] w fun e w' => e = .returned (.agg #[.slice av ns.length cv]) ∧ Below w.heap.size w w' := by
  obtain ⟨D, hc, hv, hrest⟩ := hb
  have hlt : gb < w.heap.size := (Array.getElem?_eq_some_iff.1 hc).1
  have c0 : w.cell? ⟨gb, 0, none⟩ = some (.slice av ns.length cv) := (cell_of_row _ _ 0 _ _ _ hc).trans rfl
  have hA := heap_alloc_new w (.cells #[.slice none 0 0] 39)
  have HST : Hid (((w.alloc (.cells #[.slice none 0 0] 39)).setCell ⟨w.heap.size, 0, none⟩ (.slice av ns.length cv)).heap[w.heap.size]? = some (.cells #[.slice av ns.length cv] 39 (0, 0))) := (heap_setCell_same _ _ 0 _ _ _ hA).trans rfl
  have HBE : Hid (Below w.heap.size w ((w.alloc (.cells #[.slice none 0 0] 39)).setCell ⟨w.heap.size, 0, none⟩ (.slice av ns.length cv))) := ((Below.refl _ _).alloc (Nat.le_refl _) _).setCell (show w.heap.size ≤ w.heap.size from Nat.le_refl _) _
  have HS1 : Hid ((w.alloc (.cells #[.slice av ns.length cv] 39)).heap[w.heap.size]? = some (.cells #[.slice av ns.length cv] 39 (0, 0))) := heap_alloc_new w _
  have HB1 : Hid (Below w.heap.size w (w.alloc (.cells #[.slice av ns.length cv] 39))) := (Below.refl _ _).alloc (Nat.le_refl _) _
  clear hc hv hrest hA
  go_enter Try.func58, Try.ntmps58
  go_wp2
  refine bodyPost_ret (results_cell_row rfl _ _ w.heap.size 39 #[.slice av ns.length cv] (0, 0) _ rfl ?_ Try.underlying39 rfl arenaSize) rfl ?_
  · first | exact HS1.out | exact HST.out
  · exact ⟨rfl, by first | exact HB1.out | exact HBE.out⟩
end Go.Proofs.Ytnjihmailppjkaa
