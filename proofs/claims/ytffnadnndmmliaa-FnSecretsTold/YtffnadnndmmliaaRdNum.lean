/- The program's reader of terms (chapter 3): nextNumber. -/
import Derived.Test.YtffnadnndmmliaaPlainRT2
import Derived.Test.YtffnadnndmmliaaTermPut2
import Derived.Test.YtffnadnndmmliaaLawArena2
import Derived.Test.YtffnadnndmmliaaHeldQ
import Derived.WalkKit
import Derived.WalkLawsBesides
import Derived.WalkSpells
import Derived.Laws.Rows
import Derived.BigRegion
namespace Go.Proofs.Ytffnadnndmmliaa
open Go.RowKit
set_option linter.unusedVariables false
theorem gb_setR {w w2 : World} {g : Nat} (h : Below w.heap.size w w2) (j : Nat) (u : Value) : w.grownBy (w2.setCell ⟨g, j, none⟩ u) (some g) :=
  ⟨h.os, h.tape, h.output, by simpa using h.size, fun k hk hne => (Below.heap_setCell _ _ _ _ (by simpa using hne)).trans (h.block k hk)⟩
set_option maxHeartbeats 800000 in
set_option maxRecDepth 20000 in
theorem nextNum_any (gr : Nat) (s : ByteArray) (p l : Nat) (v : Value) (w : World) (hs : s.size ≤ 1048576)
    (hb : w.heap[gr]? = some (.cells #[.string s, .int .i64 (p : Int), .int .i64 (l : Int), v] 82 (0, 0))) :
    Calls Try.prog 150 #[.pointer (some ⟨gr, 0, none⟩)] w fun e w' => e = .returned (.int .i64 (numI s p).1) ∧ w'.heap[gr]? = some (.cells #[.string s, .int .i64 ((numI s p).2 : Int), .int .i64 (l : Int), v] 82 (0, 0)) ∧ w.grownBy w' (some gr) := by
  have hlt : gr < w.heap.size := (Array.getElem?_eq_some_iff.1 hb).1
  obtain ⟨S, hS0, hNE, HK⟩ := below_class (Below.refl w.heap.size w) (Nat.le_refl _)
  have c0 : ∀ q : Hw S, q.w.cell? ⟨gr, 0, none⟩ = some (.string s) := fun q => ((HK.out.2 _ q.ok).cell (p := ⟨gr, 0, none⟩) hlt).trans ((cell_of_row _ _ 0 _ _ _ hb).trans rfl)
  have c1 : ∀ q : Hw S, q.w.cell? ⟨gr, 1, none⟩ = some (.int .i64 (p : Int)) := fun q => ((HK.out.2 _ q.ok).cell (p := ⟨gr, 1, none⟩) hlt).trans ((cell_of_row _ _ 1 _ _ _ hb).trans rfl)
  have HBB : Hid (w.heap[gr]? = some (.cells #[.string s, .int .i64 (p : Int), .int .i64 (l : Int), v] 82 (0, 0))) := hb
  clear hb
  cases hr : RV s p with
  | none =>
    have HN : Hid ((numI s p).1 = -1 ∧ (numI s p).2 = p) := by show _ ∧ _; simp [numI, hr]
    have HR : Hid (RV s p = none) := hr
    clear hr
    go_enter Try.func150, Try.ntmps150
    go_wp2_with fail
    refine wp_region_held (S := S) (by kernel_rfl) (by kernel_rfl) hS0 ?_
    repeat (go_big_quiet_step ((go_at_call 182; exact Calls.heldSame (implRead_none s _ _ hs HR.out))))
    refine wpQuiet_nil ?_
    rintro _ ⟨sw, rfl⟩
    have hB := HK.out.2 _ sw.ok
    clear c0 c1 HK
    go_wp2
    go_ret
    exact ⟨by rw [HN.out.1]; rfl, by rw [HN.out.2]; exact (hB.block _ hlt).trans HBB.out, hB.os, hB.tape, hB.output, hB.size, fun k hk _ => hB.block k hk⟩
  | some nq =>
    obtain ⟨n, q⟩ := nq
    have HN : Hid ((numI s p).1 = n ∧ (numI s p).2 = q) := by show _ ∧ _; simp [numI, hr]
    have HR : Hid (RV s p = some (n, q)) := hr
    clear hr
    go_enter Try.func150, Try.ntmps150
    go_wp2_with fail
    refine wp_region_held (S := S) (by kernel_rfl) (by kernel_rfl) hS0 ?_
    repeat (go_big_quiet_step ((go_at_call 182; exact Calls.heldSame (implRead_some s _ _ hs n q HR.out))))
    refine wpQuiet_nil ?_
    rintro _ ⟨sw, rfl⟩
    have hB := HK.out.2 _ sw.ok
    have hb2 := (hB.block _ hlt).trans HBB.out
    generalize sw.w = w2 at hB hb2 ⊢
    clear c0 c1 HK
    have e0 : w2.cell? ⟨gr, 1, none⟩ = some (.int .i64 (p : Int)) := (cell_of_row _ _ 1 _ _ _ hb2).trans rfl
    have f0 : w2.frozen? ⟨gr, 1, none⟩ = false := frozen_of_row _ _ 1 _ _ hb2
    have HE : Hid ((w2.setCell ⟨gr, 1, none⟩ (.int .i64 (q : Int))).heap[gr]? = some (.cells #[.string s, .int .i64 (q : Int), .int .i64 (l : Int), v] 82 (0, 0))) := by
      show _ = _
      exact (heap_setCell_same _ _ 1 _ _ _ hb2).trans rfl
    have HG : Hid (w.grownBy (w2.setCell ⟨gr, 1, none⟩ (.int .i64 (q : Int))) (some gr)) := by
      have := gb_setR (w := w) (w2 := w2) (g := gr) hB 1 (.int .i64 (q : Int))
      exact this
    clear hb2 hB
    go_wp2
    go_ret
    exact ⟨by rw [HN.out.1]; rfl, by rw [HN.out.2]; exact HE.out, HG.out⟩
end Go.Proofs.Ytffnadnndmmliaa
