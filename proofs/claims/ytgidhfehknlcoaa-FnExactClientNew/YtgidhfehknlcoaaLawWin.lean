/- The laws' own helpers over windows (toWindow, eqWindow), and an argument that is a window, opened. -/
import Derived.Test.YtgidhfehknlcoaaWin7
import Derived.Lib.SmallJoins
import Derived.Deep.Slices
import Derived.OpenShut
import Derived.ProofKit
import Derived.Deep.RegionHeld3
import Derived.WalkKit
import Derived.WalkLawsBesides
import Derived.WalkSpells
import Derived.Laws.Rows
import Derived.Laws.ResultCell
namespace Go.Proofs.Ytgidhfehknlcoaa
open Go.ChangeShapes Go.WideShapes Go.ChangeAt Go.RowKit Go.Joins Go.Deep
set_option linter.unusedVariables false
theorem eqWin_same (t s : Int) (w : World) :
    Calls Try.prog 8 #[.agg #[.int .i64 t, .int .i64 s], .agg #[.int .i64 t, .int .i64 s]] w fun e w' => e = .returned (.bool true) ∧ Below w.heap.size w w' := by
  go_enter Try.func8, Try.ntmps8
  go_wp2
  go_ret
  exact ⟨rfl, ((Below.refl _ _).alloc (Nat.le_refl _) _).alloc (by simp) _⟩
theorem cellsLIntW : Try.prog.cellsOf 3 = 1 := by kernel_rfl
/-- A window in a box. -/
structure WinIn (b : Nat) (t s : Int) (w : World) : Prop where
  lt : b < w.heap.size
  c0 : w.cell? ⟨b, 0, none⟩ = some (.int .i64 t)
  c1 : w.cell? ⟨b, 1, none⟩ = some (.int .i64 s)
theorem WinIn.next {b : Nat} {t s : Int} {w w' : World} (h : WinIn b t s w) (hb : Below w.heap.size w w') : WinIn b t s w' := ⟨Nat.lt_of_lt_of_le h.lt hb.size, (hb.cell (p := ⟨b, 0, none⟩) h.lt).trans h.c0, (hb.cell (p := ⟨b, 1, none⟩) h.lt).trans h.c1⟩
theorem WinIn.made {w : World} {t s : Int} {ty : TypeId} : WinIn w.heap.size t s (w.alloc (.cells #[.int .i64 t, .int .i64 s] ty)) := ⟨by simp, by rw [cell_of_row _ w.heap.size 0 _ _ _ (heap_alloc_new w _)]; rfl, by rw [cell_of_row _ w.heap.size 1 _ _ _ (heap_alloc_new w _)]; rfl⟩
end Go.Proofs.Ytgidhfehknlcoaa
