/- What FnWindows keeps from round to round. -/
import Derived.Test.YtmbaipednonhpaaLawWin
import Derived.Test.YtmbaipednonhpaaWinP7
import Derived.Test.YtmbaipednonhpaaIntRow
import Derived.Test.YtmbaipednonhpaaPlain
import Derived.Test.YtmbaipednonhpaaHeldQ
import Derived.Laws.StructEq
namespace Go.Proofs.Ytmbaipednonhpaa
open Go.RowKit
set_option linter.unusedVariables false
structure WSt (w2 : World) (t s : Int) (v : Value) (zs : List Int) (w' : World) : Prop where
  box : w'.heap[w2.heap.size]? = some (.cells #[.int .i64 t, .int .i64 s] 27 (0, 0))
  row : w'.ownsRow (w2.heap.size + 1) 3 1 v zs.length (zs.map (Value.int .i64))
  below : Below w2.heap.size w2 w'
theorem WSt.lt {w2 w' : World} {t s : Int} {v : Value} {zs : List Int} (h : WSt w2 t s v zs w') : w2.heap.size < w'.heap.size := (Array.getElem?_eq_some_iff.1 h.box).1
theorem WSt.c0 {w2 w' : World} {t s : Int} {v : Value} {zs : List Int} (h : WSt w2 t s v zs w') : w'.cell? ⟨w2.heap.size, 0, none⟩ = some (.int .i64 t) := (cell_of_row _ _ 0 _ _ _ h.box).trans rfl
theorem WSt.c1 {w2 w' : World} {t s : Int} {v : Value} {zs : List Int} (h : WSt w2 t s v zs w') : w'.cell? ⟨w2.heap.size, 1, none⟩ = some (.int .i64 s) := (cell_of_row _ _ 1 _ _ _ h.box).trans rfl
theorem WSt.fr {w2 w' : World} {t s : Int} {v : Value} {zs : List Int} (h : WSt w2 t s v zs w') (j : Nat) : w'.frozen? ⟨w2.heap.size, j, none⟩ = false := frozen_of_row _ _ j _ _ h.box
theorem WSt.next {w2 w' w'' : World} {t s : Int} {v : Value} {zs : List Int} (h : WSt w2 t s v zs w') (hb : Below w'.heap.size w' w'') : WSt w2 t s v zs w'' :=
  ⟨(hb.block _ h.lt).trans h.box, own_next h.row hb, h.below.trans (hb.mono h.below.size)⟩
theorem WSt.set {w2 w' : World} {t s : Int} {v : Value} {zs : List Int} (h : WSt w2 t s v zs w') (t' s' : Int) : WSt w2 t' s' v zs ((w'.setCell ⟨w2.heap.size, 0, none⟩ (.int .i64 t')).setCell ⟨w2.heap.size, 1, none⟩ (.int .i64 s')) :=
  ⟨store2 h.box _ _, ownsRow_setCell_below (ownsRow_setCell_below h.row (show w2.heap.size < w2.heap.size + 1 by omega) _) (show w2.heap.size < w2.heap.size + 1 by omega) _, below_two h.below (Nat.le_refl _) _ _⟩
theorem WSt.app {w2 w4 w5 : World} {t s q : Int} {v v' : Value} {zs : List Int} {o : Obj} (h : WSt w2 t s v zs w4) (hr : w5.ownsRow (w2.heap.size + 1) 3 1 v' (zs.length + 1) ((zs ++ [q]).map (Value.int .i64))) (hg : (w4.alloc o).grownBy w5 v.ownBlock) : WSt w2 t s v' (zs ++ [q]) w5 := by
  have h1 : Below (w2.heap.size + 1) w4 w5 := below_app h.row (Below.refl _ _) h.lt hg
  exact ⟨(h1.block _ (by omega)).trans h.box, by simpa using hr, h.below.trans (h1.mono (by omega))⟩
theorem win_app {w4 w5 : World} {b B n : Nat} {t s : Int} {v : Value} {xs : List Value} {e size : Nat} {o : Obj} (h : WinIn b t s w4) (hne : v.ownBlock ≠ some b) (hg : (w4.alloc o).grownBy w5 v.ownBlock) : WinIn b t s w5 := by
  have hb : Below w4.heap.size w4 (w4.alloc o) := (Below.refl _ _).alloc (Nat.le_refl _) _
  have h' := h.next hb
  exact ⟨Nat.lt_of_lt_of_le h'.lt hg.size, hg.cell h'.c0 (by simpa using hne.symm), hg.cell h'.c1 (by simpa using hne.symm)⟩
theorem fresh_high {t s q : Int} (h : freshB t s q = true) : ¬ q + 16 ≤ t := by
  have := (freshB_range h).2.2.2
  intro hh
  have := this (by omega)
  omega
theorem fresh_first {q : Int} (h0 : 0 ≤ q) (h1 : q ≤ 9999) : freshB (-1) 0 q = true := by
  unfold freshB
  rw [show winB (-1) 0 = true by decide, show inB q 0 9999 = true by unfold inB; simp; omega, decide_eq_true (show (-1 : Int) < q by omega)]
  rfl
theorem winFields : Try.prog.underlying 27 = some (.struct (Try.prog.fieldsOf 27)) := by kernel_rfl
theorem winHeld : Try.prog.stoodInHeld 27 = false := by kernel_rfl
theorem winGuard : Try.prog.eqGuardType Try.prog.depth 27 = false := by kernel_rfl
/-- '==' on a window and itself. -/
theorem win_eql (t s : Int) (w : World) : (Op.equalIn 10000 27 (.agg #[.int .i64 t, .int .i64 s]) (.agg #[.int .i64 t, .int .i64 s])).run Try.prog w = .ok true w := by
  rw [show (10000 : Nat) = 9999 + 1 from rfl, run_equalIn_agg _ _ _ _ _ winFields winHeld]
  simp only [Program.fieldsOf, Try.underlying27]
  go_simp
/-- The worlds in which all below B is as it was: a class that calls keep. -/
theorem win_class {B : Nat} {w wr : World} (h : Below B w wr) (hs : B ≤ w.heap.size) : ∃ S : World → Prop, S wr.drew ∧ Nonempty (Hw S) ∧ Hid ((∀ (s : Hw S) w', Below s.w.heap.size s.w w' → S w') ∧ (∀ w', S w' → Below B w w')) :=
  ⟨Below B w, h.drew, ⟨⟨wr.drew, h.drew⟩⟩, ⟨fun s _ h1 => s.ok.trans (h1.mono (Nat.le_trans hs s.ok.size)), fun _ h => h⟩⟩
end Go.Proofs.Ytmbaipednonhpaa
