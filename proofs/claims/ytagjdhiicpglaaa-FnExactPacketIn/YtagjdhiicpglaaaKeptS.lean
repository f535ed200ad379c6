/- The contract of chapter 4's l04Kept, the specification's. -/
import Derived.Test.YtagjdhiicpglaaaImplPut2
import Derived.WalkKit
import Derived.WalkLawsBesides
import Derived.WalkSpells
import Derived.Laws.Rows
import Derived.Test.YtagjdhiicpglaaaArenaD
import Derived.Test.YtagjdhiicpglaaaRegionC
import Derived.Test.YtagjdhiicpglaaaSpec16
namespace Go.Proofs.Ytagjdhiicpglaaa
open Go.RowKit
set_option linter.unusedVariables false
/-- The arena that was made, or the one that came when the term can't be. -/
def keptA (ns A : List Nd) (K : Int) : List Nd := if K < 0 then ns else A
theorem keptA_neg {ns A : List Nd} {K : Int} (h : K < 0) : keptA ns A K = ns := by unfold keptA; rw [if_pos h]
theorem keptA_pos {ns A : List Nd} {K : Int} (h : ¬ K < 0) : keptA ns A K = A := by unfold keptA; rw [if_neg h]
/-- What it answers. -/
def KeptP (w : World) (ns : List Nd) (u : Value) (k : Int) (v : Value) (w' : World) : Prop := (k < 0 → OwnN w.heap.size w' v ns) ∧ (¬ k < 0 → v = u)
end Go.Proofs.Ytagjdhiicpglaaa

namespace Go.Proofs.Ytagjdhiicpglaaa
open Go.RowKit
set_option linter.unusedVariables false
/-- A row of ints that was just made. -/
theorem rowD_new (D : Nat → Prop) (w : World) (xs : List Int) : RowD (fun k => D k ∨ k = w.heap.size) (w.alloc (.cells (xs.map (Value.int .i64)).toArray 3)) (some ⟨w.heap.size, 0, none⟩) xs := by
  refine .inr ⟨w.heap.size, 0, rfl, .inr rfl, fun j hj => ?_⟩
  rw [Nat.zero_add]
  refine (cell_of_row _ w.heap.size j _ _ _ (heap_alloc_new w _)).trans ?_
  simp [List.getD_eq_getElem?_getD, List.getElem?_eq_getElem hj]
end Go.Proofs.Ytagjdhiicpglaaa

namespace Go.Proofs.Ytagjdhiicpglaaa
open Go.RowKit
set_option linter.unusedVariables false
set_option linter.unusedSimpArgs false
/-- A packet's term, made step by step: a packet is four whole numbers, as a node is. -/
def pkS (p : Nd) : Int := p.k + p.n + p.a + p.b
def pkA1 (ns : List Nd) : List Nd := putA ns ⟨1, 90, 0, 0⟩
def pkA2 (ns : List Nd) (p : Nd) : List Nd := putA (pkA1 ns) ⟨1, p.k, 0, 0⟩
def pkA3 (ns : List Nd) (p : Nd) : List Nd := putA (pkA2 ns p) ⟨1, p.n, 0, 0⟩
def pkA4 (ns : List Nd) (p : Nd) : List Nd := putA (pkA3 ns p) ⟨1, p.a, 0, 0⟩
def pkA5 (ns : List Nd) (p : Nd) : List Nd := putA (pkA4 ns p) ⟨1, p.b, 0, 0⟩
def pkA6 (ns : List Nd) (p : Nd) : List Nd := putA (pkA5 ns p) ⟨1, pkS p, 0, 0⟩
def pkX (ns : List Nd) (p : Nd) : List Int := [putK ns ⟨1, 90, 0, 0⟩, putK (pkA1 ns) ⟨1, p.k, 0, 0⟩, putK (pkA2 ns p) ⟨1, p.n, 0, 0⟩, putK (pkA3 ns p) ⟨1, p.a, 0, 0⟩, putK (pkA4 ns p) ⟨1, p.b, 0, 0⟩, putK (pkA5 ns p) ⟨1, pkS p, 0, 0⟩]
def pktA (ns : List Nd) (p : Nd) : List Nd := if pkOk p = true then (listF (pkX ns p) (pkA6 ns p)).1 else ns
def pktK (ns : List Nd) (p : Nd) : Int := if pkOk p = true then (listF (pkX ns p) (pkA6 ns p)).2 else -1
theorem pkA6_le {ns : List Nd} {p : Nd} (h : ns.length ≤ 1048576) : (pkA6 ns p).length ≤ 1048576 := putA_le2 (putA_le2 (putA_le2 (putA_le2 (putA_le2 (putA_le2 h)))))
theorem pktA_le {ns : List Nd} {p : Nd} (h : ns.length ≤ 1048576) : (pktA ns p).length ≤ 1048576 := by
  unfold pktA; split
  · exact listF_le _ (pkA6_le h)
  · exact h
end Go.Proofs.Ytagjdhiicpglaaa
