/- The contracts of chapter 3's l03Put and Put, the specification's. -/
import Derived.Test.YtagjdhiicpglaaaTermPut
import Derived.WalkKit
import Derived.WalkLawsBesides
import Derived.WalkSpells
import Derived.Laws.OwnMore
import Derived.Laws.Rows
import Derived.Deep.QuietTactic
import Derived.BigQuiet
import Derived.Deep.RegionLaw
import Derived.Deep.AppendLies
import Derived.OneCell
namespace Go.Proofs.Ytagjdhiicpglaaa
open Go.RowKit

/-- An arena behind a pointer, all of it from B on. -/
def ArenaAt (B : Nat) (w : World) (g : Nat) (ns : List Nd) : Prop :=
  B ≤ g ∧ g < w.heap.size ∧ ∃ v, w.heap[g]? = some (.cells #[v] 32 (0, 0)) ∧ OwnN B w v ns ∧ v.ownBlock ≠ some g
theorem OwnN.later {B : Nat} {w w' : World} {v : Value} {ns : List Nd} (h : OwnN B w v ns) (hb : Below w.heap.size w w') : OwnN B w' v ns := by
  refine ⟨h.1, ?_⟩
  rcases h.2 with h0 | ⟨g, cap, cur, e, hg, hh, rest⟩
  · exact .inl h0
  · exact .inr ⟨g, cap, cur, e, hg, (hb.block g (Array.getElem?_eq_some_iff.1 hh).1).trans hh, rest⟩
theorem ArenaAt.later {B g : Nat} {w w' : World} {ns : List Nd} (h : ArenaAt B w g ns) (hb : Below w.heap.size w w') : ArenaAt B w' g ns := by
  obtain ⟨h1, h2, v, h3, h4, h5⟩ := h
  exact ⟨h1, Nat.lt_of_lt_of_le h2 hb.size, v, (hb.block g h2).trans h3, h4.later hb, h5⟩

/-- What l03Put holds of the world till it writes: the arena's slice, the node, all that was there. -/
def HeldP (w : World) (g : Nat) (x : Nd) (v : Value) (w' : World) : Prop := w'.cell? ⟨g, 0, none⟩ = some v ∧ w'.cell? ⟨w.heap.size, 0, none⟩ = some (.int .i64 x.k) ∧ w'.cell? ⟨w.heap.size, 1, none⟩ = some (.int .i64 x.n) ∧ w'.cell? ⟨w.heap.size, 2, none⟩ = some (.int .i64 x.a) ∧ w'.cell? ⟨w.heap.size, 3, none⟩ = some (.int .i64 x.b) ∧ w.heap.size < w'.heap.size ∧ Below w.heap.size w w'
theorem heldP_next {w w1 w2 : World} {g : Nat} {x : Nd} {v : Value} (hg : g < w.heap.size) (h : HeldP w g x v w1) (h1 : Below w1.heap.size w1 w2) : HeldP w g x v w2 := by
  obtain ⟨e0, e1, e2, e3, e4, e5, e6⟩ := h
  have hg' : g < w1.heap.size := Nat.lt_trans hg e5
  exact ⟨(h1.cell (p := ⟨g, 0, none⟩) hg').trans e0, (h1.cell (p := ⟨w.heap.size, 0, none⟩) e5).trans e1, (h1.cell (p := ⟨w.heap.size, 1, none⟩) e5).trans e2, (h1.cell (p := ⟨w.heap.size, 2, none⟩) e5).trans e3, (h1.cell (p := ⟨w.heap.size, 3, none⟩) e5).trans e4, Nat.lt_of_lt_of_le e5 h1.size, e6.trans (h1.mono e6.size)⟩
theorem heldP_start {w : World} {g : Nat} {x : Nd} {v : Value} (hg : g < w.heap.size) (hc : w.cell? ⟨g, 0, none⟩ = some v) : HeldP w g x v (w.alloc (.cells #[.int .i64 x.k, .int .i64 x.n, .int .i64 x.a, .int .i64 x.b] 52)).drew := by
  have hb : Below w.heap.size w (w.alloc (.cells #[.int .i64 x.k, .int .i64 x.n, .int .i64 x.a, .int .i64 x.b] 52)) := (Below.refl _ _).alloc (Nat.le_refl _) _
  have hn := heap_alloc_new w (.cells #[.int .i64 x.k, .int .i64 x.n, .int .i64 x.a, .int .i64 x.b] 52)
  refine ⟨(hb.cell (p := ⟨g, 0, none⟩) hg).trans hc, ?_, ?_, ?_, ?_, by simp, hb.drew⟩
  · exact (cell_of_row _ w.heap.size 0 _ _ _ hn).trans rfl
  · exact (cell_of_row _ w.heap.size 1 _ _ _ hn).trans rfl
  · exact (cell_of_row _ w.heap.size 2 _ _ _ hn).trans rfl
  · exact (cell_of_row _ w.heap.size 3 _ _ _ hn).trans rfl
theorem heldP_class {w : World} {g : Nat} {x : Nd} {v : Value} {a : Option Addr} {ns : List Nd} (hg : g < w.heap.size) (hr : RowN w.heap.size w a ns) (hc : w.cell? ⟨g, 0, none⟩ = some v) :
    ∃ S : World → Prop, S (w.alloc (.cells #[.int .i64 x.k, .int .i64 x.n, .int .i64 x.a, .int .i64 x.b] 52)).drew ∧ Nonempty (Hw S) ∧ (∀ s : Hw S, s.w.cell? ⟨g, 0, none⟩ = some v) ∧ (∀ s : Hw S, s.w.cell? ⟨w.heap.size, 0, none⟩ = some (.int .i64 x.k)) ∧ (∀ s : Hw S, s.w.cell? ⟨w.heap.size, 1, none⟩ = some (.int .i64 x.n)) ∧ (∀ s : Hw S, s.w.cell? ⟨w.heap.size, 2, none⟩ = some (.int .i64 x.a)) ∧ (∀ s : Hw S, s.w.cell? ⟨w.heap.size, 3, none⟩ = some (.int .i64 x.b)) ∧
      Hid ((∀ (s : Hw S) w', Below s.w.heap.size s.w w' → S w') ∧ (∀ s : Hw S, RowN s.w.heap.size s.w a ns) ∧ (∀ s : Hw S, S s.w.drew) ∧ (∀ w', S w' → HeldP w g x v w')) :=
  ⟨HeldP w g x v, heldP_start hg hc, ⟨⟨_, heldP_start hg hc⟩⟩, fun s => s.ok.1, fun s => s.ok.2.1, fun s => s.ok.2.2.1, fun s => s.ok.2.2.2.1, fun s => s.ok.2.2.2.2.1,
    ⟨fun s _ h1 => heldP_next hg s.ok h1, fun s => hr.grown s.ok.2.2.2.2.2.2, fun s => heldP_next hg s.ok (Below.refl _ _).drew, fun _ h => h⟩⟩

end Go.Proofs.Ytagjdhiicpglaaa
