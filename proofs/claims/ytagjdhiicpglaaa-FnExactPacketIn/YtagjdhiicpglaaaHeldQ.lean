/- One walk, in the order of the text, of a region that draws its order, where what is held of the world (S) is kept by every operation and every callee (they may make memory): the library's theorem at the class of the worlds that meet S. -/
import Derived.WalkKit
import Derived.WalkLawsBesides
import Derived.Deep.QuietTactic
import Derived.BigQuiet
import Derived.Test.YtagjdhiicpglaaaProg
import Derived.Laws.OwnMore
import Derived.Laws.Rows
namespace Go.Proofs.Ytagjdhiicpglaaa
open Go.RowKit

/-- A world that meets S. -/
structure Hw (S : World → Prop) where
  w : World
  ok : S w
theorem wp_region_held {P : Program} {S : World → Prop} {id : Nat} {Q : Exit → Act → World → Prop} {a : Act} {w : World} {l : List Oper} (hm : P.follows .mixedOrders = true) (hB : Region.lexB .any l.toArray = true) (hS : S w.drew)
    (h : wpQuiet P l.toArray (fun w' => ∃ s : Hw S, w' = s.w) (fun a' => ∀ w', (∃ s : Hw S, w' = s.w) → Q .normal a' w') l a) : (Code.region id l.toArray true).wp P Q a w :=
  wp_region_quiet (C := fun w' => ∃ s : Hw S, w' = s.w) hm hB ⟨⟨w.drew, hS⟩, rfl⟩ (by simpa using h)
theorem Calls.held {P : Program} {S : World → Prop} {f : FuncId} {args : Array Value} {v : Value} {s : Hw S} (h : Calls P f args s.w fun e w' => e = .returned v ∧ Below s.w.heap.size s.w w') (hk : ∀ w', Below s.w.heap.size s.w w' → S w') :
    Calls P f args s.w fun e w'' => e = .returned v ∧ ∃ s' : Hw S, w'' = s'.w :=
  h.mono fun _ w' ⟨he, hb⟩ => ⟨he, ⟨w', hk w' hb⟩, rfl⟩
theorem Calls.heldSame {P : Program} {S : World → Prop} {f : FuncId} {args : Array Value} {v : Value} {s : Hw S} (h : Calls P f args s.w fun e w' => e = .returned v ∧ s.w = w') :
    Calls P f args s.w fun e w'' => e = .returned v ∧ ∃ s' : Hw S, w'' = s'.w :=
  h.mono fun _ _ ⟨he, hb⟩ => ⟨he, s, hb.symm⟩
end Go.Proofs.Ytagjdhiicpglaaa

namespace Go.Proofs.Ytagjdhiicpglaaa
open Go.RowKit
set_option linter.unusedVariables false
/-- A slice's address: nil, or a place. -/
def Adr (a : Option Addr) (cap : Nat) : Prop := (a = none ∧ cap = 0) ∨ ∃ b off, a = some ⟨b, off, none⟩
theorem add_offB (b off j : Nat) : (⟨b, off, none⟩ : Addr).add j = ⟨b, off + j, none⟩ := by unfold Addr.add; split <;> simp_all
theorem own_laterB {B e size n : Nat} {w w' : World} {v : Value} {xs : List Value} (h : w.ownsRow B e size v n xs) (hb : Below w.heap.size w w') : w'.ownsRow B e size v n xs := by
  refine ⟨h.1, ?_⟩
  rcases h.2 with h0 | ⟨g, cap, cur, e, hg, hh, rest⟩
  · exact .inl h0
  · exact .inr ⟨g, cap, cur, e, hg, (hb.block g (Array.getElem?_eq_some_iff.1 hh).1).trans hh, rest⟩
theorem gb_reflB (w : World) (r : Option Nat) : w.grownBy w r := ⟨rfl, rfl, rfl, Nat.le_refl _, fun _ _ _ => rfl⟩
theorem gb_setB {w w' : World} {g : Nat} (h : w.grownBy w' (some g)) (j : Nat) (u : Value) : w.grownBy (w'.setCell ⟨g, j, none⟩ u) (some g) :=
  ⟨h.os, h.tape, h.output, by simpa using h.size, fun k hk hne => (Below.heap_setCell _ _ _ _ (by simpa using hne)).trans (h.block k hk hne)⟩
theorem cell_grownB {w w' : World} {r : Option Nat} {b j : Nat} {u : Value} (hg : w.grownBy w' r) (hb : b < w.heap.size) (hne : r ≠ some b) (h : w.cell? ⟨b, j, none⟩ = some u) : w'.cell? ⟨b, j, none⟩ = some u := by
  rw [World.cell?_of_block (w := w) (hg.block b hb (fun e => hne e.symm))]; exact h
theorem below_classB {B : Nat} {w wr : World} (h : Below B w wr) (hs : B ≤ w.heap.size) : ∃ S : World → Prop, S wr.drew ∧ Nonempty (Hw S) ∧ Hid ((∀ (s : Hw S) w', Below s.w.heap.size s.w w' → S w') ∧ (∀ w', S w' → Below B w w')) :=
  ⟨Below B w, h.drew, ⟨⟨wr.drew, h.drew⟩⟩, ⟨fun s _ h1 => s.ok.trans (h1.mono (Nat.le_trans hs s.ok.size)), fun _ h => h⟩⟩
theorem below_dnB {B : Nat} {w w' : World} (h : Below B w w') (n : Nat) : Below B w (w'.drewN n) := ⟨h.os, h.tape, h.output, h.size, h.block⟩
end Go.Proofs.Ytagjdhiicpglaaa
