/- A region whose order is fixed, walked as a quiet one: what is held of the world (S) is kept by every operation and every callee. -/
import Derived.Test.YthpkhbcahihbnaaDoorHeldQ
namespace Go.Proofs.YthpkhbcahihbnaaDoor
open Go.RowKit
set_option linter.unusedVariables false
theorem wpList_of_quiet {P : Program} {ops : Array Oper} {C : World → Prop} {Q : Exit → Act → World → Prop} : ∀ (l : List Oper) (a : Act) (w : World), C w → wpQuiet P ops C (fun a' => ∀ w', C w' → Q .normal a' w') l a → wpList P ops Q l a w
  | [], a, w, hw, h => h w hw
  | o :: l, a, w, hw, h => by
    unfold wpQuiet at h
    unfold wpList
    by_cases hc : Region.wanted o (yielded ops a.tmps) = true
    · rw [if_pos hc] at h ⊢
      exact .inl (Oper.wp_of_quiet hw (fun a' w' hw' hk => wpList_of_quiet l a' w' hw' hk) h)
    · rw [if_neg hc] at h ⊢
      exact wpList_of_quiet l _ w hw h
theorem wp_region_heldF {P : Program} {S : World → Prop} {id : Nat} {Q : Exit → Act → World → Prop} {a : Act} {w : World} {l : List Oper} (hS : S w)
    (h : wpQuiet P l.toArray (fun w' => ∃ s : Hw S, w' = s.w) (fun a' => ∀ w', (∃ s : Hw S, w' = s.w) → Q .normal a' w') l a) : (Code.region id l.toArray false).wp P Q a w :=
  wp_region_lit (wpList_of_quiet (C := fun w' => ∃ s : Hw S, w' = s.w) l a w ⟨⟨w, hS⟩, rfl⟩ h)
theorem read_classF (w1 : World) : ∃ S : World → Prop, S w1 ∧ Nonempty (Hw S) ∧ Hid ((∀ (p : Addr) (v : Value), p.block < w1.heap.size → w1.cell? p = some v → ∀ s : Hw S, s.w.cell? p = some v) ∧ (∀ (s : Hw S) w', Below s.w.heap.size s.w w' → S w') ∧ (∀ w', S w' → Below w1.heap.size w1 w') ∧ (∀ s : Hw S, Below w1.heap.size w1 s.w)) :=
  ⟨fun w' => Below w1.heap.size w1 w', Below.refl _ _, ⟨⟨w1, Below.refl _ _⟩⟩, fun p v hp hc s => (s.ok.cell hp).trans hc, fun s w' hb => s.ok.trans (hb.mono s.ok.size), fun _ h => h, fun s => s.ok⟩
end Go.Proofs.YthpkhbcahihbnaaDoor
