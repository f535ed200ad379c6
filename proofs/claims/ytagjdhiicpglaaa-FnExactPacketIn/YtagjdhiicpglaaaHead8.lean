/- The contracts of chapter 8's RecordHead and OpenRecord, the specification's, and what they answer in plain words. -/
import Derived.Test.YtagjdhiicpglaaaMakeParts
import Derived.Test.YtagjdhiicpglaaaMakeIs
import Derived.Test.YtagjdhiicpglaaaHeldQ
import Derived.WalkKit
import Derived.WalkLawsBesides
import Derived.WalkSpells
import Derived.OwnWalk
import Derived.Laws.Rows
import Derived.Deep.QuietTactic
import Derived.BigQuiet
namespace Go.Proofs.Ytagjdhiicpglaaa
open Go.RowKit
set_option linter.unusedVariables false
/-- The worlds behind one in which nothing that was there has turned. -/
theorem read_class (w1 : World) : ∃ S : World → Prop, S w1.drew ∧ Nonempty (Hw S) ∧ Hid ((∀ (p : Addr) (v : Value), p.block < w1.heap.size → w1.cell? p = some v → ∀ s : Hw S, s.w.cell? p = some v) ∧ (∀ (s : Hw S) w', Below s.w.heap.size s.w w' → S w') ∧ (∀ w', S w' → Below w1.heap.size w1 w') ∧ (∀ s : Hw S, Below w1.heap.size w1 s.w)) :=
  ⟨fun w' => Below w1.heap.size w1 w', (Below.refl _ _).drew, ⟨⟨w1, Below.refl _ _⟩⟩, fun p v hp hc s => (s.ok.cell hp).trans hc, fun s w' hb => s.ok.trans (hb.mono s.ok.size), fun _ h => h, fun s => s.ok⟩
/-- A part of a List of three. -/
def p3 (ns : List Nd) (k : Int) (i : Nat) : Int := (partsV ns k 3).getD i 0
/-- RecordHead. -/
def headB (ns : List Nd) (k : Int) : Bool := partsB ns k 3 && (isK ns (p3 ns k 0) 1 && (isK ns (p3 ns k 1) 1 && (inB (numV ns (p3 ns k 0)) 0 8 && inB (numV ns (p3 ns k 1)) 0 9999)))
def headE (ns : List Nd) (k : Int) : Int := if headB ns k = true then numV ns (p3 ns k 0) else 0
def headS (ns : List Nd) (k : Int) : Int := if headB ns k = true then numV ns (p3 ns k 1) else 0
theorem parts3 {ns : List Nd} {k : Int} (h : partsB ns k 3 = true) : (partsV ns k 3).length = 3 := by
  unfold partsB at h
  unfold partsV
  cases hp : partsR ns k 3 with
  | none => rw [hp] at h; simp at h
  | some xs =>
    unfold partsR at hp
    rw [if_neg (by omega)] at hp
    exact (partsN_len ns 3 k xs hp).1
/-- The row of the parts. -/
theorem own3 {B : Nat} {w : World} {v : Value} {xs : List Int} (h : OwnInt B w v xs) (hl : xs.length = 3) : ∃ g off cap, v = .slice (some ⟨g, off, none⟩) 3 cap ∧ g < w.heap.size ∧ w.cell? ⟨g, off, none⟩ = some (.int .i64 (xs.getD 0 0)) ∧ w.cell? ⟨g, off + 1, none⟩ = some (.int .i64 (xs.getD 1 0)) ∧ w.cell? ⟨g, off + 2, none⟩ = some (.int .i64 (xs.getD 2 0)) := by
  obtain ⟨a, cap, rfl, -, hr⟩ := h.row
  rcases hr with h0 | ⟨b, off, rfl, hb, hc⟩
  · rw [h0] at hl; simp at hl
  · rw [hl]
    exact ⟨b, off, cap, rfl, hb, hc 0 (by omega), hc 1 (by omega), hc 2 (by omega)⟩
/-- OpenRecord. -/
def inAt (ns : List Nd) (key k : Int) : Int := openV ns key (p3 ns k 2)
def openRB (ns : List Nd) (key k : Int) : Bool := headB ns k && (openB ns key (p3 ns k 2) && (partsB ns (inAt ns key k) 3 && (decide (p3 ns (inAt ns key k) 0 = p3 ns k 0) && decide (p3 ns (inAt ns key k) 1 = p3 ns k 1))))
def openRV (ns : List Nd) (key k : Int) : Int := if openRB ns key k = true then p3 ns (inAt ns key k) 2 else -1
theorem headB_parts {ns : List Nd} {k : Int} (h : headB ns k = true) : partsB ns k 3 = true := by unfold headB at h; simp only [Bool.and_eq_true] at h; exact h.1
end Go.Proofs.Ytagjdhiicpglaaa
