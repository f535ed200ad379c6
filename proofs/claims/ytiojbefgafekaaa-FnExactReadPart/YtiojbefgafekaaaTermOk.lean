/- The contracts of chapter 3's NodeOk and ArenaOk, the specification's. -/
import Derived.Test.YtiojbefgafekaaaTermAt
import Derived.Test.YtiojbefgafekaaaHeldQ
import Derived.WalkKit
import Derived.WalkLawsBesides
import Derived.WalkSpells
import Derived.Deep.RegionHeld3
import Derived.Deep.QuietTactic
import Derived.BigQuiet
import Derived.Deep.RegionWith
namespace Go.Proofs.Ytiojbefgafekaaa
open Go.RowKit

theorem all_drop (ns : List Nd) (i : Nat) (h : i < ns.length) : allFrom ns (ns.drop i) i = (nodeB (ns.getD i Nd.zero) i && (decide (findN ns (ns.getD i Nd.zero) = i) && allFrom ns (ns.drop (i + 1)) (i + 1))) := by
  rw [List.drop_eq_getElem_cons h, allFrom]
  rw [List.getD_eq_getElem?_getD, List.getElem?_eq_getElem h]; rfl
theorem all_end (ns : List Nd) : allFrom ns (ns.drop ns.length) ns.length = true := by rw [List.drop_length]; rfl
theorem RowN.later {w w' : World} {a : Option Addr} {ns : List Nd} {B : Nat} (h : RowN B w a ns) (hb : Below B w w') : RowN B w' a ns := by
  rcases h with h0 | ⟨b, off, e, hlt, hc⟩
  · exact .inl h0
  · refine .inr ⟨b, off, e, hlt, fun i hi => ?_⟩
    obtain ⟨c0, c1, c2, c3⟩ := hc i hi
    exact ⟨(hb.cell hlt).trans c0, (hb.cell hlt).trans c1, (hb.cell hlt).trans c2, (hb.cell hlt).trans c3⟩
theorem RowN.wide {w : World} {a : Option Addr} {ns : List Nd} {B B' : Nat} (h : RowN B w a ns) (hB : B ≤ B') : RowN B' w a ns := by
  rcases h with h0 | ⟨b, off, e, hlt, hc⟩
  · exact .inl h0
  · exact .inr ⟨b, off, e, Nat.lt_of_lt_of_le hlt hB, hc⟩
theorem RowN.grown {w w' : World} {a : Option Addr} {ns : List Nd} (h : RowN w.heap.size w a ns) (hb : Below w.heap.size w w') : RowN w'.heap.size w' a ns := (h.later hb).wide hb.size

/-- What a walk over an arena behind a struct of its own holds, in whatever later world. -/
def HeldA (w : World) (b off k : Nat) (y : Nd) (v : Value) (w' : World) : Prop := w'.cell? ⟨w.heap.size, 0, none⟩ = some v ∧ w'.cell? ⟨b, off + k * 4, none⟩ = some (.int .i64 y.k) ∧ w'.cell? ⟨b, off + k * 4 + 1, none⟩ = some (.int .i64 y.n) ∧ w'.cell? ⟨b, off + k * 4 + 2, none⟩ = some (.int .i64 y.a) ∧ w'.cell? ⟨b, off + k * 4 + 3, none⟩ = some (.int .i64 y.b) ∧ w.heap.size < w'.heap.size ∧ Below w.heap.size w w'
theorem heldA_next {w w1 w2 : World} {b off k : Nat} {y : Nd} {v : Value} (hb : b < w.heap.size) (h : HeldA w b off k y v w1) (h1 : Below w1.heap.size w1 w2) : HeldA w b off k y v w2 := by
  obtain ⟨e0, e1, e2, e3, e4, e5, e6⟩ := h
  have hb' : b < w1.heap.size := Nat.lt_trans hb e5
  exact ⟨(h1.cell (p := ⟨w.heap.size, 0, none⟩) e5).trans e0, (h1.cell (p := ⟨b, off + k * 4, none⟩) hb').trans e1, (h1.cell (p := ⟨b, off + k * 4 + 1, none⟩) hb').trans e2, (h1.cell (p := ⟨b, off + k * 4 + 2, none⟩) hb').trans e3, (h1.cell (p := ⟨b, off + k * 4 + 3, none⟩) hb').trans e4, Nat.lt_of_lt_of_le e5 h1.size, e6.trans (h1.mono e6.size)⟩
theorem heldA_row {w w1 : World} {b off k : Nat} {y : Nd} {v : Value} {a : Option Addr} {ns : List Nd} (hr : RowN w.heap.size w a ns) (h : HeldA w b off k y v w1) : RowN w1.heap.size w1 a ns := hr.grown h.2.2.2.2.2.2
theorem heldA_class {w wr : World} {b off k : Nat} {y : Nd} {v : Value} {a : Option Addr} {ns : List Nd} (hb : b < w.heap.size) (hr : RowN w.heap.size w a ns) (h : HeldA w b off k y v wr) :
    ∃ S : World → Prop, S wr ∧ Nonempty (Hw S) ∧ (∀ s : Hw S, s.w.cell? ⟨w.heap.size, 0, none⟩ = some v) ∧ (∀ s : Hw S, s.w.cell? ⟨b, off + k * 4, none⟩ = some (.int .i64 y.k)) ∧ (∀ s : Hw S, s.w.cell? ⟨b, off + k * 4 + 1, none⟩ = some (.int .i64 y.n)) ∧ (∀ s : Hw S, s.w.cell? ⟨b, off + k * 4 + 2, none⟩ = some (.int .i64 y.a)) ∧ (∀ s : Hw S, s.w.cell? ⟨b, off + k * 4 + 3, none⟩ = some (.int .i64 y.b)) ∧
      Hid ((∀ (s : Hw S) w', Below s.w.heap.size s.w w' → S w') ∧ (∀ s : Hw S, RowN s.w.heap.size s.w a ns) ∧ (∀ w', S w' → HeldA w b off k y v w')) :=
  ⟨HeldA w b off k y v, h, ⟨⟨wr, h⟩⟩, fun s => s.ok.1, fun s => s.ok.2.1, fun s => s.ok.2.2.1, fun s => s.ok.2.2.2.1, fun s => s.ok.2.2.2.2.1,
    ⟨fun s _ h1 => heldA_next hb s.ok h1, fun s => heldA_row hr s.ok, fun _ h => h⟩⟩
end Go.Proofs.Ytiojbefgafekaaa
