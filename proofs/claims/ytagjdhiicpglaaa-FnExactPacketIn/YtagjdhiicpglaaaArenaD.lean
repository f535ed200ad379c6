/- An arena behind a pointer, while a set of blocks stays as it was: l03Put, l04Atom, l04Make, l04List, the specification's. -/
import Derived.Test.YtagjdhiicpglaaaMakeList
import Derived.WalkKit
import Derived.WalkLawsBesides
import Derived.WalkSpells
import Derived.Laws.OwnMore
import Derived.Laws.Rows
import Derived.Deep.QuietTactic
import Derived.BigQuiet
import Derived.Deep.RegionLaw
import Derived.Deep.AppendLies
import Derived.OneCell
namespace Go.Proofs.Ytagjdhiicpglaaa
open Go.RowKit
set_option linter.unusedVariables false
/-- The blocks of D are as they were; the streams, too; no block has gone. -/
structure Safe (D : Nat → Prop) (w w' : World) : Prop where
  os : w'.os = w.os
  tape : w'.tape = w.tape
  output : w'.output = w.output
  size : w.heap.size ≤ w'.heap.size
  block : ∀ k, D k → w'.heap[k]? = w.heap[k]?
theorem Safe.refl (D : Nat → Prop) (w : World) : Safe D w w := ⟨rfl, rfl, rfl, Nat.le_refl _, fun _ _ => rfl⟩
theorem Safe.trans {D : Nat → Prop} {a b c : World} (h : Safe D a b) (k : Safe D b c) : Safe D a c :=
  ⟨k.os.trans h.os, k.tape.trans h.tape, k.output.trans h.output, Nat.le_trans h.size k.size, fun i hi => (k.block i hi).trans (h.block i hi)⟩
theorem Safe.mono {D D' : Nat → Prop} {w w' : World} (h : Safe D w w') (hD : ∀ k, D' k → D k) : Safe D' w w' := ⟨h.os, h.tape, h.output, h.size, fun k hk => h.block k (hD k hk)⟩
theorem Safe.of_below {B : Nat} {D : Nat → Prop} {w w' : World} (h : Below B w w') (hD : ∀ k, D k → k < B) : Safe D w w' := ⟨h.os, h.tape, h.output, h.size, fun k hk => h.block k (hD k hk)⟩
theorem Safe.below {B : Nat} {D : Nat → Prop} {w w' : World} (h : Safe D w w') (hD : ∀ k, k < B → D k) : Below B w w' := ⟨h.os, h.tape, h.output, h.size, fun k hk => h.block k (hD k hk)⟩
theorem Safe.setCell {D : Nat → Prop} {a w : World} (h : Safe D a w) {p : Addr} (hp : ¬ D p.block) (u : Value) : Safe D a (w.setCell p u) :=
  h.trans ⟨rfl, rfl, rfl, by simp [World.setCell], fun k hk => Below.heap_setCell _ _ _ _ (fun e => hp (e ▸ hk))⟩
theorem Safe.alloc {D : Nat → Prop} {a w : World} (h : Safe D a w) (hD : ∀ k, D k → k < w.heap.size) (o : Obj) : Safe D a (w.alloc o) :=
  h.trans ⟨rfl, rfl, rfl, by simp, fun k hk => Below.heap_alloc _ _ _ (hD k hk)⟩
theorem Safe.old {D : Nat → Prop} {a w : World} (h : Safe D a w) (hD : ∀ k, D k → k < a.heap.size) : ∀ k, D k → k < w.heap.size := fun k hk => Nat.lt_of_lt_of_le (hD k hk) h.size
theorem Safe.cell {D : Nat → Prop} {w w' : World} (h : Safe D w w') {p : Addr} (hp : D p.block) : w'.cell? p = w.cell? p := World.cell?_of_block (w := w) (h.block p.block hp)
/-- An arena behind a pointer, none of it in D. -/
def ArD (D : Nat → Prop) (w : World) (g : Nat) (ns : List Nd) : Prop :=
  ¬ D g ∧ g < w.heap.size ∧ ∃ v, w.heap[g]? = some (.cells #[v] 32 (0, 0)) ∧ OwnN 0 w v ns ∧ v.ownBlock ≠ some g ∧ ∀ k, v.ownBlock = some k → ¬ D k
theorem ArD.later {D : Nat → Prop} {g : Nat} {w w' : World} {ns : List Nd} (h : ArD D w g ns) (hb : Below w.heap.size w w') : ArD D w' g ns := by
  obtain ⟨h1, h2, v, h3, h4, h5, h6⟩ := h
  exact ⟨h1, Nat.lt_of_lt_of_le h2 hb.size, v, (hb.block g h2).trans h3, h4.later hb, h5, h6⟩
theorem ArenaAt.toD {B g : Nat} {w : World} {ns : List Nd} (h : ArenaAt B w g ns) : ArD (fun k => k < B) w g ns := by
  obtain ⟨h1, h2, v, h3, h4, h5⟩ := h
  exact ⟨by omega, h2, v, h3, h4.base (Nat.zero_le _), h5, fun k hk => by have := (h4.lt k hk).1; omega⟩
theorem OwnN.from {B : Nat} {w : World} {v : Value} {ns : List Nd} (h : OwnN 0 w v ns) (hB : ∀ k, v.ownBlock = some k → B ≤ k) : OwnN B w v ns := by
  refine ⟨h.1, ?_⟩
  rcases h.2 with h0 | ⟨g, cap, cur, e, hg, rest⟩
  · exact .inl h0
  · exact .inr ⟨g, cap, cur, e, hB g (by rw [e]; rfl), rest⟩
theorem ArD.toB {B g : Nat} {w : World} {ns : List Nd} (h : ArD (fun k => k < B) w g ns) : ArenaAt B w g ns := by
  obtain ⟨h1, h2, v, h3, h4, h5, h6⟩ := h
  exact ⟨by omega, h2, v, h3, h4.from (fun k hk => by have := h6 k hk; omega), h5⟩
/-- A block that was just made may be kept, too. -/
theorem ArD.wide {D : Nat → Prop} {g r : Nat} {w : World} {ns : List Nd} (h : ArD D w g ns) (hr : w.heap.size ≤ r) (w' : World) (hb : Below w.heap.size w w') : ArD (fun k => D k ∨ k = r) w' g ns := by
  obtain ⟨h1, h2, v, h3, h4, h5, h6⟩ := h.later hb
  obtain ⟨_, q2, u, q3, q4, _, _⟩ := h
  have e : u = v := by have := (hb.block g q2).trans q3; rw [h3] at this; simpa using this.symm
  subst e
  refine ⟨fun hk => hk.elim h1 (fun e => by omega), h2, u, h3, h4, h5, fun k hk hd => hd.elim (h6 k hk) (fun e => ?_)⟩
  have := (q4.lt k hk).2
  omega
theorem ArD.narrow {D D' : Nat → Prop} {g : Nat} {w : World} {ns : List Nd} (h : ArD D w g ns) (hD : ∀ k, D' k → D k) : ArD D' w g ns := by
  obtain ⟨h1, h2, v, h3, h4, h5, h6⟩ := h
  exact ⟨fun hk => h1 (hD _ hk), h2, v, h3, h4, h5, fun k hk hd => h6 k hk (hD _ hd)⟩
/-- A row of ints in a block of D. -/
def RowD (D : Nat → Prop) (w : World) (a : Option Addr) (xs : List Int) : Prop := xs = [] ∨ ∃ b off, a = some ⟨b, off, none⟩ ∧ D b ∧ ∀ j, j < xs.length → w.cell? ⟨b, off + j, none⟩ = some (.int .i64 (xs.getD j 0))
theorem RowD.at {D : Nat → Prop} {w w' : World} {b off : Nat} {xs : List Int} (h : RowD D w (some ⟨b, off, none⟩) xs) (hb : Safe D w w') {i : Nat} (hi : i < xs.length) : D b ∧ w'.cell? ⟨b, off + i, none⟩ = some (.int .i64 (xs.getD i 0)) := by
  rcases h with h | ⟨b', off', e, hd, hc⟩
  · subst h; simp at hi
  · obtain ⟨rfl, rfl⟩ : b = b' ∧ off = off' := by simpa using e
    exact ⟨hd, (hb.cell (p := ⟨b, off + i, none⟩) hd).trans (hc i hi)⟩
theorem RowD.addr {D : Nat → Prop} {w : World} {a : Option Addr} {xs : List Int} (h : RowD D w a xs) {i : Nat} (hi : i < xs.length) : ∃ b off, a = some ⟨b, off, none⟩ := by
  rcases h with h | ⟨b', off', e, hd, hc⟩
  · subst h; simp at hi
  · exact ⟨_, _, e⟩
theorem ArD.at0 {D : Nat → Prop} {g : Nat} {w : World} {ns : List Nd} (h : ArD D w g ns) : ArenaAt 0 w g ns := by
  obtain ⟨h1, h2, v, h3, h4, h5, h6⟩ := h
  exact ⟨Nat.zero_le _, h2, v, h3, h4, h5⟩
end Go.Proofs.Ytagjdhiicpglaaa
