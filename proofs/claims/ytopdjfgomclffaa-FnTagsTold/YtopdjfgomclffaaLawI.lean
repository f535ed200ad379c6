/- The laws' own helpers over rows of integers: toIntS, eqIntS, markIntS, heldIntS; what a law keeps of such a row; over no arena. -/
import Derived.Test.YtopdjfgomclffaaProg
import Derived.Test.YtopdjfgomclffaaPlain
import Derived.Test.YtopdjfgomclffaaArrW
import Derived.WalkKit
import Derived.WalkLawsBesides
import Derived.WalkSpells
import Derived.OwnWalk
import Derived.Laws.OwnMore
import Derived.Laws.Rows
import Derived.Laws.MakeOwn
import Derived.Deep.QuietTactic
import Derived.BigQuiet
import Derived.OpenShut
import Derived.ChangeOld
import Derived.Lib.SmallJoins
import Derived.Deep.Slices
import Derived.ProofKit
namespace Go.Proofs.Ytopdjfgomclffaa
open Go.ChangeShapes Go.WideShapes Go.ChangeAt Go.RowKit Go.Joins Go.Deep
set_option linter.unusedVariables false
set_option maxRecDepth 20000
def AddrN (a : Option Addr) (cap : Nat) : Prop := (a = none ∧ cap = 0) ∨ ∃ b off, a = some ⟨b, off, none⟩
theorem below_dn {B : Nat} {w w' : World} (h : Below B w w') (n : Nat) : Below B w (w'.drewN n) := ⟨h.os, h.tape, h.output, h.size, h.block⟩
theorem gb_set {w w' : World} {g : Nat} (h : w.grownBy w' (some g)) (j : Nat) (u : Value) : w.grownBy (w'.setCell ⟨g, j, none⟩ u) (some g) :=
  ⟨h.os, h.tape, h.output, by simpa using h.size, fun k hk hne => (Below.heap_setCell _ _ _ _ (by simpa using hne)).trans (h.block k hk hne)⟩
theorem cell_grown {w w' : World} {r : Option Nat} {b j : Nat} {u : Value} (hg : w.grownBy w' r) (hb : b < w.heap.size) (hne : r ≠ some b) (h : w.cell? ⟨b, j, none⟩ = some u) : w'.cell? ⟨b, j, none⟩ = some u := by
  rw [World.cell?_of_block (w := w) (hg.block b hb (fun e => hne e.symm))]; exact h
theorem infoIntS : (Try.prog.info? 3).map (fun i => (i.zero, i.size, i.bytes)) = some (some (.int .i64 0), 1, 8) := by kernel_rfl
/-- A row of integers of the call's own: its cells. -/
theorem own_ints {w : World} {base k : Nat} {v : Value} {xs : List Int} (h : w.ownsRow base 3 1 v k (xs.map (Value.int .i64))) (hk : 0 < k) :
    ∃ g cap, v = .slice (some ⟨g, 0, none⟩) k cap ∧ base ≤ g ∧ g < w.heap.size ∧ ∀ j, j < k → w.cell? ⟨g, j, none⟩ = some (.int .i64 (xs.getD j 0)) := by
  have hl : xs.length = k := by have := h.1; simpa using this
  have h' := h
  rcases h.2 with ⟨_, h0⟩ | ⟨g, cap, cur, rfl, hg, hb, _⟩
  · omega
  · refine ⟨g, cap, rfl, hg, (Array.getElem?_eq_some_iff.1 hb).1, fun j hj => ?_⟩
    rw [h'.cellAt j (by omega), List.getElem?_map, List.getElem?_eq_getElem (by omega), List.getD_eq_getElem?_getD, List.getElem?_eq_getElem (by omega)]; rfl
theorem own_base {w : World} {base base' e size n : Nat} {v : Value} {xs : List Value} (h : w.ownsRow base e size v n xs) (hb : base' ≤ base) : w.ownsRow base' e size v n xs := by
  refine ⟨h.1, ?_⟩
  rcases h.2 with h0 | ⟨g, cap, cur, e, hg, rest⟩
  · exact .inl h0
  · exact .inr ⟨g, cap, cur, e, Nat.le_trans hb hg, rest⟩
theorem own_next {B e size n : Nat} {w w' : World} {v : Value} {xs : List Value} (h : w.ownsRow B e size v n xs) (hb : Below w.heap.size w w') : w'.ownsRow B e size v n xs := by
  refine ⟨h.1, ?_⟩
  rcases h.2 with h0 | ⟨g, cap, cur, e, hg, hh, rest⟩
  · exact .inl h0
  · exact .inr ⟨g, cap, cur, e, hg, (hb.block g (Array.getElem?_eq_some_iff.1 hh).1).trans hh, rest⟩
/-- A row of integers in memory, below B. -/
def RowI (B : Nat) (w : World) (a : Option Addr) (xs : List Int) : Prop := xs = [] ∨ ∃ b off, a = some ⟨b, off, none⟩ ∧ b < B ∧ ∀ j, j < xs.length → w.cell? ⟨b, off + j, none⟩ = some (.int .i64 (xs.getD j 0))
theorem RowI.at {B : Nat} {w w' : World} {b off : Nat} {xs : List Int} (h : RowI B w (some ⟨b, off, none⟩) xs) (hb : Below B w w') {i : Nat} (hi : i < xs.length) : b < B ∧ w'.cell? ⟨b, off + i, none⟩ = some (.int .i64 (xs.getD i 0)) := by
  rcases h with h0 | ⟨b', off', e, hlt, hc⟩
  · rw [h0] at hi; simp at hi
  · cases e
    exact ⟨hlt, (hb.cell hlt).trans (hc i hi)⟩
theorem RowI.addr {B : Nat} {w : World} {a : Option Addr} {xs : List Int} (h : RowI B w a xs) {i : Nat} (hi : i < xs.length) : ∃ b off, a = some ⟨b, off, none⟩ := by
  rcases h with h0 | ⟨b', off', e, _⟩
  · rw [h0] at hi; simp at hi
  · exact ⟨b', off', e⟩
theorem RowI.later {B : Nat} {w w' : World} {a : Option Addr} {xs : List Int} (h : RowI B w a xs) (hb : Below B w w') : RowI B w' a xs := by
  rcases h with h0 | ⟨b, off, e, hlt, hc⟩
  · exact .inl h0
  · exact .inr ⟨b, off, e, hlt, fun j hj => (hb.cell hlt).trans (hc j hj)⟩
theorem RowI.wide {B B' : Nat} {w : World} {a : Option Addr} {xs : List Int} (h : RowI B w a xs) (hB : B ≤ B') : RowI B' w a xs := by
  rcases h with h0 | ⟨b, off, e, hlt, hc⟩
  · exact .inl h0
  · exact .inr ⟨b, off, e, Nat.lt_of_lt_of_le hlt hB, hc⟩
theorem RowI.grown {w w' : World} {a : Option Addr} {xs : List Int} (h : RowI w.heap.size w a xs) (hb : Below w.heap.size w w') : RowI w'.heap.size w' a xs := (h.later hb).wide hb.size
/-- A row of integers that the call owns. -/
def OwnInt (base : Nat) (w : World) (v : Value) (xs : List Int) : Prop := w.ownsRow base 3 1 v xs.length (xs.map (Value.int .i64))
theorem OwnInt.row {base : Nat} {w : World} {v : Value} {xs : List Int} (h : OwnInt base w v xs) : ∃ a cap, v = .slice a xs.length cap ∧ AddrN a cap ∧ RowI w.heap.size w a xs := by
  rcases Nat.eq_zero_or_pos xs.length with h0 | h0
  · rcases h.2 with ⟨rfl, _⟩ | ⟨g, cap, cur, rfl, _⟩
    · exact ⟨none, 0, by rw [h0], .inl ⟨rfl, rfl⟩, .inl (List.length_eq_zero_iff.1 h0)⟩
    · exact ⟨_, cap, rfl, .inr ⟨g, 0, rfl⟩, .inl (List.length_eq_zero_iff.1 h0)⟩
  · obtain ⟨g, cap, rfl, hg, hlt, hc⟩ := own_ints h h0
    exact ⟨_, cap, rfl, .inr ⟨g, 0, rfl⟩, .inr ⟨g, 0, rfl, hlt, fun j hj => by rw [Nat.zero_add]; exact hc j hj⟩⟩
theorem OwnInt.later {B : Nat} {w w' : World} {v : Value} {xs : List Int} (h : OwnInt B w v xs) (hb : Below w.heap.size w w') : OwnInt B w' v xs := own_next h hb
theorem OwnInt.base {B B' : Nat} {w : World} {v : Value} {xs : List Int} (h : OwnInt B w v xs) (hb : B' ≤ B) : OwnInt B' w v xs := own_base h hb
/-- A row of integers that the law owns, its block from lo on, below hi. -/
structure OwnZ (lo hi : Nat) (v : Value) (xs : List Int) (w : World) : Prop where
  own : OwnInt lo w v xs
  le : hi ≤ w.heap.size
  lt : ∀ k, v.ownBlock = some k → k < hi
theorem OwnZ.made {lo : Nat} {v : Value} {xs : List Int} {w : World} (h : OwnInt lo w v xs) : OwnZ lo w.heap.size v xs w := ⟨h, Nat.le_refl _, fun k hk => (World.ownsRow.lt h k hk).2⟩
theorem OwnZ.next {lo hi : Nat} {v : Value} {xs : List Int} {w w' : World} (h : OwnZ lo hi v xs w) (hb : Below w.heap.size w w') : OwnZ lo hi v xs w' := ⟨h.own.later hb, Nat.le_trans h.le hb.size, h.lt⟩
theorem OwnZ.mark {lo hi : Nat} {v : Value} {xs : List Int} {w w' : World} {r : Option Nat} (h : OwnZ lo hi v xs w) (hg : w.grownBy w' r) (hne : ∀ g, r = some g → g < lo ∨ hi ≤ g) : OwnZ lo hi v xs w' := by
  refine ⟨World.ownsRow.kept h.own hg ?_, Nat.le_trans h.le hg.size, h.lt⟩
  cases hv : v.ownBlock with
  | none => exact .inl rfl
  | some k =>
    right
    intro e
    have h1 := World.ownsRow.lt h.own k hv
    have h2 := h.lt k hv
    have h3 := hne k e.symm
    omega
theorem OwnZ.rowAt {lo hi : Nat} {a : Option Addr} {n cap : Nat} {xs : List Int} {w : World} (h : OwnZ lo hi (.slice a n cap) xs w) : RowI w.heap.size w a xs := by
  obtain ⟨a', cap', e, _, hr⟩ := h.own.row
  cases e
  exact hr
theorem OwnZ.block {lo hi : Nat} {v : Value} {xs : List Int} {w : World} (h : OwnZ lo hi v xs w) : ∀ g, v.ownBlock = some g → lo ≤ g ∧ g < hi := fun g hg => ⟨(World.ownsRow.lt h.own g hg).1, h.lt g hg⟩

/-- The marks of a row. -/
def marksI (k : Int) : Nat → List Int
  | 0 => []
  | n + 1 => marksI k n ++ [k + (n : Int)]
theorem marksI_len (k : Int) : ∀ n, (marksI k n).length = n
  | 0 => rfl
  | n + 1 => by simp [marksI, marksI_len k n]
theorem marksI_at (k : Int) : ∀ n i, i < n → (marksI k n).getD i 0 = k + (i : Int)
  | 0, i, h => by omega
  | n + 1, i, h => by
    rw [marksI, List.getD_eq_getElem?_getD]
    by_cases hi : i < n
    · rw [List.getElem?_append_left (by rw [marksI_len]; exact hi), ← List.getD_eq_getElem?_getD]; exact marksI_at k n i hi
    · obtain rfl : i = n := by omega
      rw [List.getElem?_append_right (by rw [marksI_len]; exact Nat.le_refl _), marksI_len]; simp
theorem ints_of {H : Type} {enc : TypeId × Value → H} {W : World} {a0 : Option Addr} {len0 cap0 : Nat} {d0 : DataW H} {p0 : List MemPlace}
    (h0 : DataW.Trod enc Try.prog W 0 (fun _ => true) true 24 (.slice a0 len0 cap0) d0 p0) : ∃ xs : List Int, len0 = xs.length ∧ xs.length ≤ maxLen ∧ RowI W.heap.size W a0 xs ∧ ∀ x ∈ xs, -9223372036854775808 ≤ x ∧ x ≤ 9223372036854775807 := by
  obtain ⟨fuel, hf⟩ := h0
  rcases open_ints Try.underlying24 Try.underlying3 (by kernel_rfl) hf with ⟨hcs, _⟩ | ⟨x, l, c, zs, hcs, _, hl, hm, hz, _, hcell, hwz⟩
  · simp [Value.cells] at hcs
    exact ⟨[], hcs.2.1, by simp, .inl rfl, by simp⟩
  · simp [Value.cells] at hcs
    obtain ⟨rfl, rfl, rfl⟩ := hcs
    have hz' : zs.length = cap0 := by simpa using hz
    have hlen : (zs.take len0).length = len0 := by rw [List.length_take]; omega
    refine ⟨zs.take len0, hlen.symm, by rw [hlen]; omega, ?_, fun y hy => ?_⟩
    · rcases Nat.eq_zero_or_pos len0 with h0 | h0
      · exact .inl (by rw [h0]; rfl)
      · obtain ⟨b, off, spot⟩ := x
        have hc0 := hcell 0 (by omega)
        have hspot : spot = none := by simpa [Addr.add] using World.cell?_spot hc0
        subst hspot
        refine .inr ⟨b, off, rfl, ?_, fun i hi => ?_⟩
        · have := World.block_lt_of_cell? W _ hc0
          simpa [Addr.add] using this
        · rw [hlen] at hi
          have hci := hcell i (by omega)
          have e : (⟨b, off, none⟩ : Addr).add i = ⟨b, off + i, none⟩ := by unfold Addr.add; split <;> simp_all
          rw [e] at hci
          rw [hci]
          simp [List.getD, hi]
    · exact bounds_i64 (hwz y (List.mem_of_mem_take hy))
/-- A row of integers that came in, below p. -/
structure InI (p : Nat) (a : Option Addr) (xs : List Int) (w : World) : Prop where
  le : p ≤ w.heap.size
  row : RowI p w a xs
theorem InI.next {p : Nat} {a : Option Addr} {xs : List Int} {w w' : World} (h : InI p a xs w) (hb : Below w.heap.size w w') : InI p a xs w' := ⟨Nat.le_trans h.le hb.size, h.row.later (hb.mono h.le)⟩
theorem InI.mark {p : Nat} {a : Option Addr} {xs : List Int} {w w' : World} {r : Option Nat} (h : InI p a xs w) (hg : w.grownBy w' r) (hne : ∀ g, r = some g → p ≤ g) : InI p a xs w' := by
  refine ⟨Nat.le_trans h.le hg.size, ?_⟩
  rcases h.row with h0 | ⟨b, off, e, hlt, hc⟩
  · exact .inl h0
  · refine .inr ⟨b, off, e, hlt, fun i hi => ?_⟩
    have hn : r ≠ some b := fun e => by have := hne b e; omega
    exact cell_grown hg (Nat.lt_of_lt_of_le hlt h.le) hn (hc i hi)
theorem InI.all {p : Nat} {a : Option Addr} {xs : List Int} {w : World} (h : InI p a xs w) : RowI w.heap.size w a xs := h.row.wide h.le
end Go.Proofs.Ytopdjfgomclffaa
