/- The laws' marks on an arena whose slice shows less room than its block has (slices.Clip). -/
import Derived.Test.YtffnadnndmmliaaLawArena2
import Derived.Test.YtffnadnndmmliaaLawKeep
import Derived.WalkKit
import Derived.WalkLawsBesides
import Derived.OwnWalk
import Derived.Test.YtffnadnndmmliaaMakeParts
import Derived.Test.YtffnadnndmmliaaMakeIs
import Derived.Test.YtffnadnndmmliaaHeldQ
import Derived.WalkSpells
import Derived.Laws.Rows
import Derived.Deep.QuietTactic
import Derived.BigQuiet
import Derived.Test.YtffnadnndmmliaaLawInts
namespace Go.Proofs.Ytffnadnndmmliaa
open Go.RowKit
/-- A row of nodes that the call owns, shown with whatever room. -/
def OwnC (base : Nat) (w : World) (v : Value) (ns : List Nd) : Prop := ∃ a cap cp, v = .slice a ns.length cap ∧ AddrN a cap ∧ OwnN base w (.slice a ns.length cp) ns
theorem OwnN.clip {base : Nat} {w : World} {v : Value} {ns : List Nd} (h : OwnN base w v ns) : OwnC base w v ns := by
  obtain ⟨a, cap, rfl, ha, _⟩ := h.row
  exact ⟨a, cap, cap, rfl, ha, h⟩
set_option maxHeartbeats 1600000 in
theorem markNodeSC_any (base g cap cp n k0 : Nat) (xs0 : List Value) (w : World) (hn : n ≤ 2097152) (hk : k0 ≤ 1000) (hown : w.ownsRow base 45 4 (.slice (some ⟨g, 0, none⟩) n cp) n xs0) :
    Calls Try.prog 84 #[.slice (some ⟨g, 0, none⟩) n cap, .int .i64 (k0 : Int)] w fun e w' => e = .returned (.int .i64 ((k0 : Int) + 4 * (n : Int))) ∧ OwnN base w' (.slice (some ⟨g, 0, none⟩) n cp) (marksN k0 n) ∧ w.grownBy w' (some g) := by
  go_enter Try.func84, Try.ntmps84
  go_wp2
  go_loopw [1, 5] (fun kk i wr => ∃ (j : Nat) (xs : List Value), j ≤ n ∧ i = .int .i64 (j : Int) ∧ kk = .int .i64 ((k0 : Int) + 4 * (j : Int)) ∧ wr.ownsRow base 45 4 (.slice (some ⟨g, 0, none⟩) n cp) n xs ∧ Hid (xs.take (j * 4) = cellsN (marksN k0 j)) ∧ Hid (w.grownBy wr (some g)))
    (fun _ i _ => n - (intOf i).toNat)
  case atStart => exact ⟨0, _, Nat.zero_le _, rfl, by simp, hown, (by show _ = _; simp [cellsN, marksN]), gb_refl _ _⟩
  case round =>
    obtain ⟨j, xs, hj, rfl, rfl, ho, HT, HG⟩ := hrel
    have hxl : xs.length = n * 4 := ho.1
    by_cases hlt : j < n
    · have hi0 : (0 : Int) ≤ (j : Int) := by omega
      have hi1 : (j : Int) < (n : Int) := by omega
      obtain ⟨u0, e0⟩ : ∃ u, wr.cell? ⟨g, j * 4, none⟩ = some u := by rw [ho.cellAt (j * 4) (by omega)]; exact ⟨_, List.getElem?_eq_getElem (by omega)⟩
      obtain ⟨u1, e1⟩ : ∃ u, wr.cell? ⟨g, j * 4 + 1, none⟩ = some u := by rw [ho.cellAt (j * 4 + 1) (by omega)]; exact ⟨_, List.getElem?_eq_getElem (by omega)⟩
      obtain ⟨u2, e2⟩ : ∃ u, wr.cell? ⟨g, j * 4 + 2, none⟩ = some u := by rw [ho.cellAt (j * 4 + 2) (by omega)]; exact ⟨_, List.getElem?_eq_getElem (by omega)⟩
      obtain ⟨u3, e3⟩ : ∃ u, wr.cell? ⟨g, j * 4 + 3, none⟩ = some u := by rw [ho.cellAt (j * 4 + 3) (by omega)]; exact ⟨_, List.getElem?_eq_getElem (by omega)⟩
      have f0 := ho.frozenAt (j * 4)
      have f1 := ho.frozenAt (j * 4 + 1)
      have f2 := ho.frozenAt (j * 4 + 2)
      have f3 := ho.frozenAt (j * 4 + 3)
      have HS : Hid _ := ((((ho.stored (j * 4) (.int .i64 ((k0 : Int) + 4 * (j : Int)))).1.stored (j * 4 + 1) (.int .i64 ((k0 : Int) + 4 * (j : Int) + 1))).1.stored (j * 4 + 2) (.int .i64 ((k0 : Int) + 4 * (j : Int) + 1 + 1))).1.stored (j * 4 + 3) (.int .i64 ((k0 : Int) + 4 * (j : Int) + 1 + 1 + 1))).1
      have HG4 : Hid _ := gb_set (gb_set (gb_set (gb_set HG.out (j * 4) (.int .i64 ((k0 : Int) + 4 * (j : Int)))) (j * 4 + 1) (.int .i64 ((k0 : Int) + 4 * (j : Int) + 1))) (j * 4 + 2) (.int .i64 ((k0 : Int) + 4 * (j : Int) + 1 + 1))) (j * 4 + 3) (.int .i64 ((k0 : Int) + 4 * (j : Int) + 1 + 1 + 1))
      have HT4 : Hid (((((xs.set (j * 4) (.int .i64 ((k0 : Int) + 4 * (j : Int)))).set (j * 4 + 1) (.int .i64 ((k0 : Int) + 4 * (j : Int) + 1))).set (j * 4 + 2) (.int .i64 ((k0 : Int) + 4 * (j : Int) + 1 + 1))).set (j * 4 + 3) (.int .i64 ((k0 : Int) + 4 * (j : Int) + 1 + 1 + 1))).take ((j + 1) * 4) = cellsN (marksN k0 (j + 1))) := by
        show _ = _
        rw [show (j + 1) * 4 = j * 4 + 4 by omega, set4_take xs (j * 4) _ _ _ _ (by omega), HT.out, marksN, cellsN_append]; rfl
      clear ho HT HG
      go_wp2
      go_roundw
      case rel => exact ⟨j + 1, _, by omega, by go_num, by go_num, HS.out, HT4, HG4⟩
      case measure => simp [intOf]; omega
    · obtain rfl : j = n := by omega
      have HE : Hid (xs = cellsN (marksN k0 j)) := by
        show _ = _
        have := HT.out
        rw [List.take_of_length_le (by omega)] at this
        exact this
      clear HT
      go_wp2
      go_ret
      exact ⟨rfl, by unfold OwnN; rw [← HE.out, marksN_len]; exact ho, HG.out⟩
/-- markArena on an arena that the call owns, whatever room it shows. -/
theorem markArenaC_any (base k0 : Nat) (a : Option Addr) (cap cp : Nat) (ns : List Nd) (w : World) (hn : ns.length ≤ 2097152) (hk : k0 ≤ 1000) (ha : AddrN a cap) (hown : OwnN base w (.slice a ns.length cp) ns) :
    Calls Try.prog 20 #[.agg #[.slice a ns.length cap], .int .i64 (k0 : Int)] w fun e w' => e = .returned (.int .i64 ((k0 : Int) + 4 * (ns.length : Int))) ∧ OwnN base w' (.slice a ns.length cp) (marksN k0 ns.length) ∧ w.grownBy w' (Value.slice a ns.length cp).ownBlock := by
  rcases hown.2 with ⟨e, h0⟩ | ⟨g, cp', cur, e, hg, hh, _⟩
  · obtain ⟨rfl, h1, rfl⟩ : a = none ∧ ns.length = 0 ∧ cp = 0 := by simpa using e
    rcases ha with ⟨_, rfl⟩ | ⟨b, off, e⟩
    · have := markArena_any base k0 (.slice none ns.length 0) ns w hn hk hown
      exact this
    · cases e
  · obtain ⟨rfl, rfl⟩ : a = some ⟨g, 0, none⟩ ∧ cp = cp' := by simpa using e
    have HM : Hid _ := markNodeSC_any base g cap cp ns.length k0 (cellsN ns) (w.alloc (.cells #[.slice (some ⟨g, 0, none⟩) ns.length cap] 28)) hn hk (hown.alloc _)
    clear hown hh ha
    go_enter Try.func20, Try.ntmps20
    go_wp2_with fail
    refine Calls.mono HM.out ?_
    rintro e w1 ⟨rfl, ho, hgr⟩
    have hgb : w.grownBy w1 (Value.slice (some ⟨g, 0, none⟩) ns.length cp).ownBlock := gb_alloc hgr
    clear HM hgr
    go_wp2
    go_ret
    exact ⟨rfl, ho, hgb⟩
end Go.Proofs.Ytffnadnndmmliaa

namespace Go.Proofs.Ytffnadnndmmliaa
open Go.RowKit
set_option linter.unusedVariables false
/-- The worlds behind one in which nothing that was there has turned. -/
theorem read_class (w1 : World) : ∃ S : World → Prop, S w1.drew ∧ Nonempty (Hw S) ∧ Hid ((∀ (p : Addr) (v : Value), p.block < w1.heap.size → w1.cell? p = some v → ∀ s : Hw S, s.w.cell? p = some v) ∧ (∀ (s : Hw S) w', Below s.w.heap.size s.w w' → S w') ∧ (∀ w', S w' → Below w1.heap.size w1 w') ∧ (∀ s : Hw S, Below w1.heap.size w1 s.w)) :=
  ⟨fun w' => Below w1.heap.size w1 w', (Below.refl _ _).drew, ⟨⟨w1, Below.refl _ _⟩⟩, fun p v hp hc s => (s.ok.cell hp).trans hc, fun s w' hb => s.ok.trans (hb.mono s.ok.size), fun _ h => h, fun s => s.ok⟩
/-- A part of a List of three. -/
def p3 (ns : List Nd) (k : Int) (i : Nat) : Int := (partsV ns k 3).getD i 0
/-- RecordHead. -/
def headB (ns : List Nd) (k : Int) : Bool := partsB ns k 3 && (isK ns (p3 ns k 0) 1 && (isK ns (p3 ns k 1) 1 && (inB (numV ns (p3 ns k 0)) 0 8 && inB (numV ns (p3 ns k 1)) 0 9999)))
def headE (ns : List Nd) (k : Int) : Int := if headB ns k = true then numV ns (p3 ns k 0) else 0
def headS (ns : List Nd) (k : Int) : Int := if headB ns k = true then numV ns (p3 ns k 1) else 0
theorem parts3 {ns : List Nd} {k : Int} (h : partsB ns k 3 = true) : (partsV ns k 3).length = 3 := by
  unfold partsB at h
  unfold partsV
  cases hp : partsR ns k 3 with
  | none => rw [hp] at h; simp at h
  | some xs =>
    unfold partsR at hp
    rw [if_neg (by omega)] at hp
    exact (partsN_len ns 3 k xs hp).1
/-- The row of the parts. -/
theorem own3 {B : Nat} {w : World} {v : Value} {xs : List Int} (h : OwnInt B w v xs) (hl : xs.length = 3) : ∃ g off cap, v = .slice (some ⟨g, off, none⟩) 3 cap ∧ g < w.heap.size ∧ w.cell? ⟨g, off, none⟩ = some (.int .i64 (xs.getD 0 0)) ∧ w.cell? ⟨g, off + 1, none⟩ = some (.int .i64 (xs.getD 1 0)) ∧ w.cell? ⟨g, off + 2, none⟩ = some (.int .i64 (xs.getD 2 0)) := by
  obtain ⟨a, cap, rfl, -, hr⟩ := h.row
  rcases hr with h0 | ⟨b, off, rfl, hb, hc⟩
  · rw [h0] at hl; simp at hl
  · rw [hl]
    exact ⟨b, off, cap, rfl, hb, hc 0 (by omega), hc 1 (by omega), hc 2 (by omega)⟩
/-- OpenRecord. -/
def inAt (ns : List Nd) (key k : Int) : Int := openV ns key (p3 ns k 2)
def openRB (ns : List Nd) (key k : Int) : Bool := headB ns k && (openB ns key (p3 ns k 2) && (partsB ns (inAt ns key k) 3 && (decide (p3 ns (inAt ns key k) 0 = p3 ns k 0) && decide (p3 ns (inAt ns key k) 1 = p3 ns k 1))))
def openRV (ns : List Nd) (key k : Int) : Int := if openRB ns key k = true then p3 ns (inAt ns key k) 2 else -1
theorem headB_parts {ns : List Nd} {k : Int} (h : headB ns k = true) : partsB ns k 3 = true := by unfold headB at h; simp only [Bool.and_eq_true] at h; exact h.1
end Go.Proofs.Ytffnadnndmmliaa

namespace Go.Proofs.Ytffnadnndmmliaa
open Go.RowKit

/-- A variable of an arena in memory. -/
structure Box (g : Nat) (v : Value) (w : World) : Prop where
  row : w.heap[g]? = some (.cells #[v] 28 (0, 0))
theorem Box.lt {g : Nat} {v : Value} {w : World} (h : Box g v w) : g < w.heap.size := (Array.getElem?_eq_some_iff.1 h.row).1
theorem Box.c {g : Nat} {v : Value} {w : World} (h : Box g v w) : w.cell? ⟨g, 0, none⟩ = some v := (cell_of_row _ _ 0 _ _ _ h.row).trans rfl
theorem Box.fr {g : Nat} {v : Value} {w : World} (h : Box g v w) : w.frozen? ⟨g, 0, none⟩ = false := frozen_of_row _ _ 0 _ _ h.row
theorem Box.next {g : Nat} {v : Value} {w w' : World} (h : Box g v w) (hb : Below w.heap.size w w') : Box g v w' := ⟨(hb.block g h.lt).trans h.row⟩
theorem Box.set {g : Nat} {v : Value} {w : World} (h : Box g v w) (u : Value) : Box g u (w.setCell ⟨g, 0, none⟩ u) := ⟨(heap_setCell_same _ _ 0 _ _ _ h.row).trans rfl⟩
theorem Box.made {w : World} {v : Value} : Box w.heap.size v (w.alloc (.cells #[v] 28)) := ⟨heap_alloc_new w _⟩
theorem Own.set {lo hi g : Nat} {v u : Value} {ns : List Nd} {w : World} (h : Own lo hi v ns w) (hg : g < lo) : Own lo hi v ns (w.setCell ⟨g, 0, none⟩ u) := ⟨ownsRow_setCell_below h.own hg _, by simpa using h.le, h.lt⟩
theorem OwnZ.set {lo hi g : Nat} {v u : Value} {xs : List Int} {w : World} (h : OwnZ lo hi v xs w) (hg : g < lo) : OwnZ lo hi v xs (w.setCell ⟨g, 0, none⟩ u) := ⟨ownsRow_setCell_below h.own hg _, by simpa using h.le, h.lt⟩
/-- The first three places that were drawn. -/
structure Pl (g : Nat) (p0 p1 p2 : Nat) (w : World) : Prop where
  lt : g < w.heap.size
  c0 : w.cell? ⟨g, 0, none⟩ = some (.int .i64 (p0 : Int))
  c1 : w.cell? ⟨g, 1, none⟩ = some (.int .i64 (p1 : Int))
  c2 : w.cell? ⟨g, 2, none⟩ = some (.int .i64 (p2 : Int))
theorem Pl.next {g p0 p1 p2 : Nat} {w w' : World} (h : Pl g p0 p1 p2 w) (hb : Below w.heap.size w w') : Pl g p0 p1 p2 w' := ⟨Nat.lt_of_lt_of_le h.lt hb.size, (hb.cell (p := ⟨g, 0, none⟩) h.lt).trans h.c0, (hb.cell (p := ⟨g, 1, none⟩) h.lt).trans h.c1, (hb.cell (p := ⟨g, 2, none⟩) h.lt).trans h.c2⟩
theorem Pl.set {g p0 p1 p2 b : Nat} {u : Value} {w : World} (h : Pl g p0 p1 p2 w) (hb : g ≠ b) : Pl g p0 p1 p2 (w.setCell ⟨b, 0, none⟩ u) := by
  have e : ∀ i, (w.setCell ⟨b, 0, none⟩ u).cell? ⟨g, i, none⟩ = w.cell? ⟨g, i, none⟩ := fun i => World.cell?_of_block (Below.heap_setCell _ _ _ _ hb)
  exact ⟨by simpa using h.lt, (e 0).trans h.c0, (e 1).trans h.c1, (e 2).trans h.c2⟩
end Go.Proofs.Ytffnadnndmmliaa

namespace Go.Proofs.Ytffnadnndmmliaa
open Go.RowKit
set_option linter.unusedVariables false
/-- The first four places that were drawn. -/
structure Pl4 (g : Nat) (p0 p1 p2 p3 : Nat) (w : World) : Prop where
  lt : g < w.heap.size
  c0 : w.cell? ⟨g, 0, none⟩ = some (.int .i64 (p0 : Int))
  c1 : w.cell? ⟨g, 1, none⟩ = some (.int .i64 (p1 : Int))
  c2 : w.cell? ⟨g, 2, none⟩ = some (.int .i64 (p2 : Int))
  c3 : w.cell? ⟨g, 3, none⟩ = some (.int .i64 (p3 : Int))
theorem Pl4.next {g p0 p1 p2 p3 : Nat} {w w' : World} (h : Pl4 g p0 p1 p2 p3 w) (hb : Below w.heap.size w w') : Pl4 g p0 p1 p2 p3 w' := ⟨Nat.lt_of_lt_of_le h.lt hb.size, (hb.cell (p := ⟨g, 0, none⟩) h.lt).trans h.c0, (hb.cell (p := ⟨g, 1, none⟩) h.lt).trans h.c1, (hb.cell (p := ⟨g, 2, none⟩) h.lt).trans h.c2, (hb.cell (p := ⟨g, 3, none⟩) h.lt).trans h.c3⟩
theorem Pl4.set {g p0 p1 p2 p3 b : Nat} {u : Value} {w : World} (h : Pl4 g p0 p1 p2 p3 w) (hb : g ≠ b) : Pl4 g p0 p1 p2 p3 (w.setCell ⟨b, 0, none⟩ u) := by
  have e : ∀ i, (w.setCell ⟨b, 0, none⟩ u).cell? ⟨g, i, none⟩ = w.cell? ⟨g, i, none⟩ := fun i => World.cell?_of_block (Below.heap_setCell _ _ _ _ hb)
  exact ⟨by simpa using h.lt, (e 0).trans h.c0, (e 1).trans h.c1, (e 2).trans h.c2, (e 3).trans h.c3⟩
end Go.Proofs.Ytffnadnndmmliaa
