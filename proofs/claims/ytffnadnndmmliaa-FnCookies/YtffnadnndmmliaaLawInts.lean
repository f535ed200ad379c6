/- The laws' own helpers over rows of integers: eqIntS, markIntS, heldIntS; and what a law keeps of such a row. -/
import Derived.Test.YtffnadnndmmliaaLawArena2
import Derived.Test.YtffnadnndmmliaaLawKeep
import Derived.Test.YtffnadnndmmliaaPlain
import Derived.WalkKit
import Derived.WalkLawsBesides
import Derived.WalkSpells
import Derived.OwnWalk
import Derived.Laws.OwnMore
import Derived.Laws.Rows
import Derived.Test.YtffnadnndmmliaaMakeA
import Derived.Test.YtffnadnndmmliaaPlainRead
namespace Go.Proofs.Ytffnadnndmmliaa
open Go.RowKit
set_option linter.unusedVariables false

/-- A row of integers in memory, below B. -/
def RowI (B : Nat) (w : World) (a : Option Addr) (xs : List Int) : Prop := xs = [] ∨ ∃ b off, a = some ⟨b, off, none⟩ ∧ b < B ∧ ∀ j, j < xs.length → w.cell? ⟨b, off + j, none⟩ = some (.int .i64 (xs.getD j 0))
theorem RowI.at {B : Nat} {w w' : World} {b off : Nat} {xs : List Int} (h : RowI B w (some ⟨b, off, none⟩) xs) (hb : Below B w w') {i : Nat} (hi : i < xs.length) : b < B ∧ w'.cell? ⟨b, off + i, none⟩ = some (.int .i64 (xs.getD i 0)) := by
  rcases h with h0 | ⟨b', off', e, hlt, hc⟩
  · rw [h0] at hi; simp at hi
  · cases e
    exact ⟨hlt, (hb.cell hlt).trans (hc i hi)⟩
theorem RowI.addr {B : Nat} {w : World} {a : Option Addr} {xs : List Int} (h : RowI B w a xs) {i : Nat} (hi : i < xs.length) : ∃ b off, a = some ⟨b, off, none⟩ := by
  rcases h with h0 | ⟨b', off', e, _⟩
  · rw [h0] at hi; simp at hi
  · exact ⟨b', off', e⟩
theorem RowI.later {B : Nat} {w w' : World} {a : Option Addr} {xs : List Int} (h : RowI B w a xs) (hb : Below B w w') : RowI B w' a xs := by
  rcases h with h0 | ⟨b, off, e, hlt, hc⟩
  · exact .inl h0
  · exact .inr ⟨b, off, e, hlt, fun j hj => (hb.cell hlt).trans (hc j hj)⟩
theorem RowI.wide {B B' : Nat} {w : World} {a : Option Addr} {xs : List Int} (h : RowI B w a xs) (hB : B ≤ B') : RowI B' w a xs := by
  rcases h with h0 | ⟨b, off, e, hlt, hc⟩
  · exact .inl h0
  · exact .inr ⟨b, off, e, Nat.lt_of_lt_of_le hlt hB, hc⟩
theorem RowI.grown {w w' : World} {a : Option Addr} {xs : List Int} (h : RowI w.heap.size w a xs) (hb : Below w.heap.size w w') : RowI w'.heap.size w' a xs := (h.later hb).wide hb.size
/-- A row of integers that the call owns. -/
def OwnInt (base : Nat) (w : World) (v : Value) (xs : List Int) : Prop := w.ownsRow base 3 1 v xs.length (xs.map (Value.int .i64))
theorem OwnInt.row {base : Nat} {w : World} {v : Value} {xs : List Int} (h : OwnInt base w v xs) : ∃ a cap, v = .slice a xs.length cap ∧ AddrN a cap ∧ RowI w.heap.size w a xs := by
  rcases Nat.eq_zero_or_pos xs.length with h0 | h0
  · rcases h.2 with ⟨rfl, _⟩ | ⟨g, cap, cur, rfl, _⟩
    · exact ⟨none, 0, by rw [h0], .inl ⟨rfl, rfl⟩, .inl (List.length_eq_zero_iff.1 h0)⟩
    · exact ⟨_, cap, rfl, .inr ⟨g, 0, rfl⟩, .inl (List.length_eq_zero_iff.1 h0)⟩
  · obtain ⟨g, cap, rfl, hg, hlt, hc⟩ := own_ints h h0
    exact ⟨_, cap, rfl, .inr ⟨g, 0, rfl⟩, .inr ⟨g, 0, rfl, hlt, fun j hj => by rw [Nat.zero_add]; exact hc j hj⟩⟩
theorem OwnInt.later {B : Nat} {w w' : World} {v : Value} {xs : List Int} (h : OwnInt B w v xs) (hb : Below w.heap.size w w') : OwnInt B w' v xs := own_next h hb
theorem OwnInt.base {B B' : Nat} {w : World} {v : Value} {xs : List Int} (h : OwnInt B w v xs) (hb : B' ≤ B) : OwnInt B' w v xs := own_base h hb
/-- A row of integers that the law owns, its block from lo on, below hi. -/
structure OwnZ (lo hi : Nat) (v : Value) (xs : List Int) (w : World) : Prop where
  own : OwnInt lo w v xs
  le : hi ≤ w.heap.size
  lt : ∀ k, v.ownBlock = some k → k < hi
theorem OwnZ.made {lo : Nat} {v : Value} {xs : List Int} {w : World} (h : OwnInt lo w v xs) : OwnZ lo w.heap.size v xs w := ⟨h, Nat.le_refl _, fun k hk => (World.ownsRow.lt h k hk).2⟩
theorem OwnZ.next {lo hi : Nat} {v : Value} {xs : List Int} {w w' : World} (h : OwnZ lo hi v xs w) (hb : Below w.heap.size w w') : OwnZ lo hi v xs w' := ⟨h.own.later hb, Nat.le_trans h.le hb.size, h.lt⟩
theorem OwnZ.mark {lo hi : Nat} {v : Value} {xs : List Int} {w w' : World} {r : Option Nat} (h : OwnZ lo hi v xs w) (hg : w.grownBy w' r) (hne : ∀ g, r = some g → g < lo ∨ hi ≤ g) : OwnZ lo hi v xs w' := by
  refine ⟨World.ownsRow.kept h.own hg ?_, Nat.le_trans h.le hg.size, h.lt⟩
  cases hv : v.ownBlock with
  | none => exact .inl rfl
  | some k =>
    right
    intro e
    have h1 := World.ownsRow.lt h.own k hv
    have h2 := h.lt k hv
    have h3 := hne k e.symm
    omega
theorem OwnZ.rowAt {lo hi : Nat} {a : Option Addr} {n cap : Nat} {xs : List Int} {w : World} (h : OwnZ lo hi (.slice a n cap) xs w) : RowI w.heap.size w a xs := by
  obtain ⟨a', cap', e, _, hr⟩ := h.own.row
  cases e
  exact hr
theorem OwnZ.block {lo hi : Nat} {v : Value} {xs : List Int} {w : World} (h : OwnZ lo hi v xs w) : ∀ g, v.ownBlock = some g → lo ≤ g ∧ g < hi := fun g hg => ⟨(World.ownsRow.lt h.own g hg).1, h.lt g hg⟩

/-- The marks of a row. -/
def marksI (k : Int) : Nat → List Int
  | 0 => []
  | n + 1 => marksI k n ++ [k + (n : Int)]
theorem marksI_len (k : Int) : ∀ n, (marksI k n).length = n
  | 0 => rfl
  | n + 1 => by simp [marksI, marksI_len k n]
theorem marksI_at (k : Int) : ∀ n i, i < n → (marksI k n).getD i 0 = k + (i : Int)
  | 0, i, h => by omega
  | n + 1, i, h => by
    rw [marksI, List.getD_eq_getElem?_getD]
    by_cases hi : i < n
    · rw [List.getElem?_append_left (by rw [marksI_len]; exact hi), ← List.getD_eq_getElem?_getD]; exact marksI_at k n i hi
    · obtain rfl : i = n := by omega
      rw [List.getElem?_append_right (by rw [marksI_len]; exact Nat.le_refl _), marksI_len]; simp
end Go.Proofs.Ytffnadnndmmliaa

namespace Go.Proofs.Ytffnadnndmmliaa
open Go.RowKit
set_option linter.unusedVariables false

/-- List, made from the end on. -/
def listF (xs : List Int) (ns : List Nd) : List Nd × Int := xs.foldr (fun x p => (makeA p.1 2 x p.2, makeK p.1 2 x p.2)) (putA ns ⟨1, 0, 0, 0⟩, putK ns ⟨1, 0, 0, 0⟩)
def listK (ns : List Nd) (xs : List Int) : Int := (listF xs ns).2
def listA (ns : List Nd) (xs : List Int) : List Nd := if (listF xs ns).2 < 0 then ns else (listF xs ns).1
theorem listF_nil (ns : List Nd) : listF [] ns = (putA ns ⟨1, 0, 0, 0⟩, putK ns ⟨1, 0, 0, 0⟩) := rfl
theorem listF_cons (x : Int) (xs : List Int) (ns : List Nd) : listF (x :: xs) ns = (makeA (listF xs ns).1 2 x (listF xs ns).2, makeK (listF xs ns).1 2 x (listF xs ns).2) := rfl
theorem listF_drop (xs : List Int) (ns : List Nd) {m : Nat} (h : m < xs.length) : listF (xs.drop m) ns = (makeA (listF (xs.drop (m + 1)) ns).1 2 (xs.getD m 0) (listF (xs.drop (m + 1)) ns).2, makeK (listF (xs.drop (m + 1)) ns).1 2 (xs.getD m 0) (listF (xs.drop (m + 1)) ns).2) := by
  rw [List.drop_eq_getElem_cons h, List.getD_eq_getElem?_getD, List.getElem?_eq_getElem h]
  rfl
theorem putA_le2 {ns : List Nd} {x : Nd} (h : ns.length ≤ 1048576) : (putA ns x).length ≤ 1048576 := by
  unfold putA
  split
  · rename_i h1; simp; omega
  · exact h
theorem makeA_le {ns : List Nd} {k x y : Int} (h : ns.length ≤ 1048576) : (makeA ns k x y).length ≤ 1048576 := by
  unfold makeA
  split
  · exact h
  · exact putA_le2 h
theorem listF_le (xs : List Int) {ns : List Nd} (h : ns.length ≤ 1048576) : (listF xs ns).1.length ≤ 1048576 := by
  induction xs with
  | nil => rw [listF_nil]; exact putA_le2 h
  | cons x xs ih => rw [listF_cons]; simp only; exact makeA_le ih
theorem listF_neg (xs : List Int) (ns : List Nd) : (listF xs ns).2 < 0 → (listF xs ns).2 = -1 := by
  cases xs with
  | nil => rw [listF_nil]; simp only; exact fun h => putK_neg h
  | cons x xs => rw [listF_cons]; simp only; exact fun h => makeK_neg h
/-- Where a part of it can't be, it can't. -/
theorem listF_fall (xs : List Int) (ns : List Nd) : ∀ m, (listF (xs.drop m) ns).2 < 0 → (listF xs ns).2 = -1
  | 0, h => listF_neg xs ns (by simpa using h)
  | m + 1, h => by
    by_cases hm : m < xs.length
    · refine listF_fall xs ns m ?_
      rw [listF_drop xs ns hm]
      have := (make_bad (ns := (listF (xs.drop (m + 1)) ns).1) (kind := 2) (x := xs.getD m 0) (y := (listF (xs.drop (m + 1)) ns).2) (.inr (.inr (.inr ⟨by decide, h⟩)))).1
      simp only
      omega
    · refine listF_fall xs ns m ?_
      rw [List.drop_eq_nil_of_le (by omega)]
      rw [List.drop_eq_nil_of_le (by omega)] at h
      exact h
theorem makeK2 (ns : List Nd) (x y : Int) : makeK ns 2 x y = putK ns ⟨2, 0, x, y⟩ ∧ makeA ns 2 x y = putA ns ⟨2, 0, x, y⟩ := by
  unfold makeK makeA
  rw [if_neg (by omega), if_neg (by omega)]
  exact ⟨rfl, rfl⟩
theorem listA_len {ns : List Nd} {xs : List Int} (h : ns.length ≤ 1048576) : (listA ns xs).length ≤ 1048577 := by
  unfold listA
  split
  · omega
  · have := listF_le xs h; omega

set_option maxHeartbeats 800000 in
theorem listP_any (B g : Nat) (ns : List Nd) (la : Option Addr) (lc : Nat) (xs : List Int) (w : World) (hl : ns.length ≤ 1048576) (hxl : xs.length ≤ 1048576) (hx : RowI B w la xs) (h : ArenaAt B w g ns) (hB : B ≤ w.heap.size) :
    Calls Try.prog 138 #[.pointer (some ⟨g, 0, none⟩), .slice la xs.length lc] w fun e w' => e = .returned (.int .i64 (listF xs ns).2) ∧ ArenaAt B w' g (listF xs ns).1 ∧ Below B w w' := by
  have HX : Hid (RowI B w la xs) := hx
  have H0 : Hid _ := specAtomP_any B g ns 0 w hl h hB
  clear hx h
  go_enter Try.func138, Try.ntmps138
  go_wp2_with fail
  refine Calls.mono H0.out ?_
  rintro e w1 ⟨rfl, ha1, hb1⟩
  have HL1 : Hid (listF (xs.drop xs.length) ns = (putA ns ⟨1, 0, 0, 0⟩, putK ns ⟨1, 0, 0, 0⟩)) := by show _ = _; rw [List.drop_length]; rfl
  go_wp2
  go_loopw [5, 6] (fun k i wr => ∃ m : Nat, m ≤ xs.length ∧ i = .int .i64 ((m : Int) - 1) ∧ k = .int .i64 (listF (xs.drop m) ns).2 ∧ Hid (ArenaAt B wr g (listF (xs.drop m) ns).1) ∧ Below B w wr)
    (fun _ i _ => (intOf i + 1).toNat)
  case atStart => exact ⟨xs.length, Nat.le_refl _, rfl, by rw [HL1.out], by rw [HL1.out]; exact ha1, hb1⟩
  case round =>
    obtain ⟨m, hm, rfl, rfl, HA, hbel⟩ := hrel
    by_cases h0 : m = 0
    · subst h0
      have hz : ¬ (0 : Int) ≤ ((0 : Nat) : Int) - 1 := by omega
      rw [List.drop_zero] at HA ⊢
      go_wp2
      go_ret
      exact ⟨rfl, HA.out, hbel⟩
    · obtain ⟨m, rfl⟩ : ∃ q, m = q + 1 := ⟨m - 1, by omega⟩
      have e1 : ((m + 1 : Nat) : Int) - 1 = (m : Int) := by omega
      rw [e1]
      have hlt : m < xs.length := by omega
      obtain ⟨b, off, rfl⟩ := HX.out.addr hlt
      have c0 := (HX.out.at hbel hlt).2
      have hi0 : (0 : Int) ≤ (m : Int) := by omega
      have hi1 : (m : Int) < (xs.length : Int) := by omega
      have HLD : Hid _ := listF_drop xs ns hlt
      have hle := listF_le (xs.drop (m + 1)) hl
      have hBw := hbel.size
      have HM : Hid (Calls Try.prog 135 #[.pointer (some ⟨g, 0, none⟩), .int .i64 2, .int .i64 (xs.getD m 0), .int .i64 (listF (xs.drop (m + 1)) ns).2] wr fun e w' => e = .returned (.int .i64 (listF (xs.drop m) ns).2) ∧ ArenaAt B w' g (listF (xs.drop m) ns).1 ∧ Below B wr w') := by
        have := specMakeP_any B g (listF (xs.drop (m + 1)) ns).1 2 (xs.getD m 0) (listF (xs.drop (m + 1)) ns).2 wr hle HA.out (by omega)
        show Calls _ _ _ _ _
        rw [HLD.out]
        exact this
      generalize xs.getD m 0 = y at c0 HM
      generalize (listF (xs.drop (m + 1)) ns).2 = kk at HM
      clear HA HLD hle e1
      go_wp2_with fail
      refine Calls.mono HM.out ?_
      rintro e w2 ⟨rfl, ha2, hb2⟩
      have HA2 : Hid (ArenaAt B w2 g (listF (xs.drop m) ns).1) := ha2
      have hbel2 := hbel.trans hb2
      clear ha2 hb2 HM c0
      go_wp2
      go_roundw
      case rel => exact ⟨m, by omega, by go_num, rfl, HA2.out, hbel2⟩
      case measure => simp [intOf] <;> omega
end Go.Proofs.Ytffnadnndmmliaa
