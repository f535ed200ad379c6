/- Plain mathematics and small lemmas on worlds, over no dump: the bytes of a number (chapter 1), a row of bytes of the call's own as a string. -/
import Derived.WalkKit
import Derived.WalkLawsBesides
import Derived.Laws.BytesArg
import Derived.Test.YtffnadnndmmliaaTermPut
import Derived.OwnWalk
import Derived.Laws.OwnMore
import Derived.Test.YtffnadnndmmliaaLawArena3
import Derived.Test.YtffnadnndmmliaaLawKeep
import Derived.WalkSpells
import Derived.Laws.Rows
namespace Go.Proofs.Ytffnadnndmmliaa
open Go.RowKit

/-- The bytes of a number: seven bits a byte, the lowest first, 128 on all but the last; at most f and one of them. -/
def vbF : Nat → Nat → List Int
  | 0, n => [(n : Int)]
  | f + 1, n => if n ≤ 127 then [(n : Int)] else (((n % 128 + 128 : Nat) : Int)) :: vbF f (n / 128)
theorem vbF_more : ∀ (f g n : Nat), n ≤ f → n ≤ g → vbF f n = vbF g n
  | 0, 0, n, _, _ => rfl
  | 0, g + 1, n, h, _ => by rw [vbF, vbF, if_pos (by omega)]
  | f + 1, 0, n, _, h => by rw [vbF, vbF, if_pos (by omega)]
  | f + 1, g + 1, n, hf, hg => by
    rw [vbF, vbF]
    split
    · rfl
    · rw [vbF_more f g (n / 128) (by omega) (by omega)]
/-- The bytes of a number. -/
def vb (n : Nat) : List Int := vbF n n
theorem vb_small {n : Nat} (h : n ≤ 127) : vb n = [(n : Int)] := by
  unfold vb
  cases n with
  | zero => rfl
  | succ m => rw [vbF, if_pos h]
theorem vb_big {n : Nat} (h : 127 < n) : vb n = ((n : Int) % 128 + 128) :: vb (n / 128) := by
  unfold vb
  cases n with
  | zero => omega
  | succ m => rw [vbF, if_neg (by omega), vbF_more m ((m + 1) / 128) ((m + 1) / 128) (by omega) (Nat.le_refl _)]; simp

theorem vb_len : ∀ (k n : Nat), n < 128 ^ (k + 1) → (vb n).length ≤ k + 1
  | 0, n, h => by rw [vb_small (by omega)]; simp
  | k + 1, n, h => by
    by_cases hn : n ≤ 127
    · rw [vb_small hn]; simp
    · rw [vb_big (by omega)]
      have := vb_len k (n / 128) (by rw [Nat.pow_succ] at h; omega)
      simp; omega

theorem vb_len10 (n : Nat) (h : n ≤ 9223372036854775807) : (vb n).length ≤ 10 := vb_len 9 n (by simp; omega)

/-- A row of bytes that the call owns, as a string. -/
theorem conv_own {P : Program} (w : World) (src dst e : TypeId) (hs : P.underlying src = some (.slice e)) (he : P.underlying e = some (.int .u8)) (hd : P.underlying dst = some .string)
    {base n : Nat} {v : Value} {xs : List Int} (hown : w.ownsRow base e 1 v n (xs.map (Value.int .u8))) :
    (convert src dst v).run P w = .ok (.string (strOfNums xs)) w := by
  have hn : n = xs.length := by have := hown.1; simpa using this.symm
  rcases hown.2 with ⟨rfl, h0⟩ | ⟨g, cap, cur, rfl, hg, hb, hc, hm, hsz, htake⟩
  · have : xs = [] := List.length_eq_zero_iff.mp (by omega)
    subst this
    exact run_convert_bytes_nil w src e hs he 0 0 dst hd
  · refine run_convert_bytes_arg w src e hs he g 0 n cap xs hn.symm ?_ dst hd
    intro i hi
    have := hown.cells (g := g) rfl i (.int .u8 (xs.getD i 0)) (by
      rw [List.getElem?_map, List.getElem?_eq_getElem (by omega)]; simp [List.getD, List.getElem?_eq_getElem (show i < xs.length by omega)])
    have e : (⟨g, 0, none⟩ : Addr).add i = ⟨g, 0 + i, none⟩ := by unfold Addr.add; split <;> simp_all
    rw [e] at this; exact this

/-- Behind an append onto an owned row (the new elements laid in a block of their own first): below B nothing has turned. -/
theorem below_app {B : Nat} {w wr w1 : World} {v : Value} {e size n : Nat} {xs : List Value} {o : Obj} (hown : wr.ownsRow B e size v n xs) (hbel : Below B w wr) (hB : B ≤ wr.heap.size) (hg : (wr.alloc o).grownBy w1 v.ownBlock) : Below B w w1 :=
  (hbel.alloc hB o).grown hg (by simp; omega) (fun k hk => (hown.lt k hk).1)

/-- What the append's law leaves, in the words of numbers. -/
theorem own_snoc {B : Nat} {w : World} {v : Value} {e : Nat} {k : IntKind} {xs ys : List Int} (h : w.ownsRow B e 1 v (xs.length + ys.length) (xs.map (Value.int k) ++ ys.map (Value.int k))) : w.ownsRow B e 1 v (xs ++ ys).length ((xs ++ ys).map (Value.int k)) := by
  rw [List.length_append, List.map_append]; exact h

end Go.Proofs.Ytffnadnndmmliaa

namespace Go.Proofs.Ytffnadnndmmliaa
open Go.RowKit

theorem infoIntS : (Try.prog.info? 3).map (fun i => (i.zero, i.size, i.bytes)) = some (some (.int .i64 0), 1, 8) := by kernel_rfl
/-- A row of integers of the call's own: its cells. -/
theorem own_ints {w : World} {base k : Nat} {v : Value} {xs : List Int} (h : w.ownsRow base 3 1 v k (xs.map (Value.int .i64))) (hk : 0 < k) :
    ∃ g cap, v = .slice (some ⟨g, 0, none⟩) k cap ∧ base ≤ g ∧ g < w.heap.size ∧ ∀ j, j < k → w.cell? ⟨g, j, none⟩ = some (.int .i64 (xs.getD j 0)) := by
  have hl : xs.length = k := by have := h.1; simpa using this
  have h' := h
  rcases h.2 with ⟨_, h0⟩ | ⟨g, cap, cur, rfl, hg, hb, _⟩
  · omega
  · refine ⟨g, cap, rfl, hg, (Array.getElem?_eq_some_iff.1 hb).1, fun j hj => ?_⟩
    rw [h'.cellAt j (by omega), List.getElem?_map, List.getElem?_eq_getElem (by omega), List.getD_eq_getElem?_getD, List.getElem?_eq_getElem (by omega)]; rfl
theorem own_base {w : World} {base base' e size n : Nat} {v : Value} {xs : List Value} (h : w.ownsRow base e size v n xs) (hb : base' ≤ base) : w.ownsRow base' e size v n xs := by
  refine ⟨h.1, ?_⟩
  rcases h.2 with h0 | ⟨g, cap, cur, e, hg, rest⟩
  · exact .inl h0
  · exact .inr ⟨g, cap, cur, e, Nat.le_trans hb hg, rest⟩
theorem own_next {B e size n : Nat} {w w' : World} {v : Value} {xs : List Value} (h : w.ownsRow B e size v n xs) (hb : Below w.heap.size w w') : w'.ownsRow B e size v n xs := by
  refine ⟨h.1, ?_⟩
  rcases h.2 with h0 | ⟨g, cap, cur, e, hg, hh, rest⟩
  · exact .inl h0
  · exact .inr ⟨g, cap, cur, e, hg, (hb.block g (Array.getElem?_eq_some_iff.1 hh).1).trans hh, rest⟩
/-- Behind an append onto a row from B + 1 on: what lies up to B is as it was. -/
theorem app_step {w w1 w2 : World} {B e size n : Nat} {v u : Value} {xs : List Value} {o : Obj} (hown : w1.ownsRow (B + 1) e size v n xs) (hB : Below B w w1) (hA : w1.cell? ⟨B, 0, none⟩ = some u) (hs : B < w1.heap.size) (hg : (w1.alloc o).grownBy w2 v.ownBlock) :
    Below B w w2 ∧ w2.cell? ⟨B, 0, none⟩ = some u ∧ B < w2.heap.size := by
  have h1 : Below (B + 1) w1 w2 := below_app hown (Below.refl _ _) hs hg
  exact ⟨hB.trans (h1.mono (by omega)), (h1.cell (p := ⟨B, 0, none⟩) (show B < B + 1 by omega)).trans hA, Nat.lt_of_lt_of_le hs h1.size⟩
/-- A node that was boxed, behind a call. -/
theorem box_after {wr w1 : World} {k n a b : Int} (hb : Below (wr.alloc (.cells #[.int .i64 k, .int .i64 n, .int .i64 a, .int .i64 b] 45)).heap.size (wr.alloc (.cells #[.int .i64 k, .int .i64 n, .int .i64 a, .int .i64 b] 45)) w1) :
    w1.cell? ⟨wr.heap.size, 0, none⟩ = some (.int .i64 k) ∧ w1.cell? ⟨wr.heap.size, 1, none⟩ = some (.int .i64 n) ∧ w1.cell? ⟨wr.heap.size, 2, none⟩ = some (.int .i64 a) ∧ w1.cell? ⟨wr.heap.size, 3, none⟩ = some (.int .i64 b) ∧ Below wr.heap.size wr w1 ∧ wr.heap.size < w1.heap.size := by
  have hn := heap_alloc_new wr (.cells #[.int .i64 k, .int .i64 n, .int .i64 a, .int .i64 b] 45)
  have hs := hb.size
  simp at hs
  exact ⟨(hb.cell (p := ⟨wr.heap.size, 0, none⟩) (by simp)).trans ((cell_of_row _ wr.heap.size 0 _ _ _ hn).trans rfl), (hb.cell (p := ⟨wr.heap.size, 1, none⟩) (by simp)).trans ((cell_of_row _ wr.heap.size 1 _ _ _ hn).trans rfl), (hb.cell (p := ⟨wr.heap.size, 2, none⟩) (by simp)).trans ((cell_of_row _ wr.heap.size 2 _ _ _ hn).trans rfl), (hb.cell (p := ⟨wr.heap.size, 3, none⟩) (by simp)).trans ((cell_of_row _ wr.heap.size 3 _ _ _ hn).trans rfl), ((Below.refl _ _).alloc (Nat.le_refl _) _).trans (hb.mono (by simp)), by omega⟩
end Go.Proofs.Ytffnadnndmmliaa

namespace Go.Proofs.Ytffnadnndmmliaa
open Go.RowKit
set_option linter.unusedVariables false

/-- A row of bools of the call's own: its cells. -/
theorem own_bools {w : World} {base k : Nat} {v : Value} {xs : List Bool} (h : w.ownsRow base 4 1 v k (xs.map (Value.bool))) (hk : 0 < k) :
    ∃ g cap, v = .slice (some ⟨g, 0, none⟩) k cap ∧ base ≤ g ∧ g < w.heap.size ∧ ∀ j, j < k → w.cell? ⟨g, j, none⟩ = some (.bool (xs.getD j false)) := by
  have hl : xs.length = k := by have := h.1; simpa using this
  have h' := h
  rcases h.2 with ⟨_, h0⟩ | ⟨g, cap, cur, rfl, hg, hb, _⟩
  · omega
  · refine ⟨g, cap, rfl, hg, (Array.getElem?_eq_some_iff.1 hb).1, fun j hj => ?_⟩
    rw [h'.cellAt j (by omega), List.getElem?_map, List.getElem?_eq_getElem (by omega), List.getD_eq_getElem?_getD, List.getElem?_eq_getElem (by omega)]; rfl
/-- A row of bools in memory, below B. -/
def RowB (B : Nat) (w : World) (a : Option Addr) (xs : List Bool) : Prop := xs = [] ∨ ∃ b off, a = some ⟨b, off, none⟩ ∧ b < B ∧ ∀ j, j < xs.length → w.cell? ⟨b, off + j, none⟩ = some (.bool (xs.getD j false))
theorem RowB.at {B : Nat} {w w' : World} {b off : Nat} {xs : List Bool} (h : RowB B w (some ⟨b, off, none⟩) xs) (hb : Below B w w') {i : Nat} (hi : i < xs.length) : b < B ∧ w'.cell? ⟨b, off + i, none⟩ = some (.bool (xs.getD i false)) := by
  rcases h with h0 | ⟨b', off', e, hlt, hc⟩
  · rw [h0] at hi; simp at hi
  · cases e
    exact ⟨hlt, (hb.cell hlt).trans (hc i hi)⟩
theorem RowB.addr {B : Nat} {w : World} {a : Option Addr} {xs : List Bool} (h : RowB B w a xs) {i : Nat} (hi : i < xs.length) : ∃ b off, a = some ⟨b, off, none⟩ := by
  rcases h with h0 | ⟨b', off', e, _⟩
  · rw [h0] at hi; simp at hi
  · exact ⟨b', off', e⟩
theorem RowB.later {B : Nat} {w w' : World} {a : Option Addr} {xs : List Bool} (h : RowB B w a xs) (hb : Below B w w') : RowB B w' a xs := by
  rcases h with h0 | ⟨b, off, e, hlt, hc⟩
  · exact .inl h0
  · exact .inr ⟨b, off, e, hlt, fun j hj => (hb.cell hlt).trans (hc j hj)⟩
theorem RowB.wide {B B' : Nat} {w : World} {a : Option Addr} {xs : List Bool} (h : RowB B w a xs) (hB : B ≤ B') : RowB B' w a xs := by
  rcases h with h0 | ⟨b, off, e, hlt, hc⟩
  · exact .inl h0
  · exact .inr ⟨b, off, e, Nat.lt_of_lt_of_le hlt hB, hc⟩
theorem RowB.grown {w w' : World} {a : Option Addr} {xs : List Bool} (h : RowB w.heap.size w a xs) (hb : Below w.heap.size w w') : RowB w'.heap.size w' a xs := (h.later hb).wide hb.size
/-- A row of bools that the call owns. -/
def OwnBool (base : Nat) (w : World) (v : Value) (xs : List Bool) : Prop := w.ownsRow base 4 1 v xs.length (xs.map (Value.bool))
theorem OwnBool.row {base : Nat} {w : World} {v : Value} {xs : List Bool} (h : OwnBool base w v xs) : ∃ a cap, v = .slice a xs.length cap ∧ AddrN a cap ∧ RowB w.heap.size w a xs := by
  rcases Nat.eq_zero_or_pos xs.length with h0 | h0
  · rcases h.2 with ⟨rfl, _⟩ | ⟨g, cap, cur, rfl, _⟩
    · exact ⟨none, 0, by rw [h0], .inl ⟨rfl, rfl⟩, .inl (List.length_eq_zero_iff.1 h0)⟩
    · exact ⟨_, cap, rfl, .inr ⟨g, 0, rfl⟩, .inl (List.length_eq_zero_iff.1 h0)⟩
  · obtain ⟨g, cap, rfl, hg, hlt, hc⟩ := own_bools h h0
    exact ⟨_, cap, rfl, .inr ⟨g, 0, rfl⟩, .inr ⟨g, 0, rfl, hlt, fun j hj => by rw [Nat.zero_add]; exact hc j hj⟩⟩
theorem OwnBool.later {B : Nat} {w w' : World} {v : Value} {xs : List Bool} (h : OwnBool B w v xs) (hb : Below w.heap.size w w') : OwnBool B w' v xs := own_next h hb
theorem OwnBool.base {B B' : Nat} {w : World} {v : Value} {xs : List Bool} (h : OwnBool B w v xs) (hb : B' ≤ B) : OwnBool B' w v xs := own_base h hb
/-- A row of bools that the law owns, its block from lo on, below hi. -/
structure OwnY (lo hi : Nat) (v : Value) (xs : List Bool) (w : World) : Prop where
  own : OwnBool lo w v xs
  le : hi ≤ w.heap.size
  lt : ∀ k, v.ownBlock = some k → k < hi
theorem OwnY.made {lo : Nat} {v : Value} {xs : List Bool} {w : World} (h : OwnBool lo w v xs) : OwnY lo w.heap.size v xs w := ⟨h, Nat.le_refl _, fun k hk => (World.ownsRow.lt h k hk).2⟩
theorem OwnY.next {lo hi : Nat} {v : Value} {xs : List Bool} {w w' : World} (h : OwnY lo hi v xs w) (hb : Below w.heap.size w w') : OwnY lo hi v xs w' := ⟨h.own.later hb, Nat.le_trans h.le hb.size, h.lt⟩
theorem OwnY.mark {lo hi : Nat} {v : Value} {xs : List Bool} {w w' : World} {r : Option Nat} (h : OwnY lo hi v xs w) (hg : w.grownBy w' r) (hne : ∀ g, r = some g → g < lo ∨ hi ≤ g) : OwnY lo hi v xs w' := by
  refine ⟨World.ownsRow.kept h.own hg ?_, Nat.le_trans h.le hg.size, h.lt⟩
  cases hv : v.ownBlock with
  | none => exact .inl rfl
  | some k =>
    right
    intro e
    have h1 := World.ownsRow.lt h.own k hv
    have h2 := h.lt k hv
    have h3 := hne k e.symm
    omega
theorem OwnY.rowAt {lo hi : Nat} {a : Option Addr} {n cap : Nat} {xs : List Bool} {w : World} (h : OwnY lo hi (.slice a n cap) xs w) : RowB w.heap.size w a xs := by
  obtain ⟨a', cap', e, _, hr⟩ := h.own.row
  cases e
  exact hr
theorem OwnY.block {lo hi : Nat} {v : Value} {xs : List Bool} {w : World} (h : OwnY lo hi v xs w) : ∀ g, v.ownBlock = some g → lo ≤ g ∧ g < hi := fun g hg => ⟨(World.ownsRow.lt h.own g hg).1, h.lt g hg⟩

/-- The marks of a row. -/
def marksB (k : Int) : Nat → List Bool
  | 0 => []
  | n + 1 => marksB k n ++ [decide (Int.tmod (k + (n : Int)) 3 = 0)]
theorem marksB_len (k : Int) : ∀ n, (marksB k n).length = n
  | 0 => rfl
  | n + 1 => by simp [marksB, marksB_len k n]
theorem marksB_at (k : Int) : ∀ n i, i < n → (marksB k n).getD i false = decide (Int.tmod (k + (i : Int)) 3 = 0)
  | 0, i, h => by omega
  | n + 1, i, h => by
    rw [marksB, List.getD_eq_getElem?_getD]
    by_cases hi : i < n
    · rw [List.getElem?_append_left (by rw [marksB_len]; exact hi), ← List.getD_eq_getElem?_getD]; exact marksB_at k n i hi
    · obtain rfl : i = n := by omega
      rw [List.getElem?_append_right (by rw [marksB_len]; exact Nat.le_refl _), marksB_len]; simp
end Go.Proofs.Ytffnadnndmmliaa
