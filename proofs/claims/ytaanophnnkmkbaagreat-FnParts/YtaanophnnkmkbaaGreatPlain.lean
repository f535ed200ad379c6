/- Plain mathematics and small lemmas on worlds, over no dump: the bytes of a number (chapter 1), a row of bytes of the call's own as a string. -/
import Derived.WalkKit
import Derived.WalkLawsBesides
import Derived.Laws.BytesArg
import Derived.Test.YtaanophnnkmkbaaGreatTermPut
import Derived.OwnWalk
import Derived.Laws.OwnMore
import Derived.Lib.Strings
import Derived.PlainAid
import Derived.Test.YtaanophnnkmkbaaGreatProg
import Derived.WalkSpells
import Derived.Deep.QuietTactic
import Derived.BigQuiet
namespace Go.Proofs.YtaanophnnkmkbaaGreat
open Go.RowKit

/-- The bytes of a number: seven bits a byte, the lowest first, 128 on all but the last; at most f and one of them. -/
def vbF : Nat → Nat → List Int
  | 0, n => [(n : Int)]
  | f + 1, n => if n ≤ 127 then [(n : Int)] else (((n % 128 + 128 : Nat) : Int)) :: vbF f (n / 128)
theorem vbF_more : ∀ (f g n : Nat), n ≤ f → n ≤ g → vbF f n = vbF g n
  | 0, 0, n, _, _ => rfl
  | 0, g + 1, n, h, _ => by rw [vbF, vbF, if_pos (by omega)]
  | f + 1, 0, n, _, h => by rw [vbF, vbF, if_pos (by omega)]
  | f + 1, g + 1, n, hf, hg => by
    rw [vbF, vbF]
    split
    · rfl
    · rw [vbF_more f g (n / 128) (by omega) (by omega)]
/-- The bytes of a number. -/
def vb (n : Nat) : List Int := vbF n n
theorem vb_small {n : Nat} (h : n ≤ 127) : vb n = [(n : Int)] := by
  unfold vb
  cases n with
  | zero => rfl
  | succ m => rw [vbF, if_pos h]
theorem vb_big {n : Nat} (h : 127 < n) : vb n = ((n : Int) % 128 + 128) :: vb (n / 128) := by
  unfold vb
  cases n with
  | zero => omega
  | succ m => rw [vbF, if_neg (by omega), vbF_more m ((m + 1) / 128) ((m + 1) / 128) (by omega) (Nat.le_refl _)]; simp

theorem vb_len : ∀ (k n : Nat), n < 128 ^ (k + 1) → (vb n).length ≤ k + 1
  | 0, n, h => by rw [vb_small (by omega)]; simp
  | k + 1, n, h => by
    by_cases hn : n ≤ 127
    · rw [vb_small hn]; simp
    · rw [vb_big (by omega)]
      have := vb_len k (n / 128) (by rw [Nat.pow_succ] at h; omega)
      simp; omega

theorem vb_len10 (n : Nat) (h : n ≤ 9223372036854775807) : (vb n).length ≤ 10 := vb_len 9 n (by simp; omega)

/-- A row of bytes that the call owns, as a string. -/
theorem conv_own {P : Program} (w : World) (src dst e : TypeId) (hs : P.underlying src = some (.slice e)) (he : P.underlying e = some (.int .u8)) (hd : P.underlying dst = some .string)
    {base n : Nat} {v : Value} {xs : List Int} (hown : w.ownsRow base e 1 v n (xs.map (Value.int .u8))) :
    (convert src dst v).run P w = .ok (.string (strOfNums xs)) w := by
  have hn : n = xs.length := by have := hown.1; simpa using this.symm
  rcases hown.2 with ⟨rfl, h0⟩ | ⟨g, cap, cur, rfl, hg, hb, hc, hm, hsz, htake⟩
  · have : xs = [] := List.length_eq_zero_iff.mp (by omega)
    subst this
    exact run_convert_bytes_nil w src e hs he 0 0 dst hd
  · refine run_convert_bytes_arg w src e hs he g 0 n cap xs hn.symm ?_ dst hd
    intro i hi
    have := hown.cells (g := g) rfl i (.int .u8 (xs.getD i 0)) (by
      rw [List.getElem?_map, List.getElem?_eq_getElem (by omega)]; simp [List.getD, List.getElem?_eq_getElem (show i < xs.length by omega)])
    have e : (⟨g, 0, none⟩ : Addr).add i = ⟨g, 0 + i, none⟩ := by unfold Addr.add; split <;> simp_all
    rw [e] at this; exact this

/-- Behind an append onto an owned row (the new elements laid in a block of their own first): below B nothing has turned. -/
theorem below_app {B : Nat} {w wr w1 : World} {v : Value} {e size n : Nat} {xs : List Value} {o : Obj} (hown : wr.ownsRow B e size v n xs) (hbel : Below B w wr) (hB : B ≤ wr.heap.size) (hg : (wr.alloc o).grownBy w1 v.ownBlock) : Below B w w1 :=
  (hbel.alloc hB o).grown hg (by simp; omega) (fun k hk => (hown.lt k hk).1)

/-- What the append's law leaves, in the words of numbers. -/
theorem own_snoc {B : Nat} {w : World} {v : Value} {e : Nat} {k : IntKind} {xs ys : List Int} (h : w.ownsRow B e 1 v (xs.length + ys.length) (xs.map (Value.int k) ++ ys.map (Value.int k))) : w.ownsRow B e 1 v (xs ++ ys).length ((xs ++ ys).map (Value.int k)) := by
  rw [List.length_append, List.map_append]; exact h

end Go.Proofs.YtaanophnnkmkbaaGreat

namespace Go.Proofs.YtaanophnnkmkbaaGreat
open Go.RowKit

theorem infoIntS : (Tryz.prog.info? 3).map (fun i => (i.zero, i.size, i.bytes)) = some (some (.int .i64 0), 1, 8) := by kernel_rfl
/-- A row of integers of the call's own: its cells. -/
theorem own_ints {w : World} {base k : Nat} {v : Value} {xs : List Int} (h : w.ownsRow base 3 1 v k (xs.map (Value.int .i64))) (hk : 0 < k) :
    ∃ g cap, v = .slice (some ⟨g, 0, none⟩) k cap ∧ base ≤ g ∧ g < w.heap.size ∧ ∀ j, j < k → w.cell? ⟨g, j, none⟩ = some (.int .i64 (xs.getD j 0)) := by
  have hl : xs.length = k := by have := h.1; simpa using this
  have h' := h
  rcases h.2 with ⟨_, h0⟩ | ⟨g, cap, cur, rfl, hg, hb, _⟩
  · omega
  · refine ⟨g, cap, rfl, hg, (Array.getElem?_eq_some_iff.1 hb).1, fun j hj => ?_⟩
    rw [h'.cellAt j (by omega), List.getElem?_map, List.getElem?_eq_getElem (by omega), List.getD_eq_getElem?_getD, List.getElem?_eq_getElem (by omega)]; rfl
theorem own_base {w : World} {base base' e size n : Nat} {v : Value} {xs : List Value} (h : w.ownsRow base e size v n xs) (hb : base' ≤ base) : w.ownsRow base' e size v n xs := by
  refine ⟨h.1, ?_⟩
  rcases h.2 with h0 | ⟨g, cap, cur, e, hg, rest⟩
  · exact .inl h0
  · exact .inr ⟨g, cap, cur, e, Nat.le_trans hb hg, rest⟩
theorem own_next {B e size n : Nat} {w w' : World} {v : Value} {xs : List Value} (h : w.ownsRow B e size v n xs) (hb : Below w.heap.size w w') : w'.ownsRow B e size v n xs := by
  refine ⟨h.1, ?_⟩
  rcases h.2 with h0 | ⟨g, cap, cur, e, hg, hh, rest⟩
  · exact .inl h0
  · exact .inr ⟨g, cap, cur, e, hg, (hb.block g (Array.getElem?_eq_some_iff.1 hh).1).trans hh, rest⟩
/-- Behind an append onto a row from B + 1 on: what lies up to B is as it was. -/
theorem app_step {w w1 w2 : World} {B e size n : Nat} {v u : Value} {xs : List Value} {o : Obj} (hown : w1.ownsRow (B + 1) e size v n xs) (hB : Below B w w1) (hA : w1.cell? ⟨B, 0, none⟩ = some u) (hs : B < w1.heap.size) (hg : (w1.alloc o).grownBy w2 v.ownBlock) :
    Below B w w2 ∧ w2.cell? ⟨B, 0, none⟩ = some u ∧ B < w2.heap.size := by
  have h1 : Below (B + 1) w1 w2 := below_app hown (Below.refl _ _) hs hg
  exact ⟨hB.trans (h1.mono (by omega)), (h1.cell (p := ⟨B, 0, none⟩) (show B < B + 1 by omega)).trans hA, Nat.lt_of_lt_of_le hs h1.size⟩
/-- A node that was boxed, behind a call. -/
theorem box_after {wr w1 : World} {k n a b : Int} (hb : Below (wr.alloc (.cells #[.int .i64 k, .int .i64 n, .int .i64 a, .int .i64 b] 86)).heap.size (wr.alloc (.cells #[.int .i64 k, .int .i64 n, .int .i64 a, .int .i64 b] 86)) w1) :
    w1.cell? ⟨wr.heap.size, 0, none⟩ = some (.int .i64 k) ∧ w1.cell? ⟨wr.heap.size, 1, none⟩ = some (.int .i64 n) ∧ w1.cell? ⟨wr.heap.size, 2, none⟩ = some (.int .i64 a) ∧ w1.cell? ⟨wr.heap.size, 3, none⟩ = some (.int .i64 b) ∧ Below wr.heap.size wr w1 ∧ wr.heap.size < w1.heap.size := by
  have hn := heap_alloc_new wr (.cells #[.int .i64 k, .int .i64 n, .int .i64 a, .int .i64 b] 86)
  have hs := hb.size
  simp at hs
  exact ⟨(hb.cell (p := ⟨wr.heap.size, 0, none⟩) (by simp)).trans ((cell_of_row _ wr.heap.size 0 _ _ _ hn).trans rfl), (hb.cell (p := ⟨wr.heap.size, 1, none⟩) (by simp)).trans ((cell_of_row _ wr.heap.size 1 _ _ _ hn).trans rfl), (hb.cell (p := ⟨wr.heap.size, 2, none⟩) (by simp)).trans ((cell_of_row _ wr.heap.size 2 _ _ _ hn).trans rfl), (hb.cell (p := ⟨wr.heap.size, 3, none⟩) (by simp)).trans ((cell_of_row _ wr.heap.size 3 _ _ _ hn).trans rfl), ((Below.refl _ _).alloc (Nat.le_refl _) _).trans (hb.mono (by simp)), by omega⟩
end Go.Proofs.YtaanophnnkmkbaaGreat

namespace Go.Proofs.YtaanophnnkmkbaaGreat
open Go.RowKit Go.PlainAid

/-- 128 to the k. -/
def pw (k : Nat) : Int := 128 ^ k
theorem pw_zero : pw 0 = 1 := rfl
theorem pw_succ (k : Nat) : pw (k + 1) = pw k * 128 := by unfold pw; rw [Int.pow_succ]
theorem pw_lt {k : Nat} (h : k < 5) : 1 ≤ pw k ∧ pw k ≤ 268435456 := by
  rcases (show k = 0 ∨ k = 1 ∨ k = 2 ∨ k = 3 ∨ k = 4 by omega) with rfl | rfl | rfl | rfl | rfl <;> decide
theorem pw_five : pw 5 = 34359738368 := by decide
theorem pw_pos (k : Nat) : 1 ≤ pw k := by
  induction k with
  | zero => decide
  | succ k ih => rw [pw_succ]; omega

/-- Reading: at most 'fuel' bytes more from place a + k on; acc: what the k bytes read so far weigh. -/
def rvGo (s : ByteArray) (a : Nat) : Nat → Nat → Int → Option (Int × Nat)
  | 0, _, _ => none
  | f + 1, k, acc =>
    if a + k < s.size then
      if bt s (a + k) < 128 then
        if (bt s (a + k) = 0 ∧ 0 < k) ∨ 1000000000 < acc + bt s (a + k) % 128 * pw k then none
        else some (acc + bt s (a + k) % 128 * pw k, a + k + 1)
      else rvGo s a f (k + 1) (acc + bt s (a + k) % 128 * pw k)
    else none

/-- The answer of ReadVar at a place within the text. -/
def rvOut (s : ByteArray) (a : Nat) : Option (Int × Nat) := rvGo s a 5 0 0

theorem rv_end {s : ByteArray} {a f k : Nat} {acc : Int} (h : s.size ≤ a + k) : rvGo s a f k acc = none := by
  cases f with
  | zero => rfl
  | succ f => rw [rvGo, if_neg (by omega)]
theorem rv_out {s : ByteArray} {a k : Nat} {acc : Int} (h : 5 ≤ k) : rvGo s a (5 - k) k acc = none := by
  rw [show 5 - k = 0 by omega]; rfl
theorem rv_more {s : ByteArray} {a k : Nat} {acc : Int} (hk : k < 5) (h : a + k < s.size) (hb : 128 ≤ bt s (a + k)) :
    rvGo s a (5 - k) k acc = rvGo s a (5 - (k + 1)) (k + 1) (acc + bt s (a + k) % 128 * pw k) := by
  rw [show 5 - k = (5 - (k + 1)) + 1 by omega, rvGo, if_pos h, if_neg (by omega)]
theorem rv_bad {s : ByteArray} {a k : Nat} {acc : Int} (hk : k < 5) (h : a + k < s.size) (hb : bt s (a + k) < 128)
    (hx : (bt s (a + k) = 0 ∧ 0 < k) ∨ 1000000000 < acc + bt s (a + k) % 128 * pw k) : rvGo s a (5 - k) k acc = none := by
  rw [show 5 - k = (5 - (k + 1)) + 1 by omega, rvGo, if_pos h, if_pos hb, if_pos hx]
theorem rv_good {s : ByteArray} {a k : Nat} {acc : Int} (hk : k < 5) (h : a + k < s.size) (hb : bt s (a + k) < 128)
    (hx : ¬ ((bt s (a + k) = 0 ∧ 0 < k) ∨ 1000000000 < acc + bt s (a + k) % 128 * pw k)) :
    rvGo s a (5 - k) k acc = some (acc + bt s (a + k) % 128 * pw k, a + k + 1) := by
  rw [show 5 - k = (5 - (k + 1)) + 1 by omega, rvGo, if_pos h, if_pos hb, if_neg hx]

theorem mul_bd {x p : Int} (hx : 0 ≤ x) (hx' : x ≤ 127) (hp : 0 ≤ p) : 0 ≤ x * p ∧ x * p ≤ 127 * p :=
  ⟨Int.mul_nonneg hx hp, Int.mul_le_mul_of_nonneg_right hx' hp⟩

/-- What the bytes weigh. -/
def val : List Int → Int
  | [] => 0
  | b :: bs => b % 128 + 128 * val bs
theorem val_nonneg : ∀ l, 0 ≤ val l
  | [] => by simp [val]
  | b :: bs => by have := val_nonneg bs; simp only [val]; omega
theorem val_snoc : ∀ (l : List Int) (b : Int), val (l ++ [b]) = val l + b % 128 * pw l.length
  | [], b => by simp [val, pw]
  | x :: l, b => by
    simp only [List.cons_append, val, val_snoc l b, List.length_cons, pw_succ]
    rw [Int.mul_add, ← Int.mul_assoc (b % 128), Int.mul_comm (b % 128 * pw l.length) 128]
    omega
theorem val_pos : ∀ (l : List Int) (b : Int), 0 < b → b < 128 → 0 < val (l ++ [b])
  | [], b, h, h' => by simp [val]; omega
  | x :: l, b, h, h' => by have := val_pos l b h h'; simp only [List.cons_append, val]; omega

/-- The bytes read are the number's own bytes: unless a last byte 0 stands behind others. -/
theorem canon : ∀ (l : List Int) (b : Int), (∀ x ∈ l, 128 ≤ x ∧ x ≤ 255) → 0 ≤ b → b < 128 → (vb (val (l ++ [b])).toNat = l ++ [b] ↔ ¬ (b = 0 ∧ 0 < l.length))
  | [], b, _, h0, h1 => by
    have e : val ([] ++ [b]) = b := by simp [val]; omega
    rw [e, vb_small (by omega)]
    simp; omega
  | x :: l, b, hl, h0, h1 => by
    have hx := hl x (by simp)
    have ih := canon l b (fun y hy => hl y (by simp [hy])) h0 h1
    have hv := val_nonneg (l ++ [b])
    have e : val (x :: l ++ [b]) = x % 128 + 128 * val (l ++ [b]) := rfl
    by_cases hz : val (l ++ [b]) = 0
    · have hb : b = 0 := by
        by_cases hb : b = 0
        · exact hb
        · have := val_pos l b (by omega) h1; omega
      rw [e, hz, vb_small (by omega)]
      constructor
      · intro h; have := congrArg List.length h; simp at this
      · intro h; exact absurd ⟨hb, by simp⟩ h
    · rw [e, vb_big (by omega)]
      have e1 : ((x % 128 + 128 * val (l ++ [b])).toNat : Int) % 128 + 128 = x := by omega
      have e2 : (x % 128 + 128 * val (l ++ [b])).toNat / 128 = (val (l ++ [b])).toNat := by omega
      rw [e1, e2, List.cons_append, List.cons.injEq, ih]
      constructor
      · rintro ⟨_, h⟩ ⟨hb, _⟩
        refine h ⟨hb, ?_⟩
        cases l with
        | nil => simp [val, hb] at hz
        | cons y l => simp
      · intro h; exact ⟨rfl, fun h' => h ⟨h'.1, by simp⟩⟩

theorem vb_range (n : Nat) : ∀ x ∈ vb n, 0 ≤ x ∧ x ≤ 255 := by
  induction n using Nat.strongRecOn with
  | ind n ih =>
    intro x hx
    by_cases h : n ≤ 127
    · rw [vb_small h] at hx; simp at hx; omega
    · rw [vb_big (by omega)] at hx
      rcases List.mem_cons.mp hx with rfl | hx
      · omega
      · exact ih (n / 128) (by omega) x hx

/-- The bytes of s from a on, k of them. -/
def tk (s : ByteArray) (a k : Nat) : List UInt8 := (s.data.toList.drop a).take k
def nums (l : List UInt8) : List Int := l.map fun b => (b.toNat : Int)
theorem tk_succ (s : ByteArray) (a k : Nat) (h : a + k < s.size) : tk s a (k + 1) = tk s a k ++ [s[a + k]'h] := by
  unfold tk
  have h' : a + k < s.data.toList.length := by simpa using h
  rw [List.take_succ_eq_append_getElem (by rw [List.length_drop]; omega)]
  congr 2
  rw [List.getElem_drop]; rfl
theorem tk_len (s : ByteArray) (a k : Nat) (h : a + k ≤ s.size) : (tk s a k).length = k := by
  unfold tk
  have h' : a + k ≤ s.data.toList.length := by simpa using h
  rw [List.length_take, List.length_drop]; omega

theorem strOfNums_eq {xs : List Int} {l : List UInt8} (h : ∀ x ∈ xs, 0 ≤ x ∧ x ≤ 255) : (xs.map fun n => UInt8.ofNat n.toNat) = l ↔ xs = nums l := by
  constructor
  · intro e; subst e
    unfold nums; rw [List.map_map]
    conv => lhs; rw [← List.map_id xs]
    apply List.map_congr_left
    intro x hx
    have := h x hx
    simp only [id, Function.comp, UInt8.toNat_ofNat']
    omega
  · intro e; subst e
    unfold nums; rw [List.map_map]
    conv => rhs; rw [← List.map_id l]
    apply List.map_congr_left
    intro x _
    simp [Function.comp]

/-- A number's own bytes against those that were read. -/
theorem same_bytes {s : ByteArray} {a k : Nat} {acc : Int} (h : a + k < s.size) (hb : bt s (a + k) < 128) (hacc : acc = val (nums (tk s a k))) (hall : ∀ x ∈ nums (tk s a k), 128 ≤ x ∧ x ≤ 255) :
    ((strOfNums (vb (acc + bt s (a + k) % 128 * pw k).toNat)).toList == (s.extract a (a + k + 1)).toList) = decide (¬ (bt s (a + k) = 0 ∧ 0 < k)) := by
  have hl : (nums (tk s a k)).length = k := by unfold nums; rw [List.length_map, tk_len s a k (by omega)]
  have he : (s.extract a (a + k + 1)).data.toList = tk s a (k + 1) := by rw [Lib.extract_data]; unfold tk; rw [show a + k + 1 - a = k + 1 by omega]
  have hn : nums (tk s a (k + 1)) = nums (tk s a k) ++ [bt s (a + k)] := by
    rw [tk_succ s a k h]; unfold nums; rw [List.map_append, List.map_singleton, get_bt]
  have hc := canon (nums (tk s a k)) (bt s (a + k)) hall (bt_nonneg _ _) hb
  rw [val_snoc, hl, ← hacc, ← hn] at hc
  rw [ByteArray.toList_eq, ByteArray.toList_eq, he, strOfNums_data, Bool.eq_iff_iff, beq_iff_eq, decide_eq_true_iff, ← hc]
  exact strOfNums_eq (vb_range _)

theorem all_snoc {s : ByteArray} {a k : Nat} (h : a + k < s.size) (hb : 128 ≤ bt s (a + k)) (hall : ∀ x ∈ nums (tk s a k), 128 ≤ x ∧ x ≤ 255) :
    ∀ x ∈ nums (tk s a (k + 1)), 128 ≤ x ∧ x ≤ 255 := by
  have hn : nums (tk s a (k + 1)) = nums (tk s a k) ++ [bt s (a + k)] := by
    rw [tk_succ s a k h]; unfold nums; rw [List.map_append, List.map_singleton, get_bt]
  rw [hn]; intro x hx
  rcases List.mem_append.mp hx with hx | hx
  · exact hall x hx
  · simp at hx; subst hx; exact ⟨hb, bt_le _ _⟩
theorem val_next {s : ByteArray} {a k : Nat} {acc : Int} (h : a + k < s.size) (hacc : acc = val (nums (tk s a k))) :
    acc + bt s (a + k) % 128 * pw k = val (nums (tk s a (k + 1))) := by
  have hl : (nums (tk s a k)).length = k := by unfold nums; rw [List.length_map, tk_len s a k (by omega)]
  have hn : nums (tk s a (k + 1)) = nums (tk s a k) ++ [bt s (a + k)] := by
    rw [tk_succ s a k h]; unfold nums; rw [List.map_append, List.map_singleton, get_bt]
  rw [hn, val_snoc, hl, ← hacc]

end Go.Proofs.YtaanophnnkmkbaaGreat

namespace Go.Proofs.YtaanophnnkmkbaaGreat
open Go.RowKit

/-- 'and' with a mask. -/
theorem and_bd (x m : Int) (h0 : 0 ≤ m) (h1 : m ≤ 4611686018427387903) : 0 ≤ bits .and .i64 x m ∧ bits .and .i64 x m ≤ m := by
  unfold bits
  have e : (BitVec.ofInt 64 m).toNat = m.toNat := by
    rw [BitVec.toNat_ofInt]; omega
  have hle : (BitVec.ofInt 64 x &&& BitVec.ofInt 64 m).toNat ≤ m.toNat := by
    rw [BitVec.toNat_and, e]; exact Nat.and_le_right
  show 0 ≤ IntKind.i64.wrap (((BitVec.ofInt 64 x &&& BitVec.ofInt 64 m).toNat : Nat) : Int) ∧ IntKind.i64.wrap (((BitVec.ofInt 64 x &&& BitVec.ofInt 64 m).toNat : Nat) : Int) ≤ m
  rw [IntWalk.i64_in _ ⟨by omega, by omega⟩]
  omega

/-- The code that came in: its cells lie below B. -/
def CodeIn (B : Nat) (w : World) (a : Option Addr) (len : Nat) : Prop :=
  len ≤ 1048576 ∧ (len = 0 ∨ ∃ b off, a = some ⟨b, off, none⟩ ∧ b < B ∧ ∀ i, i < len → ∃ z, w.cell? ⟨b, off + i, none⟩ = some (.int .u8 z) ∧ 0 ≤ z ∧ z ≤ 255)

/-- A cursor at block g. -/
def Cur (B : Nat) (w : World) (g : Nat) : Prop :=
  B ≤ g ∧ g < w.heap.size ∧ ∃ (a : Option Addr) (len cap i : Nat) (h : Int), i ≤ len ∧ CodeIn B w a len ∧ w.heap[g]? = some (.cells #[.slice a len cap, .int .i64 (i : Int), .int .i64 h] 91 (0, 0))

theorem CodeIn.grown {B g : Nat} {w w' : World} {a : Option Addr} {len : Nat} (h : CodeIn B w a len) (hB : B ≤ g) (hg : w.grownBy w' (some g)) : CodeIn B w' a len := by
  refine ⟨h.1, ?_⟩
  rcases h.2 with h0 | ⟨b, off, rfl, hb, hc⟩
  · exact .inl h0
  · exact .inr ⟨b, off, rfl, hb, fun i hi => by
      obtain ⟨z, hz, h1⟩ := hc i hi
      exact ⟨z, hg.cell hz (by simp; omega), h1⟩⟩
theorem grown_refl (w : World) (r : Option Nat) : w.grownBy w r := ⟨rfl, rfl, rfl, Nat.le_refl _, fun _ _ _ => rfl⟩
theorem grown_trans {w w1 w2 : World} {r : Option Nat} (h : w.grownBy w1 r) (h' : w1.grownBy w2 r) : w.grownBy w2 r :=
  ⟨h'.os.trans h.os, h'.tape.trans h.tape, h'.output.trans h.output, Nat.le_trans h.size h'.size, fun k hk hne => (h'.block k (Nat.lt_of_lt_of_le hk h.size) hne).trans (h.block k hk hne)⟩
theorem grown_drewN (w : World) (n : Nat) (r : Option Nat) : w.grownBy (w.drewN n) r := ⟨rfl, rfl, rfl, Nat.le_refl _, fun _ _ _ => rfl⟩
theorem grown_setCell (w : World) (g j : Nat) (u : Value) : w.grownBy (w.setCell ⟨g, j, none⟩ u) (some g) :=
  ⟨rfl, rfl, rfl, by simp, fun k _ hne => Below.heap_setCell _ _ _ _ (by simpa using hne)⟩
theorem grown_below {w w' : World} (h : Below w.heap.size w w') (r : Option Nat) : w.grownBy w' r :=
  ⟨h.os, h.tape, h.output, h.size, fun k hk _ => h.block k hk⟩
theorem Cur.grown {B g : Nat} {w w' : World} (h : Cur B w g) (hb : Below w.heap.size w w') : Cur B w' g := by
  obtain ⟨h1, h2, a, len, cap, i, hh, h3, h4, h5⟩ := h
  exact ⟨h1, Nat.lt_of_lt_of_le h2 hb.size, a, len, cap, i, hh, h3, h4.grown h1 (grown_below hb _), (hb.block g h2).trans h5⟩

theorem cur_one {B g len cap i : Nat} {h X : Int} {a : Option Addr} {w w' : World} (hB : B ≤ g) (hg : g < w.heap.size) (hi : i ≤ len) (hc : CodeIn B w a len)
    (hb : w.heap[g]? = some (.cells #[.slice a len cap, .int .i64 (i : Int), .int .i64 h] 91 (0, 0)))
    (hh : w'.heap = (w.setCell ⟨g, 2, none⟩ (.int .i64 X)).heap) (ho : w'.os = w.os) (ht : w'.tape = w.tape) (hp : w'.output = w.output) : Cur B w' g ∧ w.grownBy w' (some g) := by
  have hs := grown_setCell w g 2 (.int .i64 X)
  have hgr : w.grownBy w' (some g) := ⟨ho, ht, hp, by rw [hh]; exact hs.size, fun k hk hne => by rw [hh]; exact hs.block k hk hne⟩
  refine ⟨⟨hB, Nat.lt_of_lt_of_le hg hgr.size, a, len, cap, i, X, hi, hc.grown hB hgr, ?_⟩, hgr⟩
  rw [hh, heap_setCell_same w g 2 _ _ _ hb]; rfl
theorem cur_two {B g len cap i : Nat} {h X : Int} {a : Option Addr} {w w' : World} (hB : B ≤ g) (hg : g < w.heap.size) (hi : i < len) (hc : CodeIn B w a len)
    (hb : w.heap[g]? = some (.cells #[.slice a len cap, .int .i64 (i : Int), .int .i64 h] 91 (0, 0)))
    (hh : w'.heap = ((w.setCell ⟨g, 2, none⟩ (.int .i64 X)).setCell ⟨g, 1, none⟩ (.int .i64 ((i : Int) + 1))).heap) (ho : w'.os = w.os) (ht : w'.tape = w.tape) (hp : w'.output = w.output) : Cur B w' g ∧ w.grownBy w' (some g) := by
  have hs := grown_trans (grown_setCell w g 2 (.int .i64 X)) (grown_setCell (w.setCell ⟨g, 2, none⟩ (.int .i64 X)) g 1 (.int .i64 ((i : Int) + 1)))
  have hgr : w.grownBy w' (some g) := ⟨ho, ht, hp, by rw [hh]; exact hs.size, fun k hk hne => by rw [hh]; exact hs.block k hk hne⟩
  refine ⟨⟨hB, Nat.lt_of_lt_of_le hg hgr.size, a, len, cap, i + 1, X, hi, hc.grown hB hgr, ?_⟩, hgr⟩
  rw [hh, heap_setCell_same _ g 1 _ _ _ (heap_setCell_same w g 2 _ _ _ hb)]
  rw [show ((i + 1 : Nat) : Int) = (i : Int) + 1 by omega]; rfl

set_option maxHeartbeats 800000 in
set_option maxRecDepth 20000 in
theorem byte_any (B g : Nat) (w : World) (hc : Cur B w g) :
    Calls Tryz.prog 21 #[.pointer (some ⟨g, 0, none⟩)] w fun e w' => ∃ x : Int, e = .returned (.int .i64 x) ∧ 0 ≤ x ∧ x ≤ 255 ∧ Cur B w' g ∧ w.grownBy w' (some g) := by
  obtain ⟨hB, hg, a, len, cap, i, h, hi, hcode, hblk⟩ := hc
  have c0 : w.cell? ⟨g, 0, none⟩ = some (.slice a len cap) := by rw [cell_of_row w g 0 _ _ _ hblk]; rfl
  have c1 : w.cell? ⟨g, 1, none⟩ = some (.int .i64 (i : Int)) := by rw [cell_of_row w g 1 _ _ _ hblk]; rfl
  have c2 : w.cell? ⟨g, 2, none⟩ = some (.int .i64 h) := by rw [cell_of_row w g 2 _ _ _ hblk]; rfl
  have f1 : w.frozen? ⟨g, 1, none⟩ = false := frozen_of_row w g 1 _ _ hblk
  have f2 : w.frozen? ⟨g, 2, none⟩ = false := frozen_of_row w g 2 _ _ hblk
  have HBL : Hid (w.heap[g]? = some (.cells #[.slice a len cap, .int .i64 (i : Int), .int .i64 h] 91 (0, 0))) := hblk
  have HCO : Hid (CodeIn B w a len) := hcode
  clear hblk
  have hl := hcode.1
  clear hcode
  by_cases hlt : i < len
  · have hcd := HCO.out
    rcases hcd.2 with h0 | ⟨b, off, rfl, hbB, hcs⟩
    · exact absurd h0 (by omega)
    obtain ⟨z, hz, hz0, hz1⟩ := hcs i hlt
    clear hcd hcs
    have hbg : ¬ b = g := by omega
    have hgb : ¬ g = b := by omega
    have hi0 : (0 : Int) ≤ (i : Int) := by omega
    have hi1 : (i : Int) < (len : Int) := by omega
    have cz : ∀ u, (w.setCell ⟨g, 2, none⟩ u).cell? ⟨b, off + i, none⟩ = some (.int .u8 z) := fun u => by
      rw [World.cell?_of_block (w := w) (Below.heap_setCell _ _ _ _ hbg)]; exact hz
    go_enter Tryz.func21, Tryz.ntmps21
    go_wp2
    go_quiet (fail)
    go_wp2
    go_quiet (fail)
    go_wp2
    go_quiet (fail)
    go_wp2
    go_ret
    refine ⟨_, rfl, (and_bd _ 255 (by decide) (by decide)).1, (and_bd _ 255 (by decide) (by decide)).2, ?_⟩
    exact cur_two (X := wrap64 (wrap64 (h * 6364136223846793005) + 1442695040888963407)) hB hg hlt HCO.out HBL.out rfl rfl rfl rfl
  · have hge : decide ((i : Int) < (len : Int)) = false := by simp; omega
    go_enter Tryz.func21, Tryz.ntmps21
    go_wp2
    go_quiet (fail)
    go_wp2
    go_quiet (fail)
    go_wp2
    go_ret
    refine ⟨_, rfl, (and_bd _ 255 (by decide) (by decide)).1, (and_bd _ 255 (by decide) (by decide)).2, ?_⟩
    exact cur_one (X := wrap64 (wrap64 (h * 6364136223846793005) + 1442695040888963407)) hB hg hi HCO.out HBL.out rfl rfl rfl rfl

theorem below_any (B g : Nat) (n : Nat) (w : World) (hn : 0 < n) (hn1 : n ≤ 1000000000) (hc : Cur B w g) :
    Calls Tryz.prog 22 #[.pointer (some ⟨g, 0, none⟩), .int .i64 (n : Int)] w fun e w' => ∃ x : Nat, e = .returned (.int .i64 (x : Int)) ∧ x < n ∧ Cur B w' g ∧ w.grownBy w' (some g) := by
  have hz : ¬ (n : Int) ≤ 0 := by omega
  by_cases h256 : n ≤ 256
  · have h2 : (n : Int) ≤ 256 := by omega
    go_enter Tryz.func22, Tryz.ntmps22
    go_wp2_with fail
    refine (byte_any B g _ hc).mono ?_
    rintro e w1 ⟨x, rfl, hx0, hx1, hc1, hg1⟩
    go_wp2
    go_ret
    exact ⟨(x % n).toNat, by rw [show (((x % (n : Int)).toNat : Nat) : Int) = x % (n : Int) from Int.toNat_of_nonneg (Int.emod_nonneg _ (by omega))]; rfl, by have := Int.emod_lt_of_pos x (show (0 : Int) < n by omega); have := Int.emod_nonneg x (show (n : Int) ≠ 0 by omega); omega, hc1, hg1⟩
  · have h2 : ¬ (n : Int) ≤ 256 := by omega
    go_enter Tryz.func22, Tryz.ntmps22
    go_wp2_with fail
    refine (byte_any B g _ hc).mono ?_
    rintro e w1 ⟨x, rfl, hx0, hx1, hc1, hg1⟩
    go_wp2_with fail
    refine (byte_any B g _ hc1).mono ?_
    rintro e w2 ⟨y, rfl, hy0, hy1, hc2, hg2⟩
    go_wp2_with fail
    refine (byte_any B g _ hc2).mono ?_
    rintro e w3 ⟨z, rfl, hz0, hz1, hc3, hg3⟩
    go_wp2_with fail
    refine (byte_any B g _ hc3).mono ?_
    rintro e w4 ⟨u, rfl, hu0, hu1, hc4, hg4⟩
    go_wp2
    go_ret
    have hm0 := Int.emod_nonneg (x * 16777216 + y * 65536 + z * 256 + u) (show (n : Int) ≠ 0 by omega)
    have hm1 := Int.emod_lt_of_pos (x * 16777216 + y * 65536 + z * 256 + u) (show (0 : Int) < n by omega)
    exact ⟨((x * 16777216 + y * 65536 + z * 256 + u) % n).toNat, by rw [Int.toNat_of_nonneg hm0]; rfl, by omega, hc4, grown_trans hg1 (grown_trans hg2 (grown_trans hg3 hg4))⟩

theorem once_any (B g : Nat) (n : Nat) (w : World) (hn : 0 < n) (hn1 : n ≤ 1000000000) (hc : Cur B w g) :
    Calls Tryz.prog 52 #[.pointer (some ⟨g, 0, none⟩), .int .i64 (n : Int)] w fun e w' => ∃ x : Bool, e = .returned (.bool x) ∧ Cur B w' g ∧ w.grownBy w' (some g) := by
  go_enter Tryz.func52, Tryz.ntmps52
  go_wp2_with fail
  refine (below_any B g n _ hn hn1 hc).mono ?_
  rintro e w1 ⟨x, rfl, hx, hc1, hg1⟩
  go_wp2
  go_ret
  exact ⟨_, rfl, hc1, hg1⟩

theorem own_grown {w w' : World} {base e size n g : Nat} {v : Value} {xs : List Value} (h : w.ownsRow base e size v n xs) (hg : w.grownBy w' (some g)) (hlt : g < base) : w'.ownsRow base e size v n xs :=
  h.kept hg (by
    rcases h.2 with ⟨rfl, _⟩ | ⟨g', cap, cur, rfl, hb, _⟩
    · exact .inl rfl
    · exact .inr (by simp [Value.ownBlock]; omega))

theorem grown_then {w w1 w2 : World} {g : Nat} (h : w.grownBy w1 (some g)) (hB : Below w.heap.size w1 w2) : w.grownBy w2 (some g) :=
  ⟨hB.os.trans h.os, hB.tape.trans h.tape, hB.output.trans h.output, Nat.le_trans h.size hB.size, fun j hj hne => (hB.block j hj).trans (h.block j hj hne)⟩
theorem Cur.beyond {B g S : Nat} {w w' : World} (h : Cur B w g) (hg : g < S) (hb : Below S w w') : Cur B w' g := by
  obtain ⟨h1, h2, a, len, cap, i, hh, h3, h4, h5⟩ := h
  refine ⟨h1, Nat.lt_of_lt_of_le h2 hb.size, a, len, cap, i, hh, h3, ⟨h4.1, ?_⟩, (hb.block g hg).trans h5⟩
  rcases h4.2 with h0 | ⟨b, off, rfl, hbB, hc⟩
  · exact .inl h0
  · exact .inr ⟨b, off, rfl, hbB, fun j hj => by
      obtain ⟨z, hz, h6⟩ := hc j hj
      exact ⟨z, (hb.cell (p := ⟨b, off + j, none⟩) (show b < S by omega)).trans hz, h6⟩⟩

theorem Tryz.info5d : (Tryz.prog.info? 5).map (fun i => (i.zero, i.size, i.bytes)) = some (some (.int .u8 0), 1, 1) := by kernel_rfl

set_option maxRecDepth 100000 in
set_option maxHeartbeats 400000 in
set_option maxRecDepth 20000 in
theorem new_any (a : Option Addr) (len cap : Nat) (w : World) (hc : CodeIn w.heap.size w a len) :
    Calls Tryz.prog 20 #[.slice a len cap] w fun e w' => ∃ g, e = .returned (.pointer (some ⟨g, 0, none⟩)) ∧ Cur w.heap.size w' g ∧ Below w.heap.size w w' := by
  have hl := hc.1
  have HC : Hid (CodeIn w.heap.size w a len) := hc
  clear hc
  go_enter Tryz.func20, Tryz.ntmps20
  go_wp2
  go_loop [3, 4] (fun h i => ∃ (k : Nat) (x : Int), k ≤ len ∧ k ≤ 4000 ∧ i = .int .i64 (k : Int) ∧ h = .int .i64 x ∧ 0 ≤ x ∧ x ≤ 1073741823)
    (fun _ i => len - (intOf i).toNat)
  case atStart => exact ⟨0, 94701 + (len : Int), by omega, by omega, rfl, rfl, by omega, by omega⟩
  case round =>
    obtain ⟨k, x, hk, hk4, rfl, rfl, hx0, hx1⟩ := hrel
    have fin : ∀ x' : Int, Cur w.heap.size (w.alloc (.cells #[.slice a len cap, .int .i64 0, .int .i64 x'] 91)) w.heap.size ∧ Below w.heap.size w (w.alloc (.cells #[.slice a len cap, .int .i64 0, .int .i64 x'] 91)) := fun x' => by
      have hb : Below w.heap.size w (w.alloc (.cells #[.slice a len cap, .int .i64 0, .int .i64 x'] 91)) := (Below.refl _ _).alloc (Nat.le_refl _) _
      exact ⟨⟨Nat.le_refl _, by simp, a, len, cap, 0, x', by omega, HC.out.grown (Nat.le_refl _) (grown_below hb _), heap_alloc_new w _⟩, hb⟩
    have FIN : Hid _ := fin
    clear fin
    by_cases hlt : k < len
    · by_cases h4 : k < 4000
      · have hcd := HC.out
        rcases hcd.2 with h0 | ⟨b, off, rfl, hbB, hcs⟩
        · exact absurd h0 (by omega)
        obtain ⟨z, hz, hz0, hz1⟩ := hcs k hlt
        clear hcd hcs
        have hi0 : (0 : Int) ≤ (k : Int) := by omega
        have hi1 : (k : Int) < (len : Int) := by omega
        have HA : Hid _ := and_bd (x * 131 + z + 7) 1073741823 (by decide) (by decide)
        go_wp2
        go_round
        case rel => exact ⟨k + 1, _, by omega, by omega, by go_num, rfl, HA.out.1, HA.out.2⟩
        case measure => simp [intOf]; omega
      · have hd : decide ((k : Int) < 4000) = false := by simp; omega
        go_wp2
        go_ret
        exact ⟨_, rfl, FIN.out _⟩
    · have hd : decide ((k : Int) < (len : Int)) = false := by simp; omega
      go_wp2
      go_ret
      exact ⟨_, rfl, FIN.out _⟩

/-- One of a list's numbers. -/
theorem pickInt_any (B g gl m cap : Nat) (zs : List Int) (w : World) (hm : 0 < m) (hm1 : m ≤ 256) (hz : zs.length = m) (hgl : gl ≠ g) (hcells : ∀ i, i < m → w.cell? ⟨gl, i, none⟩ = some (.int .i64 (zs.getD i 0))) (hc : Cur B w g) :
    Calls Tryz.prog 44 #[.pointer (some ⟨g, 0, none⟩), .slice (some ⟨gl, 0, none⟩) m cap] w fun e w' => ∃ z ∈ zs, e = .returned (.int .i64 z) ∧ Cur B w' g ∧ w.grownBy w' (some g) := by
  have HC : Hid (∀ i, i < m → w.cell? ⟨gl, i, none⟩ = some (.int .i64 (zs.getD i 0))) := hcells
  clear hcells
  go_enter Tryz.func44, Tryz.ntmps44
  go_wp2_with fail
  refine (below_any B g m _ hm (by omega) hc).mono ?_
  rintro e w1 ⟨x, rfl, hx, hc1, hg1⟩
  have hcx := hg1.cell (HC.out x hx) (by simpa using hgl)
  have hi0 : (0 : Int) ≤ (x : Int) := by omega
  have hi1 : (x : Int) < (m : Int) := by omega
  obtain ⟨z, hzd⟩ : ∃ z, z = zs.getD x 0 := ⟨_, rfl⟩
  rw [← hzd] at hcx
  have hmem : z ∈ zs := by rw [hzd, List.getD_eq_getElem?_getD, List.getElem?_eq_getElem (by omega)]; exact List.getElem_mem _
  clear hzd HC
  go_wp2
  go_ret
  exact ⟨z, hmem, rfl, hc1, hg1⟩
end Go.Proofs.YtaanophnnkmkbaaGreat
