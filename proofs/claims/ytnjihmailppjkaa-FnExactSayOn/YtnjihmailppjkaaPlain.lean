/- Plain mathematics and small lemmas on worlds, over no dump: the bytes of a number (chapter 1), a row of bytes of the call's own as a string. -/
import Derived.WalkKit
import Derived.WalkLawsBesides
import Derived.Laws.BytesArg
import Derived.Test.YtnjihmailppjkaaTermPut
import Derived.OwnWalk
import Derived.Laws.OwnMore
import Derived.Lib.Strings
import Derived.PlainAid
namespace Go.Proofs.Ytnjihmailppjkaa
open Go.RowKit

/-- The bytes of a number: seven bits a byte, the lowest first, 128 on all but the last; at most f and one of them. -/
def vbF : Nat → Nat → List Int
  | 0, n => [(n : Int)]
  | f + 1, n => if n ≤ 127 then [(n : Int)] else (((n % 128 + 128 : Nat) : Int)) :: vbF f (n / 128)
theorem vbF_more : ∀ (f g n : Nat), n ≤ f → n ≤ g → vbF f n = vbF g n
  | 0, 0, n, _, _ => rfl
  | 0, g + 1, n, h, _ => by rw [vbF, vbF, if_pos (by omega)]
  | f + 1, 0, n, _, h => by rw [vbF, vbF, if_pos (by omega)]
  | f + 1, g + 1, n, hf, hg => by
    rw [vbF, vbF]
    split
    · rfl
    · rw [vbF_more f g (n / 128) (by omega) (by omega)]
/-- The bytes of a number. -/
def vb (n : Nat) : List Int := vbF n n
theorem vb_small {n : Nat} (h : n ≤ 127) : vb n = [(n : Int)] := by
  unfold vb
  cases n with
  | zero => rfl
  | succ m => rw [vbF, if_pos h]
theorem vb_big {n : Nat} (h : 127 < n) : vb n = ((n : Int) % 128 + 128) :: vb (n / 128) := by
  unfold vb
  cases n with
  | zero => omega
  | succ m => rw [vbF, if_neg (by omega), vbF_more m ((m + 1) / 128) ((m + 1) / 128) (by omega) (Nat.le_refl _)]; simp

theorem vb_len : ∀ (k n : Nat), n < 128 ^ (k + 1) → (vb n).length ≤ k + 1
  | 0, n, h => by rw [vb_small (by omega)]; simp
  | k + 1, n, h => by
    by_cases hn : n ≤ 127
    · rw [vb_small hn]; simp
    · rw [vb_big (by omega)]
      have := vb_len k (n / 128) (by rw [Nat.pow_succ] at h; omega)
      simp; omega

theorem vb_len10 (n : Nat) (h : n ≤ 9223372036854775807) : (vb n).length ≤ 10 := vb_len 9 n (by simp; omega)

/-- A row of bytes that the call owns, as a string. -/
theorem conv_own {P : Program} (w : World) (src dst e : TypeId) (hs : P.underlying src = some (.slice e)) (he : P.underlying e = some (.int .u8)) (hd : P.underlying dst = some .string)
    {base n : Nat} {v : Value} {xs : List Int} (hown : w.ownsRow base e 1 v n (xs.map (Value.int .u8))) :
    (convert src dst v).run P w = .ok (.string (strOfNums xs)) w := by
  have hn : n = xs.length := by have := hown.1; simpa using this.symm
  rcases hown.2 with ⟨rfl, h0⟩ | ⟨g, cap, cur, rfl, hg, hb, hc, hm, hsz, htake⟩
  · have : xs = [] := List.length_eq_zero_iff.mp (by omega)
    subst this
    exact run_convert_bytes_nil w src e hs he 0 0 dst hd
  · refine run_convert_bytes_arg w src e hs he g 0 n cap xs hn.symm ?_ dst hd
    intro i hi
    have := hown.cells (g := g) rfl i (.int .u8 (xs.getD i 0)) (by
      rw [List.getElem?_map, List.getElem?_eq_getElem (by omega)]; simp [List.getD, List.getElem?_eq_getElem (show i < xs.length by omega)])
    have e : (⟨g, 0, none⟩ : Addr).add i = ⟨g, 0 + i, none⟩ := by unfold Addr.add; split <;> simp_all
    rw [e] at this; exact this

/-- Behind an append onto an owned row (the new elements laid in a block of their own first): below B nothing has turned. -/
theorem below_app {B : Nat} {w wr w1 : World} {v : Value} {e size n : Nat} {xs : List Value} {o : Obj} (hown : wr.ownsRow B e size v n xs) (hbel : Below B w wr) (hB : B ≤ wr.heap.size) (hg : (wr.alloc o).grownBy w1 v.ownBlock) : Below B w w1 :=
  (hbel.alloc hB o).grown hg (by simp; omega) (fun k hk => (hown.lt k hk).1)

/-- What the append's law leaves, in the words of numbers. -/
theorem own_snoc {B : Nat} {w : World} {v : Value} {e : Nat} {k : IntKind} {xs ys : List Int} (h : w.ownsRow B e 1 v (xs.length + ys.length) (xs.map (Value.int k) ++ ys.map (Value.int k))) : w.ownsRow B e 1 v (xs ++ ys).length ((xs ++ ys).map (Value.int k)) := by
  rw [List.length_append, List.map_append]; exact h

end Go.Proofs.Ytnjihmailppjkaa

namespace Go.Proofs.Ytnjihmailppjkaa
open Go.RowKit

theorem infoIntS : (Try.prog.info? 3).map (fun i => (i.zero, i.size, i.bytes)) = some (some (.int .i64 0), 1, 8) := by kernel_rfl
/-- A row of integers of the call's own: its cells. -/
theorem own_ints {w : World} {base k : Nat} {v : Value} {xs : List Int} (h : w.ownsRow base 3 1 v k (xs.map (Value.int .i64))) (hk : 0 < k) :
    ∃ g cap, v = .slice (some ⟨g, 0, none⟩) k cap ∧ base ≤ g ∧ g < w.heap.size ∧ ∀ j, j < k → w.cell? ⟨g, j, none⟩ = some (.int .i64 (xs.getD j 0)) := by
  have hl : xs.length = k := by have := h.1; simpa using this
  have h' := h
  rcases h.2 with ⟨_, h0⟩ | ⟨g, cap, cur, rfl, hg, hb, _⟩
  · omega
  · refine ⟨g, cap, rfl, hg, (Array.getElem?_eq_some_iff.1 hb).1, fun j hj => ?_⟩
    rw [h'.cellAt j (by omega), List.getElem?_map, List.getElem?_eq_getElem (by omega), List.getD_eq_getElem?_getD, List.getElem?_eq_getElem (by omega)]; rfl
theorem own_base {w : World} {base base' e size n : Nat} {v : Value} {xs : List Value} (h : w.ownsRow base e size v n xs) (hb : base' ≤ base) : w.ownsRow base' e size v n xs := by
  refine ⟨h.1, ?_⟩
  rcases h.2 with h0 | ⟨g, cap, cur, e, hg, rest⟩
  · exact .inl h0
  · exact .inr ⟨g, cap, cur, e, Nat.le_trans hb hg, rest⟩
theorem own_next {B e size n : Nat} {w w' : World} {v : Value} {xs : List Value} (h : w.ownsRow B e size v n xs) (hb : Below w.heap.size w w') : w'.ownsRow B e size v n xs := by
  refine ⟨h.1, ?_⟩
  rcases h.2 with h0 | ⟨g, cap, cur, e, hg, hh, rest⟩
  · exact .inl h0
  · exact .inr ⟨g, cap, cur, e, hg, (hb.block g (Array.getElem?_eq_some_iff.1 hh).1).trans hh, rest⟩
/-- Behind an append onto a row from B + 1 on: what lies up to B is as it was. -/
theorem app_step {w w1 w2 : World} {B e size n : Nat} {v u : Value} {xs : List Value} {o : Obj} (hown : w1.ownsRow (B + 1) e size v n xs) (hB : Below B w w1) (hA : w1.cell? ⟨B, 0, none⟩ = some u) (hs : B < w1.heap.size) (hg : (w1.alloc o).grownBy w2 v.ownBlock) :
    Below B w w2 ∧ w2.cell? ⟨B, 0, none⟩ = some u ∧ B < w2.heap.size := by
  have h1 : Below (B + 1) w1 w2 := below_app hown (Below.refl _ _) hs hg
  exact ⟨hB.trans (h1.mono (by omega)), (h1.cell (p := ⟨B, 0, none⟩) (show B < B + 1 by omega)).trans hA, Nat.lt_of_lt_of_le hs h1.size⟩
/-- A node that was boxed, behind a call. -/
theorem box_after {wr w1 : World} {k n a b : Int} (hb : Below (wr.alloc (.cells #[.int .i64 k, .int .i64 n, .int .i64 a, .int .i64 b] 87)).heap.size (wr.alloc (.cells #[.int .i64 k, .int .i64 n, .int .i64 a, .int .i64 b] 87)) w1) :
    w1.cell? ⟨wr.heap.size, 0, none⟩ = some (.int .i64 k) ∧ w1.cell? ⟨wr.heap.size, 1, none⟩ = some (.int .i64 n) ∧ w1.cell? ⟨wr.heap.size, 2, none⟩ = some (.int .i64 a) ∧ w1.cell? ⟨wr.heap.size, 3, none⟩ = some (.int .i64 b) ∧ Below wr.heap.size wr w1 ∧ wr.heap.size < w1.heap.size := by
  have hn := heap_alloc_new wr (.cells #[.int .i64 k, .int .i64 n, .int .i64 a, .int .i64 b] 87)
  have hs := hb.size
  simp at hs
  exact ⟨(hb.cell (p := ⟨wr.heap.size, 0, none⟩) (by simp)).trans ((cell_of_row _ wr.heap.size 0 _ _ _ hn).trans rfl), (hb.cell (p := ⟨wr.heap.size, 1, none⟩) (by simp)).trans ((cell_of_row _ wr.heap.size 1 _ _ _ hn).trans rfl), (hb.cell (p := ⟨wr.heap.size, 2, none⟩) (by simp)).trans ((cell_of_row _ wr.heap.size 2 _ _ _ hn).trans rfl), (hb.cell (p := ⟨wr.heap.size, 3, none⟩) (by simp)).trans ((cell_of_row _ wr.heap.size 3 _ _ _ hn).trans rfl), ((Below.refl _ _).alloc (Nat.le_refl _) _).trans (hb.mono (by simp)), by omega⟩
end Go.Proofs.Ytnjihmailppjkaa

namespace Go.Proofs.Ytnjihmailppjkaa
open Go.RowKit Go.PlainAid

/-- 128 to the k. -/
def pw (k : Nat) : Int := 128 ^ k
theorem pw_zero : pw 0 = 1 := rfl
theorem pw_succ (k : Nat) : pw (k + 1) = pw k * 128 := by unfold pw; rw [Int.pow_succ]
theorem pw_lt {k : Nat} (h : k < 5) : 1 ≤ pw k ∧ pw k ≤ 268435456 := by
  rcases (show k = 0 ∨ k = 1 ∨ k = 2 ∨ k = 3 ∨ k = 4 by omega) with rfl | rfl | rfl | rfl | rfl <;> decide
theorem pw_five : pw 5 = 34359738368 := by decide
theorem pw_pos (k : Nat) : 1 ≤ pw k := by
  induction k with
  | zero => decide
  | succ k ih => rw [pw_succ]; omega

/-- Reading: at most 'fuel' bytes more from place a + k on; acc: what the k bytes read so far weigh. -/
def rvGo (s : ByteArray) (a : Nat) : Nat → Nat → Int → Option (Int × Nat)
  | 0, _, _ => none
  | f + 1, k, acc =>
    if a + k < s.size then
      if bt s (a + k) < 128 then
        if (bt s (a + k) = 0 ∧ 0 < k) ∨ 1000000000 < acc + bt s (a + k) % 128 * pw k then none
        else some (acc + bt s (a + k) % 128 * pw k, a + k + 1)
      else rvGo s a f (k + 1) (acc + bt s (a + k) % 128 * pw k)
    else none

/-- The answer of ReadVar at a place within the text. -/
def rvOut (s : ByteArray) (a : Nat) : Option (Int × Nat) := rvGo s a 5 0 0

theorem rv_end {s : ByteArray} {a f k : Nat} {acc : Int} (h : s.size ≤ a + k) : rvGo s a f k acc = none := by
  cases f with
  | zero => rfl
  | succ f => rw [rvGo, if_neg (by omega)]
theorem rv_out {s : ByteArray} {a k : Nat} {acc : Int} (h : 5 ≤ k) : rvGo s a (5 - k) k acc = none := by
  rw [show 5 - k = 0 by omega]; rfl
theorem rv_more {s : ByteArray} {a k : Nat} {acc : Int} (hk : k < 5) (h : a + k < s.size) (hb : 128 ≤ bt s (a + k)) :
    rvGo s a (5 - k) k acc = rvGo s a (5 - (k + 1)) (k + 1) (acc + bt s (a + k) % 128 * pw k) := by
  rw [show 5 - k = (5 - (k + 1)) + 1 by omega, rvGo, if_pos h, if_neg (by omega)]
theorem rv_bad {s : ByteArray} {a k : Nat} {acc : Int} (hk : k < 5) (h : a + k < s.size) (hb : bt s (a + k) < 128)
    (hx : (bt s (a + k) = 0 ∧ 0 < k) ∨ 1000000000 < acc + bt s (a + k) % 128 * pw k) : rvGo s a (5 - k) k acc = none := by
  rw [show 5 - k = (5 - (k + 1)) + 1 by omega, rvGo, if_pos h, if_pos hb, if_pos hx]
theorem rv_good {s : ByteArray} {a k : Nat} {acc : Int} (hk : k < 5) (h : a + k < s.size) (hb : bt s (a + k) < 128)
    (hx : ¬ ((bt s (a + k) = 0 ∧ 0 < k) ∨ 1000000000 < acc + bt s (a + k) % 128 * pw k)) :
    rvGo s a (5 - k) k acc = some (acc + bt s (a + k) % 128 * pw k, a + k + 1) := by
  rw [show 5 - k = (5 - (k + 1)) + 1 by omega, rvGo, if_pos h, if_pos hb, if_neg hx]

theorem mul_bd {x p : Int} (hx : 0 ≤ x) (hx' : x ≤ 127) (hp : 0 ≤ p) : 0 ≤ x * p ∧ x * p ≤ 127 * p :=
  ⟨Int.mul_nonneg hx hp, Int.mul_le_mul_of_nonneg_right hx' hp⟩

/-- What the bytes weigh. -/
def val : List Int → Int
  | [] => 0
  | b :: bs => b % 128 + 128 * val bs
theorem val_nonneg : ∀ l, 0 ≤ val l
  | [] => by simp [val]
  | b :: bs => by have := val_nonneg bs; simp only [val]; omega
theorem val_snoc : ∀ (l : List Int) (b : Int), val (l ++ [b]) = val l + b % 128 * pw l.length
  | [], b => by simp [val, pw]
  | x :: l, b => by
    simp only [List.cons_append, val, val_snoc l b, List.length_cons, pw_succ]
    rw [Int.mul_add, ← Int.mul_assoc (b % 128), Int.mul_comm (b % 128 * pw l.length) 128]
    omega
theorem val_pos : ∀ (l : List Int) (b : Int), 0 < b → b < 128 → 0 < val (l ++ [b])
  | [], b, h, h' => by simp [val]; omega
  | x :: l, b, h, h' => by have := val_pos l b h h'; simp only [List.cons_append, val]; omega

/-- The bytes read are the number's own bytes: unless a last byte 0 stands behind others. -/
theorem canon : ∀ (l : List Int) (b : Int), (∀ x ∈ l, 128 ≤ x ∧ x ≤ 255) → 0 ≤ b → b < 128 → (vb (val (l ++ [b])).toNat = l ++ [b] ↔ ¬ (b = 0 ∧ 0 < l.length))
  | [], b, _, h0, h1 => by
    have e : val ([] ++ [b]) = b := by simp [val]; omega
    rw [e, vb_small (by omega)]
    simp; omega
  | x :: l, b, hl, h0, h1 => by
    have hx := hl x (by simp)
    have ih := canon l b (fun y hy => hl y (by simp [hy])) h0 h1
    have hv := val_nonneg (l ++ [b])
    have e : val (x :: l ++ [b]) = x % 128 + 128 * val (l ++ [b]) := rfl
    by_cases hz : val (l ++ [b]) = 0
    · have hb : b = 0 := by
        by_cases hb : b = 0
        · exact hb
        · have := val_pos l b (by omega) h1; omega
      rw [e, hz, vb_small (by omega)]
      constructor
      · intro h; have := congrArg List.length h; simp at this
      · intro h; exact absurd ⟨hb, by simp⟩ h
    · rw [e, vb_big (by omega)]
      have e1 : ((x % 128 + 128 * val (l ++ [b])).toNat : Int) % 128 + 128 = x := by omega
      have e2 : (x % 128 + 128 * val (l ++ [b])).toNat / 128 = (val (l ++ [b])).toNat := by omega
      rw [e1, e2, List.cons_append, List.cons.injEq, ih]
      constructor
      · rintro ⟨_, h⟩ ⟨hb, _⟩
        refine h ⟨hb, ?_⟩
        cases l with
        | nil => simp [val, hb] at hz
        | cons y l => simp
      · intro h; exact ⟨rfl, fun h' => h ⟨h'.1, by simp⟩⟩

theorem vb_range (n : Nat) : ∀ x ∈ vb n, 0 ≤ x ∧ x ≤ 255 := by
  induction n using Nat.strongRecOn with
  | ind n ih =>
    intro x hx
    by_cases h : n ≤ 127
    · rw [vb_small h] at hx; simp at hx; omega
    · rw [vb_big (by omega)] at hx
      rcases List.mem_cons.mp hx with rfl | hx
      · omega
      · exact ih (n / 128) (by omega) x hx

/-- The bytes of s from a on, k of them. -/
def tk (s : ByteArray) (a k : Nat) : List UInt8 := (s.data.toList.drop a).take k
def nums (l : List UInt8) : List Int := l.map fun b => (b.toNat : Int)
theorem tk_succ (s : ByteArray) (a k : Nat) (h : a + k < s.size) : tk s a (k + 1) = tk s a k ++ [s[a + k]'h] := by
  unfold tk
  have h' : a + k < s.data.toList.length := by simpa using h
  rw [List.take_succ_eq_append_getElem (by rw [List.length_drop]; omega)]
  congr 2
  rw [List.getElem_drop]; rfl
theorem tk_len (s : ByteArray) (a k : Nat) (h : a + k ≤ s.size) : (tk s a k).length = k := by
  unfold tk
  have h' : a + k ≤ s.data.toList.length := by simpa using h
  rw [List.length_take, List.length_drop]; omega

theorem strOfNums_eq {xs : List Int} {l : List UInt8} (h : ∀ x ∈ xs, 0 ≤ x ∧ x ≤ 255) : (xs.map fun n => UInt8.ofNat n.toNat) = l ↔ xs = nums l := by
  constructor
  · intro e; subst e
    unfold nums; rw [List.map_map]
    conv => lhs; rw [← List.map_id xs]
    apply List.map_congr_left
    intro x hx
    have := h x hx
    simp only [id, Function.comp, UInt8.toNat_ofNat']
    omega
  · intro e; subst e
    unfold nums; rw [List.map_map]
    conv => rhs; rw [← List.map_id l]
    apply List.map_congr_left
    intro x _
    simp [Function.comp]

/-- A number's own bytes against those that were read. -/
theorem same_bytes {s : ByteArray} {a k : Nat} {acc : Int} (h : a + k < s.size) (hb : bt s (a + k) < 128) (hacc : acc = val (nums (tk s a k))) (hall : ∀ x ∈ nums (tk s a k), 128 ≤ x ∧ x ≤ 255) :
    ((strOfNums (vb (acc + bt s (a + k) % 128 * pw k).toNat)).toList == (s.extract a (a + k + 1)).toList) = decide (¬ (bt s (a + k) = 0 ∧ 0 < k)) := by
  have hl : (nums (tk s a k)).length = k := by unfold nums; rw [List.length_map, tk_len s a k (by omega)]
  have he : (s.extract a (a + k + 1)).data.toList = tk s a (k + 1) := by rw [Lib.extract_data]; unfold tk; rw [show a + k + 1 - a = k + 1 by omega]
  have hn : nums (tk s a (k + 1)) = nums (tk s a k) ++ [bt s (a + k)] := by
    rw [tk_succ s a k h]; unfold nums; rw [List.map_append, List.map_singleton, get_bt]
  have hc := canon (nums (tk s a k)) (bt s (a + k)) hall (bt_nonneg _ _) hb
  rw [val_snoc, hl, ← hacc, ← hn] at hc
  rw [ByteArray.toList_eq, ByteArray.toList_eq, he, strOfNums_data, Bool.eq_iff_iff, beq_iff_eq, decide_eq_true_iff, ← hc]
  exact strOfNums_eq (vb_range _)

theorem all_snoc {s : ByteArray} {a k : Nat} (h : a + k < s.size) (hb : 128 ≤ bt s (a + k)) (hall : ∀ x ∈ nums (tk s a k), 128 ≤ x ∧ x ≤ 255) :
    ∀ x ∈ nums (tk s a (k + 1)), 128 ≤ x ∧ x ≤ 255 := by
  have hn : nums (tk s a (k + 1)) = nums (tk s a k) ++ [bt s (a + k)] := by
    rw [tk_succ s a k h]; unfold nums; rw [List.map_append, List.map_singleton, get_bt]
  rw [hn]; intro x hx
  rcases List.mem_append.mp hx with hx | hx
  · exact hall x hx
  · simp at hx; subst hx; exact ⟨hb, bt_le _ _⟩
theorem val_next {s : ByteArray} {a k : Nat} {acc : Int} (h : a + k < s.size) (hacc : acc = val (nums (tk s a k))) :
    acc + bt s (a + k) % 128 * pw k = val (nums (tk s a (k + 1))) := by
  have hl : (nums (tk s a k)).length = k := by unfold nums; rw [List.length_map, tk_len s a k (by omega)]
  have hn : nums (tk s a (k + 1)) = nums (tk s a k) ++ [bt s (a + k)] := by
    rw [tk_succ s a k h]; unfold nums; rw [List.map_append, List.map_singleton, get_bt]
  rw [hn, val_snoc, hl, ← hacc]

end Go.Proofs.Ytnjihmailppjkaa
