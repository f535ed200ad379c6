/- Plain mathematics and small lemmas on worlds, over no dump: the bytes of a number (chapter 1), a row of bytes of the call's own as a string. -/
import Derived.WalkKit
import Derived.WalkLawsBesides
import Derived.Laws.BytesArg
import Derived.Test.YtffnadnndmmliaaTermPut
import Derived.OwnWalk
import Derived.Laws.OwnMore
import Derived.Test.YtffnadnndmmliaaProg
import Derived.WalkSpells
import Derived.Deep.DeepMust
import Derived.Deep.DeepFit
namespace Go.Proofs.Ytffnadnndmmliaa
open Go.RowKit

/-- The bytes of a number: seven bits a byte, the lowest first, 128 on all but the last; at most f and one of them. -/
def vbF : Nat → Nat → List Int
  | 0, n => [(n : Int)]
  | f + 1, n => if n ≤ 127 then [(n : Int)] else (((n % 128 + 128 : Nat) : Int)) :: vbF f (n / 128)
theorem vbF_more : ∀ (f g n : Nat), n ≤ f → n ≤ g → vbF f n = vbF g n
  | 0, 0, n, _, _ => rfl
  | 0, g + 1, n, h, _ => by rw [vbF, vbF, if_pos (by omega)]
  | f + 1, 0, n, _, h => by rw [vbF, vbF, if_pos (by omega)]
  | f + 1, g + 1, n, hf, hg => by
    rw [vbF, vbF]
    split
    · rfl
    · rw [vbF_more f g (n / 128) (by omega) (by omega)]
/-- The bytes of a number. -/
def vb (n : Nat) : List Int := vbF n n
theorem vb_small {n : Nat} (h : n ≤ 127) : vb n = [(n : Int)] := by
  unfold vb
  cases n with
  | zero => rfl
  | succ m => rw [vbF, if_pos h]
theorem vb_big {n : Nat} (h : 127 < n) : vb n = ((n : Int) % 128 + 128) :: vb (n / 128) := by
  unfold vb
  cases n with
  | zero => omega
  | succ m => rw [vbF, if_neg (by omega), vbF_more m ((m + 1) / 128) ((m + 1) / 128) (by omega) (Nat.le_refl _)]; simp

theorem vb_len : ∀ (k n : Nat), n < 128 ^ (k + 1) → (vb n).length ≤ k + 1
  | 0, n, h => by rw [vb_small (by omega)]; simp
  | k + 1, n, h => by
    by_cases hn : n ≤ 127
    · rw [vb_small hn]; simp
    · rw [vb_big (by omega)]
      have := vb_len k (n / 128) (by rw [Nat.pow_succ] at h; omega)
      simp; omega

theorem vb_len10 (n : Nat) (h : n ≤ 9223372036854775807) : (vb n).length ≤ 10 := vb_len 9 n (by simp; omega)

/-- A row of bytes that the call owns, as a string. -/
theorem conv_own {P : Program} (w : World) (src dst e : TypeId) (hs : P.underlying src = some (.slice e)) (he : P.underlying e = some (.int .u8)) (hd : P.underlying dst = some .string)
    {base n : Nat} {v : Value} {xs : List Int} (hown : w.ownsRow base e 1 v n (xs.map (Value.int .u8))) :
    (convert src dst v).run P w = .ok (.string (strOfNums xs)) w := by
  have hn : n = xs.length := by have := hown.1; simpa using this.symm
  rcases hown.2 with ⟨rfl, h0⟩ | ⟨g, cap, cur, rfl, hg, hb, hc, hm, hsz, htake⟩
  · have : xs = [] := List.length_eq_zero_iff.mp (by omega)
    subst this
    exact run_convert_bytes_nil w src e hs he 0 0 dst hd
  · refine run_convert_bytes_arg w src e hs he g 0 n cap xs hn.symm ?_ dst hd
    intro i hi
    have := hown.cells (g := g) rfl i (.int .u8 (xs.getD i 0)) (by
      rw [List.getElem?_map, List.getElem?_eq_getElem (by omega)]; simp [List.getD, List.getElem?_eq_getElem (show i < xs.length by omega)])
    have e : (⟨g, 0, none⟩ : Addr).add i = ⟨g, 0 + i, none⟩ := by unfold Addr.add; split <;> simp_all
    rw [e] at this; exact this

/-- Behind an append onto an owned row (the new elements laid in a block of their own first): below B nothing has turned. -/
theorem below_app {B : Nat} {w wr w1 : World} {v : Value} {e size n : Nat} {xs : List Value} {o : Obj} (hown : wr.ownsRow B e size v n xs) (hbel : Below B w wr) (hB : B ≤ wr.heap.size) (hg : (wr.alloc o).grownBy w1 v.ownBlock) : Below B w w1 :=
  (hbel.alloc hB o).grown hg (by simp; omega) (fun k hk => (hown.lt k hk).1)

/-- What the append's law leaves, in the words of numbers. -/
theorem own_snoc {B : Nat} {w : World} {v : Value} {e : Nat} {k : IntKind} {xs ys : List Int} (h : w.ownsRow B e 1 v (xs.length + ys.length) (xs.map (Value.int k) ++ ys.map (Value.int k))) : w.ownsRow B e 1 v (xs ++ ys).length ((xs ++ ys).map (Value.int k)) := by
  rw [List.length_append, List.map_append]; exact h

end Go.Proofs.Ytffnadnndmmliaa

namespace Go.Proofs.Ytffnadnndmmliaa
open Go.RowKit

theorem infoIntS : (Try.prog.info? 3).map (fun i => (i.zero, i.size, i.bytes)) = some (some (.int .i64 0), 1, 8) := by kernel_rfl
/-- A row of integers of the call's own: its cells. -/
theorem own_ints {w : World} {base k : Nat} {v : Value} {xs : List Int} (h : w.ownsRow base 3 1 v k (xs.map (Value.int .i64))) (hk : 0 < k) :
    ∃ g cap, v = .slice (some ⟨g, 0, none⟩) k cap ∧ base ≤ g ∧ g < w.heap.size ∧ ∀ j, j < k → w.cell? ⟨g, j, none⟩ = some (.int .i64 (xs.getD j 0)) := by
  have hl : xs.length = k := by have := h.1; simpa using this
  have h' := h
  rcases h.2 with ⟨_, h0⟩ | ⟨g, cap, cur, rfl, hg, hb, _⟩
  · omega
  · refine ⟨g, cap, rfl, hg, (Array.getElem?_eq_some_iff.1 hb).1, fun j hj => ?_⟩
    rw [h'.cellAt j (by omega), List.getElem?_map, List.getElem?_eq_getElem (by omega), List.getD_eq_getElem?_getD, List.getElem?_eq_getElem (by omega)]; rfl
theorem own_base {w : World} {base base' e size n : Nat} {v : Value} {xs : List Value} (h : w.ownsRow base e size v n xs) (hb : base' ≤ base) : w.ownsRow base' e size v n xs := by
  refine ⟨h.1, ?_⟩
  rcases h.2 with h0 | ⟨g, cap, cur, e, hg, rest⟩
  · exact .inl h0
  · exact .inr ⟨g, cap, cur, e, Nat.le_trans hb hg, rest⟩
theorem own_next {B e size n : Nat} {w w' : World} {v : Value} {xs : List Value} (h : w.ownsRow B e size v n xs) (hb : Below w.heap.size w w') : w'.ownsRow B e size v n xs := by
  refine ⟨h.1, ?_⟩
  rcases h.2 with h0 | ⟨g, cap, cur, e, hg, hh, rest⟩
  · exact .inl h0
  · exact .inr ⟨g, cap, cur, e, hg, (hb.block g (Array.getElem?_eq_some_iff.1 hh).1).trans hh, rest⟩
/-- Behind an append onto a row from B + 1 on: what lies up to B is as it was. -/
theorem app_step {w w1 w2 : World} {B e size n : Nat} {v u : Value} {xs : List Value} {o : Obj} (hown : w1.ownsRow (B + 1) e size v n xs) (hB : Below B w w1) (hA : w1.cell? ⟨B, 0, none⟩ = some u) (hs : B < w1.heap.size) (hg : (w1.alloc o).grownBy w2 v.ownBlock) :
    Below B w w2 ∧ w2.cell? ⟨B, 0, none⟩ = some u ∧ B < w2.heap.size := by
  have h1 : Below (B + 1) w1 w2 := below_app hown (Below.refl _ _) hs hg
  exact ⟨hB.trans (h1.mono (by omega)), (h1.cell (p := ⟨B, 0, none⟩) (show B < B + 1 by omega)).trans hA, Nat.lt_of_lt_of_le hs h1.size⟩
/-- A node that was boxed, behind a call. -/
theorem box_after {wr w1 : World} {k n a b : Int} (hb : Below (wr.alloc (.cells #[.int .i64 k, .int .i64 n, .int .i64 a, .int .i64 b] 45)).heap.size (wr.alloc (.cells #[.int .i64 k, .int .i64 n, .int .i64 a, .int .i64 b] 45)) w1) :
    w1.cell? ⟨wr.heap.size, 0, none⟩ = some (.int .i64 k) ∧ w1.cell? ⟨wr.heap.size, 1, none⟩ = some (.int .i64 n) ∧ w1.cell? ⟨wr.heap.size, 2, none⟩ = some (.int .i64 a) ∧ w1.cell? ⟨wr.heap.size, 3, none⟩ = some (.int .i64 b) ∧ Below wr.heap.size wr w1 ∧ wr.heap.size < w1.heap.size := by
  have hn := heap_alloc_new wr (.cells #[.int .i64 k, .int .i64 n, .int .i64 a, .int .i64 b] 45)
  have hs := hb.size
  simp at hs
  exact ⟨(hb.cell (p := ⟨wr.heap.size, 0, none⟩) (by simp)).trans ((cell_of_row _ wr.heap.size 0 _ _ _ hn).trans rfl), (hb.cell (p := ⟨wr.heap.size, 1, none⟩) (by simp)).trans ((cell_of_row _ wr.heap.size 1 _ _ _ hn).trans rfl), (hb.cell (p := ⟨wr.heap.size, 2, none⟩) (by simp)).trans ((cell_of_row _ wr.heap.size 2 _ _ _ hn).trans rfl), (hb.cell (p := ⟨wr.heap.size, 3, none⟩) (by simp)).trans ((cell_of_row _ wr.heap.size 3 _ _ _ hn).trans rfl), ((Below.refl _ _).alloc (Nat.le_refl _) _).trans (hb.mono (by simp)), by omega⟩
end Go.Proofs.Ytffnadnndmmliaa

namespace Go.Proofs.Ytffnadnndmmliaa
open Go.RowKit
theorem Try.info5 : (Try.prog.info? 5).map (fun i => (i.zero, i.size, i.bytes)) = some (some (.int .u8 0), 1, 1) := by kernel_rfl

set_option maxHeartbeats 400000 in
set_option maxRecDepth 20000 in
theorem l01Var_any (n : Nat) (w : World) (hn : n ≤ 9223372036854775807) :
    Calls Try.prog 160 #[.int .i64 n] w fun e w' => e = .returned (.string (strOfNums (vb n))) ∧ Below w.heap.size w w' := by
  obtain ⟨i0, hi, hz0, hz1, hz2⟩ := info_parts Try.info5
  have hlen := vb_len10 n hn
  go_enter Try.func160, Try.ntmps160
  go_wp2
  go_loopw [0, 3] (fun i v wr => ∃ (m : Nat) (xs : List Int), i = .int .i64 m ∧ m ≤ n ∧ xs ++ vb m = vb n ∧ wr.ownsRow w.heap.size 5 1 v xs.length (xs.map (Value.int .u8)) ∧ Below w.heap.size w wr)
    (fun i _ _ => (intOf i).toNat)
  case atStart => exact ⟨n, [], rfl, Nat.le_refl _, rfl, World.ownsRow_made _ _ _ (Nat.le_refl _) (by decide) rfl, (Below.refl _ _).alloc (Nat.le_refl _) _⟩
  case round =>
    obtain ⟨m, xs, rfl, hm, hxs, hown, hbel⟩ := hrel
    have hxl : xs.length + (vb m).length ≤ 10 := by rw [← hxs] at hlen; simpa using hlen
    have HX : Hid (xs ++ vb m = vb n) := hxs
    clear hxs
    by_cases hgt : 127 < m
    · go_wp2_with (at_builtin; refine wpList_append_own _ rfl _ _ 35 rfl w.heap.size 5 i0 (.int .u8 0) 1 1 Try.underlying35 hi hz0 hz1 hz2 rfl (by decide) _ _ _ rfl (hown.alloc _) ⟨wr.heap.size, 0, none⟩ 1 1 [.int .u8 ((m : Int) % 128 + 128)] rfl rfl ?c1 ?c2 ?c3 ?c4 ?c5 ?_)
      case c1 => exact cell_one_new _ _ _
      case c2 => intro u hu; simp at hu; subst hu; rfl
      case c3 => unfold maxLen; omega
      case c4 => omega
      case c5 => have := hbel.size; simp; omega
      · intro v' w1 hown' hgrow _
        have hB := below_app hown hbel hbel.size hgrow
        have ho := own_snoc (ys := [(m : Int) % 128 + 128]) hown'
        have hx : Hid ((xs ++ [(m : Int) % 128 + 128]) ++ vb (m / 128) = vb n) := by rw [List.append_assoc, List.singleton_append, ← vb_big hgt]; exact HX.out
        clear hown' hgrow hown hbel HX
        go_wp2
        go_roundw
        case rel => exact ⟨m / 128, _, by go_num, by omega, hx.out, ho, hB⟩
        case measure => simp [intOf]; omega
    · have hv := vb_small (show m ≤ 127 by omega)
      rw [hv] at hxl
      have hx : Hid (xs ++ [(m : Int)] = vb n) := by rw [← hv]; exact HX.out
      clear HX hv
      go_wp2_with (at_builtin; refine wpList_append_own _ rfl _ _ 35 rfl w.heap.size 5 i0 (.int .u8 0) 1 1 Try.underlying35 hi hz0 hz1 hz2 rfl (by decide) _ _ _ rfl (hown.alloc _) ⟨wr.heap.size, 0, none⟩ 1 1 [.int .u8 (m : Int)] rfl rfl ?d1 ?d2 ?d3 ?d4 ?d5 ?_)
      case d1 => exact cell_one_new _ _ _
      case d2 => intro u hu; simp at hu; subst hu; rfl
      case d3 => unfold maxLen; simp at hxl; omega
      case d4 => simp at hxl; omega
      case d5 => have := hbel.size; simp; omega
      · intro v' w1 hown' hgrow _
        have hB := below_app hown hbel hbel.size hgrow
        have ho := own_snoc (ys := [(m : Int)]) hown'
        have hc := conv_own w1 35 9 5 Try.underlying35 Try.underlying5 Try.underlying9 (P := Try.prog) ho
        clear hown' hgrow hown hbel ho
        go_wp2
        go_ret
        exact ⟨by rw [hx.out]; rfl, hB⟩

/-- A refused number. -/
theorem implVar_no (n : Int) (w : World) (h : n < 0 ∨ 1000000000 < n) :
    Calls Try.prog 183 #[.int .i64 n] w fun e w' => e = .returned (.tuple #[.string ByteArray.empty, .bool false]) ∧ Below w.heap.size w w' := by
  rcases h with h | h
  · go_enter Try.func183, Try.ntmps183
    go_wp2
    go_ret2
    exact ⟨rfl, Below.refl _ _⟩
  · have h' : ¬ n < 0 := by omega
    go_enter Try.func183, Try.ntmps183
    go_wp2
    go_ret2
    exact ⟨rfl, Below.refl _ _⟩

set_option maxHeartbeats 400000 in
set_option maxRecDepth 20000 in
theorem implVar_yes (n : Nat) (w : World) (hn : n ≤ 1000000000) :
    Calls Try.prog 183 #[.int .i64 n] w fun e w' => e = .returned (.tuple #[.string (strOfNums (vb n)), .bool true]) ∧ Below w.heap.size w w' := by
  obtain ⟨i0, hi, hz0, hz1, hz2⟩ := info_parts Try.info5
  have hlen := vb_len10 n (by omega)
  have h0 : ¬ (n : Int) < 0 := by omega
  have h1 : ¬ (1000000000 : Int) < (n : Int) := by omega
  go_enter Try.func183, Try.ntmps183
  go_wp2
  clear h0 h1
  go_loopw [0, 4] (fun i v wr => ∃ (m : Nat) (xs : List Int), i = .int .i64 m ∧ m ≤ n ∧ xs ++ vb m = vb n ∧ wr.ownsRow w.heap.size 5 1 v xs.length (xs.map (Value.int .u8)) ∧ Below w.heap.size w wr)
    (fun i _ _ => (intOf i).toNat)
  case atStart => exact ⟨n, [], rfl, Nat.le_refl _, rfl, World.ownsRow_nil _ _ _ _, (Below.refl _ _)⟩
  case round =>
    obtain ⟨m, xs, rfl, hm, hxs, hown, hbel⟩ := hrel
    have hxl : xs.length + (vb m).length ≤ 10 := by rw [← hxs] at hlen; simpa using hlen
    have HX : Hid (xs ++ vb m = vb n) := hxs
    clear hxs
    by_cases hgt : 127 < m
    · go_wp2_with (at_builtin; refine wpList_append_own _ rfl _ _ 35 rfl w.heap.size 5 i0 (.int .u8 0) 1 1 Try.underlying35 hi hz0 hz1 hz2 rfl (by decide) _ _ _ rfl (hown.alloc _) ⟨wr.heap.size, 0, none⟩ 1 1 [.int .u8 ((m : Int) % 128 + 128)] rfl rfl ?c1 ?c2 ?c3 ?c4 ?c5 ?_)
      case c1 => exact cell_one_new _ _ _
      case c2 => intro u hu; simp at hu; subst hu; rfl
      case c3 => unfold maxLen; omega
      case c4 => omega
      case c5 => have := hbel.size; simp; omega
      · intro v' w1 hown' hgrow _
        have hB := below_app hown hbel hbel.size hgrow
        have ho := own_snoc (ys := [(m : Int) % 128 + 128]) hown'
        have hx : Hid ((xs ++ [(m : Int) % 128 + 128]) ++ vb (m / 128) = vb n) := by rw [List.append_assoc, List.singleton_append, ← vb_big hgt]; exact HX.out
        clear hown' hgrow hown hbel HX
        go_wp2
        go_roundw
        case rel => exact ⟨m / 128, _, by go_num, by omega, hx.out, ho, hB⟩
        case measure => simp [intOf]; omega
    · have hv := vb_small (show m ≤ 127 by omega)
      rw [hv] at hxl
      have hx : Hid (xs ++ [(m : Int)] = vb n) := by rw [← hv]; exact HX.out
      clear HX hv
      go_wp2_with (at_builtin; refine wpList_append_own _ rfl _ _ 35 rfl w.heap.size 5 i0 (.int .u8 0) 1 1 Try.underlying35 hi hz0 hz1 hz2 rfl (by decide) _ _ _ rfl (hown.alloc _) ⟨wr.heap.size, 0, none⟩ 1 1 [.int .u8 (m : Int)] rfl rfl ?d1 ?d2 ?d3 ?d4 ?d5 ?_)
      case d1 => exact cell_one_new _ _ _
      case d2 => intro u hu; simp at hu; subst hu; rfl
      case d3 => unfold maxLen; simp at hxl; omega
      case d4 => simp at hxl; omega
      case d5 => have := hbel.size; simp; omega
      · intro v' w1 hown' hgrow _
        have hB := below_app hown hbel hbel.size hgrow
        have ho := own_snoc (ys := [(m : Int)]) hown'
        have hc := conv_own w1 35 9 5 Try.underlying35 Try.underlying5 Try.underlying9 (P := Try.prog) ho
        clear hown' hgrow hown hbel ho
        go_wp2
        go_ret2
        exact ⟨by rw [hx.out]; rfl, hB⟩

theorem l01In_yes (x lo hi : Int) (w : World) (h0 : lo ≤ x) (h1 : x ≤ hi) :
    Calls Try.prog 99 #[.int .i64 x, .int .i64 lo, .int .i64 hi] w fun e w' => e = .returned (.bool true) ∧ w = w' := by
  go_enter Try.func99, Try.ntmps99
  go_wp2
  go_ret
  exact ⟨rfl, rfl⟩
theorem l01In_no (x lo hi : Int) (w : World) (h : x < lo ∨ hi < x) :
    Calls Try.prog 99 #[.int .i64 x, .int .i64 lo, .int .i64 hi] w fun e w' => e = .returned (.bool false) ∧ w = w' := by
  by_cases h0 : lo ≤ x
  · have h1 : decide (x ≤ hi) = false := by simp; omega
    go_enter Try.func99, Try.ntmps99
    go_wp2
    go_ret
    exact ⟨rfl, rfl⟩
  · have h1 : decide (lo ≤ x) = false := by simp; omega
    go_enter Try.func99, Try.ntmps99
    go_wp2
    go_ret
    exact ⟨rfl, rfl⟩

end Go.Proofs.Ytffnadnndmmliaa
