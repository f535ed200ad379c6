/- Plain mathematics and small lemmas on worlds, over no dump: the bytes of a number (chapter 1), a row of bytes of the call's own as a string. -/
import Derived.WalkKit
import Derived.WalkLawsBesides
import Derived.Laws.BytesArg
namespace Go.Proofs.Ytopdjfgomclffaa
open Go.RowKit

/-- The bytes of a number: seven bits a byte, the lowest first, 128 on all but the last; at most f and one of them. -/
def vbF : Nat → Nat → List Int
  | 0, n => [(n : Int)]
  | f + 1, n => if n ≤ 127 then [(n : Int)] else (((n % 128 + 128 : Nat) : Int)) :: vbF f (n / 128)
theorem vbF_more : ∀ (f g n : Nat), n ≤ f → n ≤ g → vbF f n = vbF g n
  | 0, 0, n, _, _ => rfl
  | 0, g + 1, n, h, _ => by rw [vbF, vbF, if_pos (by omega)]
  | f + 1, 0, n, _, h => by rw [vbF, vbF, if_pos (by omega)]
  | f + 1, g + 1, n, hf, hg => by
    rw [vbF, vbF]
    split
    · rfl
    · rw [vbF_more f g (n / 128) (by omega) (by omega)]
/-- The bytes of a number. -/
def vb (n : Nat) : List Int := vbF n n
theorem vb_small {n : Nat} (h : n ≤ 127) : vb n = [(n : Int)] := by
  unfold vb
  cases n with
  | zero => rfl
  | succ m => rw [vbF, if_pos h]
theorem vb_big {n : Nat} (h : 127 < n) : vb n = ((n : Int) % 128 + 128) :: vb (n / 128) := by
  unfold vb
  cases n with
  | zero => omega
  | succ m => rw [vbF, if_neg (by omega), vbF_more m ((m + 1) / 128) ((m + 1) / 128) (by omega) (Nat.le_refl _)]; simp

theorem vb_len : ∀ (k n : Nat), n < 128 ^ (k + 1) → (vb n).length ≤ k + 1
  | 0, n, h => by rw [vb_small (by omega)]; simp
  | k + 1, n, h => by
    by_cases hn : n ≤ 127
    · rw [vb_small hn]; simp
    · rw [vb_big (by omega)]
      have := vb_len k (n / 128) (by rw [Nat.pow_succ] at h; omega)
      simp; omega

theorem vb_len10 (n : Nat) (h : n ≤ 9223372036854775807) : (vb n).length ≤ 10 := vb_len 9 n (by simp; omega)

/-- A row of bytes that the call owns, as a string. -/
theorem conv_own {P : Program} (w : World) (src dst e : TypeId) (hs : P.underlying src = some (.slice e)) (he : P.underlying e = some (.int .u8)) (hd : P.underlying dst = some .string)
    {base n : Nat} {v : Value} {xs : List Int} (hown : w.ownsRow base e 1 v n (xs.map (Value.int .u8))) :
    (convert src dst v).run P w = .ok (.string (strOfNums xs)) w := by
  have hn : n = xs.length := by have := hown.1; simpa using this.symm
  rcases hown.2 with ⟨rfl, h0⟩ | ⟨g, cap, cur, rfl, hg, hb, hc, hm, hsz, htake⟩
  · have : xs = [] := List.length_eq_zero_iff.mp (by omega)
    subst this
    exact run_convert_bytes_nil w src e hs he 0 0 dst hd
  · refine run_convert_bytes_arg w src e hs he g 0 n cap xs hn.symm ?_ dst hd
    intro i hi
    have := hown.cells (g := g) rfl i (.int .u8 (xs.getD i 0)) (by
      rw [List.getElem?_map, List.getElem?_eq_getElem (by omega)]; simp [List.getD, List.getElem?_eq_getElem (show i < xs.length by omega)])
    have e : (⟨g, 0, none⟩ : Addr).add i = ⟨g, 0 + i, none⟩ := by unfold Addr.add; split <;> simp_all
    rw [e] at this; exact this

/-- Behind an append onto an owned row (the new elements laid in a block of their own first): below B nothing has turned. -/
theorem below_app {B : Nat} {w wr w1 : World} {v : Value} {e size n : Nat} {xs : List Value} {o : Obj} (hown : wr.ownsRow B e size v n xs) (hbel : Below B w wr) (hB : B ≤ wr.heap.size) (hg : (wr.alloc o).grownBy w1 v.ownBlock) : Below B w w1 :=
  (hbel.alloc hB o).grown hg (by simp; omega) (fun k hk => (hown.lt k hk).1)

/-- What the append's law leaves, in the words of numbers. -/
theorem own_snoc {B : Nat} {w : World} {v : Value} {e : Nat} {k : IntKind} {xs ys : List Int} (h : w.ownsRow B e 1 v (xs.length + ys.length) (xs.map (Value.int k) ++ ys.map (Value.int k))) : w.ownsRow B e 1 v (xs ++ ys).length ((xs ++ ys).map (Value.int k)) := by
  rw [List.length_append, List.map_append]; exact h

end Go.Proofs.Ytopdjfgomclffaa
