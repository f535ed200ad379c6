/- The contracts of Hex (chapter 1). -/
import Derived.Test.YthpkhbcahihbnaaDoorProg
import Derived.Test.YthpkhbcahihbnaaDoorPlainRead
import Derived.Test.YthpkhbcahihbnaaDoorVarW
import Derived.WalkKit
import Derived.WalkLawsBesides
import Derived.WalkSpells
import Derived.Deep.RegionHeld3
import Derived.Deep.DrawnRows
import Derived.Deep.AppendLies
namespace Go.Proofs.YthpkhbcahihbnaaDoor
open Go.RowKit Go.PlainAid
attribute [local go_sem ↓] Go.wp_at_zero Go.wp_at_succ

/-- One figure. -/
def fig (x : Int) : Int := if x < 10 then 48 + x else 87 + x
def hexN : List Int → List Int
  | [] => []
  | b :: l => fig (b / 16) :: fig (b % 16) :: hexN l
theorem hexN_snoc : ∀ (l : List Int) (b : Int), hexN (l ++ [b]) = hexN l ++ [fig (b / 16), fig (b % 16)]
  | [], b => rfl
  | x :: l, b => by simp [hexN, hexN_snoc l b]
theorem hexN_len : ∀ (l : List Int), (hexN l).length = 2 * l.length
  | [] => rfl
  | x :: l => by simp [hexN, hexN_len l]; omega
theorem hex_next {s : ByteArray} {k : Nat} (h : k < s.size) : hexN (nums (tk s 0 (k + 1))) = hexN (nums (tk s 0 k)) ++ [fig (bt s k / 16), fig (bt s k % 16)] := by
  have hn : nums (tk s 0 (k + 1)) = nums (tk s 0 k) ++ [bt s k] := by
    rw [tk_succ s 0 k (by omega)]; unfold nums; rw [List.map_append, List.map_singleton, get_bt]; simp
  rw [hn, hexN_snoc]
theorem nums_len (s : ByteArray) (k : Nat) (h : k ≤ s.size) : (nums (tk s 0 k)).length = k := by unfold nums; rw [List.length_map, tk_len s 0 k (by omega)]

theorem tdiv16 {x : Int} (h0 : 0 ≤ x) (h1 : x ≤ 255) : IntKind.u8.wrap (x.tdiv 16) = x / 16 := by
  rw [Int.tdiv_eq_ediv_of_nonneg h0]; exact IntWalk.u8_in _ ⟨by omega, by omega⟩
theorem tmod16 {x : Int} (h0 : 0 ≤ x) : x.tmod 16 = x % 16 := Int.tmod_eq_emod_of_nonneg h0

theorem tdiv16i {x : Int} (h0 : 0 ≤ x) (_h1 : x ≤ 255) : IntKind.i64.wrap (x.tdiv 16) = x / 16 := by
  rw [Int.tdiv_eq_ediv_of_nonneg h0]; exact IntWalk.i64_in _ ⟨by omega, by omega⟩

structure InHex (x : Int) : Prop where
  lo : 0 ≤ x
  hi : x < 16
theorem below_app2 {B : Nat} {w wr w1 : World} {v : Value} {e size n : Nat} {xs : List Value} {o : Obj} (hown : wr.ownsRow B e size v n xs) (hbel : Below B w wr) (hB : B ≤ wr.heap.size) (hg : (wr.alloc o).drew.grownBy w1 v.ownBlock) : Below B w w1 :=
  ((hbel.alloc hB o).drew).grown hg (by simp; omega) (fun k hk => (hown.lt k hk).1)
theorem own_hex {B : Nat} {w : World} {v : Value} {e k : Nat} {s : ByteArray} (hk : k < s.size) (h : w.ownsRow B e 1 v (2 * k + 2) ((hexN (nums (tk s 0 k))).map (Value.int .u8) ++ [.int .u8 (fig (bt s k / 16)), .int .u8 (fig (bt s k % 16))])) :
    w.ownsRow B e 1 v (2 * (k + 1)) ((hexN (nums (tk s 0 (k + 1)))).map (Value.int .u8)) := by
  rw [hex_next hk, List.map_append]; exact h

/-- The figures' text, asked at a place. -/
theorem figs_at (x : Int) (h0 : 0 ≤ x) (h1 : x < 16) (w : World) :
    (Instr.index 9 (.string ⟨#[48, 49, 50, 51, 52, 53, 54, 55, 56, 57, 97, 98, 99, 100, 101, 102]⟩) (.int .u8 x)).run Tryd.prog w = .ok (.int .u8 (fig x)) w := by
  obtain ⟨n, rfl⟩ : ∃ n : Nat, x = (n : Int) := ⟨x.toNat, by omega⟩
  have : n < 16 := by omega
  rcases (show n = 0 ∨ n = 1 ∨ n = 2 ∨ n = 3 ∨ n = 4 ∨ n = 5 ∨ n = 6 ∨ n = 7 ∨ n = 8 ∨ n = 9 ∨ n = 10 ∨ n = 11 ∨ n = 12 ∨ n = 13 ∨ n = 14 ∨ n = 15 by omega) with rfl | rfl | rfl | rfl | rfl | rfl | rfl | rfl | rfl | rfl | rfl | rfl | rfl | rfl | rfl | rfl <;> rfl

end Go.Proofs.YthpkhbcahihbnaaDoor
