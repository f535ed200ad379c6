/- math/bits.RotateLeft32 by less than nothing: a word turned right (chapter 21). -/
import Derived.Test.YthpkhbcahihbnaaDoorSha21
import Derived.Test.YthpkhbcahihbnaaDoorRot32
namespace Go.Proofs.YthpkhbcahihbnaaDoor
open Go.RowKit
set_option maxRecDepth 20000
theorem rotl_rotr (x n : Nat) (h : n < 32) : rotl x (32 - n) = rotr x n := by
  unfold rotl rotr
  rw [show 32 - (32 - n) = n by omega, Nat.or_comm]
theorem right_any (x n : Nat) (w : World) (hx : x < 4294967296) (h0 : 0 < n) (hn : n < 32) :
    Calls Tryd.prog 54 #[.int .u32 (x : Int), .int .i64 (-(n : Int))] w fun e w' => e = .returned (.int .u32 ((rotr x n : Nat) : Int)) ∧ w = w' := by
  rw [← rotl_rotr x n hn]
  exact rot_at (-(n : Int)) (18446744073709551616 - (n : Int)) x (32 - n) w hx (by omega) (by omega) (by rw [IntKind.wrap_u64]; omega) (by
    rcases (show n = 1 ∨ n = 2 ∨ n = 3 ∨ n = 4 ∨ n = 5 ∨ n = 6 ∨ n = 7 ∨ n = 8 ∨ n = 9 ∨ n = 10 ∨ n = 11 ∨ n = 12 ∨ n = 13 ∨ n = 14 ∨ n = 15 ∨ n = 16 ∨ n = 17 ∨ n = 18 ∨ n = 19 ∨ n = 20 ∨ n = 21 ∨ n = 22 ∨ n = 23 ∨ n = 24 ∨ n = 25 ∨ n = 26 ∨ n = 27 ∨ n = 28 ∨ n = 29 ∨ n = 30 ∨ n = 31 by omega) with rfl | rfl | rfl | rfl | rfl | rfl | rfl | rfl | rfl | rfl | rfl | rfl | rfl | rfl | rfl | rfl | rfl | rfl | rfl | rfl | rfl | rfl | rfl | rfl | rfl | rfl | rfl | rfl | rfl | rfl | rfl <;> decide)
end Go.Proofs.YthpkhbcahihbnaaDoor
