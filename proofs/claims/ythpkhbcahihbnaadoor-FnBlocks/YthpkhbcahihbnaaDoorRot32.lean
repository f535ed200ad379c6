/- math/bits.RotateLeft32, and the program's steps of chapter 24. -/
import Derived.Test.YthpkhbcahihbnaaDoorProg
import Derived.Test.YthpkhbcahihbnaaDoorCha24
import Derived.WalkKit
import Derived.WalkLawsBesides
import Derived.WalkSpells
import Derived.Laws.ShiftsVar
import Derived.Deep.QuietTactic
import Derived.BigRegion
import Derived.BigQuiet
namespace Go.Proofs.YthpkhbcahihbnaaDoor
open Go.RowKit
set_option maxRecDepth 20000
theorem shl_run (x n : Nat) (hn : n < 32) (w : World) : (Op.shift .shl .u32 (x : Int) .u64 (n : Int)).run Tryd.prog w = .ok (.int .u32 ((x * 2 ^ n % 4294967296 : Nat) : Int)) w := by
  have h1 : ¬ ((n : Int) < 0) := by omega
  have h2 : min (n : Int).toNat IntKind.u32.bits = n := by show min (n : Int).toNat 32 = n; omega
  simp only [Op.shift, h1, if_false, h2, Sem.run_pure, IntKind.wrap_u32']
  congr 2
theorem shr_run (x n : Nat) (hn : n < 32) (w : World) : (Op.shift .shr .u32 (x : Int) .u64 (n : Int)).run Tryd.prog w = .ok (.int .u32 ((x / 2 ^ n : Nat) : Int)) w := by
  have h1 : ¬ ((n : Int) < 0) := by omega
  have h2 : min (n : Int).toNat IntKind.u32.bits = n := by show min (n : Int).toNat 32 = n; omega
  simp only [Op.shift, h1, if_false, h2, Sem.run_pure]
  congr 2
  rw [Int.fdiv_eq_ediv_of_nonneg _ (by exact Int.le_of_lt (Int.pow_pos (by decide)))]
  push_cast
  rfl
theorem rot_at (k K : Int) (x n : Nat) (w : World) (hx : x < 4294967296) (h0 : 0 < n) (hn : n < 32) (hK : IntKind.u64.wrap k = K) (hk : bits .and .u64 K 31 = (n : Int)) :
    Calls Tryd.prog 54 #[.int .u32 (x : Int), .int .i64 k] w fun e w' => e = .returned (.int .u32 ((rotl x n : Nat) : Int)) ∧ w = w' := by
  have H1 := shl_run x n hn w
  have H2 := shr_run x (32 - n) (by omega) w
  have H3 := u32or (x * 2 ^ n % 4294967296) (x / 2 ^ (32 - n)) (Nat.mod_lt _ (by omega)) (Nat.lt_of_le_of_lt (Nat.div_le_self _ _) hx)
  have H4 : IntKind.u64.wrap (32 - (n : Int)) = ((32 - n : Nat) : Int) := by rw [IntKind.wrap_u64]; omega
  have HE : Hid (((x * 2 ^ n % 4294967296 ||| x / 2 ^ (32 - n) : Nat) : Int) = ((rotl x n : Nat) : Int)) := rfl
  generalize ((32 - n : Nat) : Int) = m at H4 H2
  generalize (n : Int) = N at H1 H4 hk
  generalize x * 2 ^ n % 4294967296 = y at H1 H3 HE
  generalize x / 2 ^ (32 - n) = z at H2 H3 HE
  clear h0 hn hx
  go_enter Tryd.func54, Tryd.ntmps54
  go_wp2
  go_ret
  exact ⟨by rw [← HE.out]; rfl, rfl⟩
theorem rot_any (x n : Nat) (w : World) (hx : x < 4294967296) (h0 : 0 < n) (hn : n < 32) :
    Calls Tryd.prog 54 #[.int .u32 (x : Int), .int .i64 (n : Int)] w fun e w' => e = .returned (.int .u32 ((rotl x n : Nat) : Int)) ∧ w = w' :=
  rot_at n n x n w hx h0 hn (by rw [IntKind.wrap_u64]; omega) (by
    rcases (show n = 1 ∨ n = 2 ∨ n = 3 ∨ n = 4 ∨ n = 5 ∨ n = 6 ∨ n = 7 ∨ n = 8 ∨ n = 9 ∨ n = 10 ∨ n = 11 ∨ n = 12 ∨ n = 13 ∨ n = 14 ∨ n = 15 ∨ n = 16 ∨ n = 17 ∨ n = 18 ∨ n = 19 ∨ n = 20 ∨ n = 21 ∨ n = 22 ∨ n = 23 ∨ n = 24 ∨ n = 25 ∨ n = 26 ∨ n = 27 ∨ n = 28 ∨ n = 29 ∨ n = 30 ∨ n = 31 by omega) with rfl | rfl | rfl | rfl | rfl | rfl | rfl | rfl | rfl | rfl | rfl | rfl | rfl | rfl | rfl | rfl | rfl | rfl | rfl | rfl | rfl | rfl | rfl | rfl | rfl | rfl | rfl | rfl | rfl | rfl | rfl <;> decide)
end Go.Proofs.YthpkhbcahihbnaaDoor
