/- Shifts by 26 bits, and what is left of 26 bits. -/
import Derived.Test.YtopdjfgomclffaaProg
import Derived.WalkKit
import Derived.Laws.ShiftsVar
namespace Go.Proofs.Ytopdjfgomclffaa
open Go.RowKit
set_option linter.unusedVariables false
theorem shr26u (y : Int) (w : World) : (Op.shift .shr .u64 y .u64 26).run Try.prog w = .ok (.int .u64 (y / 67108864)) w := by
  have h2 : min (26 : Int).toNat IntKind.u64.bits = 26 := by decide
  have h1 : ¬ ((26 : Int) < 0) := by decide
  simp only [Op.shift, h1, if_false, h2, Sem.run_pure]
  congr 2
  rw [Int.fdiv_eq_ediv_of_nonneg _ (by decide)]; rfl
theorem shr26i (y : Int) (w : World) : (Op.shift .shr .i64 y .u64 26).run Try.prog w = .ok (.int .i64 (y / 67108864)) w := by
  have h2 : min (26 : Int).toNat IntKind.i64.bits = 26 := by decide
  have h1 : ¬ ((26 : Int) < 0) := by decide
  simp only [Op.shift, h1, if_false, h2, Sem.run_pure]
  congr 2
  rw [Int.fdiv_eq_ediv_of_nonneg _ (by decide)]; rfl
theorem and26u {n : Int} (h : 0 ≤ n) : bits .and .u64 n 67108863 = n % 67108864 := by
  have h1 : (BitVec.ofInt 64 67108863).toNat = 2 ^ 26 - 1 := by decide
  have key : (BitVec.ofInt 64 n &&& BitVec.ofInt 64 67108863).toNat = (n % ((2 ^ 64 : Nat) : Int)).toNat % 2 ^ 26 := by
    rw [BitVec.toNat_and, BitVec.toNat_ofInt, h1, Nat.and_two_pow_sub_one_eq_mod]
  show IntKind.u64.wrap ((BitVec.ofInt 64 n &&& BitVec.ofInt 64 67108863).toNat : Nat) = _
  rw [key, IntKind.wrap_u64]
  omega
theorem and26i (n : Int) : bits .and .i64 n 67108863 = n % 67108864 := by
  have h1 : (BitVec.ofInt 64 67108863).toNat = 2 ^ 26 - 1 := by decide
  have key : (BitVec.ofInt 64 n &&& BitVec.ofInt 64 67108863).toNat = (n % ((2 ^ 64 : Nat) : Int)).toNat % 2 ^ 26 := by
    rw [BitVec.toNat_and, BitVec.toNat_ofInt, h1, Nat.and_two_pow_sub_one_eq_mod]
  show IntKind.i64.wrap ((BitVec.ofInt 64 n &&& BitVec.ofInt 64 67108863).toNat : Nat) = _
  rw [key, IntKind.wrap_i64]
  omega
end Go.Proofs.Ytopdjfgomclffaa
