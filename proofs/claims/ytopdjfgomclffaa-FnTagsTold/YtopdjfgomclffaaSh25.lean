/- Shifts by as many bits as a number tells; bits joined. -/
import Derived.Test.YtopdjfgomclffaaProg
import Derived.WalkKit
import Derived.WalkSmall
import Derived.Laws.ShiftsVar
namespace Go.Proofs.Ytopdjfgomclffaa
open Go.RowKit
set_option linter.unusedVariables false
theorem shrU_run (y : Int) (n : Nat) (hn : n < 64) (w : World) : (Op.shift .shr .u64 y .i64 (n : Int)).run Try.prog w = .ok (.int .u64 (y / 2 ^ n)) w := by
  have h1 : ¬ ((n : Int) < 0) := by omega
  have h2 : min (n : Int).toNat IntKind.u64.bits = n := by show min (n : Int).toNat 64 = n; omega
  simp only [Op.shift, h1, if_false, h2, Sem.run_pure]
  congr 2
  rw [Int.fdiv_eq_ediv_of_nonneg _ (by exact Int.le_of_lt (Int.pow_pos (by decide)))]
theorem shlU_run (y : Int) (n : Nat) (hn : n < 64) (w : World) : (Op.shift .shl .u64 y .i64 (n : Int)).run Try.prog w = .ok (.int .u64 (IntKind.u64.wrap (y * 2 ^ n))) w := by
  have h1 : ¬ ((n : Int) < 0) := by omega
  have h2 : min (n : Int).toNat IntKind.u64.bits = n := by show min (n : Int).toNat 64 = n; omega
  simp only [Op.shift, h1, if_false, h2, Sem.run_pure]
theorem shlS_run (y : Int) (n : Nat) (hn : n < 64) (w : World) : (Op.shift .shl .i64 y .u64 (n : Int)).run Try.prog w = .ok (.int .i64 (IntKind.i64.wrap (y * 2 ^ n))) w := by
  have h1 : ¬ ((n : Int) < 0) := by omega
  have h2 : min (n : Int).toNat IntKind.i64.bits = n := by show min (n : Int).toNat 64 = n; omega
  simp only [Op.shift, h1, if_false, h2, Sem.run_pure]
theorem shrS_run (y : Int) (n : Nat) (hn : n < 64) (w : World) : (Op.shift .shr .i64 y .u64 (n : Int)).run Try.prog w = .ok (.int .i64 (y / 2 ^ n)) w := by
  have h1 : ¬ ((n : Int) < 0) := by omega
  have h2 : min (n : Int).toNat IntKind.i64.bits = n := by show min (n : Int).toNat 64 = n; omega
  simp only [Op.shift, h1, if_false, h2, Sem.run_pure]
  congr 2
  rw [Int.fdiv_eq_ediv_of_nonneg _ (by exact Int.le_of_lt (Int.pow_pos (by decide)))]
theorem orU {a b : Nat} (ha : a < 4294967296) (hb : b < 4294967296) : bits .or .u64 (a : Int) (b : Int) = ((a ||| b : Nat) : Int) := by
  have h1 : (BitVec.ofInt 64 (a : Int)).toNat = a := by rw [BitVec.toNat_ofInt]; omega
  have h2 : (BitVec.ofInt 64 (b : Int)).toNat = b := by rw [BitVec.toNat_ofInt]; omega
  show IntKind.u64.wrap ((BitVec.ofInt 64 (a : Int) ||| BitVec.ofInt 64 (b : Int)).toNat : Nat) = _
  have hlt : a ||| b < 2 ^ 32 := Nat.or_lt_two_pow (by omega) (by omega)
  rw [BitVec.toNat_or, h1, h2, IntKind.wrap_u64]
  omega
end Go.Proofs.Ytopdjfgomclffaa
