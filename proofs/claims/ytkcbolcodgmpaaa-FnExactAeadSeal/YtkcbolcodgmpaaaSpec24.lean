/- The specification's steps of chapter 24. -/
import Derived.Test.YtkcbolcodgmpaaaRowC
import Derived.Test.YtkcbolcodgmpaaaCha24
import Derived.WalkKit
import Derived.WalkLawsBesides
import Derived.WalkSpells
import Derived.BigRegion
namespace Go.Proofs.Ytkcbolcodgmpaaa
open Go.RowKit Go.PlainAid
set_option maxRecDepth 20000
set_option linter.unusedVariables false
theorem i64_of (n : Nat) (h : n < 9223372036854775808) : (BitVec.ofInt 64 (n : Int)).toNat = n := by
  rw [BitVec.ofInt_natCast, BitVec.toNat_ofNat]; exact Nat.mod_eq_of_lt (by omega)
theorem i64orN (a b : Nat) (ha : a < 4294967296) (hb : b < 4294967296) : bits .or .i64 (a : Int) (b : Int) = ((a ||| b : Nat) : Int) := by
  have hx : a ||| b < 2 ^ 32 := Nat.or_lt_two_pow (by omega) (by omega)
  show IntKind.i64.wrap ((BitVec.ofInt 64 (a : Int) ||| BitVec.ofInt 64 (b : Int)).toNat : Int) = _
  rw [BitVec.toNat_or, i64_of a (by omega), i64_of b (by omega), IntKind.wrap_i64]
  omega
theorem i64xorN (a b : Nat) (ha : a < 4294967296) (hb : b < 4294967296) : bits .xor .i64 (a : Int) (b : Int) = ((a ^^^ b : Nat) : Int) := by
  have hx : a ^^^ b < 2 ^ 32 := Nat.xor_lt_two_pow (by omega) (by omega)
  show IntKind.i64.wrap ((BitVec.ofInt 64 (a : Int) ^^^ BitVec.ofInt 64 (b : Int)).toNat : Int) = _
  rw [BitVec.toNat_xor, i64_of a (by omega), i64_of b (by omega), IntKind.wrap_i64]
  omega
theorem i64cut (x : Int) : bits .and .i64 x 4294967295 = x % 4294967296 := by
  show IntKind.i64.wrap ((BitVec.ofInt 64 x &&& BitVec.ofInt 64 4294967295).toNat : Int) = _
  rw [BitVec.toNat_and, show (BitVec.ofInt 64 4294967295).toNat = 2 ^ 32 - 1 by decide, Nat.and_two_pow_sub_one_eq_mod, BitVec.toNat_ofInt, IntKind.wrap_i64]
  omega
theorem cut_any (x : Int) (w : World) : Calls Try.prog 14 #[.int .i64 x] w fun e w' => e = .returned (.int .i64 (x % 4294967296)) ∧ w = w' := by
  have h := i64cut x
  go_enter Try.func14, Try.ntmps14
  go_wp2
  go_ret
  exact ⟨rfl, rfl⟩
theorem shlI_run (x n : Nat) (hx : x < 4294967296) (hn : n < 31) (w : World) : (Op.shift .shl .i64 (x : Int) .u64 (n : Int)).run Try.prog w = .ok (.int .i64 ((x * 2 ^ n : Nat) : Int)) w := by
  have h1 : ¬ ((n : Int) < 0) := by omega
  have h2 : min (n : Int).toNat IntKind.i64.bits = n := by show min (n : Int).toNat 64 = n; omega
  have h3 : x * 2 ^ n < 4294967296 * 2 ^ 30 := Nat.lt_of_lt_of_le (Nat.mul_lt_mul_of_pos_right hx (Nat.two_pow_pos _)) (Nat.mul_le_mul_left _ (Nat.pow_le_pow_right (by omega) (by omega)))
  have h4 : (x : Int) * 2 ^ n = ((x * 2 ^ n : Nat) : Int) := by push_cast; rfl
  simp only [Op.shift, h1, if_false, h2, Sem.run_pure]
  congr 2
  rw [h4, IntKind.wrap_i64]
  omega
theorem shrI_run (x n : Nat) (hn : n < 64) (w : World) : (Op.shift .shr .i64 (x : Int) .u64 (n : Int)).run Try.prog w = .ok (.int .i64 ((x / 2 ^ n : Nat) : Int)) w := by
  have h1 : ¬ ((n : Int) < 0) := by omega
  have h2 : min (n : Int).toNat IntKind.i64.bits = n := by show min (n : Int).toNat 64 = n; omega
  simp only [Op.shift, h1, if_false, h2, Sem.run_pure]
  congr 2
  rw [Int.fdiv_eq_ediv_of_nonneg _ (by exact Int.le_of_lt (Int.pow_pos (by decide)))]
  push_cast
  rfl
set_option maxHeartbeats 800000 in
theorem turnI_any (x n : Nat) (w : World) (hx : x < 4294967296) (h0 : 0 < n) (hn : n < 31) :
    Calls Try.prog 44 #[.int .i64 (x : Int), .int .u64 (n : Int)] w fun e w' => e = .returned (.int .i64 ((rotl x n : Nat) : Int)) ∧ w = w' := by
  have H1 := shlI_run x n hx hn w
  have H2 := shrI_run x (32 - n) (by omega) w
  have H3 := i64orN (x * 2 ^ n % 4294967296) (x / 2 ^ (32 - n)) (Nat.mod_lt _ (by omega)) (Nat.lt_of_le_of_lt (Nat.div_le_self _ _) hx)
  have H4 : IntKind.u64.wrap (32 - (n : Int)) = ((32 - n : Nat) : Int) := by rw [IntKind.wrap_u64]; omega
  have HE : Hid (((x * 2 ^ n % 4294967296 ||| x / 2 ^ (32 - n) : Nat) : Int) = ((rotl x n : Nat) : Int)) := rfl
  have HC : Hid _ := cut_any ((x * 2 ^ n : Nat) : Int) w
  have e1 : Hid (((x * 2 ^ n : Nat) : Int) % 4294967296 = ((x * 2 ^ n % 4294967296 : Nat) : Int)) := by show _ = _; omega
  generalize ((32 - n : Nat) : Int) = m at H4 H2
  generalize (n : Int) = N at H1 H4
  generalize x * 2 ^ n % 4294967296 = y at H3 HE e1
  generalize x / 2 ^ (32 - n) = z at H2 H3 HE
  generalize ((x * 2 ^ n : Nat) : Int) = u at H1 HC e1
  clear h0 hn hx
  go_enter Try.func44, Try.ntmps44
  go_wp2_with fail
  refine Calls.mono HC.out ?_
  rintro e w1 ⟨rfl, rfl⟩
  rw [e1.out]
  go_wp2
  go_ret
  exact ⟨by rw [← HE.out]; rfl, rfl⟩
/-- One step of a quarter on a row of whole numbers. -/
theorem RowC.grown {w w' : World} {g h n : Nat} {k : IntKind} {f : Nat → Nat} (hr : RowC w g k n f) (hb : w.grownBy w' (some h)) (hne : g ≠ h) : RowC w' g k n f := by
  have hbl := hb.block g hr.lt (by simpa using hne)
  exact ⟨Nat.lt_of_lt_of_le hr.lt hb.size, fun i hi => (World.cell?_of_block (w := w) hbl).trans (hr.c i hi), fun i hi => (World.frozen?_of_block (w := w) hbl).trans (hr.z i hi)⟩
end Go.Proofs.Ytkcbolcodgmpaaa
