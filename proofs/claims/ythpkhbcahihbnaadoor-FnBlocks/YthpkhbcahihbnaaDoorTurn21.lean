/- The specification's turned word (chapter 21). -/
import Derived.Test.YthpkhbcahihbnaaDoorSha21
import Derived.Test.YthpkhbcahihbnaaDoorRot32
namespace Go.Proofs.YthpkhbcahihbnaaDoor
open Go.RowKit
set_option maxRecDepth 20000
theorem turn_any (x n : Nat) (w : World) (hx : x < 4294967296) (h0 : 0 < n) (hn : n < 32) :
    Calls Tryd.prog 46 #[.int .u32 (x : Int), .int .u64 (n : Int)] w fun e w' => e = .returned (.int .u32 ((rotr x n : Nat) : Int)) ∧ w = w' := by
  have H1 := shr_run x n hn w
  have H2 := shl_run x (32 - n) (by omega) w
  have H3 := u32or (x / 2 ^ n) (x * 2 ^ (32 - n) % 4294967296) (Nat.lt_of_le_of_lt (Nat.div_le_self _ _) hx) (Nat.mod_lt _ (by omega))
  have H4 : IntKind.u64.wrap (32 - (n : Int)) = ((32 - n : Nat) : Int) := by rw [IntKind.wrap_u64]; omega
  have HE : Hid (((x / 2 ^ n ||| x * 2 ^ (32 - n) % 4294967296 : Nat) : Int) = ((rotr x n : Nat) : Int)) := rfl
  generalize ((32 - n : Nat) : Int) = m at H4 H2
  generalize (n : Int) = N at H1 H4
  generalize x * 2 ^ (32 - n) % 4294967296 = y at H2 H3 HE
  generalize x / 2 ^ n = z at H1 H3 HE
  clear h0 hn hx
  go_enter Tryd.func46, Tryd.ntmps46
  go_wp2
  go_ret
  exact ⟨by rw [← HE.out]; rfl, rfl⟩
end Go.Proofs.YthpkhbcahihbnaaDoor
