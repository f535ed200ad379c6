/- The program's ofHighestFirst (chapter 21): the number of bytes, the highest first. -/
import Derived.Test.YthpkhbcahihbnaaDoorSubT
import Derived.Test.YthpkhbcahihbnaaDoorCha24
import Derived.WalkKit
import Derived.WalkLawsBesides
import Derived.WalkSpells
namespace Go.Proofs.YthpkhbcahihbnaaDoor
open Go.RowKit Go.PlainAid
set_option maxRecDepth 20000
set_option linter.unusedVariables false
/-- The number of n bytes from a place on, the highest first. -/
def hiN (b : Nat → Nat) (p : Nat) : Nat → Nat
  | 0 => 0
  | n + 1 => hiN b p n * 256 + b (p + n)
theorem hiN_lt {b : Nat → Nat} (h : ∀ i, b i < 256) (p : Nat) : ∀ n, hiN b p n < 256 ^ n
  | 0 => by show 0 < 1; omega
  | n + 1 => by
    have := hiN_lt h p n
    have := h (p + n)
    rw [hiN, Nat.pow_succ]; omega
theorem hiN_ext {b b' : Nat → Nat} {p p' : Nat} : ∀ k, (∀ j, j < k → b (p + j) = b' (p' + j)) → hiN b p k = hiN b' p' k
  | 0, _ => rfl
  | k + 1, h => by rw [hiN, hiN, hiN_ext k (fun j hj => h j (by omega)), h k (by omega)]
theorem or_hi (a b : Nat) (h : b < 256) : a * 256 ||| b = a * 256 + b := by
  have := (Nat.two_pow_add_eq_or_of_lt (i := 8) h a).symm
  rw [Nat.mul_comm]; exact this
set_option maxHeartbeats 1000000 in
theorem ofHi_any (t : ByteArray) (w : World) (ht : t.size ≤ 8) :
    Calls Tryd.prog 53 #[.string t] w fun e w' => e = .returned (.int .u64 ((hiN (btN t) 0 t.size : Nat) : Int)) ∧ w = w' := by
  go_enter Tryd.func53, Tryd.ntmps53
  go_wp2
  go_loop [3, 7] (fun n i => ∃ k : Nat, k ≤ t.size ∧ i = .int .i64 (k : Int) ∧ n = .int .u64 ((hiN (btN t) 0 k : Nat) : Int))
    (fun _ i => t.size - (intOf i).toNat)
  case atStart => exact ⟨0, Nat.zero_le _, rfl, rfl⟩
  case round =>
    obtain ⟨k, hk, rfl, rfl⟩ := hrel
    have hg := get_bt t
    by_cases hkc : k < t.size
    · have hi0 : (0 : Int) ≤ (k : Int) := by omega
      have hlt : (k : Int) < (t.size : Int) := by omega
      have hx0 := bt_nonneg t k
      have hx1 := bt_le t k
      have hbn : bt t k = ((btN t k : Nat) : Int) := btN_eq t k
      have hA := hiN_lt (b := btN t) (btN_lt t) 0 k
      have hp : 256 ^ k ≤ 256 ^ 7 := Nat.pow_le_pow_right (by omega) (by omega)
      have HN : Hid (hiN (btN t) 0 (k + 1) = hiN (btN t) 0 k * 256 + btN t k) := by show _ = _; rw [hiN, Nat.zero_add]
      have hb8 := btN_lt t k
      have ho := or_hi (hiN (btN t) 0 k) (btN t k) hb8
      have hw : IntKind.u64.wrap (((hiN (btN t) 0 k : Nat) : Int) * 256) = ((hiN (btN t) 0 k * 256 : Nat) : Int) := by
        rw [IntKind.wrap_u64]; omega
      have hor := u64_or_nat (hiN (btN t) 0 k * 256) (btN t k) (by omega) (by omega)
      rw [ho, ← HN.out, ← hbn] at hor
      rw [← hw] at hor
      have HOR : Hid _ := hor
      generalize hiN (btN t) 0 k = A at HOR
      clear hp hA ho HN hbn hor hw hb8
      go_wp2
      go_round
      case rel => exact ⟨k + 1, by omega, by go_num, by rw [← HOR.out]⟩
      case measure => simp [intOf]; omega
    · obtain rfl : k = t.size := by omega
      go_wp2
      go_ret
      exact ⟨rfl, rfl⟩
end Go.Proofs.YthpkhbcahihbnaaDoor
