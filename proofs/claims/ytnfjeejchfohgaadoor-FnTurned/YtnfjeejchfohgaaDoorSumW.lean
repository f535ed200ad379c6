/- The contracts of SumMore and SumOf (chapter 2): both sides make 'sumTo'. -/
import Derived.Test.YtnfjeejchfohgaaDoorProg
import Derived.Test.YtnfjeejchfohgaaDoorPlainSum
import Derived.WalkKit
import Derived.WalkLawsBesides
import Derived.WalkSpells
import Derived.Deep.RegionHeld3
import Derived.Deep.QuietTactic
import Derived.Lib.LaidTab
namespace Go.Proofs.YtnfjeejchfohgaaDoor
open Go.RowKit Go.PlainAid

/-- The table in memory. -/
def TabHere (w : World) : Prop := ∀ r, r < 16 → w.cell? ⟨0, r, none⟩ = some (.int .u32 ((tab r : Nat) : Int))

theorem u32x (a b : Nat) (ha : a < 4294967296) (hb : b < 4294967296) : bits .xor .u32 (a : Int) (b : Int) = ((a ^^^ b : Nat) : Int) := u32_xor_nat a b ha hb

theorem four_x (x : Nat) (h : x < 4294967296) : bits .xor .u32 ((x : Int) / 16) ((tab (x % 16) : Nat) : Int) = ((four x : Nat) : Int) := by
  rw [four_tab, show ((x : Int) / 16) = ((x / 16 : Nat) : Int) by omega]
  exact u32x _ _ (by omega) (tab_lt (Nat.mod_lt _ (by omega)))

theorem after_any (s : Nat) (b : Nat) (w : World) (hs : s < 4294967296) (hb : b < 256) (ht : TabHere w) :
    Calls Tryd.prog 24 #[.int .u32 (s : Int), .int .u8 (b : Int)] w fun e w' => e = .returned (.int .u32 ((eight (s ^^^ b) : Nat) : Int)) ∧ w = w' := by
  have hx := u32x s b hs (by omega)
  have hl := xor_lt32 hs (show b < 4294967296 by omega)
  unfold eight
  generalize s ^^^ b = x at hx hl ⊢
  have hl2 := four_lt hl
  have h1 := four_x x hl
  have h2 := four_x (four x) hl2
  generalize four x = y at h1 h2 hl2 ⊢
  generalize four y = z at h2 ⊢
  have c1 := ht (x % 16) (Nat.mod_lt _ (by omega))
  have c2 := ht (y % 16) (Nat.mod_lt _ (by omega))
  clear ht
  go_enter Tryd.func24, Tryd.ntmps24
  go_wp2
  go_ret
  exact ⟨rfl, rfl⟩

theorem bt_nat (t : ByteArray) (k : Nat) : bt t k = (((bt t k).toNat : Nat) : Int) := by have := bt_nonneg t k; omega

theorem implMore_any (s0 : Nat) (t : ByteArray) (w : World) (hs : s0 < 4294967296) (hm : t.size ≤ 1048576) (ht : TabHere w) :
    Calls Tryd.prog 13 #[.int .u32 (s0 : Int), .string t] w fun e w' => e = .returned (.int .u32 ((sumTo s0 t t.size : Nat) : Int)) ∧ w = w' := by
  have HT : Hid (TabHere w) := ht
  clear ht
  go_enter Tryd.func13, Tryd.ntmps13
  go_wp2
  go_loop [5, 6] (fun s i => ∃ k : Nat, k ≤ t.size ∧ i = .int .i64 (k : Int) ∧ s = .int .u32 ((sumTo s0 t k : Nat) : Int))
    (fun _ i => t.size - (intOf i).toNat)
  case atStart => exact ⟨0, Nat.zero_le _, rfl, rfl⟩
  case round =>
    obtain ⟨k, hk, rfl, rfl⟩ := hrel
    have hg := get_bt t
    by_cases hlt : k < t.size
    · have hi0 : (0 : Int) ≤ (k : Int) := by omega
      have hi1 : (k : Int) < (t.size : Int) := by omega
      have hsl := sumTo_lt hs t k
      have hA : Hid _ := after_any (sumTo s0 t k) (bt t k).toNat w hsl (bt_lt t k) HT.out
      go_wp2_with fail
      refine Calls.mono (by have h := hA.out; rw [← bt_nat t k] at h; exact h) ?_
      rintro e w1 ⟨rfl, rfl⟩
      go_wp2
      go_round
      case rel => exact ⟨k + 1, by omega, by go_num, rfl⟩
      case measure => simp [intOf]; omega
    · obtain rfl : k = t.size := by omega
      go_wp2
      go_ret
      exact ⟨rfl, rfl⟩

theorem half_x (x : Nat) (h : x < 4294967296) (ho : x % 2 = 1) : bits .xor .u32 ((x : Int) / 2) 3558460437 = ((half x : Nat) : Int) := by
  rw [half_odd ho, show ((x : Int) / 2) = ((x / 2 : Nat) : Int) by omega]
  exact u32x _ _ (by omega) (by decide)
def halves (x : Nat) : Nat → Nat
  | 0 => x
  | k + 1 => half (halves x k)
theorem halves_lt {x : Nat} (h : x < 4294967296) : ∀ k, halves x k < 4294967296
  | 0 => h
  | k + 1 => half_lt (halves_lt h k)

set_option maxHeartbeats 800000 in
theorem specMore_any (s0 : Nat) (t : ByteArray) (w : World) (hs : s0 < 4294967296) (hm : t.size ≤ 1048576) :
    Calls Tryd.prog 15 #[.int .u32 (s0 : Int), .string t] w fun e w' => e = .returned (.int .u32 ((sumTo s0 t t.size : Nat) : Int)) ∧ w = w' := by
  go_enter Tryd.func15, Tryd.ntmps15
  go_wp2
  go_loop [0, 5] (fun s i => ∃ k : Nat, k ≤ t.size ∧ i = .int .i64 (k : Int) ∧ s = .int .u32 ((sumTo s0 t k : Nat) : Int))
    (fun _ i => t.size - (intOf i).toNat)
  case atStart => exact ⟨0, Nat.zero_le _, rfl, rfl⟩
  case round =>
    obtain ⟨k, hk, rfl, rfl⟩ := hrel
    have hg := get_bt t
    by_cases hlt : k < t.size
    · have hi0 : (0 : Int) ≤ (k : Int) := by omega
      have hi1 : (k : Int) < (t.size : Int) := by omega
      have hsl := sumTo_lt hs t k
      have hb := bt_lt t k
      have hx := u32x (sumTo s0 t k) (bt t k).toNat hsl (by omega)
      rw [← bt_nat t k] at hx
      have hxl := xor_lt32 hsl (show (bt t k).toNat < 4294967296 by omega)
      have HE : Hid (eight (sumTo s0 t k ^^^ (bt t k).toNat) = sumTo s0 t (k + 1)) := rfl
      generalize sumTo s0 t k ^^^ (bt t k).toNat = x at hx hxl HE
      have hb0 := bt_nonneg t k
      have hb1 := bt_le t k
      go_wp2
      go_loop [0, 6] (fun s i => ∃ j : Nat, j ≤ 8 ∧ i = .int .i64 (j : Int) ∧ s = .int .u32 ((halves x j : Nat) : Int))
        (fun _ i => 8 - (intOf i).toNat)
      case atStart => exact ⟨0, Nat.zero_le _, rfl, rfl⟩
      case round =>
        obtain ⟨j, hj, rfl, rfl⟩ := hrel
        clear hx
        by_cases hj8 : j < 8
        · have hyl := halves_lt hxl j
          have HN : Hid (half (halves x j) = halves x (j + 1)) := rfl
          generalize halves x j = y at hyl HN
          rcases Nat.mod_two_eq_zero_or_one y with ho | ho
          · have hoi : (y : Int) % 2 = 0 := by omega
            have HH : Hid (half y = y / 2) := half_even ho
            go_wp2
            go_round
            case rel => exact ⟨j + 1, by omega, by go_num, by rw [← HN.out, HH.out]; rfl⟩
            case measure => simp [intOf]; omega
          · have hoi : (y : Int) % 2 = 1 := by omega
            have hxx := half_x y hyl ho
            go_wp2
            go_round
            case rel => exact ⟨j + 1, by omega, by go_num, by rw [← HN.out]⟩
            case measure => simp [intOf]; omega
        · obtain rfl : j = 8 := by omega
          go_wp2
          go_round
          case rel => exact ⟨k + 1, by omega, by go_num, by rw [← HE.out]; rfl⟩
          case measure => simp [intOf]; omega
    · obtain rfl : k = t.size := by omega
      go_wp2
      go_ret
      exact ⟨rfl, rfl⟩

theorem implSum_any (t : ByteArray) (w : World) (hm : t.size ≤ 1048576) (ht : TabHere w) :
    Calls Tryd.prog 14 #[.string t] w fun e w' => e = .returned (.int .u32 ((sumOf t : Nat) : Int)) ∧ w = w' := by
  have H : Hid _ := implMore_any 4294967295 t w (by decide) hm ht
  clear ht
  go_enter Tryd.func14, Tryd.ntmps14
  go_wp2_with fail
  refine Calls.mono H.out ?_
  rintro e w1 ⟨rfl, rfl⟩
  go_wp2
  go_ret
  exact ⟨rfl, rfl⟩
theorem specSum_any (t : ByteArray) (w : World) (hm : t.size ≤ 1048576) :
    Calls Tryd.prog 16 #[.string t] w fun e w' => e = .returned (.int .u32 ((sumOf t : Nat) : Int)) ∧ w = w' := by
  have H : Hid _ := specMore_any 4294967295 t w (by decide) hm
  go_enter Tryd.func16, Tryd.ntmps16
  go_wp2_with fail
  refine Calls.mono H.out ?_
  rintro e w1 ⟨rfl, rfl⟩
  go_wp2
  go_ret
  exact ⟨rfl, rfl⟩
end Go.Proofs.YtnfjeejchfohgaaDoor
