/- The contract of the specification's Decimal (chapter 1). -/
import Derived.Test.YtbnpllcmjkapmakDoorProg
import Derived.Test.YtbnpllcmjkapmakDoorPlainDec
import Derived.WalkKit
import Derived.WalkLawsBesides
import Derived.WalkSpells
import Derived.Laws.OwnMore
namespace Go.Proofs.YtbnpllcmjkapmakDoor
open Go.RowKit Go.PlainAid

theorem figure10 (x : Int) (w : World) (h0 : 0 ≤ x) (h1 : x < 10) :
    Calls Tryd.prog 12 #[.int .i64 x] w fun e w' => e = .returned (.int .u8 (48 + x)) ∧ w = w' := by
  go_enter Tryd.func12, Tryd.ntmps12
  go_wp2
  go_ret
  exact ⟨rfl, rfl⟩

/-- One byte's text. -/
theorem conv_one (w : World) (x : Int) :
    (convert 31 9 (.slice (some ⟨w.heap.size, 0, none⟩) 1 1)).run Tryd.prog (w.alloc (.cells #[.int .u8 x] 5)) = .ok (.string (strOfNums [x])) (w.alloc (.cells #[.int .u8 x] 5)) :=
  conv_own (base := w.heap.size) (n := 1) (xs := [x]) _ 31 9 5 Tryd.underlying31 Tryd.underlying5 Tryd.underlying9
    (World.ownsRow_lit w #[.int .u8 x] 1 (Nat.le_refl _) (by decide) rfl)

set_option maxHeartbeats 800000 in
theorem specDec_pos (n : Nat) (w : World) (h0 : 0 < n) (hn : n ≤ 9223372036854775807) :
    Calls Tryd.prog 5 #[.int .i64 (n : Int)] w fun e w' => e = .returned (.string (strOfNums (dec n))) ∧ Below w.heap.size w w' := by
  have hlen := dec_len20 n (by omega)
  have hz : ((n : Int) == 0) = false := by simp; omega
  have hneg : ¬ (n : Int) < 0 := by omega
  go_enter Tryd.func5, Tryd.ntmps5
  go_wp2
  clear hz
  go_loopw [0, 4] (fun i v wr => ∃ (m : Nat) (xs : List Int), i = .int .i64 (m : Int) ∧ v = .string (strOfNums xs) ∧ m ≤ n ∧ dz m ++ xs = dec n ∧ Below w.heap.size w wr)
    (fun i _ _ => (intOf i).toNat)
  case atStart => exact ⟨n, [], rfl, rfl, Nat.le_refl _, by rw [dz_pos h0, List.append_nil], Below.refl _ _⟩
  case round =>
    obtain ⟨m, xs, rfl, rfl, hm, hxs, hbel⟩ := hrel
    have hxl : (strOfNums xs).size ≤ 20 := by rw [strOfNums_size]; rw [← hxs] at hlen; simp at hlen; omega
    have HX : Hid (dz m ++ xs = dec n) := hxs
    have hsz := hbel.size
    clear hxs
    by_cases hgt : 0 < m
    · have hne : ((m : Int) != 0) = true := by simp; omega
      have hd0 : ¬ ((m : Int) % 10) < 0 := by omega
      have hc := conv_one wr (48 + (m : Int) % 10)
      have hs1 : (strOfNums [48 + (m : Int) % 10]).size ≤ 1 := by rw [strOfNums_size]; simp
      go_wp2_with (go_at_call 12; refine (figure10 _ _ (by omega) (by omega)).mono ?_; rintro e w' ⟨rfl, rfl⟩)
      have hcc := strOfNums_cons (48 + (m : Int) % 10) xs
      have hx : Hid (dz (m / 10) ++ (48 + (m : Int) % 10) :: xs = dec n) := by
        have := HX.out; rw [dz_step hgt] at this; show _ = _; simpa using this
      clear HX hc
      go_roundw
      case rel => exact ⟨m / 10, _, by go_num, by rw [← hcc], by omega, hx.out, hbel.alloc hsz _⟩
      case measure => simp [intOf]; omega
    · obtain rfl : m = 0 := by omega
      have hx : Hid (xs = dec n) := by have := HX.out; rw [dz_zero] at this; exact this
      clear HX
      go_wp2
      go_ret
      exact ⟨by rw [hx.out]; rfl, hbel⟩
set_option maxHeartbeats 800000 in
theorem specDec_neg (n : Nat) (w : World) (h0 : 0 < n) (hn : n ≤ 9223372036854775808) :
    Calls Tryd.prog 5 #[.int .i64 (-(n : Int))] w fun e w' => e = .returned (.string (strOfNums (45 :: dec n))) ∧ Below w.heap.size w w' := by
  have hlen := dec_len20 n (by omega)
  have hz : ((-(n : Int)) == 0) = false := by simp; omega
  have hneg : -(n : Int) < 0 := by omega
  go_enter Tryd.func5, Tryd.ntmps5
  go_wp2
  clear hz
  go_loopw [0, 4] (fun i v wr => ∃ (m : Nat) (xs : List Int), i = .int .i64 (-(m : Int)) ∧ v = .string (strOfNums xs) ∧ m ≤ n ∧ dz m ++ xs = dec n ∧ Below w.heap.size w wr)
    (fun i _ _ => (-(intOf i)).toNat)
  case atStart => exact ⟨n, [], rfl, rfl, Nat.le_refl _, by rw [dz_pos h0, List.append_nil], Below.refl _ _⟩
  case round =>
    obtain ⟨m, xs, rfl, rfl, hm, hxs, hbel⟩ := hrel
    have hxl : (strOfNums xs).size ≤ 20 := by rw [strOfNums_size]; rw [← hxs] at hlen; simp at hlen; omega
    have HX : Hid (dz m ++ xs = dec n) := hxs
    have hsz := hbel.size
    clear hxs
    by_cases hgt : 0 < m
    · have hne : ((-(m : Int)) != 0) = true := by simp; omega
      have hquo : (-(m : Int)).tdiv 10 = -((m : Int) / 10) := by rw [Int.neg_tdiv, Int.tdiv_eq_ediv_of_nonneg (by omega)]
      have hx : Hid (dz (m / 10) ++ (48 + (m : Int) % 10) :: xs = dec n) := by
        have := HX.out; rw [dz_step hgt] at this; show _ = _; simpa using this
      clear HX
      have hs1 : ∀ y : Int, (strOfNums [y]).size = 1 := fun y => by rw [strOfNums_size]; simp
      by_cases hd0 : 0 < (m : Int) % 10
      · have hrem : (-(m : Int)).tmod 10 = -((m : Int) % 10) := by rw [Int.neg_tmod, Int.tmod_eq_emod_of_nonneg (by omega)]
        have hd1 : -((m : Int) % 10) < 0 := by omega
        have hc := conv_one wr (48 + (m : Int) % 10)
        go_wp2_with (go_at_call 12; refine (figure10 _ _ (by omega) (by omega)).mono ?_; rintro e w' ⟨rfl, rfl⟩)
        have hcc := strOfNums_cons (48 + (m : Int) % 10) xs
        clear hc
        go_roundw
        case rel => exact ⟨m / 10, _, by go_num, by rw [← hcc], by omega, hx.out, hbel.alloc hsz _⟩
        case measure => simp [intOf]; omega
      · have hm0 : (m : Int) % 10 = 0 := by omega
        have hrem : (-(m : Int)).tmod 10 = 0 := by rw [Int.neg_tmod, Int.tmod_eq_emod_of_nonneg (by omega), hm0]; rfl
        have hc := conv_one wr 48
        have hx' : Hid (dz (m / 10) ++ 48 :: xs = dec n) := by have := hx.out; rw [hm0] at this; exact this
        clear hx hm0 hd0
        go_wp2_with (go_at_call 12; refine (figure10 _ _ (by omega) (by omega)).mono ?_; rintro e w' ⟨rfl, rfl⟩)
        have hcc := strOfNums_cons 48 xs
        clear hc
        go_roundw
        case rel => exact ⟨m / 10, _, by go_num, by rw [← hcc], by omega, hx'.out, hbel.alloc hsz _⟩
        case measure => simp [intOf]; omega
    · obtain rfl : m = 0 := by omega
      have hx : Hid (xs = dec n) := by have := HX.out; rw [dz_zero] at this; exact this
      clear HX
      go_wp2
      go_ret
      exact ⟨by rw [hx.out]; rfl, hbel⟩

theorem specDec_zero (w : World) :
    Calls Tryd.prog 5 #[.int .i64 0] w fun e w' => e = .returned (.string (strOfNums (dec 0))) ∧ Below w.heap.size w w' := by
  have e : strOfNums (dec 0) = ⟨#[48]⟩ := by rw [dec_small (by omega)]; rfl
  have E : Hid (strOfNums (dec 0) = ⟨#[48]⟩) := e
  clear e
  go_enter Tryd.func5, Tryd.ntmps5
  go_wp2
  go_ret
  exact ⟨by rw [E.out]; rfl, Below.refl _ _⟩

theorem specDec (n : Int) (w : World) (h0 : -9223372036854775808 ≤ n) (h1 : n ≤ 9223372036854775807) :
    Calls Tryd.prog 5 #[.int .i64 n] w fun e w' => e = .returned (.string (strOfNums (decI n))) ∧ Below w.heap.size w w' := by
  rcases (show n < 0 ∨ n = 0 ∨ 0 < n by omega) with h | rfl | h
  · obtain ⟨m, rfl⟩ : ∃ m : Nat, n = -(m : Int) := ⟨(-n).toNat, by omega⟩
    rw [decI_neg (by omega)]
    exact specDec_neg m w (by omega) (by omega)
  · exact specDec_zero w
  · obtain ⟨m, rfl⟩ : ∃ m : Nat, n = (m : Int) := ⟨n.toNat, by omega⟩
    rw [decI_nat]
    exact specDec_pos m w (by omega) (by omega)
end Go.Proofs.YtbnpllcmjkapmakDoor
