/- XorTexts of both sides: a text whose bytes are exclusive-or those of the two, as long as the shorter one. -/
import Derived.Test.YtkcbolcodgmpaaaRowC
import Derived.Test.YtkcbolcodgmpaaaPlain
import Derived.WalkKit
import Derived.WalkLawsBesides
import Derived.WalkSpells
import Derived.BigRegion
import Derived.Deep.RegionHeld3
import Derived.Deep.DrawnRows
import Derived.Deep.AppendLies
import Derived.Deep.OwnRows
import Derived.OwnWalk
namespace Go.Proofs.Ytkcbolcodgmpaaa
set_option linter.unusedVariables false
open Go.RowKit Go.PlainAid
set_option maxRecDepth 20000
attribute [local go_sem ↓] Go.wp_at_zero Go.wp_at_succ
def xorF (a b : ByteArray) : Nat → Nat := fun i => btN a i ^^^ btN b i
def xorT (a b : ByteArray) : ByteArray := strOfNums (bytesV (min a.size b.size) (xorF a b))
theorem xorF_lt (a b : ByteArray) (i : Nat) : xorF a b i < 256 := Nat.xor_lt_two_pow (n := 8) (btN_lt a i) (btN_lt b i)
theorem xorF_bits (a b : ByteArray) (i : Nat) : bits .xor .u8 (bt a i) (bt b i) = ((xorF a b i : Nat) : Int) := by
  rw [btN_eq, btN_eq]; exact u8_xor_nat _ _ (btN_lt a i) (btN_lt b i)
theorem own_snocB {B : Nat} {w : World} {v : Value} {e k : Nat} {f : Nat → Nat} (h : w.ownsRow B e 1 v (k + 1) ((bytesV k f).map (Value.int .u8) ++ [.int .u8 ((f k : Nat) : Int)])) : w.ownsRow B e 1 v (k + 1) ((bytesV (k + 1) f).map (Value.int .u8)) := by
  rw [bytesV_succ, List.map_append]; exact h
set_option maxHeartbeats 1600000 in
theorem specXor_any (a b : ByteArray) (w : World) (ha : a.size ≤ 1048576) (hb : b.size ≤ 1048576) :
    Calls Try.prog 7 #[.string a, .string b] w fun e w' => e = .returned (.string (xorT a b)) ∧ Below w.heap.size w w' := by
  obtain ⟨i0, hi, hz0, hz1, hz2⟩ := info_parts infoU8
  go_enter Try.func7, Try.ntmps7
  go_wp2
  go_loopw [5, 6] (fun v i wr => ∃ k : Nat, k ≤ a.size ∧ k ≤ b.size ∧ i = .int .i64 k ∧ wr.ownsRow w.heap.size 5 1 v k ((bytesV k (xorF a b)).map (Value.int .u8)) ∧ Below w.heap.size w wr)
    (fun _ i _ => a.size - (intOf i).toNat)
  case atStart => exact ⟨0, Nat.zero_le _, Nat.zero_le _, rfl, World.ownsRow_made _ _ _ (Nat.le_refl _) (by decide) rfl, (Below.refl _ _).alloc (Nat.le_refl _) _⟩
  case round =>
    obtain ⟨k, hka, hkb, rfl, hown, hbel⟩ := hrel
    have hga := get_bt a
    have hgb := get_bt b
    by_cases hlt : k < a.size
    · have hi0 : (0 : Int) ≤ (k : Int) := by omega
      have hi1 : (k : Int) < (a.size : Int) := by omega
      by_cases hlb : k < b.size
      · have hi2 : (k : Int) < (b.size : Int) := by omega
        have hx := xorF_bits a b k
        have hsz := hbel.size
        go_wp2
        go_region_held3 (fun _ => True) (trivial) ((refine step_append_lies _ (by rfl) _ _ _ (by rfl) w.heap.size 5 i0 _ 1 1 Try.underlying34 hi hz0 hz1 hz2 rfl (by omega) _ k _ (by rfl) ((hown.alloc _).drew) ⟨wr.heap.size, 0, none⟩ 1 1 [.int .u8 ((xorF a b k : Nat) : Int)] (by rfl) (by rfl) (World.news_of_block (cs := #[.int .u8 ((xorF a b k : Nat) : Int)]) (t := 5) (fr := (0, 0)) (heap_alloc_new wr _)) (by simp [Value.oneCell']) (by omega) (by unfold maxLen; omega) (by omega) (by simp; omega) (wr.heap.size + 1) (by simp) ?_; intro gg cap w1 hown1 hgrow hat hgl))
        all_goals
          have hB := below_appB hown hbel hsz hgrow
          have ho := own_snocB hown1
          clear hown1 hgrow hat hgl hown hbel hx
          go_wp2
          go_roundw
          case rel => exact ⟨k + 1, by omega, by omega, by go_num, ho, hB⟩
          case measure => simp [intOf]; omega
      · obtain rfl : k = b.size := by omega
        have hm : Hid (min a.size b.size = b.size) := Nat.min_eq_right (by omega)
        have hc := conv_own wr 34 9 5 Try.underlying34 Try.underlying5 Try.underlying9 (P := Try.prog) hown
        go_wp2
        go_ret
        exact ⟨by unfold xorT; rw [hm.out]; rfl, hbel⟩
    · obtain rfl : k = a.size := by omega
      have hm : Hid (min a.size b.size = a.size) := Nat.min_eq_left (by omega)
      have hc := conv_own wr 34 9 5 Try.underlying34 Try.underlying5 Try.underlying9 (P := Try.prog) hown
      go_wp2
      go_ret
      exact ⟨by unfold xorT; rw [hm.out]; rfl, hbel⟩
def xorTo (a b : ByteArray) (k : Nat) : Nat → Nat := fun i => if i < k then xorF a b i else btN a i
theorem xorTo_upd (a b : ByteArray) (k : Nat) : upd (xorTo a b k) k (xorF a b k) = xorTo a b (k + 1) := by
  funext i
  unfold upd xorTo
  by_cases h : i = k
  · subst h; rw [if_pos rfl, if_pos (by omega)]
  · rw [if_neg h]
    by_cases h2 : i < k
    · rw [if_pos h2, if_pos (by omega)]
    · rw [if_neg h2, if_neg (by omega)]
theorem xorTo_at (a b : ByteArray) (k : Nat) : xorTo a b k k = btN a k := if_neg (by omega)
/-- The program's loop, over the first n bytes of a, n the lesser size. -/
theorem cut_btN (a : ByteArray) {n i : Nat} (h : i < n) : btN (a.extract 0 n) i = btN a i := by unfold btN; rw [bt_cut a n i h]
set_option maxHeartbeats 1600000 in
theorem implXor_le (a b : ByteArray) (w : World) (ha : a.size ≤ 1048576) (hb : b.size ≤ 1048576) (hh : a.size ≤ b.size) :
    Calls Try.prog 18 #[.string a, .string b] w fun e w' => e = .returned (.string (xorT a b)) ∧ Below w.heap.size w w' := by
  obtain ⟨cap, w1, hcv, hR1, hB1, hs1⟩ := bytes_mk a w
  skip
  have HR1 : Hid (RowC w1 w.heap.size .u8 a.size (btN a)) := hR1
  have HB1 : Hid (Below w.heap.size w w1) := hB1
  have HN : Hid (xorT a b = strOfNums (bytesV a.size (xorF a b))) := by show _ = _; unfold xorT; rw [show min a.size b.size = a.size by omega]
  clear hR1 hB1 hs1
  go_enter Try.func18, Try.ntmps18
  go_wp2
  go_loopw [17] (fun i wr => ∃ k : Nat, k ≤ a.size ∧ i = .int .i64 (k : Int) ∧ Below w.heap.size w wr ∧ RowC wr w.heap.size .u8 a.size (xorTo a b k))
    (fun i _ => a.size - (intOf i).toNat)
  case atStart => exact ⟨0, Nat.zero_le _, rfl, HB1.out, HR1.out.ext (fun i _ => by unfold xorTo; rw [if_neg (by omega)])⟩
  case round =>
    obtain ⟨k, hk, rfl, hB, hR⟩ := hrel
    have hga := get_bt b
    by_cases hkn : k < a.size
    · have hi0 : (0 : Int) ≤ (k : Int) := by omega
      have hi1 : (k : Int) < ((a.size : Nat) : Int) := by omega
      have hi2 : (k : Int) < ((b.size : Nat) : Int) := by omega
      have c1 := hR.c k hkn
      rw [xorTo_at, ← btN_eq] at c1
      have z1 := hR.z k hkn
      have hx := xorF_bits a b k
      have HR : Hid (RowC wr w.heap.size .u8 a.size (xorTo a b k)) := hR
      have HB : Hid (Below w.heap.size w wr) := hB
      clear hR hB hcv
      go_wp2
      go_region
      all_goals
        go_wp2
        go_roundw
        case rel => exact ⟨k + 1, by omega, by go_num, (HB.out.setCell (Nat.le_refl _) _).drew, by rw [← xorTo_upd]; exact (HR.out.set hkn _).drew⟩
        case measure => simp [intOf]; omega
    · obtain rfl : k = a.size := by omega
      have hcv2 := hR.conv (c := cap)
      clear hcv
      go_wp2
      go_ret
      exact ⟨by rw [HN.out, bytesV_ext (g := xorF a b) (fun i hi => by unfold xorTo; rw [if_pos hi])]; rfl, hB⟩
set_option maxHeartbeats 1600000 in
theorem implXor_gt (a b : ByteArray) (w : World) (ha : a.size ≤ 1048576) (hb : b.size ≤ 1048576) (hh : b.size < a.size) :
    Calls Try.prog 18 #[.string a, .string b] w fun e w' => e = .returned (.string (xorT a b)) ∧ Below w.heap.size w w' := by
  obtain ⟨cap, w1, hcv, hR1, hB1, hs1⟩ := bytes_mk (a.extract 0 b.size) w
  rw [cut_size a b.size (by omega)] at hcv hR1
  have HR1 : Hid (RowC w1 w.heap.size .u8 b.size (btN a)) := RowC.ext hR1 (fun i hi => cut_btN a hi)
  have HB1 : Hid (Below w.heap.size w w1) := hB1
  have HN : Hid (xorT a b = strOfNums (bytesV b.size (xorF a b))) := by show _ = _; unfold xorT; rw [show min a.size b.size = b.size by omega]
  clear hR1 hB1 hs1
  go_enter Try.func18, Try.ntmps18
  go_wp2
  go_loopw [17] (fun i wr => ∃ k : Nat, k ≤ b.size ∧ i = .int .i64 (k : Int) ∧ Below w.heap.size w wr ∧ RowC wr w.heap.size .u8 b.size (xorTo a b k))
    (fun i _ => b.size - (intOf i).toNat)
  case atStart => exact ⟨0, Nat.zero_le _, rfl, HB1.out, HR1.out.ext (fun i _ => by unfold xorTo; rw [if_neg (by omega)])⟩
  case round =>
    obtain ⟨k, hk, rfl, hB, hR⟩ := hrel
    have hga := get_bt b
    by_cases hkn : k < b.size
    · have hi0 : (0 : Int) ≤ (k : Int) := by omega
      have hi1 : (k : Int) < ((b.size : Nat) : Int) := by omega
      have hi2 : (k : Int) < ((b.size : Nat) : Int) := by omega
      have c1 := hR.c k hkn
      rw [xorTo_at, ← btN_eq] at c1
      have z1 := hR.z k hkn
      have hx := xorF_bits a b k
      have HR : Hid (RowC wr w.heap.size .u8 b.size (xorTo a b k)) := hR
      have HB : Hid (Below w.heap.size w wr) := hB
      clear hR hB hcv
      go_wp2
      go_region
      all_goals
        go_wp2
        go_roundw
        case rel => exact ⟨k + 1, by omega, by go_num, (HB.out.setCell (Nat.le_refl _) _).drew, by rw [← xorTo_upd]; exact (HR.out.set hkn _).drew⟩
        case measure => simp [intOf]; omega
    · obtain rfl : k = b.size := by omega
      have hcv2 := hR.conv (c := cap)
      clear hcv
      go_wp2
      go_ret
      exact ⟨by rw [HN.out, bytesV_ext (g := xorF a b) (fun i hi => by unfold xorTo; rw [if_pos hi])]; rfl, hB⟩
theorem implXor_any (a b : ByteArray) (w : World) (ha : a.size ≤ 1048576) (hb : b.size ≤ 1048576) :
    Calls Try.prog 18 #[.string a, .string b] w fun e w' => e = .returned (.string (xorT a b)) ∧ Below w.heap.size w w' := by
  by_cases hh : a.size ≤ b.size
  · exact implXor_le a b w ha hb hh
  · exact implXor_gt a b w ha hb (by omega)
end Go.Proofs.Ytkcbolcodgmpaaa
