/- The nonce of a record (chapter 29): NonceFor of both sides. -/
import Derived.Test.YtkgbblmdkchemaaXor24
import Derived.Test.YtkgbblmdkchemaaHigh21
import Derived.Test.YtkgbblmdkchemaaIn01
import Derived.WalkKit
import Derived.WalkLawsBesides
import Derived.WalkSpells
import Derived.BigRegion
namespace Go.Proofs.Ytkgbblmdkchemaa
open Go.RowKit Go.PlainAid
set_option maxRecDepth 20000
set_option linter.unusedVariables false
/-- A seq as twelve bytes. -/
def seqT (x : Nat) : ByteArray := strOfNums (bytesV 12 (highB x 12))
theorem seqT_size (x : Nat) : (seqT x).size = 12 := strOf_size _ _
theorem seqT_at (x : Nat) {i : Nat} (h : i < 12) : btN (seqT x) i = highB x 12 i := strOf_btN (fun i _ => highB_lt x 12 i) h
def nonOk (iv : ByteArray) (seq : Int) : Bool := decide (iv.size = 12 ∧ 0 ≤ seq ∧ seq ≤ 9999)
def nonT (iv : ByteArray) (seq : Int) : ByteArray := if nonOk iv seq = true then xorT iv (seqT seq.toNat) else ByteArray.empty
theorem non_no {iv : ByteArray} {seq : Int} (h : ¬ (iv.size = 12 ∧ 0 ≤ seq ∧ seq ≤ 9999)) : nonOk iv seq = false ∧ nonT iv seq = ByteArray.empty := by
  have h1 : nonOk iv seq = false := decide_eq_false h
  refine ⟨h1, ?_⟩
  unfold nonT; rw [h1]; rfl
theorem non_yes {iv : ByteArray} {x : Nat} (h1 : iv.size = 12) (h2 : x ≤ 9999) : nonOk iv (x : Int) = true ∧ nonT iv (x : Int) = xorT iv (seqT x) := by
  have h : nonOk iv (x : Int) = true := decide_eq_true ⟨h1, by omega, by omega⟩
  refine ⟨h, ?_⟩
  unfold nonT; rw [h, Int.toNat_natCast]; rfl
theorem isSeq_any (x : Int) (w : World) : Calls Try.prog 13 #[.int .i64 x] w fun e w' => e = .returned (.bool (inN x 0 9999)) ∧ w = w' := by
  unfold inN
  by_cases h1 : 0 ≤ x <;> by_cases h2 : x ≤ 9999
  all_goals
    go_enter Try.func13, Try.ntmps13
    go_wp2
    go_ret
    exact ⟨by simp [h1, h2], rfl⟩
theorem isSeq_yes (x : Int) (w : World) (h : 0 ≤ x ∧ x ≤ 9999) : Calls Try.prog 13 #[.int .i64 x] w fun e w' => e = .returned (.bool true) ∧ w = w' := by
  have := isSeq_any x w
  rw [show inN x 0 9999 = true by unfold inN; rw [decide_eq_true h.1, decide_eq_true h.2]; rfl] at this
  exact this
theorem isSeq_no (x : Int) (w : World) (h : ¬ (0 ≤ x ∧ x ≤ 9999)) : Calls Try.prog 13 #[.int .i64 x] w fun e w' => e = .returned (.bool false) ∧ w = w' := by
  have := isSeq_any x w
  rw [show inN x 0 9999 = false by unfold inN; rw [← Bool.decide_and]; exact decide_eq_false h] at this
  exact this
set_option maxHeartbeats 1000000 in
theorem implNonce_any (iv : ByteArray) (seq : Int) (w : World) (hv : iv.size ≤ 1048576) :
    Calls Try.prog 7 #[.string iv, .int .i64 seq] w fun e w' => e = .returned (.tuple #[.string (nonT iv seq), .bool (nonOk iv seq)]) ∧ Below w.heap.size w w' := by
  by_cases h12 : iv.size = 12
  · have hi : ((iv.size : Nat) : Int) = 12 := by omega
    by_cases hs : 0 ≤ seq ∧ seq ≤ 9999
    · obtain ⟨x, rfl⟩ : ∃ x : Nat, seq = (x : Int) := ⟨seq.toNat, by omega⟩
      have HE : Hid _ := non_yes (iv := iv) (x := x) h12 (by omega)
      have HC : Hid (∀ wz, _) := fun wz => isSeq_yes (x : Int) wz hs
      have HH : Hid (∀ wz, _) := fun wz => highest_any x 12 wz (by omega) (by omega)
      have HX : Hid (∀ wz, _) := fun wz => implXor_any iv (seqT x) wz hv (by rw [seqT_size]; omega)
      have HS : Hid (seqT x = strOfNums (bytesV 12 (highB x 12))) := rfl
      have hw : IntKind.u64.wrap (x : Int) = (x : Int) := by rw [IntKind.wrap_u64]; omega
      rw [← HS.out] at HH
      generalize seqT x = s at HH HX HE
      generalize hz : (x : Int) = xi at HC HH hw HE
      clear hs hz HS
      go_enter Try.func7, Try.ntmps7
      go_wp2_with fail
      refine Calls.mono (HC.out _) ?_
      rintro e w1 ⟨rfl, rfl⟩
      go_wp2_with fail
      refine Calls.mono (HH.out _) ?_
      rintro e w1 ⟨rfl, hb1⟩
      go_wp2_with fail
      refine Calls.mono (HX.out _) ?_
      rintro e w2 ⟨rfl, hb2⟩
      go_wp2
      go_ret2
      exact ⟨by rw [HE.out.1, HE.out.2]; rfl, hb1.trans (hb2.mono hb1.size)⟩
    · have HE : Hid _ := non_no (iv := iv) (seq := seq) (by omega)
      have HC : Hid (∀ wz, _) := fun wz => isSeq_no seq wz hs
      clear hs
      go_enter Try.func7, Try.ntmps7
      go_wp2_with fail
      refine Calls.mono (HC.out _) ?_
      rintro e w1 ⟨rfl, rfl⟩
      go_wp2
      go_ret2
      exact ⟨by rw [HE.out.1, HE.out.2]; rfl, Below.refl _ _⟩
  · have HE : Hid _ := non_no (iv := iv) (seq := seq) (by omega)
    have hi : (((iv.size : Nat) : Int) != 12) = true := by simp; omega
    have hi2 : ¬ ((iv.size : Nat) : Int) = 12 := by omega
    go_enter Try.func7, Try.ntmps7
    go_wp2
    go_ret2
    exact ⟨by rw [HE.out.1, HE.out.2]; rfl, Below.refl _ _⟩
def nonTo (iv : ByteArray) (x k : Nat) : Nat → Nat := fun j => if 12 ≤ j + k then xorF iv (seqT x) j else btN iv j
theorem nonTo_upd (iv : ByteArray) (x k : Nat) (h : k < 12) : ∀ i, i < 12 → upd (nonTo iv x k) (11 - k) (xorF iv (seqT x) (11 - k)) i = nonTo iv x (k + 1) i := by
  intro i hi
  unfold upd nonTo
  by_cases e : i = 11 - k
  · rw [if_pos e, if_pos (by omega), e]
  · rw [if_neg e]
    by_cases h2 : 12 ≤ i + k
    · rw [if_pos h2, if_pos (by omega)]
    · rw [if_neg h2, if_neg (by omega)]
theorem xor_byte (iv : ByteArray) (x k : Nat) (h : k < 12) : bits .xor .u8 (bt iv (11 - k)) ((lowB x k : Nat) : Int) = ((xorF iv (seqT x) (11 - k) : Nat) : Int) := by
  have h1 := xorF_bits iv (seqT x) (11 - k)
  rw [btN_eq (seqT x), seqT_at x (by omega)] at h1
  rw [← h1]
  unfold highB
  rw [show 12 - 1 - (11 - k) = k by omega]
theorem low_zero {x j : Nat} (h : x ≤ 9999) (hj : 2 ≤ j) : lowB x j = 0 := by
  unfold lowB
  rw [Nat.div_eq_of_lt]
  have : 2 ^ 16 ≤ 2 ^ (8 * j) := Nat.pow_le_pow_right (by omega) (by omega)
  omega
theorem nonTo_all (iv : ByteArray) {x : Nat} (h : x ≤ 9999) : ∀ i, i < 12 → nonTo iv x 8 i = xorF iv (seqT x) i := by
  intro i hi
  unfold nonTo
  by_cases h2 : 12 ≤ i + 8
  · rw [if_pos h2]
  · rw [if_neg h2]
    unfold xorF
    rw [seqT_at x hi]
    unfold highB
    rw [low_zero h (by omega), Nat.xor_zero]
set_option maxHeartbeats 1600000 in
theorem specNonce_any (iv : ByteArray) (seq : Int) (w : World) (hv : iv.size ≤ 1048576) :
    Calls Try.prog 6 #[.string iv, .int .i64 seq] w fun e w' => e = .returned (.tuple #[.string (nonT iv seq), .bool (nonOk iv seq)]) ∧ Below w.heap.size w w' := by
  by_cases h12 : iv.size = 12
  · have hi : ((iv.size : Nat) : Int) = 12 := by omega
    by_cases hs : 0 ≤ seq ∧ seq ≤ 9999
    · obtain ⟨x, rfl⟩ : ∃ x : Nat, seq = (x : Int) := ⟨seq.toNat, by omega⟩
      have hx : x ≤ 9999 := by omega
      have HE : Hid _ := non_yes (iv := iv) (x := x) h12 hx
      have HC : Hid (∀ wz, _) := fun wz => specInN_yes (x : Int) 0 9999 wz hs
      obtain ⟨cap, w1, hcv, hR1, hB1, hs1⟩ := bytes_mk iv w
      rw [h12] at hcv hR1
      have HR1 : Hid (RowC w1 w.heap.size .u8 12 (nonTo iv x 0)) := RowC.ext hR1 (fun i hi => by unfold nonTo; rw [if_neg (by omega)])
      have HB1 : Hid (Below w.heap.size w w1) := hB1
      have HN : Hid (xorT iv (seqT x) = strOfNums (bytesV 12 (xorF iv (seqT x)))) := by show _ = _; unfold xorT; rw [seqT_size, h12]; rfl
      have HA : Hid (∀ i, i < 12 → nonTo iv x 8 i = xorF iv (seqT x) i) := nonTo_all iv hx
      clear hR1 hB1 hs1
      go_enter Try.func6, Try.ntmps6
      go_wp2_with fail
      refine Calls.mono (HC.out _) ?_
      rintro e w2 ⟨rfl, rfl⟩
      clear hs HC
      go_wp2
      go_loopw [7] (fun i wr => ∃ k : Nat, k ≤ 8 ∧ i = .int .i64 (k : Int) ∧ Below w.heap.size w wr ∧ RowC wr w.heap.size .u8 12 (nonTo iv x k))
        (fun i _ => 8 - (intOf i).toNat)
      case atStart => exact ⟨0, Nat.zero_le _, rfl, HB1.out, HR1.out⟩
      case round =>
        obtain ⟨k, hk, rfl, hB, hR⟩ := hrel
        by_cases hkn : k < 8
        · have hlt : (k : Int) < 8 := by omega
          have hi0 : (0 : Int) ≤ (k : Int) := by omega
          have hw : IntKind.i64.wrap (8 * (k : Int)) = 8 * (k : Int) := by rw [IntKind.wrap_i64]; omega
          have hw2 : IntKind.u64.wrap (8 * (k : Int)) = 8 * (k : Int) := by rw [IntKind.wrap_u64]; omega
          have hj : (11 : Int) - (k : Int) = ((11 - k : Nat) : Int) := by omega
          have hjw : IntKind.i64.wrap ((11 : Int) - (k : Int)) = ((11 - k : Nat) : Int) := by rw [IntKind.wrap_i64]; omega
          have hjl : 11 - k < 12 := by omega
          have c1 := hR.c _ hjl
          rw [show nonTo iv x k (11 - k) = btN iv (11 - k) from if_neg (by omega), ← btN_eq] at c1
          have z1 := hR.z _ hjl
          have HY : Hid ((x : Int) / 2 ^ (8 * k) % 256 = ((lowB x k : Nat) : Int)) := by show _ = _; unfold lowB; push_cast; rfl
          have hx1 := xor_byte iv x k (by omega)
          have HU : Hid _ := (hR.set hjl (xorF iv (seqT x) (11 - k))).ext (nonTo_upd iv x k (by omega))
          have HB : Hid (Below w.heap.size w wr) := hB
          rw [← HY.out] at hx1
          generalize xorF iv (seqT x) (11 - k) = y at hx1 HU
          generalize 11 - k = j at hj hjw hjl c1 z1 hx1 HU
          have hjI : (j : Int) < 12 := by omega
          clear hR hB hcv HY
          go_wp2
          go_roundw
          case rel => exact ⟨k + 1, by omega, by go_num, HB.out.setCell (Nat.le_refl _) _, HU.out⟩
          case measure => simp [intOf]; omega
        · obtain rfl : k = 8 := by omega
          have hcv2 := RowC.conv (c := cap) (RowC.ext hR HA.out)
          clear hcv
          go_wp2
          go_ret2
          exact ⟨by rw [HE.out.1, HE.out.2, HN.out]; rfl, hB⟩
    · have HE : Hid _ := non_no (iv := iv) (seq := seq) (by omega)
      have HC : Hid (∀ wz, _) := fun wz => specInN_no seq 0 9999 wz hs
      clear hs
      go_enter Try.func6, Try.ntmps6
      go_wp2_with fail
      refine Calls.mono (HC.out _) ?_
      rintro e w1 ⟨rfl, rfl⟩
      go_wp2
      go_ret2
      exact ⟨by rw [HE.out.1, HE.out.2]; rfl, Below.refl _ _⟩
  · have HE : Hid _ := non_no (iv := iv) (seq := seq) (by omega)
    have hi : (((iv.size : Nat) : Int) != 12) = true := by simp; omega
    have hi2 : ¬ ((iv.size : Nat) : Int) = 12 := by omega
    go_enter Try.func6, Try.ntmps6
    go_wp2
    go_ret2
    exact ⟨by rw [HE.out.1, HE.out.2]; rfl, Below.refl _ _⟩
end Go.Proofs.Ytkgbblmdkchemaa
