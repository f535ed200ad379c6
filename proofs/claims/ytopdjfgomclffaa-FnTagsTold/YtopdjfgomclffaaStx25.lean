/- The specification's numbers of a tag (chapter 25): l25Bytes, LimbsText. -/
import Derived.Test.YtopdjfgomclffaaLtx25
import Derived.Test.YtopdjfgomclffaaSlo25
import Derived.WalkKit
import Derived.WalkLawsBesides
import Derived.WalkSpells
import Derived.BigRegion
import Derived.Laws.ShiftsVar
import Derived.Below
import Derived.OwnWalk
import Derived.PlainAid
import Derived.Great.Walk
namespace Go.Proofs.Ytopdjfgomclffaa
open Go.RowKit Go.PlainAid
set_option maxRecDepth 20000
set_option linter.unusedVariables false
set_option linter.unusedSimpArgs false
theorem and1i (n : Int) : bits .and .i64 n 1 = n % 2 := by
  have h1 : (BitVec.ofInt 64 1).toNat = 2 ^ 1 - 1 := by decide
  have key : (BitVec.ofInt 64 n &&& BitVec.ofInt 64 1).toNat = (n % ((2 ^ 64 : Nat) : Int)).toNat % 2 ^ 1 := by
    rw [BitVec.toNat_and, BitVec.toNat_ofInt, h1, Nat.and_two_pow_sub_one_eq_mod]
  show IntKind.i64.wrap ((BitVec.ofInt 64 n &&& BitVec.ofInt 64 1).toNat : Nat) = _
  rw [key, IntKind.wrap_i64]
  omega
set_option maxHeartbeats 3200000 in
theorem sbytes_any (a : Option Addr) (cap : Nat) (l : List Int) (w : World) (hl : lok pb l) (hr : RowI w.heap.size w a l) :
    Calls Try.prog 45 #[.slice a l.length cap, .int .i64 16] w fun e w' => ∃ g, e = .returned (.slice (some ⟨g, 0, none⟩) 16 16) ∧ RowAt w' g 5 .u8 16 (lowB ((lval pb l).toNat % 2 ^ 128)) ∧ Below w.heap.size w w' := by
  have HLV : Hid (l = lv (lval pb l).toNat) := lok_lv hl
  have hl5 : l.length = 5 := lok_len hl
  have HLK : Hid (lok pb l) := hl
  obtain ⟨V, hV⟩ : ∃ V, (lval pb l).toNat = V := ⟨_, rfl⟩
  rw [hV] at HLV ⊢
  obtain ⟨b0, o0, rfl⟩ := hr.addr (show 0 < l.length by omega)
  have HR : Hid (RowI w.heap.size w (some ⟨b0, o0, none⟩) l) := hr
  clear hV hl hr
  have HM := run_mkB w 16 (by omega)
  rw [show ((16 : Nat) : Int) = 16 from rfl] at HM
  have HB : Hid (Below w.heap.size w (w.alloc (.cells (rowV .u8 16 (fun _ => 0)) 5))) := (Below.refl _ _).alloc (Nat.le_refl _) _
  have HO : Hid (RowAt (w.alloc (.cells (rowV .u8 16 (fun _ => 0)) 5)) w.heap.size 5 .u8 16 (lowB (V % 2 ^ (8 * 0)))) := RowAt.ext (heap_alloc_new w _) (fun i _ => (by_zero V i).symm)
  rw [hl5]
  go_enter Try.func45, Try.ntmps45
  go_wp2
  generalize w.alloc (.cells (rowV .u8 16 (fun _ => 0)) 5) = w1 at HB HO ⊢
  clear HM
  go_loopw [6] (fun i wr => ∃ k : Nat, k ≤ 16 ∧ i = .int .i64 (k : Int) ∧ Hid (Below w.heap.size w wr) ∧ Hid (RowAt wr w.heap.size 5 .u8 16 (lowB (V % 2 ^ (8 * k)))))
    (fun i _ => 16 - (intOf i).toNat)
  case atStart => exact ⟨0, Nat.zero_le _, rfl, HB, HO⟩
  case round =>
    clear HB HO
    obtain ⟨k, hk, rfl, HB, HO⟩ := hrel
    by_cases hlt : k < 16
    · have hi0 : (0 : Int) ≤ (k : Int) := by omega
      have hi1 : (k : Int) < 16 := by omega
      go_wp2
      go_loopw [7] (fun i wr => ∃ j : Nat, j ≤ 8 ∧ i = .int .i64 (j : Int) ∧ Hid (Below w.heap.size w wr) ∧ Hid (RowAt wr w.heap.size 5 .u8 16 (lowB (V % 2 ^ (8 * k + j)))))
        (fun i _ => 8 - (intOf i).toNat)
      case atStart => exact ⟨0, Nat.zero_le _, rfl, HB, HO⟩
      case round =>
        clear HB HO
        obtain ⟨j, hj, rfl, HB, HO⟩ := hrel
        by_cases hlj : j < 8
        · have hj0 : (0 : Int) ≤ (j : Int) := by omega
          have hj1 : (j : Int) < 8 := by omega
          have w0 : IntKind.i64.wrap (8 * (k : Int)) = 8 * (k : Int) := by rw [IntKind.wrap_i64]; omega
          have w9 : IntKind.i64.wrap (8 * (k : Int) + (j : Int)) = 8 * (k : Int) + (j : Int) := by rw [IntKind.wrap_i64]; omega
          have hie : 8 * (k : Int) + (j : Int) = ((8 * k + j : Nat) : Int) := by omega
          have hst := by_step V (8 * k + j)
          have hxl := by_lt V (8 * k + j)
          have hbit := limb_bit (V := V) (show 8 * k + j < 130 by omega)
          rw [show (8 * k + j) / 8 = k by omega, show (8 * k + j) % 8 = j by omega] at hst
          rw [show (8 * k + j) / 8 = k by omega, show (8 * k + j) % 8 = j by omega] at hxl
          have HNX : Hid (8 * k + j + 1 = 8 * k + (j + 1)) := rfl
          have h128 : 8 * k + j < 128 := by omega
          generalize 8 * k + j = i at hie hst hxl hbit HO HNX h128
          have c1 := (HR.out.at HB.out (show i / 26 < l.length by omega)).2
          have hlb : l.getD (i / 26) 0 = ((limbN V (i / 26) : Nat) : Int) := by rw [HLV.out, lv_at _ (by omega)]
          have hlim := lok_le (by decide) HLK.out (l.getD (i / 26) 0) (by rw [List.getD_eq_getElem?_getD, List.getElem?_eq_getElem (by omega)]; exact List.getElem_mem _)
          rw [hlb] at c1 hlim
          have c2 := HO.out.cell hlt
          have z2 := HO.out.froz k
          have q1 : (8 * (k : Int) + (j : Int)).tdiv 26 = ((i / 26 : Nat) : Int) := by rw [hie, Int.tdiv_eq_ediv_of_nonneg (by omega)]; omega
          have q2 : (8 * (k : Int) + (j : Int)) / 26 = ((i / 26 : Nat) : Int) := by omega
          have q3 : (8 * (k : Int) + (j : Int)).tmod 26 = ((i % 26 : Nat) : Int) := by rw [hie, Int.tmod_eq_emod_of_nonneg (by omega)]; omega
          have q4 : (8 * (k : Int) + (j : Int)) % 26 = ((i % 26 : Nat) : Int) := by omega
          have w1 : IntKind.i64.wrap ((i / 26 : Nat) : Int) = ((i / 26 : Nat) : Int) := by rw [IntKind.wrap_i64]; omega
          have w2 : IntKind.i64.wrap ((i % 26 : Nat) : Int) = ((i % 26 : Nat) : Int) := by rw [IntKind.wrap_i64]; omega
          have w3 : IntKind.u64.wrap ((i % 26 : Nat) : Int) = ((i % 26 : Nat) : Int) := by rw [IntKind.wrap_u64]; omega
          have w4 : IntKind.u64.wrap (j : Int) = (j : Int) := by rw [IntKind.wrap_u64]; omega
          have x0 : (0 : Int) ≤ ((i / 26 : Nat) : Int) := by omega
          have x1 : ((i / 26 : Nat) : Int) < 5 := by omega
          have y0 : ((limbN V (i / 26) : Nat) : Int) / 2 ^ (i % 26) = ((limbN V (i / 26) / 2 ^ (i % 26) : Nat) : Int) := by rw [Int.natCast_ediv, Int.natCast_pow]; rfl
          have y4 : min (i % 26) 64 = i % 26 := by omega
          have y5 : min j 8 = j := by omega
          generalize limbN V (i / 26) / 2 ^ (i % 26) = y at hbit y0
          have a1 : bits .and .i64 ((y : Nat) : Int) 1 = ((V / 2 ^ i % 2 : Nat) : Int) := by
            rw [and1i, ← hbit]; omega
          have hb1 : V / 2 ^ i % 2 ≤ 1 := by omega
          generalize V / 2 ^ i % 2 = b at a1 hb1 hst
          generalize lowB (V % 2 ^ i) k = x at c2 hst hxl
          generalize limbN V (i / 26) = z at c1 y0 hlim
          generalize i / 26 = d at c1 q1 q2 w1 x0 x1
          generalize i % 26 = m at q3 q4 w2 w3 y0 y4
          clear hlb hbit hlim hie
          rcases (show b = 0 ∨ b = 1 by omega) with rfl | rfl
          · have HO2 : Hid (RowAt wr w.heap.size 5 .u8 16 (lowB (V % 2 ^ (8 * k + (j + 1))))) := by
              show RowAt _ _ _ _ _ _
              rw [← HNX.out]
              refine RowAt.ext HO.out (fun q hq => ?_)
              rw [← hst q, Nat.zero_mul, Nat.add_zero]
              by_cases e : q = k
              · subst e; rw [upd_same]; have := c2; have h := HO.out.cell hq; rw [h] at this; simp only [Option.some.injEq, Value.int.injEq, true_and] at this; omega
              · rw [upd_other _ _ e]
            clear hst hxl HO hb1
            go_wp2
            go_roundw
            case rel => exact ⟨j + 1, by omega, by go_num, HB, HO2⟩
            case measure => simp [intOf]; omega
          · have hp8 : (2 : Nat) ^ j ≤ 128 := by
              have := Nat.pow_le_pow_right (show 0 < 2 by omega) (show j ≤ 7 by omega)
              omega
            rw [Nat.one_mul] at hst
            have e2 : (2 : Int) ^ j = ((2 ^ j : Nat) : Int) := by rw [Int.natCast_pow]; rfl
            have y2 : IntKind.u8.wrap ((2 : Int) ^ j) = ((2 ^ j : Nat) : Int) := by rw [e2, IntKind.wrap_u8']; omega
            have a2 : bits .or .u8 ((x : Nat) : Int) ((2 ^ j : Nat) : Int) = ((x + 2 ^ j : Nat) : Int) := by
              have h := or_addP (b := 1) hxl
              rw [Nat.one_mul] at h
              rw [orB (by omega) (by omega), h]
            clear e2
            generalize x + 2 ^ j = u at hst a2
            generalize 2 ^ j = bs at y2 a2 hp8 hxl
            have HO2 : Hid (RowAt (wr.setCell ⟨w.heap.size, k, none⟩ (.int .u8 ((u : Nat) : Int))) w.heap.size 5 .u8 16 (lowB (V % 2 ^ (8 * k + (j + 1))))) := by
              show RowAt _ _ _ _ _ _
              rw [← HNX.out]
              exact RowAt.ext (HO.out.set hlt u) (fun q _ => hst q)
            have HB2 : Hid (Below w.heap.size w (wr.setCell ⟨w.heap.size, k, none⟩ (.int .u8 ((u : Nat) : Int)))) := HB.out.setCell (Nat.le_refl _) _
            clear hst hxl HO HB hb1 hp8
            go_wp2
            go_roundw
            case rel => exact ⟨j + 1, by omega, by go_num, HB2, HO2⟩
            case measure => simp [intOf]; omega
        · obtain rfl : j = 8 := by omega
          have HNX : Hid (8 * k + 8 = 8 * (k + 1)) := rfl
          rw [HNX.out] at HO
          go_wp2
          go_roundw
          case rel => exact ⟨k + 1, by omega, by go_num, HB, HO⟩
          case measure => simp [intOf]; omega
    · obtain rfl : k = 16 := by omega
      go_wp2
      go_ret
      exact ⟨_, rfl, HO.out, HB.out⟩
set_option maxHeartbeats 1600000 in
theorem specLimbsText_any (a0 : Option Addr) (c0 : Nat) (n0 : List Int) (w : World) (hr0 : RowI w.heap.size w a0 n0) (hm : n0.length ≤ 1048576) :
    Calls Try.prog 23 #[.agg #[.slice a0 n0.length c0]] w fun e w' => e = .returned (.string (txtP n0)) ∧ Below w.heap.size w w' := by
  have hA0 : (w.alloc (.cells #[.slice a0 n0.length c0] 26)).heap[w.heap.size]? = some (.cells #[.slice a0 n0.length c0] 26 (0, 0)) := heap_alloc_new w _
  have hB0 : Below w.heap.size w (w.alloc (.cells #[.slice a0 n0.length c0] 26)) := (Below.refl _ _).alloc (Nat.le_refl _) _
  go_enter Try.func23, Try.ntmps23
  go_upto_region 1 with fail
  generalize (w.alloc (.cells #[.slice a0 n0.length c0] 26)) = w0 at hA0 hB0 ⊢
  have HR0 : Hid (RowI w0.heap.size w0 a0 n0) := hr0.grown hB0
  have HC : Hid _ := specLimbsOk_any a0 c0 n0 w0 HR0.out hm
  have hs0 : w.heap.size < w0.heap.size := (Array.getElem?_eq_some_iff.1 hA0).1
  have k0 : w0.cell? ⟨w.heap.size, 0, none⟩ = some (.slice a0 n0.length c0) := by rw [cell_of_row w0 _ 0 _ _ _ hA0]; rfl
  clear hr0
  go_wp2_with fail
  refine Calls.mono HC.out ?_
  rintro e w1 ⟨rfl, hb1⟩
  have hA1 := (hb1.block _ hs0).trans hA0
  have HR1 : Hid (RowI w1.heap.size w1 a0 n0) := HR0.out.grown hb1
  have HB1 : Hid (Below w.heap.size w w1) := hB0.trans (hb1.mono hB0.size)
  have k1 : w1.cell? ⟨w.heap.size, 0, none⟩ = some (.slice a0 n0.length c0) := by rw [cell_of_row w1 _ 0 _ _ _ hA1]; rfl
  clear k0 hA0 hA1 hB0 hb1 HC HR0 hs0 hm
  cases h0 : okP n0
  · have HI : Hid _ := txt_no h0
    clear h0
    go_wp2
    go_ret
    exact ⟨by rw [HI.out]; rfl, HB1.out⟩
  · have HI : Hid _ := txt_yes h0
    have HC : Hid _ := sbytes_any a0 c0 n0 w1 (okP_lok h0) HR1.out
    have HE : Hid (strOfNums (bytesV 16 (lowB ((lval pb n0).toNat % 2 ^ 128))) = byT (lval pb n0).toNat) := rfl
    clear h0
    go_wp2_with fail
    refine Calls.mono HC.out ?_
    rintro e w2 ⟨g, rfl, hro, hb⟩
    have hcv := conv_row (c := 16) hro
    rw [HE.out] at hcv
    have HB2 : Hid (Below w.heap.size w w2) := HB1.out.trans (hb.mono HB1.out.size)
    clear hro hb HE HC k1
    go_wp2
    go_ret
    exact ⟨by rw [HI.out]; rfl, HB2.out⟩
end Go.Proofs.Ytopdjfgomclffaa
