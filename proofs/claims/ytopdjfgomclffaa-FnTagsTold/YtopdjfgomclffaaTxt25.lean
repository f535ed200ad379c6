/- The program's numbers of a tag (chapter 25): text, LimbsText. -/
import Derived.Test.YtopdjfgomclffaaTxtQ
import Derived.Test.YtopdjfgomclffaaSh25
import Derived.Test.YtopdjfgomclffaaLok25
import Derived.WalkKit
import Derived.WalkLawsBesides
import Derived.WalkSpells
import Derived.WalkSmall
import Derived.BigRegion
import Derived.Laws.ShiftsVar
import Derived.Below
import Derived.OwnWalk
import Derived.PlainAid
import Derived.Great.Walk
namespace Go.Proofs.Ytopdjfgomclffaa
open Go.RowKit Go.PlainAid
set_option maxRecDepth 20000
set_option linter.unusedVariables false
set_option linter.unusedSimpArgs false
/-- The lowest 16 bytes of a number. -/
def byT (V : Nat) : ByteArray := strOfNums (bytesV 16 (lowB (V % 2 ^ 128)))
/-- What LimbsText answers. -/
def txtP (l : List Int) : ByteArray := if okP l = true then byT (lval pb l).toNat else ByteArray.empty
theorem orB {a b : Nat} (ha : a < 256) (hb : b < 256) : bits .or .u8 (a : Int) (b : Int) = ((a ||| b : Nat) : Int) := by
  have h1 : (BitVec.ofInt 8 (a : Int)).toNat = a := by rw [BitVec.toNat_ofInt]; omega
  have h2 : (BitVec.ofInt 8 (b : Int)).toNat = b := by rw [BitVec.toNat_ofInt]; omega
  show IntKind.u8.wrap ((BitVec.ofInt 8 (a : Int) ||| BitVec.ofInt 8 (b : Int)).toNat : Nat) = _
  have hlt : a ||| b < 2 ^ 8 := Nat.or_lt_two_pow (by omega) (by omega)
  rw [BitVec.toNat_or, h1, h2, IntKind.wrap_u8']
  omega
set_option maxHeartbeats 3200000 in
theorem ptext_any (l : List Int) (w : World) (hl : lok pb l) :
    Calls Try.prog 33 #[.agg (rowL .u64 l)] w fun e w' => e = .returned (.string (byT (lval pb l).toNat)) ∧ Below w.heap.size w w' := by
  have HLV : Hid (l = lv (lval pb l).toNat) := lok_lv hl
  have hl5 : l.length = 5 := lok_len hl
  have HLK : Hid (lok pb l) := hl
  obtain ⟨V, hV⟩ : ∃ V, (lval pb l).toNat = V := ⟨_, rfl⟩
  rw [hV] at HLV ⊢
  have hA0 : RowZ (w.alloc (.cells (rowL .u64 l) 52)) w.heap.size 52 .u64 l := heap_alloc_new w _
  have hB0 : Below w.heap.size w (w.alloc (.cells (rowL .u64 l) 52)) := (Below.refl _ _).alloc (Nat.le_refl _) _
  clear hV hl
  go_enter Try.func33, Try.ntmps33
  go_upto_region 1 with fail
  generalize w.alloc (.cells (rowL .u64 l) 52) = w0 at hA0 hB0 ⊢
  have hs0 : w.heap.size < w0.heap.size := hA0.lt
  have HM := run_mkB w0 16 (by omega)
  rw [show ((16 : Nat) : Int) = 16 from rfl] at HM
  have HB : Hid (Below w.heap.size w (w0.alloc (.cells (rowV .u8 16 (fun _ => 0)) 5))) := hB0.alloc hB0.size _
  have HA : Hid (RowZ (w0.alloc (.cells (rowV .u8 16 (fun _ => 0)) 5)) w.heap.size 52 .u64 l) := (Lib.alloc_old _ _ _ hs0).trans hA0
  have HO : Hid (RowAt (w0.alloc (.cells (rowV .u8 16 (fun _ => 0)) 5)) w0.heap.size 5 .u8 16 (lowB (V % 2 ^ 0))) := RowAt.ext (heap_alloc_new w0 _) (fun i _ => (by_zero V i).symm)
  go_wp2
  generalize w0.alloc (.cells (rowV .u8 16 (fun _ => 0)) 5) = w1 at HB HA HO ⊢
  generalize w0.heap.size = g at hs0 HO ⊢
  clear HM hA0 hB0
  go_loopw [7] (fun i wr => ∃ k : Nat, k ≤ 128 ∧ i = .int .i64 (k : Int) ∧ Hid (Below w.heap.size w wr) ∧ Hid (RowZ wr w.heap.size 52 .u64 l) ∧ Hid (RowAt wr g 5 .u8 16 (lowB (V % 2 ^ k))))
    (fun i _ => 128 - (intOf i).toNat)
  case atStart => exact ⟨0, Nat.zero_le _, rfl, HB, HA, HO⟩
  case round =>
    clear HB HA HO
    obtain ⟨k, hk, rfl, HB, HA, HO⟩ := hrel
    by_cases hlt : k < 128
    · have hi0 : (0 : Int) ≤ (k : Int) := by omega
      have hi1 : (k : Int) < 128 := by omega
      have c1 := HA.out.cell (i := k / 26) (by omega)
      have hlb : l.getD (k / 26) 0 = ((limbN V (k / 26) : Nat) : Int) := by
        rw [HLV.out, lv_at _ (by omega)]
      have hlim := lok_le (by decide) HLK.out (l.getD (k / 26) 0) (by rw [List.getD_eq_getElem?_getD, List.getElem?_eq_getElem (by omega)]; exact List.getElem_mem _)
      rw [hlb] at c1 hlim
      have hbit := limb_bit (V := V) (show k < 130 by omega)
      have c2 := HO.out.cell (i := k / 8) (by omega)
      have z2 := HO.out.froz (k / 8)
      have hst := by_step V k
      have hxl := by_lt V k
      have q1 : (k : Int).tdiv 26 = ((k / 26 : Nat) : Int) := by rw [Int.tdiv_eq_ediv_of_nonneg (by omega)]; omega
      have q2 : (k : Int) / 26 = ((k / 26 : Nat) : Int) := by omega
      have q3 : (k : Int).tmod 26 = ((k % 26 : Nat) : Int) := by rw [Int.tmod_eq_emod_of_nonneg (by omega)]; omega
      have q4 : (k : Int) % 26 = ((k % 26 : Nat) : Int) := by omega
      have q5 : (k : Int).tdiv 8 = ((k / 8 : Nat) : Int) := by rw [Int.tdiv_eq_ediv_of_nonneg (by omega)]; omega
      have q6 : (k : Int) / 8 = ((k / 8 : Nat) : Int) := by omega
      have q7 : (k : Int).tmod 8 = ((k % 8 : Nat) : Int) := by rw [Int.tmod_eq_emod_of_nonneg (by omega)]; omega
      have q8 : (k : Int) % 8 = ((k % 8 : Nat) : Int) := by omega
      have w1 : IntKind.i64.wrap ((k / 26 : Nat) : Int) = ((k / 26 : Nat) : Int) := by rw [IntKind.wrap_i64]; omega
      have w2 : IntKind.i64.wrap ((k % 26 : Nat) : Int) = ((k % 26 : Nat) : Int) := by rw [IntKind.wrap_i64]; omega
      have w3 : IntKind.i64.wrap ((k / 8 : Nat) : Int) = ((k / 8 : Nat) : Int) := by rw [IntKind.wrap_i64]; omega
      have w4 : IntKind.i64.wrap ((k % 8 : Nat) : Int) = ((k % 8 : Nat) : Int) := by rw [IntKind.wrap_i64]; omega
      have x0 : (0 : Int) ≤ ((k / 26 : Nat) : Int) := by omega
      have x1 : ((k / 26 : Nat) : Int) < 5 := by omega
      have x2 : (0 : Int) ≤ ((k / 8 : Nat) : Int) := by omega
      have x3 : ((k / 8 : Nat) : Int) < 16 := by omega
      have hq16 : k / 8 < 16 := by omega
      have y0 : ((limbN V (k / 26) : Nat) : Int) / 2 ^ (k % 26) = ((limbN V (k / 26) / 2 ^ (k % 26) : Nat) : Int) := by rw [Int.natCast_ediv, Int.natCast_pow]; rfl
      have hyl : limbN V (k / 26) / 2 ^ (k % 26) < 67108864 := Nat.lt_of_le_of_lt (Nat.div_le_self _ _) (by omega)
      generalize limbN V (k / 26) / 2 ^ (k % 26) = y at hbit y0 hyl
      have a1 : bits .and .u64 ((y : Nat) : Int) 1 = ((V / 2 ^ k % 2 : Nat) : Int) := by
        rw [and_one_u64 _ (by omega) (by omega), ← hbit]; omega
      have hb1 : V / 2 ^ k % 2 ≤ 1 := by omega
      generalize V / 2 ^ k % 2 = b at a1 hb1 hst
      generalize lowB (V % 2 ^ k) (k / 8) = x at c2 hst hxl
      have hr8 : k % 8 < 8 := Nat.mod_lt _ (by omega)
      have hm26 : k % 26 < 26 := Nat.mod_lt _ (by omega)
      have hp8 : (2 : Nat) ^ (k % 8) ≤ 128 := by
        have := Nat.pow_le_pow_right (show 0 < 2 by omega) (show k % 8 ≤ 7 by omega)
        omega
      have hbp : b * 2 ^ (k % 8) ≤ 1 * 2 ^ (k % 8) := Nat.mul_le_mul_right _ hb1
      have y2 : IntKind.u64.wrap (((b : Nat) : Int) * 2 ^ (k % 8)) = ((b * 2 ^ (k % 8) : Nat) : Int) := by
        have e : ((b : Nat) : Int) * 2 ^ (k % 8) = ((b * 2 ^ (k % 8) : Nat) : Int) := by rw [Int.natCast_mul, Int.natCast_pow]; rfl
        rw [e, IntKind.wrap_u64]; omega
      have y3 : min (k % 8) 64 = k % 8 := by omega
      have y4 : min (k % 26) 64 = k % 26 := by omega
      have a2 : bits .or .u8 ((x : Nat) : Int) ((b * 2 ^ (k % 8) : Nat) : Int) = ((x + b * 2 ^ (k % 8) : Nat) : Int) := by
        rw [orB (by omega) (by omega), or_addP hxl]
      have w5 : IntKind.u8.wrap ((b * 2 ^ (k % 8) : Nat) : Int) = ((b * 2 ^ (k % 8) : Nat) : Int) := by rw [IntKind.wrap_u8']; omega
      generalize x + b * 2 ^ (k % 8) = u at hst a2
      generalize b * 2 ^ (k % 8) = bs at y2 a2 w5
      have HO2 : Hid (RowAt (wr.setCell ⟨g, k / 8, none⟩ (.int .u8 ((u : Nat) : Int))) g 5 .u8 16 (lowB (V % 2 ^ (k + 1)))) := RowAt.ext (HO.out.set hq16 u) (fun j _ => hst j)
      have HA2 : Hid (RowZ (wr.setCell ⟨g, k / 8, none⟩ (.int .u8 ((u : Nat) : Int))) w.heap.size 52 .u64 l) := HA.out.other _ (by omega)
      have HB2 : Hid (Below w.heap.size w (wr.setCell ⟨g, k / 8, none⟩ (.int .u8 ((u : Nat) : Int)))) := HB.out.setCell (show w.heap.size ≤ g by omega) _
      generalize limbN V (k / 26) = z at c1 y0 hlim
      clear hst hxl hlb hbit hyl hb1 hbp hp8 HB HA HO hr8 hm26
      generalize k / 26 = d at c1 q1 q2 w1 x0 x1
      generalize k % 26 = m at q3 q4 w2 y0 y4
      generalize k / 8 = q at c2 z2 q5 q6 w3 x2 x3 hq16 HO2 HA2 HB2
      generalize k % 8 = r at q7 q8 w4 y2 y3
      go_wp2
      go_region
      all_goals
        go_wp2
        go_roundw
        case rel => exact ⟨k + 1, by omega, by go_num, HB2.out.drew, HA2.out.drew, HO2.out.drew⟩
        case measure => simp [intOf]; omega
    · obtain rfl : k = 128 := by omega
      have hcv := conv_row (c := 16) HO.out
      have HE : Hid (strOfNums (bytesV 16 (lowB (V % 2 ^ 128))) = byT V) := rfl
      rw [HE.out] at hcv
      go_wp2
      go_ret
      exact ⟨rfl, HB.out⟩
end Go.Proofs.Ytopdjfgomclffaa
