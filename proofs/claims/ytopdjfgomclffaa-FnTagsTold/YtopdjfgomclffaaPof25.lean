/- The program's numbers of a tag (chapter 25): polyOf. -/
import Derived.Test.YtopdjfgomclffaaBitQ
import Derived.Test.YtopdjfgomclffaaSh25
import Derived.Test.YtopdjfgomclffaaRed25
import Derived.Test.YtopdjfgomclffaaRowC
import Derived.WalkKit
import Derived.WalkLawsBesides
import Derived.WalkSpells
import Derived.WalkSmall
import Derived.BigRegion
import Derived.Laws.ShiftsVar
import Derived.Laws.Small
import Derived.Below
import Derived.OwnWalk
import Derived.PlainAid
import Derived.Great.Walk
namespace Go.Proofs.Ytopdjfgomclffaa
open Go.RowKit Go.PlainAid
set_option maxRecDepth 20000
set_option linter.unusedVariables false
set_option linter.unusedSimpArgs false
/-- The number of a text. -/
def nvT (t : ByteArray) : Nat := nv (btN t) t.size
theorem nvT_lt {t : ByteArray} (h : t.size ≤ 17) : nvT t < 87112285931760246646623899502532662132736 := by
  have h1 := nv_lt (f := btN t) t.size (btN_lt t)
  have h2 : (256 : Nat) ^ t.size ≤ 256 ^ 17 := Nat.pow_le_pow_right (by omega) h
  unfold nvT
  omega
set_option maxHeartbeats 3200000 in
theorem polyOf_any (t : ByteArray) (w : World) (ht : t.size ≤ 17) :
    Calls Try.prog 29 #[.string t] w fun e w' => e = .returned (.agg (rowL .u64 (canonP ((nvT t : Nat) : Int)))) ∧ Below w.heap.size w w' := by
  have hN : nvT t < 2 ^ (8 * t.size) := by
    have h1 := nv_lt (f := btN t) t.size (btN_lt t)
    rw [show (256 : Nat) = 2 ^ 8 from rfl, ← Nat.pow_mul] at h1
    exact h1
  have hN17 := nvT_lt ht
  have HBIT : Hid (∀ i, i < 8 * t.size → nvT t / 2 ^ i % 2 = btN t (i / 8) / 2 ^ (i % 8) % 2) := fun i hi => nv_bit (btN_lt t) hi
  obtain ⟨N, hNe⟩ : ∃ N, nvT t = N := ⟨_, rfl⟩
  rw [hNe] at hN hN17 HBIT ⊢
  clear hNe
  have HN : Hid (N < 2 ^ (8 * t.size)) := hN
  have HN17 : Hid (N < 87112285931760246646623899502532662132736) := hN17
  clear hN hN17
  have hA1 : ((w.alloc (.cells (rowL .u64 z5) 52)).alloc (.cells (rowL .u64 z5) 52)).heap[w.heap.size + 1]? = some (.cells (rowL .u64 z5) 52 (0, 0)) := by
    have := heap_alloc_new (w.alloc (.cells (rowL .u64 z5) 52)) (.cells (rowL .u64 z5) 52)
    simpa using this
  have hA0 : ((w.alloc (.cells (rowL .u64 z5) 52)).alloc (.cells (rowL .u64 z5) 52)).heap[w.heap.size]? = some (.cells (rowL .u64 z5) 52 (0, 0)) := (Lib.alloc_old _ _ _ (by simp)).trans (heap_alloc_new w _)
  have hB0 : Below w.heap.size w ((w.alloc (.cells (rowL .u64 z5) 52)).alloc (.cells (rowL .u64 z5) 52)) := ((Below.refl _ _).alloc (Nat.le_refl _) _).alloc (by simp) _
  have h8 : IntKind.i64.wrap (8 * (t.size : Int)) = ((8 * t.size : Nat) : Int) := by rw [IntKind.wrap_i64]; omega
  go_enter Try.func29, Try.ntmps29
  go_upto_region 2 with fail
  rw [← zeroPn] at hA1 hA0 hB0
  generalize (w.alloc (.cells #[.int .u64 0, .int .u64 0, .int .u64 0, .int .u64 0, .int .u64 0] 52)).alloc (.cells #[.int .u64 0, .int .u64 0, .int .u64 0, .int .u64 0, .int .u64 0] 52) = w0 at hA1 hA0 hB0 ⊢
  rw [zeroPn] at hA1 hA0
  have HR : Hid (RowZ w0 w.heap.size 52 .u64 z5) := hA0
  have HF : Hid (RowZ w0 (w.heap.size + 1) 52 .u64 (lv (N % 2 ^ 0))) := by
    show RowZ _ _ _ _ _
    rw [Nat.pow_zero, Nat.mod_one, lv_zero]; exact hA1
  have HB : Hid (Below w.heap.size w w0) := hB0
  clear hA1 hA0 hB0
  go_wp2
  clear h8
  go_loopw [10] (fun i wr => ∃ k : Nat, k ≤ 8 * t.size ∧ i = .int .i64 (k : Int) ∧ Hid (Below w.heap.size w wr) ∧ Hid (RowZ wr w.heap.size 52 .u64 z5) ∧ Hid (RowZ wr (w.heap.size + 1) 52 .u64 (lv (N % 2 ^ k))))
    (fun i _ => 8 * t.size - (intOf i).toNat)
  case atStart => exact ⟨0, Nat.zero_le _, rfl, HB, HR, HF⟩
  case round =>
    clear HB HR HF
    obtain ⟨k, hk, rfl, HB, HR, HF⟩ := hrel
    by_cases hlt : k < 8 * t.size
    · have hi0 : (0 : Int) ≤ (k : Int) := by omega
      have hi1 : (k : Int) < ((8 * t.size : Nat) : Int) := by omega
      have hb := HBIT.out k hlt
      have hset := bit_set N k
      have hlm := bit_lt N k
      have hL4 := lbit_le k
      have hLk := lbit_low k
      have c1 := HF.out.cell (i := lbit k) (by show lbit k < 5; omega)
      rw [lv_at _ (by omega)] at c1
      have z1 := HF.out.froz (lbit k)
      have hmin : (if (4 : Int) < ((k / 26 : Nat) : Int) then (4 : Int) else ((k / 26 : Nat) : Int)) = ((lbit k : Nat) : Int) := by
        unfold lbit; split <;> split <;> omega
      have hmin2 : min ((k / 26 : Nat) : Int) 4 = ((lbit k : Nat) : Int) := by
        unfold lbit; split <;> omega
      have hs31 : k - 26 * lbit k ≤ 31 := by unfold lbit; split <;> omega
      have hg := get_bt t
      have hbe := btN_eq t (k / 8)
      have hbl := btN_lt t (k / 8)
      have q1 : (k : Int).tdiv 8 = ((k / 8 : Nat) : Int) := by rw [Int.tdiv_eq_ediv_of_nonneg (by omega)]; omega
      have q2 : (k : Int) / 8 = ((k / 8 : Nat) : Int) := by omega
      have q3 : (k : Int).tmod 8 = ((k % 8 : Nat) : Int) := by rw [Int.tmod_eq_emod_of_nonneg (by omega)]; omega
      have q4 : (k : Int) % 8 = ((k % 8 : Nat) : Int) := by omega
      have q5 : (k : Int).tdiv 26 = ((k / 26 : Nat) : Int) := by rw [Int.tdiv_eq_ediv_of_nonneg (by omega)]; omega
      have q6 : (k : Int) / 26 = ((k / 26 : Nat) : Int) := by omega
      have w1 : IntKind.i64.wrap ((k / 8 : Nat) : Int) = ((k / 8 : Nat) : Int) := by rw [IntKind.wrap_i64]; omega
      have w2 : IntKind.i64.wrap ((k / 26 : Nat) : Int) = ((k / 26 : Nat) : Int) := by rw [IntKind.wrap_i64]; omega
      have w3 : IntKind.i64.wrap ((k % 8 : Nat) : Int) = ((k % 8 : Nat) : Int) := by rw [IntKind.wrap_i64]; omega
      have x0 : (0 : Int) ≤ ((k / 8 : Nat) : Int) := by omega
      have x1 : ((k / 8 : Nat) : Int) < ((t.size : Nat) : Int) := by omega
      have s1 := shrU_run ((btN t (k / 8) : Nat) : Int) (k % 8) (by omega)
      have y0 : (((btN t (k / 8) : Nat) : Int) / 2 ^ (k % 8)) = ((btN t (k / 8) / 2 ^ (k % 8) : Nat) : Int) := by rw [Int.natCast_ediv, Int.natCast_pow]; rfl
      rw [y0] at s1
      have hyl : btN t (k / 8) / 2 ^ (k % 8) ≤ 255 := Nat.le_trans (Nat.div_le_self _ _) (by omega)
      generalize btN t (k / 8) / 2 ^ (k % 8) = y at s1 hb hyl y0
      have a1 : bits .and .u64 ((y : Nat) : Int) 1 = ((N / 2 ^ k % 2 : Nat) : Int) := by
        rw [and_one_u64 _ (by omega) (by omega), hb]; omega
      have hb1 : N / 2 ^ k % 2 ≤ 1 := by omega
      have wx : IntKind.u64.wrap ((btN t (k / 8) : Nat) : Int) = ((btN t (k / 8) : Nat) : Int) := by rw [IntKind.wrap_u64]; omega
      generalize btN t (k / 8) = x at s1 hbe hbl wx y0
      generalize k / 8 = q at q1 q2 w1 x0 x1 hbe
      generalize k % 8 = r at q3 q4 w3 s1 y0
      generalize k / 26 = d at q5 q6 w2 hmin hmin2
      generalize N / 2 ^ k % 2 = b at a1 hb1 hset
      clear hb
      obtain ⟨s, hs⟩ : ∃ s, k - 26 * lbit k = s := ⟨_, rfl⟩
      rw [hs] at hset hlm hs31
      generalize limbN (N % 2 ^ k) (lbit k) = v at c1 hset hlm
      have hp : (2 : Nat) ^ s ≤ 2 ^ 31 := Nat.pow_le_pow_right (by omega) hs31
      have hbp : b * 2 ^ s ≤ 2147483648 := by
        have := Nat.mul_le_mul hb1 hp
        omega
      have s2 := shlU_run ((b : Nat) : Int) s (by omega)
      have y2 : IntKind.u64.wrap (((b : Nat) : Int) * 2 ^ s) = ((b * 2 ^ s : Nat) : Int) := by
        have e : ((b : Nat) : Int) * 2 ^ s = ((b * 2 ^ s : Nat) : Int) := by rw [Int.natCast_mul, Int.natCast_pow]; rfl
        rw [e, IntKind.wrap_u64]; omega
      rw [y2] at s2
      have a2 : bits .or .u64 ((v : Nat) : Int) ((b * 2 ^ s : Nat) : Int) = ((v + b * 2 ^ s : Nat) : Int) := by
        rw [orU (by omega) (by omega), or_addP hlm]
      have m1 : IntKind.i64.wrap ((lbit k : Int) * 26) = (lbit k : Int) * 26 := by rw [IntKind.wrap_i64]; omega
      have m2 : IntKind.i64.wrap ((k : Int) - (lbit k : Int) * 26) = (s : Int) := by rw [IntKind.wrap_i64]; omega
      generalize v + b * 2 ^ s = u at hset a2
      have y3 : min s 64 = s := by omega
      generalize b * 2 ^ s = bs at s2 a2 y2
      have l0 : (0 : Int) ≤ ((lbit k : Nat) : Int) := by omega
      have l1 : ((lbit k : Nat) : Int) < 5 := by omega
      generalize lbit k = L at c1 z1 hset hmin hmin2 m1 m2 l0 l1 hL4
      have HF2 : Hid (RowZ (wr.setCell ⟨w.heap.size + 1, L, none⟩ (.int .u64 ((u : Nat) : Int))) (w.heap.size + 1) 52 .u64 (lv (N % 2 ^ (k + 1)))) := by rw [← hset]; exact HF.out.set L _
      have HR2 : Hid (RowZ (wr.setCell ⟨w.heap.size + 1, L, none⟩ (.int .u64 ((u : Nat) : Int))) w.heap.size 52 .u64 z5) := HR.out.other _ (by omega)
      have HB2 : Hid (Below w.heap.size w (wr.setCell ⟨w.heap.size + 1, L, none⟩ (.int .u64 ((u : Nat) : Int)))) := HB.out.setCell (show w.heap.size ≤ w.heap.size + 1 by omega) _
      clear hset hlm hp hbp hs hs31 hyl hbl hb1 HB HR HF hLk
      go_wp2
      go_region
      all_goals
        go_wp2
        go_roundw
        case rel => exact ⟨k + 1, by omega, by go_num, HB2.out.drew, HR2.out.drew, HF2.out.drew⟩
        case measure => simp [intOf]; omega
    · obtain rfl : k = 8 * t.size := by omega
      have hmod : N % 2 ^ (8 * t.size) = N := Nat.mod_eq_of_lt HN.out
      rw [hmod] at HF
      have hbd := lv_bd HN17.out
      have HV : Hid (lval pb (lv N) = (N : Int)) := lv_val N
      have hl5 : (lv N).length = 5 := rfl
      clear hmod
      generalize lv N = X at HF hbd HV hl5
      go_upto_region 9 with fail
      refine wp_region_lit ?_
      refine wpl_load rfl _ _ rfl _ rfl (w.heap.size + 1) (rowL .u64 X) rfl 52 (0, 0) HF.out _ Try.underlying52 rfl (sizePnL hl5) ?_
      try simp only [Act.put, List.getElem_toArray, List.getElem_cons_succ, List.getElem_cons_zero, List.setIfInBounds_toArray, List.set_cons_succ, List.set_cons_zero]
      go_wp2_with fail
      refine Calls.mono (reduced_any X _ hbd) ?_
      rintro e wq ⟨rfl, hb⟩
      rename_i hq
      refine hq _ _ ?_
      clear hq
      try simp only [Act.put, List.getElem_toArray, List.getElem_cons_succ, List.getElem_cons_zero, List.setIfInBounds_toArray, List.set_cons_succ, List.set_cons_zero]
      rw [HV.out]
      have hres := HR.out.next hb
      have hBq := HB.out.trans (hb.mono HB.out.size)
      have hrl : (canonP (N : Int)).length = 5 := canonP_len _
      generalize hr : canonP (N : Int) = r at hrl
      have HRR : Hid (canonP (N : Int) = r) := hr
      clear hr
      refine wpList_store_rowTo rfl _ _ _ rfl rfl (w.heap.size) (rowL .u64 r) rfl rfl 52 (rowL .u64 z5) hres (sizePnL hrl) (by simp only [rowL_size]; exact (rfl : z5.length = 5).trans hrl.symm) (rowL_one _ _) ?_
      try simp only [Act.put, List.getElem_toArray, List.getElem_cons_succ, List.getElem_cons_zero, List.setIfInBounds_toArray, List.set_cons_succ, List.set_cons_zero]
      have hR : (wq.setRow w.heap.size (rowL .u64 r)).heap[w.heap.size]? = some (.cells (rowL .u64 r) 52 (0, 0)) := setRow_heap _ _ _ _ _ _ hres
      have hBB := below_setRow hBq (Nat.le_refl w.heap.size) (rowL .u64 r)
      generalize wq.setRow w.heap.size (rowL .u64 r) = wz at hR hBB ⊢
      go_wp2
      refine bodyPost_ret (results_cell_row rfl _ _ w.heap.size 52 (rowL .u64 r) (0, 0) _ rfl ?_ Try.underlying52 rfl (sizePnL hrl)) rfl ?_
      · exact hR
      · exact ⟨by rw [HRR.out], hBB⟩
end Go.Proofs.Ytopdjfgomclffaa
