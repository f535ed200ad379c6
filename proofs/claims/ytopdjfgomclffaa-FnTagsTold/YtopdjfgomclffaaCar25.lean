/- The program's numbers of a tag (chapter 25): carried. -/
import Derived.Test.YtopdjfgomclffaaCarQ
import Derived.Test.YtopdjfgomclffaaAnd25
import Derived.Test.YtopdjfgomclffaaRowL
import Derived.Test.YtopdjfgomclffaaResC
import Derived.Test.YtopdjfgomclffaaRowTo
import Derived.WalkKit
import Derived.WalkLawsBesides
import Derived.WalkSpells
import Derived.BigRegion
import Derived.Laws.ShiftsVar
import Derived.Below
import Derived.OwnWalk
import Derived.PlainAid
import Derived.Great.Walk
namespace Go.Proofs.Ytopdjfgomclffaa
open Go.RowKit Go.PlainAid
set_option maxRecDepth 20000
set_option linter.unusedVariables false
set_option linter.unusedSimpArgs false
/-- Five times 0. -/
def z5 : List Int := List.replicate 5 0
theorem zeroPn : (#[.int .u64 0, .int .u64 0, .int .u64 0, .int .u64 0, .int .u64 0] : Array Value) = rowL .u64 z5 := rfl
theorem sizePn : (Try.prog.info? 52).map (·.size) = some 5 := by kernel_rfl
theorem sizePnL {l : List Int} (h : l.length = 5) : (Try.prog.info? 52).map (·.size) = some (rowL .u64 l).size := by rw [rowL_size, h]; exact sizePn
set_option maxHeartbeats 1600000 in
theorem carried_any (l : List Int) (w : World) (hl : bdP l) :
    Calls Try.prog 54 #[.agg (rowL .u64 l)] w fun e w' => e = .returned (.agg (rowL .u64 (carP l))) ∧ Below w.heap.size w w' := by
  have HL : Hid (bdP l) := hl
  go_enter Try.func54, Try.ntmps54
  go_wp2
  go_loopw [3, 5] (fun o i wr => ∃ k : Nat, k ≤ 5 ∧ i = .int .i64 (k : Int) ∧ o = .int .u64 (co l k) ∧ Hid (Below w.heap.size w wr) ∧ Hid (RowZ wr w.heap.size 52 .u64 (ck l k)) ∧ (∃ u, Hid (wr.heap[w.heap.size + 1]? = some (.cells u 52 (0, 0)) ∧ u.size = 5)))
    (fun _ i _ => 5 - (intOf i).toNat)
  case atStart =>
    refine ⟨0, Nat.zero_le _, rfl, by rw [(ck_start l).2], ((Below.refl _ _).alloc (Nat.le_refl _) _).alloc (by simp) _, ?_, ⟨rowL .u64 z5, ⟨?_, by rw [rowL_size]; rfl⟩⟩⟩
    · show RowZ _ _ _ _ _
      rw [(ck_start l).1]
      exact (Lib.alloc_old _ _ w.heap.size (by simp)).trans (heap_alloc_new w _)
    · have h := heap_alloc_new (w.alloc (.cells (rowL .u64 l) 52)) (.cells #[.int .u64 0, .int .u64 0, .int .u64 0, .int .u64 0, .int .u64 0] 52)
      rw [← zeroPn]; simpa using h
  case round =>
    obtain ⟨k, hk, rfl, rfl, HB, HR, ⟨u, HU⟩⟩ := hrel
    have hl5 := HL.out.1
    have hcb := co_bd HL.out k hk
    by_cases hlt : k < 5
    · have hi0 : (0 : Int) ≤ (k : Int) := by omega
      have hi1 : (k : Int) < 5 := by omega
      have c1 := HR.out.cell (i := k) (by rw [ck_len hl5 hk]; exact hlt)
      rw [ck_at hl5 hlt] at c1
      have z1 := HR.out.froz k
      have hN := ck_next hl5 hlt
      have hx := bd_at HL.out k
      generalize hy : l.getD k 0 + co l k = y at hN
      have hy0 : 0 ≤ y ∧ y ≤ 2305843009213693952 := by omega
      have hw : IntKind.u64.wrap (l.getD k 0 + co l k) = y := by rw [IntKind.wrap_u64]; omega
      have ha1 := and26u hy0.1
      have HS : Hid _ := (HR.out.set k y).set k (y % 67108864)
      have HB2 : Hid (Below w.heap.size w ((wr.setCell ⟨w.heap.size, k, none⟩ (.int .u64 y)).setCell ⟨w.heap.size, k, none⟩ (.int .u64 (y % 67108864)))) := (HB.out.setCell (Nat.le_refl _) _).setCell (Nat.le_refl _) _
      have HU2 : Hid (((wr.setCell ⟨w.heap.size, k, none⟩ (.int .u64 y)).setCell ⟨w.heap.size, k, none⟩ (.int .u64 (y % 67108864))).heap[w.heap.size + 1]? = some (.cells u 52 (0, 0)) ∧ u.size = 5) :=
        ⟨(Below.heap_setCell _ _ _ _ (by simp)).trans ((Below.heap_setCell _ _ _ _ (by simp)).trans HU.out.1), HU.out.2⟩
      have HN1 : Hid (co l (k + 1) = y / 67108864) := hN.1
      have HN2 : Hid (((ck l k).set k y).set k (y % 67108864) = ck l (k + 1)) := by show _ = _; rw [List.set_set]; exact hN.2
      rw [HN2.out] at HS
      clear hN hy hx hcb
      generalize y % 67108864 = m at ha1 HS HB2 HU2 HN2
      generalize co l k = c at hw
      generalize l.getD k 0 = x at c1 hw
      go_wp2
      go_roundw
      case rel => exact ⟨k + 1, by omega, by go_num, by rw [HN1.out], HB2.out, HS.out, ⟨u, HU2⟩⟩
      case measure => simp [intOf]; omega
    · obtain rfl : k = 5 := by omega
      have hE := ck_end hl5
      have hlen : (lcar pb 0 l).1.length = 5 := lcar_len 0 hl5
      have HE : Hid (addP (5 * (lcar pb 0 l).2) (lcar pb 0 l).1 = carP l) := rfl
      have hh := carP_head HL.out
      have hx0 := lok_le (by decide) (lcar_ok (bs := pb) 0 pb_pos hl5) ((lcar pb 0 l).1.getD 0 0) (by
        rw [List.getD_eq_getElem?_getD, List.getElem?_eq_getElem (by omega)]; exact List.getElem_mem _)
      rw [hE.2] at hcb
      rw [hE.1] at HR
      rw [hE.2]
      have hov : (lcar pb 0 l).2 ≤ 219902325555 := by
        have h1 := head_at hh
        unfold carP at h1
        rw [← addP_set _ hlen] at h1
        rw [List.getD_eq_getElem?_getD, List.getElem?_set_self (by omega)] at h1
        simp only [Option.getD_some] at h1
        omega
      clear hE hh
      generalize (lcar pb 0 l).2 = ov at HE hcb hov ⊢
      generalize (lcar pb 0 l).1 = m at HE hlen HR hx0
      have c1 := HR.out.cell (i := 0) (by omega)
      have z1 := HR.out.froz 0
      have hw1 : IntKind.u64.wrap (5 * ov) = 5 * ov := by rw [IntKind.wrap_u64]; omega
      have hw2 : IntKind.u64.wrap (m.getD 0 0 + 5 * ov) = m.getD 0 0 + 5 * ov := by rw [IntKind.wrap_u64]; omega
      have HR4 : Hid (RowZ (wr.setCell ⟨w.heap.size, 0, none⟩ (.int .u64 (m.getD 0 0 + 5 * ov))) w.heap.size 52 .u64 (carP l)) := by rw [← HE.out, ← addP_set (5 * ov) hlen]; exact HR.out.set 0 _
      have HU4 : Hid ((wr.setCell ⟨w.heap.size, 0, none⟩ (.int .u64 (m.getD 0 0 + 5 * ov))).heap[w.heap.size + 1]? = some (.cells u 52 (0, 0)) ∧ u.size = 5) := ⟨(Below.heap_setCell _ _ _ _ (by simp)).trans HU.out.1, HU.out.2⟩
      have HB4 : Hid (Below w.heap.size w (wr.setCell ⟨w.heap.size, 0, none⟩ (.int .u64 (m.getD 0 0 + 5 * ov)))) := HB.out.setCell (Nat.le_refl _) _
      have hcl : (carP l).length = 5 := carP_len hl5
      clear HE HR HU HB
      generalize m.getD 0 0 = x0 at c1 hw2 hx0 HR4 HU4 HB4
      go_upto_region 10 with fail
      generalize wr.setCell ⟨w.heap.size, 0, none⟩ (.int .u64 (x0 + 5 * ov)) = w4 at HR4 HU4 HB4 ⊢
      clear c1 z1 hw1 hw2
      obtain ⟨r, hr⟩ : ∃ r, carP l = r := ⟨_, rfl⟩
      rw [hr] at HR4 hcl
      have HRR : Hid (carP l = r) := hr
      clear hr
      refine wp_region_lit ?_
      refine wpl_load rfl _ _ rfl _ rfl w.heap.size (rowL .u64 r) rfl 52 (0, 0) HR4.out _ Try.underlying52 rfl (sizePnL hcl) ?_
      try simp only [Act.put, List.getElem_toArray, List.getElem_cons_succ, List.getElem_cons_zero, List.setIfInBounds_toArray, List.set_cons_succ, List.set_cons_zero]
      refine wpList_store_rowTo rfl _ _ _ rfl rfl (w.heap.size + 1) (rowL .u64 r) rfl rfl 52 u HU4.out.1 (sizePnL hcl) (by rw [rowL_size, hcl]; exact HU4.out.2) (rowL_one _ _) ?_
      have hR : (w4.setRow (w.heap.size + 1) (rowL .u64 r)).heap[w.heap.size + 1]? = some (.cells (rowL .u64 r) 52 (0, 0)) := setRow_heap _ _ _ _ _ _ HU4.out.1
      have hBB := below_setRow HB4.out (show w.heap.size ≤ w.heap.size + 1 by omega) (rowL .u64 r)
      generalize w4.setRow (w.heap.size + 1) (rowL .u64 r) = wz at hR hBB ⊢
      go_wp2
      refine bodyPost_ret (results_cell_row rfl _ _ (w.heap.size + 1) 52 (rowL .u64 r) (0, 0) _ rfl ?_ Try.underlying52 rfl (sizePnL hcl)) rfl ?_
      · exact hR
      · exact ⟨by rw [HRR.out], hBB⟩
end Go.Proofs.Ytopdjfgomclffaa
