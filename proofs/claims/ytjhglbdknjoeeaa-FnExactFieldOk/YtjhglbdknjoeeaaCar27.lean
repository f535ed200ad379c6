/- The program's numbers of a curve (chapter 27): carried, reduced. -/
import Derived.Test.YtjhglbdknjoeeaaCarP
import Derived.Test.YtjhglbdknjoeeaaRowL
import Derived.Test.YtjhglbdknjoeeaaResC
import Derived.Test.YtjhglbdknjoeeaaRowTo
import Derived.WalkKit
import Derived.WalkLawsBesides
import Derived.WalkSpells
import Derived.BigRegion
import Derived.Laws.ShiftsVar
import Derived.Lib.Strings
import Derived.Below
import Derived.OwnWalk
import Derived.PlainAid
import Derived.Great.Walk
namespace Go.Proofs.Ytjhglbdknjoeeaa
open Go.RowKit Go.PlainAid
set_option maxRecDepth 20000
set_option linter.unusedVariables false
set_option linter.unusedSimpArgs false
theorem zeroFn : (#[.int .i64 0, .int .i64 0, .int .i64 0, .int .i64 0, .int .i64 0, .int .i64 0, .int .i64 0, .int .i64 0, .int .i64 0, .int .i64 0, .int .i64 0, .int .i64 0, .int .i64 0, .int .i64 0, .int .i64 0, .int .i64 0] : Array Value) = rowL .i64 (List.replicate 16 0) := rfl
theorem sizeFn : (Try.prog.info? 63).map (·.size) = some 16 := by kernel_rfl
theorem sizeFnL {l : List Int} (h : l.length = 16) : (Try.prog.info? 63).map (·.size) = some (rowL .i64 l).size := by rw [rowL_size, h]; exact sizeFn
theorem w64_wrap (x : Int) : IntKind.i64.wrap x = w64 x := by rw [IntKind.wrap_i64]; unfold w64; omega
theorem shrI_run (y : Int) (n : Nat) (hn : n < 64) (w : World) : (Op.shift .shr .i64 y .i64 (n : Int)).run Try.prog w = .ok (.int .i64 (y / 2 ^ n)) w := by
  have h1 : ¬ ((n : Int) < 0) := by omega
  have h2 : min (n : Int).toNat IntKind.i64.bits = n := by show min (n : Int).toNat 64 = n; omega
  simp only [Op.shift, h1, if_false, h2, Sem.run_pure]
  congr 2
  rw [Int.fdiv_eq_ediv_of_nonneg _ (by exact Int.le_of_lt (Int.pow_pos (by decide)))]
theorem shlI_run (y : Int) (n : Nat) (hn : n < 64) (w : World) : (Op.shift .shl .i64 y .i64 (n : Int)).run Try.prog w = .ok (.int .i64 (w64 (y * 2 ^ n))) w := by
  have h1 : ¬ ((n : Int) < 0) := by omega
  have h2 : min (n : Int).toNat IntKind.i64.bits = n := by show min (n : Int).toNat 64 = n; omega
  simp only [Op.shift, h1, if_false, h2, Sem.run_pure, w64_wrap]
theorem bitsOf_any (k : Nat) (w : World) (hk : k < 16) :
    Calls Try.prog 113 #[.int .i64 (k : Int)] w fun e w' => e = .returned (.int .i64 ((fbit k : Nat) : Int)) ∧ w = w' := by
  by_cases h : k = 15
  · subst h
    go_enter Try.func113, Try.ntmps113
    go_wp2
    go_ret
    exact ⟨rfl, rfl⟩
  · have h2 : ¬ (k : Int) = 15 := by omega
    have HE : Hid (((fbit k : Nat) : Int) = 16) := by show _ = _; unfold fbit; rw [if_neg h]; rfl
    go_enter Try.func113, Try.ntmps113
    go_wp2
    go_ret
    exact ⟨by rw [HE.out]; rfl, rfl⟩
set_option maxHeartbeats 1600000 in
theorem carried_any (l : List Int) (w : World) (hl : l.length = 16) :
    Calls Try.prog 106 #[.agg (rowL .i64 l)] w fun e w' => e = .returned (.tuple #[.agg (rowL .i64 (lcw fb 0 l).1), .int .i64 (lcw fb 0 l).2]) ∧ Below w.heap.size w w' := by
  have HL : Hid (l.length = 16) := hl
  go_enter Try.func106, Try.ntmps106
  go_wp2
  go_loopw [4, 6] (fun o i wr => ∃ k : Nat, k ≤ 16 ∧ i = .int .i64 (k : Int) ∧ o = .int .i64 (cwo l k) ∧ Hid (Below w.heap.size w wr) ∧ Hid (RowZ wr w.heap.size 63 .i64 (cwk l k)) ∧ (∃ u, Hid (wr.heap[w.heap.size + 1]? = some (.cells u 63 (0, 0)) ∧ u.size = 16)))
    (fun _ i _ => 16 - (intOf i).toNat)
  case atStart =>
    refine ⟨0, Nat.zero_le _, rfl, by rw [(cw_start l).2], ((Below.refl _ _).alloc (Nat.le_refl _) _).alloc (by simp) _, ?_, ⟨rowL .i64 (List.replicate 16 0), ⟨?_, by rw [rowL_size]; rfl⟩⟩⟩
    · show RowZ _ _ _ _ _
      rw [(cw_start l).1]
      exact (Lib.alloc_old _ _ w.heap.size (by simp)).trans (heap_alloc_new w _)
    · have h := heap_alloc_new (w.alloc (.cells (rowL .i64 l) 63)) (.cells #[.int .i64 0, .int .i64 0, .int .i64 0, .int .i64 0, .int .i64 0, .int .i64 0, .int .i64 0, .int .i64 0, .int .i64 0, .int .i64 0, .int .i64 0, .int .i64 0, .int .i64 0, .int .i64 0, .int .i64 0, .int .i64 0] 63)
      rw [← zeroFn]; simpa using h
  case round =>
    obtain ⟨k, hk, rfl, rfl, HB, HR, ⟨u, HU⟩⟩ := hrel
    by_cases hlt : k < 16
    · have hi0 : (0 : Int) ≤ (k : Int) := by omega
      have hi1 : (k : Int) < 16 := by omega
      have c1 := HR.out.cell (i := k) (by rw [cwk_len hl hk]; exact hlt)
      rw [cwk_at hl hlt] at c1
      have z1 := HR.out.froz k
      have hN := cw_next hl hlt
      have HC : Hid (∀ wz, Calls Try.prog 113 #[.int .i64 (k : Int)] wz fun e w' => e = .returned (.int .i64 ((fbit k : Nat) : Int)) ∧ wz = w') := fun wz => bitsOf_any k wz hlt
      have hfb : fbit k < 64 := by unfold fbit; split <;> omega
      have hfb2 : (2 : Int) ^ fbit k = 32768 ∨ (2 : Int) ^ fbit k = 65536 := by unfold fbit; by_cases h : k = 15; exact .inl (by rw [if_pos h]; rfl); exact .inr (by rw [if_neg h]; rfl)
      generalize hy : w64 (l.getD k 0 + cwo l k) = y at hN
      have hw : IntKind.i64.wrap (l.getD k 0 + cwo l k) = y := by rw [w64_wrap, hy]
      have hy1 : -9223372036854775808 ≤ y := by rw [← hy]; exact w64_lo _
      have hy2 : y < 9223372036854775808 := by rw [← hy]; exact w64_hi _
      have hs1 := shrI_run y (fbit k) hfb
      have hs2 := shlI_run (y / 2 ^ fbit k) (fbit k) hfb
      have hw2 : w64 (y / 2 ^ fbit k * 2 ^ fbit k) = y / 2 ^ fbit k * 2 ^ fbit k := w64_id (by rcases hfb2 with h | h <;> rw [h] <;> omega) (by rcases hfb2 with h | h <;> rw [h] <;> omega)
      rw [hw2] at hs2
      have hw3 : IntKind.i64.wrap (y - y / 2 ^ fbit k * 2 ^ fbit k) = y % 2 ^ fbit k := by
        rw [w64_wrap, w64_id] <;> rcases hfb2 with h | h <;> rw [h] <;> omega
      have HS : Hid _ := (HR.out.set k y).set k (y % 2 ^ fbit k)
      have HB2 : Hid (Below w.heap.size w ((wr.setCell ⟨w.heap.size, k, none⟩ (.int .i64 y)).setCell ⟨w.heap.size, k, none⟩ (.int .i64 (y % 2 ^ fbit k)))) := (HB.out.setCell (Nat.le_refl _) _).setCell (Nat.le_refl _) _
      have HU2 : Hid (((wr.setCell ⟨w.heap.size, k, none⟩ (.int .i64 y)).setCell ⟨w.heap.size, k, none⟩ (.int .i64 (y % 2 ^ fbit k))).heap[w.heap.size + 1]? = some (.cells u 63 (0, 0)) ∧ u.size = 16) :=
        ⟨(Below.heap_setCell _ _ _ _ (by simp)).trans ((Below.heap_setCell _ _ _ _ (by simp)).trans HU.out.1), HU.out.2⟩
      have HN1 : Hid (cwo l (k + 1) = y / 2 ^ fbit k) := hN.1
      have HN2 : Hid (((cwk l k).set k y).set k (y % 2 ^ fbit k) = cwk l (k + 1)) := by show _ = _; rw [List.set_set]; exact hN.2
      rw [HN2.out] at HS
      clear hfb2 hw2 hN hy hy1 hy2
      generalize y % 2 ^ fbit k = m at hw3 HS HB2 HU2 HN2
      generalize y / 2 ^ fbit k * 2 ^ fbit k = q2 at hs2 hw3
      generalize y / 2 ^ fbit k = q at hs1 hs2 HN1
      generalize cwo l k = c at hw
      generalize l.getD k 0 = x at c1 hw
      generalize ((fbit k : Nat) : Int) = fbk at HC hs1 hs2
      go_wp2
      go_region_with (go_at_call 113; refine Calls.mono (HC.out _) ?_; rintro e wq ⟨rfl, rfl⟩)
      all_goals
        go_wp2
        go_region_with (go_at_call 113; refine Calls.mono (HC.out _) ?_; rintro e wq ⟨rfl, rfl⟩)
        all_goals
          go_wp2
          go_roundw
          case rel => exact ⟨k + 1, by omega, by go_num, by rw [HN1.out], HB2.out.drew.drew, RowZ.drew (RowZ.drew HS.out), ⟨u, HU2⟩⟩
          case measure => simp [intOf]; omega
    · obtain rfl : k = 16 := by omega
      have hE := cw_end hl
      have hlen : (lcw fb 0 l).1.length = 16 := lcw_len 0 hl
      obtain ⟨ov, ho⟩ : ∃ ov, (lcw fb 0 l).2 = ov := ⟨_, rfl⟩
      obtain ⟨m, hm⟩ : ∃ m, (lcw fb 0 l).1 = m := ⟨_, rfl⟩
      rw [hE.1, hm] at HR
      rw [hE.2, ho]
      rw [hm] at hlen
      have HE : Hid ((lcw fb 0 l).1 = m ∧ (lcw fb 0 l).2 = ov) := ⟨hm, ho⟩
      clear hE HL hm ho
      go_upto_region 9 with fail
      refine wp_region_lit ?_
      refine wpl_load rfl _ _ rfl _ rfl w.heap.size (rowL .i64 m) rfl 63 (0, 0) HR.out _ Try.underlying63 rfl (sizeFnL hlen) ?_
      try simp only [Act.put, List.getElem_toArray, List.getElem_cons_succ, List.getElem_cons_zero, List.setIfInBounds_toArray, List.set_cons_succ, List.set_cons_zero]
      refine wpl_move rfl _ rfl _ _ rfl rfl ?_
      try simp only [Act.put, List.getElem_toArray, List.getElem_cons_succ, List.getElem_cons_zero, List.setIfInBounds_toArray, List.set_cons_succ, List.set_cons_zero]
      refine wpList_store_rowTo rfl _ _ _ rfl rfl (w.heap.size + 1) (rowL .i64 m) rfl rfl 63 u HU.out.1 (sizeFnL hlen) (by rw [rowL_size, hlen]; exact HU.out.2) (rowL_one _ _) ?_
      have hR : (wr.setRow (w.heap.size + 1) (rowL .i64 m)).heap[w.heap.size + 1]? = some (.cells (rowL .i64 m) 63 (0, 0)) := setRow_heap _ _ _ _ _ _ HU.out.1
      have hBB := below_setRow HB.out (show w.heap.size ≤ w.heap.size + 1 by omega) (rowL .i64 m)
      generalize wr.setRow (w.heap.size + 1) (rowL .i64 m) = wz at hR hBB ⊢
      go_wp2
      refine bodyPost_ret (res_ct rfl _ _ (w.heap.size + 1) 63 (rowL .i64 m) (0, 0) _ rfl hR Try.underlying63 rfl (sizeFnL hlen)) rfl ?_
      exact ⟨by rw [HE.out.1, HE.out.2]; rfl, hBB⟩
end Go.Proofs.Ytjhglbdknjoeeaa
