/- The program's numbers of a tag (chapter 25): reduced. -/
import Derived.Test.YtopdjfgomclffaaCar25
import Derived.Test.YtopdjfgomclffaaArrU
import Derived.Deep.RegionHeld
import Derived.Laws.Cover3
import Derived.OrdersHeld
import Derived.WalkKit
import Derived.WalkLawsBesides
import Derived.WalkSpells
import Derived.BigRegion
import Derived.Laws.ShiftsVar
import Derived.Below
import Derived.OwnWalk
import Derived.PlainAid
import Derived.Great.Walk
namespace Go.Proofs.Ytopdjfgomclffaa
open Go.RowKit Go.PlainAid
set_option maxRecDepth 20000
set_option linter.unusedVariables false
set_option linter.unusedSimpArgs false
/-- The limbs that a row of cells holds. -/
def cellsOf (o : Option Obj) : List Int := match o with
  | some (.cells cs _ _) => cs.toList.map intOf
  | _ => []
theorem cellsOf_row {w : World} {g : Nat} {t : TypeId} {k : IntKind} {l : List Int} (h : RowZ w g t k l) : cellsOf w.heap[g]? = l := by
  unfold RowZ at h
  rw [h]
  simp only [cellsOf, rowL, List.map_map]
  rw [show (intOf ∘ Value.int k) = id from rfl, List.map_id]
/-- The block that a pointer points into. -/
def blockOf (v : Value) : Nat := match v with
  | .pointer (some a) => a.block
  | _ => 0
theorem wp_load_row {P : Program} {o : Oper} {a : Act} {w : World} {K : Act → World → Prop} {Q : Exit → Act → World → Prop} (ty : TypeId) (x : Operand) (ho : o.op = .load ty x) (d : Option Tmp) (hd : o.dst = d) (g : Nat) (cells : Array Value) (hx : a.eval x = .pointer (some ⟨g, 0, none⟩))
    (t : TypeId) (fr : Nat × Nat) (hg : w.heap[g]? = some (.cells cells t fr)) (du : TypeDesc) (hu : P.underlying ty = some du) (hs : (match du with | .struct _ | .array _ _ => true | _ => false) = true) (hi : (P.info? ty).map (·.size) = some cells.size)
    (h : K (a.put d (.agg cells)) w) : o.wp P a w K Q := by
  subst hd
  unfold Oper.wp execOp
  simp only [ho, hx, Instr.loadAt, Instr.sureAddr, Sem.run_bind, Sem.run_pure, Result.andThen_ok, run_loadVar_row w g t ty cells fr du hg hu hs hi]
  exact h
theorem z5_bd : bdP z5 := ⟨rfl, by decide⟩
set_option maxHeartbeats 3200000 in
theorem reduced_any (l : List Int) (w : World) (hl : bdP l) :
    Calls Try.prog 46 #[.agg (rowL .u64 l)] w fun e w' => e = .returned (.agg (rowL .u64 (canonP (lval pb l)))) ∧ Below w.heap.size w w' := by
  have HL : Hid (bdP l) := hl
  have hl5 := hl.1
  have HC : Hid (∀ (m : List Int) (wz : World), bdP m → Calls Try.prog 54 #[.agg (rowL .u64 m)] wz fun e w' => e = .returned (.agg (rowL .u64 (carP m))) ∧ Below wz.heap.size wz w') := fun m wz h => carried_any m wz h
  go_enter Try.func46, Try.ntmps46
  go_upto_region 1 with fail
  have hA1 : ((w.alloc (.cells (rowL .u64 l) 52)).alloc (.cells (rowL .u64 z5) 52)).heap[w.heap.size + 1]? = some (.cells (rowL .u64 z5) 52 (0, 0)) := by
    have := heap_alloc_new (w.alloc (.cells (rowL .u64 l) 52)) (.cells (rowL .u64 z5) 52)
    simpa using this
  have hA0 : ((w.alloc (.cells (rowL .u64 l) 52)).alloc (.cells (rowL .u64 z5) 52)).heap[w.heap.size]? = some (.cells (rowL .u64 l) 52 (0, 0)) := (Lib.alloc_old _ _ _ (by simp)).trans (heap_alloc_new w _)
  have hB0 : Below w.heap.size w ((w.alloc (.cells (rowL .u64 l) 52)).alloc (.cells (rowL .u64 z5) 52)) := ((Below.refl _ _).alloc (Nat.le_refl _) _).alloc (by simp) _
  rw [← zeroPn] at hA1 hA0 hB0
  generalize ((w.alloc (.cells (rowL .u64 l) 52)).alloc (.cells #[.int .u64 0, .int .u64 0, .int .u64 0, .int .u64 0, .int .u64 0] 52)) = w0 at hA1 hA0 hB0 ⊢
  rw [zeroPn] at hA1
  have hs0 : w.heap.size + 1 < w0.heap.size := (Array.getElem?_eq_some_iff.1 hA1).1
  refine wp_region_lit ?_
  refine Go.Great.wpList_runTo rfl _ rfl (.agg (rowL .u64 z5)) w0 (by rw [← zeroPn]; unfold execOp; go_simp) ?_
  try simp only [Act.put, List.getElem_toArray, List.getElem_cons_succ, List.getElem_cons_zero, List.setIfInBounds_toArray, List.set_cons_succ, List.set_cons_zero]
  refine Go.Great.wpList_allocTo rfl _ rfl (.pointer (some ⟨w0.heap.size, 0, none⟩)) (.cells (rowL .u64 z5) 52) (by rw [← zeroPn]; unfold execOp; go_simp) ?_
  try simp only [Act.put, List.getElem_toArray, List.getElem_cons_succ, List.getElem_cons_zero, List.setIfInBounds_toArray, List.set_cons_succ, List.set_cons_zero]
  have hN := heap_alloc_new w0 (.cells (rowL .u64 z5) 52)
  refine wpList_store_rowTo rfl _ _ _ rfl rfl (w0.heap.size) (rowL .u64 z5) rfl rfl 52 (rowL .u64 z5) hN (sizePnL (rfl : z5.length = 5)) (by first | rfl | (simp only [rowL_size]; exact ((rfl : z5.length = 5)).trans ((rfl : z5.length = 5)).symm)) (rowL_one _ _) ?_
  try simp only [Act.put, List.getElem_toArray, List.getElem_cons_succ, List.getElem_cons_zero, List.setIfInBounds_toArray, List.set_cons_succ, List.set_cons_zero]
  have HG1 : Hid (RowZ ((w0.alloc (.cells (rowL .u64 z5) 52)).setRow w0.heap.size (rowL .u64 z5)) w0.heap.size 52 .u64 z5) := setRow_heap _ _ _ _ _ _ hN
  have HF1 : Hid (RowZ ((w0.alloc (.cells (rowL .u64 z5) 52)).setRow w0.heap.size (rowL .u64 z5)) w.heap.size 52 .u64 l) := (setRow_other _ _ _ _ (by omega)).trans ((Lib.alloc_old _ _ _ (by omega)).trans hA0)
  have HU1 : Hid (RowZ ((w0.alloc (.cells (rowL .u64 z5) 52)).setRow w0.heap.size (rowL .u64 z5)) (w.heap.size + 1) 52 .u64 z5) := (setRow_other _ _ _ _ (by omega)).trans ((Lib.alloc_old _ _ _ (by omega)).trans hA1)
  have HB1 : Hid (Below w.heap.size w ((w0.alloc (.cells (rowL .u64 z5) 52)).setRow w0.heap.size (rowL .u64 z5))) := below_setRow (hB0.alloc hB0.size _) hB0.size _
  generalize ((w0.alloc (.cells (rowL .u64 z5) 52)).setRow w0.heap.size (rowL .u64 z5)) = w1 at HG1 HF1 HU1 HB1 ⊢
  generalize w0.heap.size = g0 at hs0 HG1 ⊢
  clear hN hA0 hA1 hB0
  go_wp2
  go_loopw [3] (fun p wr => ∃ (g : Nat) (last f : List Int), p = .pointer (some ⟨g, 0, none⟩) ∧ w.heap.size + 1 < g ∧ Hid (Below w.heap.size w wr) ∧ Hid (RowZ wr w.heap.size 52 .u64 f) ∧ Hid (RowZ wr (w.heap.size + 1) 52 .u64 z5) ∧ Hid (RowZ wr g 52 .u64 last) ∧ bdP f ∧ last.length = 5 ∧ Hid (lval pb f % pp = lval pb l % pp) ∧ Hid (last = f → lok pb f))
    (fun p wr => mesP (cellsOf wr.heap[blockOf p]?) (cellsOf wr.heap[w.heap.size]?))
  case atStart => exact ⟨g0, z5, l, rfl, hs0, HB1, HF1, HU1, HG1, hl, rfl, rfl, fun e => by rw [← e]; exact ⟨by decide, by decide, by decide, by decide, by decide, by decide, by decide, by decide, by decide, by decide, trivial⟩⟩
  case round =>
    clear HB1 HF1 HU1 HG1 hs0
    obtain ⟨g, last, f, rfl, hg, HB, HF, HU, HG, hf, hlast, HM, HK⟩ := hrel
    have hfl : f.length = 5 := hf.1
    have hD1 : cellsOf wr.heap[w.heap.size]? = f := cellsOf_row HF.out
    have hD2 : cellsOf wr.heap[g]? = last := cellsOf_row HG.out
    by_cases hlf : last = f
    · have hok : lok pb f := HK.out hlf
      have HCN : Hid (canonP (lval pb f) = canonP (lval pb l)) := canonP_mod HM.out
      go_upto_region 2 with fail
      refine wp_region_lit ?_
      refine wpl_load rfl _ _ rfl _ rfl g (rowL .u64 last) rfl 52 (0, 0) HG.out _ Try.underlying52 rfl (sizePnL hlast) ?_
      try simp only [Act.put, List.getElem_toArray, List.getElem_cons_succ, List.getElem_cons_zero, List.setIfInBounds_toArray, List.set_cons_succ, List.set_cons_zero]
      refine wpl_load rfl _ _ rfl _ rfl w.heap.size (rowL .u64 f) rfl 52 (0, 0) HF.out _ Try.underlying52 rfl (sizePnL hfl) ?_
      try simp only [Act.put, List.getElem_toArray, List.getElem_cons_succ, List.getElem_cons_zero, List.setIfInBounds_toArray, List.set_cons_succ, List.set_cons_zero]
      refine Go.Great.wpList_runTo rfl _ rfl (.bool false) wr (by refine (exec_neq _ _ _ rfl last f hlast hfl rfl rfl wr).trans ?_; rw [decide_eq_true hlf]; rfl) ?_
      try simp only [Act.put, List.getElem_toArray, List.getElem_cons_succ, List.getElem_cons_zero, List.setIfInBounds_toArray, List.set_cons_succ, List.set_cons_zero]
      clear hlf hlast hD1 hD2 HG HK HM
      go_upto_region 6 with fail
      refine wp_region_lit ?_
      refine wpl_load rfl _ _ rfl _ rfl w.heap.size (rowL .u64 f) rfl 52 (0, 0) HF.out _ Try.underlying52 rfl (sizePnL hfl) ?_
      try simp only [Act.put, List.getElem_toArray, List.getElem_cons_succ, List.getElem_cons_zero, List.setIfInBounds_toArray, List.set_cons_succ, List.set_cons_zero]
      refine Go.Great.wpList_allocTo rfl _ rfl (.pointer (some ⟨wr.heap.size, 0, none⟩)) (.cells (rowL .u64 z5) 52) (by rw [← zeroPn]; unfold execOp; go_simp) ?_
      try simp only [Act.put, List.getElem_toArray, List.getElem_cons_succ, List.getElem_cons_zero, List.setIfInBounds_toArray, List.set_cons_succ, List.set_cons_zero]
      have hN := heap_alloc_new wr (.cells (rowL .u64 z5) 52)
      refine wpList_store_rowTo rfl _ _ _ rfl rfl (wr.heap.size) (rowL .u64 f) rfl rfl 52 (rowL .u64 z5) hN (sizePnL hfl) (by first | rfl | (simp only [rowL_size]; exact ((rfl : z5.length = 5)).trans (hfl).symm)) (rowL_one _ _) ?_
      try simp only [Act.put, List.getElem_toArray, List.getElem_cons_succ, List.getElem_cons_zero, List.setIfInBounds_toArray, List.set_cons_succ, List.set_cons_zero]
      have hgs : w.heap.size + 1 < wr.heap.size := HU.out.lt
      have HX2 : Hid (RowZ ((wr.alloc (.cells (rowL .u64 z5) 52)).setRow wr.heap.size (rowL .u64 f)) wr.heap.size 52 .u64 f) := setRow_heap _ _ _ _ _ _ hN
      have HF2 : Hid (RowZ ((wr.alloc (.cells (rowL .u64 z5) 52)).setRow wr.heap.size (rowL .u64 f)) w.heap.size 52 .u64 f) := (setRow_other _ _ _ _ (by omega)).trans ((Lib.alloc_old _ _ _ (by omega)).trans HF.out)
      have HU2 : Hid (RowZ ((wr.alloc (.cells (rowL .u64 z5) 52)).setRow wr.heap.size (rowL .u64 f)) (w.heap.size + 1) 52 .u64 z5) := (setRow_other _ _ _ _ (by omega)).trans ((Lib.alloc_old _ _ _ (by omega)).trans HU.out)
      have HB2 : Hid (Below w.heap.size w ((wr.alloc (.cells (rowL .u64 z5) 52)).setRow wr.heap.size (rowL .u64 f))) := below_setRow (HB.out.alloc HB.out.size _) HB.out.size _
      generalize ((wr.alloc (.cells (rowL .u64 z5) 52)).setRow wr.heap.size (rowL .u64 f)) = w2 at HX2 HF2 HU2 HB2 ⊢
      generalize wr.heap.size = g2 at hgs HX2 ⊢
      clear hN HB HF HU
      have c1 := HX2.out.cell (i := 0) (by omega)
      have z1 := HX2.out.froz 0
      have hf0 := bd_at hf 0
      have hw : IntKind.u64.wrap (f.getD 0 0 + 5) = f.getD 0 0 + 5 := by rw [IntKind.wrap_u64]; omega
      have HX3 : Hid (RowZ (w2.setCell ⟨g2, 0, none⟩ (.int .u64 (f.getD 0 0 + 5))) g2 52 .u64 (addP 5 f)) := by rw [← addP_set 5 hfl]; exact HX2.out.set 0 _
      have HF3 : Hid (RowZ (w2.setCell ⟨g2, 0, none⟩ (.int .u64 (f.getD 0 0 + 5))) w.heap.size 52 .u64 f) := HF2.out.other _ (by omega)
      have HU3 : Hid (RowZ (w2.setCell ⟨g2, 0, none⟩ (.int .u64 (f.getD 0 0 + 5))) (w.heap.size + 1) 52 .u64 z5) := HU2.out.other _ (by omega)
      have HB3 : Hid (Below w.heap.size w (w2.setCell ⟨g2, 0, none⟩ (.int .u64 (f.getD 0 0 + 5)))) := HB2.out.setCell (show w.heap.size ≤ g2 by omega) _
      clear HX2 HF2 HU2 HB2
      have hfb : ∀ x ∈ f, 0 ≤ x ∧ x < 67108864 := lok_le (by decide) hok
      generalize hx0 : f.getD 0 0 = x0 at c1 hw hf0 HX3 HF3 HU3 HB3
      go_upto_region 8 with fail
      generalize w2.setCell ⟨g2, 0, none⟩ (.int .u64 (x0 + 5)) = w3 at HX3 HF3 HU3 HB3 ⊢
      clear c1 z1 hw
      have HQB : Hid (bdP (addP 5 f)) := by
        refine ⟨by rw [addP_len, hfl], ?_⟩
        obtain ⟨a, b, c, d, e, rfl⟩ := five hfl
        intro x hx
        rcases List.mem_cons.1 hx with rfl | hx
        · have := hfb a (by simp); omega
        · have := hfb x (List.mem_cons_of_mem _ hx); omega
      clear hf0 hx0
      have HYES : Hid ((lcar pb 0 (addP 5 f)).2 ≠ 0 → (lcar pb 0 (addP 5 f)).1 = canonP (lval pb f)) := fun h => finP_yes hok h
      have HNO : Hid ((lcar pb 0 (addP 5 f)).2 = 0 → f = canonP (lval pb f)) := fun h => finP_no hok h
      clear hfb
      generalize addP 5 f = m at HX3 HQB HYES HNO
      go_wp2
      go_loopw [21] (fun i wr => ∃ k : Nat, k ≤ 4 ∧ i = .int .i64 (k : Int) ∧ Hid (Below w.heap.size w wr) ∧ Hid (RowZ wr w.heap.size 52 .u64 f) ∧ Hid (RowZ wr (w.heap.size + 1) 52 .u64 z5) ∧ Hid (RowZ wr g2 52 .u64 (sk m k)))
        (fun i _ => 4 - (intOf i).toNat)
      case atStart => exact ⟨0, Nat.zero_le _, rfl, HB3, HF3, HU3, by rw [sk_start HQB.out.1]; exact HX3⟩
      case round =>
        clear HB3 HF3 HU3 HX3
        obtain ⟨k, hk, rfl, HB, HF, HU, HX⟩ := hrel
        have hm5 : m.length = 5 := HQB.out.1
        by_cases hlt : k < 4
        · have c1 := HX.out.cell (i := k) (by rw [sk_len hm5 (by omega)]; omega)
          have c2 := HX.out.cell (i := k + 1) (by rw [sk_len hm5 (by omega)]; omega)
          rw [sk_after hm5 (by omega)] at c2
          have z1 := HX.out.froz k
          have z2 := HX.out.froz (k + 1)
          have hb := sk_bd HQB.out (show k < 5 by omega)
          have hx := bd_at HQB.out (k + 1)
          generalize hy : (sk m k).getD k 0 = y at c1 hb
          have hn := sk_next2 hm5 hlt y hy
          have hi0 : (0 : Int) ≤ (k : Int) := by omega
          have hi1 : (k : Int) < 5 := by omega
          have hw1 : IntKind.i64.wrap ((k : Int) + 1) = ((k + 1 : Nat) : Int) := by rw [IntKind.wrap_i64]; omega
          have hi2 : (0 : Int) ≤ ((k + 1 : Nat) : Int) := by omega
          have hi3 : ((k + 1 : Nat) : Int) < 5 := by omega
          have ht : (((k + 1 : Nat) : Int)).toNat = k + 1 := by omega
          have ha1 := and26u hb.1
          generalize hX : m.getD (k + 1) 0 = x at c2 hn hx
          have hw2 : IntKind.u64.wrap (x + y / 67108864) = x + y / 67108864 := by rw [IntKind.wrap_u64]; omega
          have HS : Hid (RowZ ((wr.setCell ⟨g2, k + 1, none⟩ (.int .u64 (x + y / 67108864))).setCell ⟨g2, k, none⟩ (.int .u64 (y % 67108864))) g2 52 .u64 (sk m (k + 1))) := by rw [← hn]; exact (HX.out.set (k + 1) (x + y / 67108864)).set k (y % 67108864)
          have HB2 : Hid (Below w.heap.size w ((wr.setCell ⟨g2, k + 1, none⟩ (.int .u64 (x + y / 67108864))).setCell ⟨g2, k, none⟩ (.int .u64 (y % 67108864)))) := (HB.out.setCell (show w.heap.size ≤ g2 by omega) _).setCell (show w.heap.size ≤ g2 by omega) _
          have HF2 : Hid (RowZ ((wr.setCell ⟨g2, k + 1, none⟩ (.int .u64 (x + y / 67108864))).setCell ⟨g2, k, none⟩ (.int .u64 (y % 67108864))) w.heap.size 52 .u64 f) := (HF.out.other _ (by omega)).other _ (by omega)
          have HU2 : Hid (RowZ ((wr.setCell ⟨g2, k + 1, none⟩ (.int .u64 (x + y / 67108864))).setCell ⟨g2, k, none⟩ (.int .u64 (y % 67108864))) (w.heap.size + 1) 52 .u64 z5) := (HU.out.other _ (by omega)).other _ (by omega)
          clear hy hn hX hx hb
          go_wp2
          go_region
          all_goals
            go_wp2
            go_roundw
            case rel => exact ⟨k + 1, by omega, by go_num, HB2.out.drew, HF2.out.drew, HU2.out.drew, HS.out.drew⟩
            case measure => simp [intOf]; omega
        · obtain rfl : k = 4 := by omega
          have c1 := HX.out.cell (i := 4) (by rw [sk_len hm5 (by omega)]; omega)
          have z1 := HX.out.froz 4
          have hb := sk_bd HQB.out (show 4 < 5 by omega)
          generalize hy : (sk m 4).getD 4 0 = y at c1 hb
          have he := sk_end hm5 y hy
          have ha1 := and26u hb.1
          clear hy
          by_cases hov : y / 67108864 = 0
          · have HG : Hid (f = canonP (lval pb l)) := (HNO.out (by rw [← he.2]; exact hov)).trans HCN.out
            clear HYES HNO he ha1 HX
            go_upto_region 15 with fail
            refine wp_region_lit ?_
            refine wpl_load rfl _ _ rfl _ rfl w.heap.size (rowL .u64 f) rfl 52 (0, 0) HF.out _ Try.underlying52 rfl (sizePnL hfl) ?_
            try simp only [Act.put, List.getElem_toArray, List.getElem_cons_succ, List.getElem_cons_zero, List.setIfInBounds_toArray, List.set_cons_succ, List.set_cons_zero]
            refine wpList_store_rowTo rfl _ _ _ rfl rfl (w.heap.size + 1) (rowL .u64 f) rfl rfl 52 (rowL .u64 z5) HU.out (sizePnL hfl) (by first | rfl | (simp only [rowL_size]; exact ((rfl : z5.length = 5)).trans (hfl).symm)) (rowL_one _ _) ?_
            try simp only [Act.put, List.getElem_toArray, List.getElem_cons_succ, List.getElem_cons_zero, List.setIfInBounds_toArray, List.set_cons_succ, List.set_cons_zero]
            have hR : (wr.setRow (w.heap.size + 1) (rowL .u64 f)).heap[w.heap.size + 1]? = some (.cells (rowL .u64 f) 52 (0, 0)) := setRow_heap _ _ _ _ _ _ HU.out
            have hBB := below_setRow HB.out (show w.heap.size ≤ w.heap.size + 1 by omega) (rowL .u64 f)
            generalize wr.setRow (w.heap.size + 1) (rowL .u64 f) = wz at hR hBB ⊢
            go_wp2
            refine bodyPost_ret (results_cell_row rfl _ _ (w.heap.size + 1) 52 (rowL .u64 f) (0, 0) _ rfl ?_ Try.underlying52 rfl (sizePnL hfl)) rfl ?_
            · exact hR
            · exact ⟨by rw [← HG.out], hBB⟩
          · have HG : Hid ((lcar pb 0 m).1 = canonP (lval pb l)) := (HYES.out (by rw [← he.2]; exact hov)).trans HCN.out
            have hlen : (lcar pb 0 m).1.length = 5 := lcar_len 0 hm5
            have HX5 : Hid (RowZ (wr.setCell ⟨g2, 4, none⟩ (.int .u64 (y % 67108864))) g2 52 .u64 (lcar pb 0 m).1) := by rw [← he.1]; exact HX.out.set 4 _
            have HU5 : Hid (RowZ (wr.setCell ⟨g2, 4, none⟩ (.int .u64 (y % 67108864))) (w.heap.size + 1) 52 .u64 z5) := HU.out.other _ (by omega)
            have HB5 : Hid (Below w.heap.size w (wr.setCell ⟨g2, 4, none⟩ (.int .u64 (y % 67108864)))) := HB.out.setCell (show w.heap.size ≤ g2 by omega) _
            clear HYES HNO he HX HU HB
            generalize (lcar pb 0 m).1 = r at HG hlen HX5
            go_upto_region 17 with fail
            generalize (wr.setCell ⟨g2, 4, none⟩ (.int .u64 (y % 67108864))) = w5 at HX5 HU5 HB5 ⊢
            refine wp_region_lit ?_
            refine wpl_load rfl _ _ rfl _ rfl g2 (rowL .u64 r) rfl 52 (0, 0) HX5.out _ Try.underlying52 rfl (sizePnL hlen) ?_
            try simp only [Act.put, List.getElem_toArray, List.getElem_cons_succ, List.getElem_cons_zero, List.setIfInBounds_toArray, List.set_cons_succ, List.set_cons_zero]
            refine wpList_store_rowTo rfl _ _ _ rfl rfl (w.heap.size + 1) (rowL .u64 r) rfl rfl 52 (rowL .u64 z5) HU5.out (sizePnL hlen) (by first | rfl | (simp only [rowL_size]; exact ((rfl : z5.length = 5)).trans (hlen).symm)) (rowL_one _ _) ?_
            try simp only [Act.put, List.getElem_toArray, List.getElem_cons_succ, List.getElem_cons_zero, List.setIfInBounds_toArray, List.set_cons_succ, List.set_cons_zero]
            have HU := HU5
            have HB := HB5
            have hR : (w5.setRow (w.heap.size + 1) (rowL .u64 r)).heap[w.heap.size + 1]? = some (.cells (rowL .u64 r) 52 (0, 0)) := setRow_heap _ _ _ _ _ _ HU.out
            have hBB := below_setRow HB.out (show w.heap.size ≤ w.heap.size + 1 by omega) (rowL .u64 r)
            generalize w5.setRow (w.heap.size + 1) (rowL .u64 r) = wz at hR hBB ⊢
            go_wp2
            refine bodyPost_ret (results_cell_row rfl _ _ (w.heap.size + 1) 52 (rowL .u64 r) (0, 0) _ rfl ?_ Try.underlying52 rfl (sizePnL hlen)) rfl ?_
            · exact hR
            · exact ⟨by rw [← HG.out], hBB⟩
    · have hms := mesP_less hf hlf
      have HLF : Hid (last ≠ f) := hlf
      have HMS : Hid (mesP f (carP f) < mesP last f) := hms
      have HM2 : Hid (lval pb (carP f) % pp = lval pb l % pp) := (carP_mod hfl).trans HM.out
      have HK2 : Hid (f = carP f → lok pb (carP f)) := fun e => by rw [← e]; exact carP_fix hf e.symm
      have hb2 := carP_bd hf
      have hl2 : (carP f).length = 5 := hb2.1
      clear hms HM HK hlf
      go_upto_region 2 with fail
      refine wp_region_lit ?_
      refine wpl_load rfl _ _ rfl _ rfl g (rowL .u64 last) rfl 52 (0, 0) HG.out _ Try.underlying52 rfl (sizePnL hlast) ?_
      try simp only [Act.put, List.getElem_toArray, List.getElem_cons_succ, List.getElem_cons_zero, List.setIfInBounds_toArray, List.set_cons_succ, List.set_cons_zero]
      refine wpl_load rfl _ _ rfl _ rfl w.heap.size (rowL .u64 f) rfl 52 (0, 0) HF.out _ Try.underlying52 rfl (sizePnL hfl) ?_
      try simp only [Act.put, List.getElem_toArray, List.getElem_cons_succ, List.getElem_cons_zero, List.setIfInBounds_toArray, List.set_cons_succ, List.set_cons_zero]
      refine Go.Great.wpList_runTo rfl _ rfl (.bool true) wr (by refine (exec_neq _ _ _ rfl last f hlast hfl rfl rfl wr).trans ?_; rw [decide_eq_false HLF.out]; rfl) ?_
      try simp only [Act.put, List.getElem_toArray, List.getElem_cons_succ, List.getElem_cons_zero, List.setIfInBounds_toArray, List.set_cons_succ, List.set_cons_zero]
      go_upto_region 3 with fail
      refine _root_.Go.wp_region_held (S := fun _ => True) (by kernel_rfl) ?_
      have HF0 : Hid (RowZ wr.drew w.heap.size 52 .u64 f) := HF.out.drew
      have HG0 : Hid (RowZ wr.drew g 52 .u64 last) := HG.out.drew
      have HU0 : Hid (RowZ wr.drew (w.heap.size + 1) 52 .u64 z5) := HU.out.drew
      have HB0 : Hid (Below w.heap.size w wr.drew) := HB.out.drew
      clear HF HG HU HB
      show wpAnyH _ _ _ _ _ _ _ _ wr.drew
      generalize wr.drew = v0 at HF0 HG0 HU0 HB0 ⊢
      refine wpAnyH_ready (rs := [0, 1]) (by kernel_rfl) (by simp) ?_
      refine AllReadyH.cons rfl (fun K hK => ?_) (AllReadyH.cons rfl (fun K hK => ?_) AllReadyH.nil)
      · refine ite_yes (by rfl) ?_
        refine wp_load_row _ _ rfl _ rfl w.heap.size (rowL .u64 f) rfl 52 (0, 0) HF0.out _ Try.underlying52 rfl (sizePnL hfl) ?_
        refine hK.out _ _ trivial (fun _ => ?_)
        clear hK K
        try simp only [Act.put, List.getElem_toArray, List.getElem_cons_succ, List.getElem_cons_zero, List.setIfInBounds_toArray, List.set_cons_succ, List.set_cons_zero]
        refine wpAnyH_ready (rs := [1]) (by kernel_rfl) (by simp) ?_
        refine AllReadyH.cons rfl (fun K hK => ?_) AllReadyH.nil
        refine ite_yes (by rfl) ?_
        refine wp_load_row _ _ rfl _ rfl w.heap.size (rowL .u64 f) rfl 52 (0, 0) HF0.out _ Try.underlying52 rfl (sizePnL hfl) ?_
        refine hK.out _ _ trivial (fun _ => ?_)
        clear hK K
        try simp only [Act.put, List.getElem_toArray, List.getElem_cons_succ, List.getElem_cons_zero, List.setIfInBounds_toArray, List.set_cons_succ, List.set_cons_zero]
        refine wpAnyH_ready (rs := [2]) (by kernel_rfl) (by simp) ?_
        refine AllReadyH.cons rfl (fun K hK => ?_) AllReadyH.nil
        go_simp
        refine Calls.mono (HC.out f _ hf) ?_
        rintro e v1 ⟨rfl, hb⟩
        replace HF0 : Hid (RowZ v1 w.heap.size 52 .u64 f) := HF0.out.next hb
        replace HG0 : Hid (RowZ v1 g 52 .u64 last) := HG0.out.next hb
        replace HU0 : Hid (RowZ v1 (w.heap.size + 1) 52 .u64 z5) := HU0.out.next hb
        replace HB0 : Hid (Below w.heap.size w v1) := HB0.out.trans (hb.mono HB0.out.size)
        clear hb
        refine hK.out _ _ trivial (fun _ => ?_)
        clear hK K
        try simp only [Act.put, List.getElem_toArray, List.getElem_cons_succ, List.getElem_cons_zero, List.setIfInBounds_toArray, List.set_cons_succ, List.set_cons_zero]
        refine wpAnyH_ready (rs := [3]) (by kernel_rfl) (by simp) ?_
        refine AllReadyH.cons rfl (fun K hK => ?_) AllReadyH.nil
        refine ite_yes (by rfl) ?_
        refine wp_store_row _ _ _ rfl g (rowL .u64 f) rfl rfl 52 (rowL .u64 last) HG0.out (sizePnL hfl) (by simp only [rowL_size]; exact hlast.trans hfl.symm) (rowL_one _ _) ?_
        refine hK.out _ _ trivial (fun _ => ?_)
        clear hK K
        try simp only [Act.put, List.getElem_toArray, List.getElem_cons_succ, List.getElem_cons_zero, List.setIfInBounds_toArray, List.set_cons_succ, List.set_cons_zero]
        have hF3 : RowZ (v1.setRow g (rowL .u64 f)) w.heap.size 52 .u64 f := (setRow_other _ _ _ _ (by omega)).trans HF0.out
        refine wpAnyH_ready (rs := [4]) (by kernel_rfl) (by simp) ?_
        refine AllReadyH.cons rfl (fun K hK => ?_) AllReadyH.nil
        refine ite_yes (by rfl) ?_
        refine wp_store_row _ _ _ rfl w.heap.size (rowL .u64 (carP f)) rfl rfl 52 (rowL .u64 f) hF3 (sizePnL hl2) (by simp only [rowL_size]; exact hfl.trans hl2.symm) (rowL_one _ _) ?_
        refine hK.out _ _ trivial (fun _ => ?_)
        clear hK K
        try simp only [Act.put, List.getElem_toArray, List.getElem_cons_succ, List.getElem_cons_zero, List.setIfInBounds_toArray, List.set_cons_succ, List.set_cons_zero]
        refine wpAnyH_done (by kernel_rfl) ?_ _
        have HF4 : Hid (RowZ ((v1.setRow g (rowL .u64 f)).setRow w.heap.size (rowL .u64 (carP f))) w.heap.size 52 .u64 (carP f)) := setRow_heap _ _ _ _ _ _ hF3
        have HG4 : Hid (RowZ ((v1.setRow g (rowL .u64 f)).setRow w.heap.size (rowL .u64 (carP f))) g 52 .u64 f) := (setRow_other _ _ _ _ (by omega)).trans (setRow_heap _ _ _ _ _ _ HG0.out)
        have HU4 : Hid (RowZ ((v1.setRow g (rowL .u64 f)).setRow w.heap.size (rowL .u64 (carP f))) (w.heap.size + 1) 52 .u64 z5) := (setRow_other _ _ _ _ (by omega)).trans ((setRow_other _ _ _ _ (by omega)).trans HU0.out)
        have HB4 : Hid (Below w.heap.size w ((v1.setRow g (rowL .u64 f)).setRow w.heap.size (rowL .u64 (carP f)))) := below_setRow (below_setRow HB0.out (by omega) _) (Nat.le_refl _) _
        clear hF3 HF0 HG0 HU0 HB0
        generalize ((v1.setRow g (rowL .u64 f)).setRow w.heap.size (rowL .u64 (carP f))) = v4 at HF4 HG4 HU4 HB4 ⊢
        go_upto_region 4 with fail
        refine wp_region_lit ?_
        refine wpl_load rfl _ _ rfl _ rfl g (rowL .u64 f) rfl 52 (0, 0) HG4.out _ Try.underlying52 rfl (sizePnL hfl) ?_
        try simp only [Act.put, List.getElem_toArray, List.getElem_cons_succ, List.getElem_cons_zero, List.setIfInBounds_toArray, List.set_cons_succ, List.set_cons_zero]
        go_upto_region 5 with fail
        refine wp_region_lit ?_
        refine Go.Great.wpList_allocTo rfl _ rfl (.pointer (some ⟨v4.heap.size, 0, none⟩)) (.cells (rowL .u64 z5) 52) (by rw [← zeroPn]; unfold execOp; go_simp) ?_
        try simp only [Act.put, List.getElem_toArray, List.getElem_cons_succ, List.getElem_cons_zero, List.setIfInBounds_toArray, List.set_cons_succ, List.set_cons_zero]
        have hN := heap_alloc_new v4 (.cells (rowL .u64 z5) 52)
        refine wpList_store_rowTo rfl _ _ _ rfl rfl (v4.heap.size) (rowL .u64 f) rfl rfl 52 (rowL .u64 z5) hN (sizePnL hfl) (by first | rfl | (simp only [rowL_size]; exact ((rfl : z5.length = 5)).trans (hfl).symm)) (rowL_one _ _) ?_
        try simp only [Act.put, List.getElem_toArray, List.getElem_cons_succ, List.getElem_cons_zero, List.setIfInBounds_toArray, List.set_cons_succ, List.set_cons_zero]
        have hgs : w.heap.size + 1 < v4.heap.size := HU4.out.lt
        have HG5 : Hid (RowZ ((v4.alloc (.cells (rowL .u64 z5) 52)).setRow v4.heap.size (rowL .u64 f)) v4.heap.size 52 .u64 f) := setRow_heap _ _ _ _ _ _ hN
        have HF5 : Hid (RowZ ((v4.alloc (.cells (rowL .u64 z5) 52)).setRow v4.heap.size (rowL .u64 f)) w.heap.size 52 .u64 (carP f)) := (setRow_other _ _ _ _ (by omega)).trans ((Lib.alloc_old _ _ _ (by omega)).trans HF4.out)
        have HU5 : Hid (RowZ ((v4.alloc (.cells (rowL .u64 z5) 52)).setRow v4.heap.size (rowL .u64 f)) (w.heap.size + 1) 52 .u64 z5) := (setRow_other _ _ _ _ (by omega)).trans ((Lib.alloc_old _ _ _ (by omega)).trans HU4.out)
        have HB5 : Hid (Below w.heap.size w ((v4.alloc (.cells (rowL .u64 z5) 52)).setRow v4.heap.size (rowL .u64 f))) := below_setRow (HB4.out.alloc HB4.out.size _) HB4.out.size _
        generalize ((v4.alloc (.cells (rowL .u64 z5) 52)).setRow v4.heap.size (rowL .u64 f)) = v5 at HG5 HF5 HU5 HB5 ⊢
        generalize v4.heap.size = g5 at hgs HG5 ⊢
        clear hN HF4 HG4 HU4 HB4
        go_wp2
        go_roundw
        case rel => exact ⟨g5, f, carP f, rfl, hgs, HB5, HF5, HU5, HG5, hb2, hfl, HM2, HK2⟩
        case measure =>
          rw [hD1, cellsOf_row HF5.out]
          show mesP (cellsOf v5.heap[g5]?) _ < mesP (cellsOf wr.heap[g]?) _
          rw [hD2, cellsOf_row HG5.out]
          exact HMS.out
      · refine ite_yes (by rfl) ?_
        refine wp_load_row _ _ rfl _ rfl w.heap.size (rowL .u64 f) rfl 52 (0, 0) HF0.out _ Try.underlying52 rfl (sizePnL hfl) ?_
        refine hK.out _ _ trivial (fun _ => ?_)
        clear hK K
        try simp only [Act.put, List.getElem_toArray, List.getElem_cons_succ, List.getElem_cons_zero, List.setIfInBounds_toArray, List.set_cons_succ, List.set_cons_zero]
        refine wpAnyH_ready (rs := [0, 2]) (by kernel_rfl) (by simp) ?_
        refine AllReadyH.cons rfl (fun K hK => ?_) (AllReadyH.cons rfl (fun K hK => ?_) AllReadyH.nil)
        · refine ite_yes (by rfl) ?_
          refine wp_load_row _ _ rfl _ rfl w.heap.size (rowL .u64 f) rfl 52 (0, 0) HF0.out _ Try.underlying52 rfl (sizePnL hfl) ?_
          refine hK.out _ _ trivial (fun _ => ?_)
          clear hK K
          try simp only [Act.put, List.getElem_toArray, List.getElem_cons_succ, List.getElem_cons_zero, List.setIfInBounds_toArray, List.set_cons_succ, List.set_cons_zero]
          refine wpAnyH_ready (rs := [2]) (by kernel_rfl) (by simp) ?_
          refine AllReadyH.cons rfl (fun K hK => ?_) AllReadyH.nil
          go_simp
          refine Calls.mono (HC.out f _ hf) ?_
          rintro e v1 ⟨rfl, hb⟩
          replace HF0 : Hid (RowZ v1 w.heap.size 52 .u64 f) := HF0.out.next hb
          replace HG0 : Hid (RowZ v1 g 52 .u64 last) := HG0.out.next hb
          replace HU0 : Hid (RowZ v1 (w.heap.size + 1) 52 .u64 z5) := HU0.out.next hb
          replace HB0 : Hid (Below w.heap.size w v1) := HB0.out.trans (hb.mono HB0.out.size)
          clear hb
          refine hK.out _ _ trivial (fun _ => ?_)
          clear hK K
          try simp only [Act.put, List.getElem_toArray, List.getElem_cons_succ, List.getElem_cons_zero, List.setIfInBounds_toArray, List.set_cons_succ, List.set_cons_zero]
          refine wpAnyH_ready (rs := [3]) (by kernel_rfl) (by simp) ?_
          refine AllReadyH.cons rfl (fun K hK => ?_) AllReadyH.nil
          refine ite_yes (by rfl) ?_
          refine wp_store_row _ _ _ rfl g (rowL .u64 f) rfl rfl 52 (rowL .u64 last) HG0.out (sizePnL hfl) (by simp only [rowL_size]; exact hlast.trans hfl.symm) (rowL_one _ _) ?_
          refine hK.out _ _ trivial (fun _ => ?_)
          clear hK K
          try simp only [Act.put, List.getElem_toArray, List.getElem_cons_succ, List.getElem_cons_zero, List.setIfInBounds_toArray, List.set_cons_succ, List.set_cons_zero]
          have hF3 : RowZ (v1.setRow g (rowL .u64 f)) w.heap.size 52 .u64 f := (setRow_other _ _ _ _ (by omega)).trans HF0.out
          refine wpAnyH_ready (rs := [4]) (by kernel_rfl) (by simp) ?_
          refine AllReadyH.cons rfl (fun K hK => ?_) AllReadyH.nil
          refine ite_yes (by rfl) ?_
          refine wp_store_row _ _ _ rfl w.heap.size (rowL .u64 (carP f)) rfl rfl 52 (rowL .u64 f) hF3 (sizePnL hl2) (by simp only [rowL_size]; exact hfl.trans hl2.symm) (rowL_one _ _) ?_
          refine hK.out _ _ trivial (fun _ => ?_)
          clear hK K
          try simp only [Act.put, List.getElem_toArray, List.getElem_cons_succ, List.getElem_cons_zero, List.setIfInBounds_toArray, List.set_cons_succ, List.set_cons_zero]
          refine wpAnyH_done (by kernel_rfl) ?_ _
          have HF4 : Hid (RowZ ((v1.setRow g (rowL .u64 f)).setRow w.heap.size (rowL .u64 (carP f))) w.heap.size 52 .u64 (carP f)) := setRow_heap _ _ _ _ _ _ hF3
          have HG4 : Hid (RowZ ((v1.setRow g (rowL .u64 f)).setRow w.heap.size (rowL .u64 (carP f))) g 52 .u64 f) := (setRow_other _ _ _ _ (by omega)).trans (setRow_heap _ _ _ _ _ _ HG0.out)
          have HU4 : Hid (RowZ ((v1.setRow g (rowL .u64 f)).setRow w.heap.size (rowL .u64 (carP f))) (w.heap.size + 1) 52 .u64 z5) := (setRow_other _ _ _ _ (by omega)).trans ((setRow_other _ _ _ _ (by omega)).trans HU0.out)
          have HB4 : Hid (Below w.heap.size w ((v1.setRow g (rowL .u64 f)).setRow w.heap.size (rowL .u64 (carP f)))) := below_setRow (below_setRow HB0.out (by omega) _) (Nat.le_refl _) _
          clear hF3 HF0 HG0 HU0 HB0
          generalize ((v1.setRow g (rowL .u64 f)).setRow w.heap.size (rowL .u64 (carP f))) = v4 at HF4 HG4 HU4 HB4 ⊢
          go_upto_region 4 with fail
          refine wp_region_lit ?_
          refine wpl_load rfl _ _ rfl _ rfl g (rowL .u64 f) rfl 52 (0, 0) HG4.out _ Try.underlying52 rfl (sizePnL hfl) ?_
          try simp only [Act.put, List.getElem_toArray, List.getElem_cons_succ, List.getElem_cons_zero, List.setIfInBounds_toArray, List.set_cons_succ, List.set_cons_zero]
          go_upto_region 5 with fail
          refine wp_region_lit ?_
          refine Go.Great.wpList_allocTo rfl _ rfl (.pointer (some ⟨v4.heap.size, 0, none⟩)) (.cells (rowL .u64 z5) 52) (by rw [← zeroPn]; unfold execOp; go_simp) ?_
          try simp only [Act.put, List.getElem_toArray, List.getElem_cons_succ, List.getElem_cons_zero, List.setIfInBounds_toArray, List.set_cons_succ, List.set_cons_zero]
          have hN := heap_alloc_new v4 (.cells (rowL .u64 z5) 52)
          refine wpList_store_rowTo rfl _ _ _ rfl rfl (v4.heap.size) (rowL .u64 f) rfl rfl 52 (rowL .u64 z5) hN (sizePnL hfl) (by first | rfl | (simp only [rowL_size]; exact ((rfl : z5.length = 5)).trans (hfl).symm)) (rowL_one _ _) ?_
          try simp only [Act.put, List.getElem_toArray, List.getElem_cons_succ, List.getElem_cons_zero, List.setIfInBounds_toArray, List.set_cons_succ, List.set_cons_zero]
          have hgs : w.heap.size + 1 < v4.heap.size := HU4.out.lt
          have HG5 : Hid (RowZ ((v4.alloc (.cells (rowL .u64 z5) 52)).setRow v4.heap.size (rowL .u64 f)) v4.heap.size 52 .u64 f) := setRow_heap _ _ _ _ _ _ hN
          have HF5 : Hid (RowZ ((v4.alloc (.cells (rowL .u64 z5) 52)).setRow v4.heap.size (rowL .u64 f)) w.heap.size 52 .u64 (carP f)) := (setRow_other _ _ _ _ (by omega)).trans ((Lib.alloc_old _ _ _ (by omega)).trans HF4.out)
          have HU5 : Hid (RowZ ((v4.alloc (.cells (rowL .u64 z5) 52)).setRow v4.heap.size (rowL .u64 f)) (w.heap.size + 1) 52 .u64 z5) := (setRow_other _ _ _ _ (by omega)).trans ((Lib.alloc_old _ _ _ (by omega)).trans HU4.out)
          have HB5 : Hid (Below w.heap.size w ((v4.alloc (.cells (rowL .u64 z5) 52)).setRow v4.heap.size (rowL .u64 f))) := below_setRow (HB4.out.alloc HB4.out.size _) HB4.out.size _
          generalize ((v4.alloc (.cells (rowL .u64 z5) 52)).setRow v4.heap.size (rowL .u64 f)) = v5 at HG5 HF5 HU5 HB5 ⊢
          generalize v4.heap.size = g5 at hgs HG5 ⊢
          clear hN HF4 HG4 HU4 HB4
          go_wp2
          go_roundw
          case rel => exact ⟨g5, f, carP f, rfl, hgs, HB5, HF5, HU5, HG5, hb2, hfl, HM2, HK2⟩
          case measure =>
            rw [hD1, cellsOf_row HF5.out]
            show mesP (cellsOf v5.heap[g5]?) _ < mesP (cellsOf wr.heap[g]?) _
            rw [hD2, cellsOf_row HG5.out]
            exact HMS.out
        · go_simp
          refine Calls.mono (HC.out f _ hf) ?_
          rintro e v1 ⟨rfl, hb⟩
          replace HF0 : Hid (RowZ v1 w.heap.size 52 .u64 f) := HF0.out.next hb
          replace HG0 : Hid (RowZ v1 g 52 .u64 last) := HG0.out.next hb
          replace HU0 : Hid (RowZ v1 (w.heap.size + 1) 52 .u64 z5) := HU0.out.next hb
          replace HB0 : Hid (Below w.heap.size w v1) := HB0.out.trans (hb.mono HB0.out.size)
          clear hb
          refine hK.out _ _ trivial (fun _ => ?_)
          clear hK K
          try simp only [Act.put, List.getElem_toArray, List.getElem_cons_succ, List.getElem_cons_zero, List.setIfInBounds_toArray, List.set_cons_succ, List.set_cons_zero]
          refine wpAnyH_ready (rs := [0]) (by kernel_rfl) (by simp) ?_
          refine AllReadyH.cons rfl (fun K hK => ?_) AllReadyH.nil
          refine ite_yes (by rfl) ?_
          refine wp_load_row _ _ rfl _ rfl w.heap.size (rowL .u64 f) rfl 52 (0, 0) HF0.out _ Try.underlying52 rfl (sizePnL hfl) ?_
          refine hK.out _ _ trivial (fun _ => ?_)
          clear hK K
          try simp only [Act.put, List.getElem_toArray, List.getElem_cons_succ, List.getElem_cons_zero, List.setIfInBounds_toArray, List.set_cons_succ, List.set_cons_zero]
          refine wpAnyH_ready (rs := [3]) (by kernel_rfl) (by simp) ?_
          refine AllReadyH.cons rfl (fun K hK => ?_) AllReadyH.nil
          refine ite_yes (by rfl) ?_
          refine wp_store_row _ _ _ rfl g (rowL .u64 f) rfl rfl 52 (rowL .u64 last) HG0.out (sizePnL hfl) (by simp only [rowL_size]; exact hlast.trans hfl.symm) (rowL_one _ _) ?_
          refine hK.out _ _ trivial (fun _ => ?_)
          clear hK K
          try simp only [Act.put, List.getElem_toArray, List.getElem_cons_succ, List.getElem_cons_zero, List.setIfInBounds_toArray, List.set_cons_succ, List.set_cons_zero]
          have hF3 : RowZ (v1.setRow g (rowL .u64 f)) w.heap.size 52 .u64 f := (setRow_other _ _ _ _ (by omega)).trans HF0.out
          refine wpAnyH_ready (rs := [4]) (by kernel_rfl) (by simp) ?_
          refine AllReadyH.cons rfl (fun K hK => ?_) AllReadyH.nil
          refine ite_yes (by rfl) ?_
          refine wp_store_row _ _ _ rfl w.heap.size (rowL .u64 (carP f)) rfl rfl 52 (rowL .u64 f) hF3 (sizePnL hl2) (by simp only [rowL_size]; exact hfl.trans hl2.symm) (rowL_one _ _) ?_
          refine hK.out _ _ trivial (fun _ => ?_)
          clear hK K
          try simp only [Act.put, List.getElem_toArray, List.getElem_cons_succ, List.getElem_cons_zero, List.setIfInBounds_toArray, List.set_cons_succ, List.set_cons_zero]
          refine wpAnyH_done (by kernel_rfl) ?_ _
          have HF4 : Hid (RowZ ((v1.setRow g (rowL .u64 f)).setRow w.heap.size (rowL .u64 (carP f))) w.heap.size 52 .u64 (carP f)) := setRow_heap _ _ _ _ _ _ hF3
          have HG4 : Hid (RowZ ((v1.setRow g (rowL .u64 f)).setRow w.heap.size (rowL .u64 (carP f))) g 52 .u64 f) := (setRow_other _ _ _ _ (by omega)).trans (setRow_heap _ _ _ _ _ _ HG0.out)
          have HU4 : Hid (RowZ ((v1.setRow g (rowL .u64 f)).setRow w.heap.size (rowL .u64 (carP f))) (w.heap.size + 1) 52 .u64 z5) := (setRow_other _ _ _ _ (by omega)).trans ((setRow_other _ _ _ _ (by omega)).trans HU0.out)
          have HB4 : Hid (Below w.heap.size w ((v1.setRow g (rowL .u64 f)).setRow w.heap.size (rowL .u64 (carP f)))) := below_setRow (below_setRow HB0.out (by omega) _) (Nat.le_refl _) _
          clear hF3 HF0 HG0 HU0 HB0
          generalize ((v1.setRow g (rowL .u64 f)).setRow w.heap.size (rowL .u64 (carP f))) = v4 at HF4 HG4 HU4 HB4 ⊢
          go_upto_region 4 with fail
          refine wp_region_lit ?_
          refine wpl_load rfl _ _ rfl _ rfl g (rowL .u64 f) rfl 52 (0, 0) HG4.out _ Try.underlying52 rfl (sizePnL hfl) ?_
          try simp only [Act.put, List.getElem_toArray, List.getElem_cons_succ, List.getElem_cons_zero, List.setIfInBounds_toArray, List.set_cons_succ, List.set_cons_zero]
          go_upto_region 5 with fail
          refine wp_region_lit ?_
          refine Go.Great.wpList_allocTo rfl _ rfl (.pointer (some ⟨v4.heap.size, 0, none⟩)) (.cells (rowL .u64 z5) 52) (by rw [← zeroPn]; unfold execOp; go_simp) ?_
          try simp only [Act.put, List.getElem_toArray, List.getElem_cons_succ, List.getElem_cons_zero, List.setIfInBounds_toArray, List.set_cons_succ, List.set_cons_zero]
          have hN := heap_alloc_new v4 (.cells (rowL .u64 z5) 52)
          refine wpList_store_rowTo rfl _ _ _ rfl rfl (v4.heap.size) (rowL .u64 f) rfl rfl 52 (rowL .u64 z5) hN (sizePnL hfl) (by first | rfl | (simp only [rowL_size]; exact ((rfl : z5.length = 5)).trans (hfl).symm)) (rowL_one _ _) ?_
          try simp only [Act.put, List.getElem_toArray, List.getElem_cons_succ, List.getElem_cons_zero, List.setIfInBounds_toArray, List.set_cons_succ, List.set_cons_zero]
          have hgs : w.heap.size + 1 < v4.heap.size := HU4.out.lt
          have HG5 : Hid (RowZ ((v4.alloc (.cells (rowL .u64 z5) 52)).setRow v4.heap.size (rowL .u64 f)) v4.heap.size 52 .u64 f) := setRow_heap _ _ _ _ _ _ hN
          have HF5 : Hid (RowZ ((v4.alloc (.cells (rowL .u64 z5) 52)).setRow v4.heap.size (rowL .u64 f)) w.heap.size 52 .u64 (carP f)) := (setRow_other _ _ _ _ (by omega)).trans ((Lib.alloc_old _ _ _ (by omega)).trans HF4.out)
          have HU5 : Hid (RowZ ((v4.alloc (.cells (rowL .u64 z5) 52)).setRow v4.heap.size (rowL .u64 f)) (w.heap.size + 1) 52 .u64 z5) := (setRow_other _ _ _ _ (by omega)).trans ((Lib.alloc_old _ _ _ (by omega)).trans HU4.out)
          have HB5 : Hid (Below w.heap.size w ((v4.alloc (.cells (rowL .u64 z5) 52)).setRow v4.heap.size (rowL .u64 f))) := below_setRow (HB4.out.alloc HB4.out.size _) HB4.out.size _
          generalize ((v4.alloc (.cells (rowL .u64 z5) 52)).setRow v4.heap.size (rowL .u64 f)) = v5 at HG5 HF5 HU5 HB5 ⊢
          generalize v4.heap.size = g5 at hgs HG5 ⊢
          clear hN HF4 HG4 HU4 HB4
          go_wp2
          go_roundw
          case rel => exact ⟨g5, f, carP f, rfl, hgs, HB5, HF5, HU5, HG5, hb2, hfl, HM2, HK2⟩
          case measure =>
            rw [hD1, cellsOf_row HF5.out]
            show mesP (cellsOf v5.heap[g5]?) _ < mesP (cellsOf wr.heap[g]?) _
            rw [hD2, cellsOf_row HG5.out]
            exact HMS.out
end Go.Proofs.Ytopdjfgomclffaa
