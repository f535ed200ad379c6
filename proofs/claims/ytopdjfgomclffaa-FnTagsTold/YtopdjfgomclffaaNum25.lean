/- The program's numbers of a tag (chapter 25): numberOf. -/
import Derived.Test.YtopdjfgomclffaaRed25
import Derived.Test.YtopdjfgomclffaaLawI
import Derived.OrdersHeld
import Derived.Deep.RegionHeld
import Derived.Deep.RegionHeld3
import Derived.Deep.MidRow
import Derived.Laws.Cover3
import Derived.WalkKit
import Derived.WalkLawsBesides
import Derived.WalkSpells
import Derived.BigRegion
import Derived.Laws.ShiftsVar
import Derived.Below
import Derived.OwnWalk
import Derived.PlainAid
import Derived.Great.Walk
namespace Go.Proofs.Ytopdjfgomclffaa
open Go.RowKit Go.PlainAid
set_option maxRecDepth 20000
set_option linter.unusedVariables false
set_option linter.unusedSimpArgs false
/-- Is a list a number of limbs, each of 26 bits, below the modulus? -/
def okP (l : List Int) : Bool := l.length == 5 && (l.all fun x => decide (0 ≤ x ∧ x ≤ 67108863)) && !abP l
theorem lok_all {l : List Int} (hl : l.length = 5) (h : ∀ x ∈ l, 0 ≤ x ∧ x ≤ 67108863) : lok pb l := by
  obtain ⟨a, b, c, d, e, rfl⟩ := five hl
  have ha := h a (by simp); have hb := h b (by simp); have hc := h c (by simp); have hd := h d (by simp); have he := h e (by simp)
  exact ⟨ha.1, by omega, hb.1, by omega, hc.1, by omega, hd.1, by omega, he.1, by omega, trivial⟩
theorem okP_len {l : List Int} (h : okP l = true) : l.length = 5 := by
  unfold okP at h
  simp only [Bool.and_eq_true, beq_iff_eq] at h
  exact h.1.1
theorem okP_lok {l : List Int} (h : okP l = true) : lok pb l := by
  have hl := okP_len h
  unfold okP at h
  simp only [Bool.and_eq_true, List.all_eq_true, decide_eq_true_eq] at h
  exact lok_all hl h.1.2
theorem okP_is {l : List Int} (h : okP l = true) : canonP (lval pb l) = l := by
  have hk := okP_lok h
  unfold okP at h
  simp only [Bool.and_eq_true, Bool.not_eq_true'] at h
  exact abP_no hk h.2
theorem okP_red {l : List Int} (hl : l.length = 5) (h : ∀ x ∈ l, 0 ≤ x ∧ x ≤ 67108863) : decide (l = canonP (lval pb l)) = okP l := by
  have hk := lok_all hl h
  have e : okP l = !abP l := by
    unfold okP
    rw [hl, show (l.all fun x => decide (0 ≤ x ∧ x ≤ 67108863)) = true from List.all_eq_true.2 (fun x hx => decide_eq_true (h x hx))]
    simp
  rw [e]
  cases hb : abP l with
  | false => rw [abP_no hk hb]; simp
  | true =>
    have h1 := canonP_val (lval pb l)
    have h2 := Int.emod_lt_of_pos (lval pb l) (show 0 < pp by decide)
    have h3 := abP_is hk
    rw [hb] at h3
    have h4 := of_decide_eq_true h3.symm
    refine decide_eq_false (fun e => ?_)
    rw [← e] at h1
    omega
theorem okP_bad {l : List Int} {k : Nat} (hk : k < l.length) (h : ¬ (0 ≤ l.getD k 0 ∧ l.getD k 0 ≤ 67108863)) : okP l = false := by
  cases e : okP l with
  | false => rfl
  | true =>
    unfold okP at e
    simp only [Bool.and_eq_true, List.all_eq_true, decide_eq_true_eq] at e
    exact absurd (e.1.2 (l.getD k 0) (by rw [List.getD_eq_getElem?_getD, List.getElem?_eq_getElem hk]; exact List.getElem_mem _)) h
/-- The first k places done, the others 0. -/
def fillP (z : List Int) (k : Nat) : List Int := z.take k ++ List.replicate (5 - k) 0
theorem fillP_all {z : List Int} (h : z.length = 5) : fillP z 5 = z := by
  unfold fillP
  rw [List.take_of_length_le (by omega)]; simp
theorem fillP_len {z : List Int} (h : z.length = 5) {k : Nat} (hk : k ≤ 5) : (fillP z k).length = 5 := by
  unfold fillP
  rw [List.length_append, List.length_take, List.length_replicate]; omega
theorem fillP_next {z : List Int} (h : z.length = 5) {k : Nat} (hk : k < 5) : (fillP z k).set k (z.getD k 0) = fillP z (k + 1) := by
  unfold fillP
  have ht : (z.take k).length = k := by rw [List.length_take]; omega
  rw [show 5 - k = (5 - (k + 1)) + 1 by omega, List.replicate_succ, List.set_append_right _ _ (by rw [ht]; omega), ht, Nat.sub_self, take_snocP (by omega)]
  simp
theorem rangePn {w : World} {g : Nat} {l : List Int} (h : RowZ w g 52 .u64 l) : w.rangeAt g 0 (l.map (Value.int .u64)) := by
  intro j v hv
  rcases Nat.lt_or_ge j l.length with hj | hj
  · rw [List.getElem?_map, List.getElem?_eq_getElem hj] at hv
    rw [Nat.zero_add, h.cell hj, List.getD_eq_getElem?_getD, List.getElem?_eq_getElem hj]
    exact hv
  · rw [List.getElem?_eq_none (by simpa using hj)] at hv; cases hv
set_option maxHeartbeats 3200000 in
theorem number_any (a : Option Addr) (cap : Nat) (l : List Int) (w : World) (hr : RowI w.heap.size w a l) :
    Calls Try.prog 34 #[.agg #[.slice a l.length cap]] w fun e w' => ∃ m, e = .returned (.tuple #[.agg (rowL .u64 m), .bool (okP l)]) ∧ m.length = 5 ∧ (okP l = true → m = l) ∧ Below w.heap.size w w' := by
  have hA1 : ((w.alloc (.cells #[.slice a l.length cap] 26)).alloc (.cells (rowL .u64 z5) 52)).heap[w.heap.size + 1]? = some (.cells (rowL .u64 z5) 52 (0, 0)) := by
    have := heap_alloc_new (w.alloc (.cells #[.slice a l.length cap] 26)) (.cells (rowL .u64 z5) 52)
    simpa using this
  have hA0 : ((w.alloc (.cells #[.slice a l.length cap] 26)).alloc (.cells (rowL .u64 z5) 52)).heap[w.heap.size]? = some (.cells #[.slice a l.length cap] 26 (0, 0)) := (Lib.alloc_old _ _ _ (by simp)).trans (heap_alloc_new w _)
  have hB0 : Below w.heap.size w ((w.alloc (.cells #[.slice a l.length cap] 26)).alloc (.cells (rowL .u64 z5) 52)) := ((Below.refl _ _).alloc (Nat.le_refl _) _).alloc (by simp) _
  by_cases hl : l.length = 5
  · obtain ⟨b, off, rfl⟩ := hr.addr (show 0 < l.length by omega)
    have HR : Hid (RowI w.heap.size w (some ⟨b, off, none⟩) l) := hr
    have HRD : Hid (∀ wz : World, bdP l → Calls Try.prog 46 #[.agg (rowL .u64 l)] wz fun e w' => e = .returned (.agg (rowL .u64 (canonP (lval pb l)))) ∧ Below wz.heap.size wz w') := fun wz h => reduced_any l wz h
    clear hr
    rw [hl] at hA0 hA1 hB0 ⊢
    go_enter Try.func34, Try.ntmps34
    go_upto_region 1 with fail
    rw [← zeroPn] at hA1 hA0 hB0
    generalize (w.alloc (.cells #[.slice (some ⟨b, off, none⟩) 5 cap] 26)).alloc (.cells #[.int .u64 0, .int .u64 0, .int .u64 0, .int .u64 0, .int .u64 0] 52) = w0 at hA1 hA0 hB0 ⊢
    rw [zeroPn] at hA1
    have hs0 : w.heap.size + 1 < w0.heap.size := (Array.getElem?_eq_some_iff.1 hA1).1
    have cA : w0.cell? ⟨w.heap.size, 0, none⟩ = some (.slice (some ⟨b, off, none⟩) 5 cap) := by rw [cell_of_row _ w.heap.size 0 _ _ _ hA0]; rfl
    go_upto_region 4 with fail
    have HN : Hid (RowZ (w0.alloc (.cells #[.int .u64 0, .int .u64 0, .int .u64 0, .int .u64 0, .int .u64 0] 52)) w0.heap.size 52 .u64 z5) := heap_alloc_new w0 _
    have HU : Hid (RowZ (w0.alloc (.cells #[.int .u64 0, .int .u64 0, .int .u64 0, .int .u64 0, .int .u64 0] 52)) (w.heap.size + 1) 52 .u64 z5) := (Lib.alloc_old _ _ _ (by omega)).trans hA1
    have HB : Hid (Below w.heap.size w (w0.alloc (.cells #[.int .u64 0, .int .u64 0, .int .u64 0, .int .u64 0, .int .u64 0] 52))) := hB0.alloc hB0.size _
    have cA1 : (w0.alloc (.cells #[.int .u64 0, .int .u64 0, .int .u64 0, .int .u64 0, .int .u64 0] 52)).cell? ⟨w.heap.size, 0, none⟩ = some (.slice (some ⟨b, off, none⟩) 5 cap) := by
      rw [World.cell?_alloc_some]
      · exact cA
      · rw [cA]; rfl
    generalize w0.alloc (.cells #[.int .u64 0, .int .u64 0, .int .u64 0, .int .u64 0, .int .u64 0] 52) = w1 at HN HU HB cA1 ⊢
    generalize w0.heap.size = g4 at hs0 HN ⊢
    clear hA0 hA1 hB0 cA
    go_wp2
    go_loopw [15] (fun i wr => ∃ k : Nat, k ≤ 5 ∧ i = .int .i64 (k : Int) ∧ Hid (Below w.heap.size w wr) ∧ Hid (RowZ wr (w.heap.size + 1) 52 .u64 z5) ∧ Hid (RowZ wr g4 52 .u64 (fillP l k)) ∧ Hid (∀ j, j < k → 0 ≤ l.getD j 0 ∧ l.getD j 0 ≤ 67108863))
      (fun i _ => 5 - (intOf i).toNat)
    case atStart => exact ⟨0, Nat.zero_le _, rfl, HB, HU, HN, fun j hj => by omega⟩
    case round =>
      clear HB HU HN cA1
      obtain ⟨k, hk, rfl, HB, HU, HN, HK⟩ := hrel
      by_cases hlt : k < 5
      · have hi0 : (0 : Int) ≤ (k : Int) := by omega
        have hi1 : (k : Int) < 5 := by omega
        have c1 := (HR.out.at HB.out (show k < l.length by omega)).2
        have c2 := HN.out.cell (i := k) (by rw [fillP_len hl hk]; omega)
        have z2 := HN.out.froz k
        obtain ⟨x, hx⟩ : ∃ x, l.getD k 0 = x := ⟨_, rfl⟩
        rw [hx] at c1
        by_cases hgood : 0 ≤ x ∧ x ≤ 67108863
        · have q1 : ¬ x < 0 := by omega
          have q2 : ¬ (67108863 : Int) < x := by omega
          have hw : IntKind.u64.wrap x = x := by rw [IntKind.wrap_u64]; omega
          have HS : Hid (RowZ (wr.setCell ⟨g4, k, none⟩ (.int .u64 x)) g4 52 .u64 (fillP l (k + 1))) := by rw [← fillP_next hl hlt, hx]; exact HN.out.set k x
          have HU2 : Hid (RowZ (wr.setCell ⟨g4, k, none⟩ (.int .u64 x)) (w.heap.size + 1) 52 .u64 z5) := HU.out.other _ (by omega)
          have HB2 : Hid (Below w.heap.size w (wr.setCell ⟨g4, k, none⟩ (.int .u64 x))) := HB.out.setCell (show w.heap.size ≤ g4 by omega) _
          have HK2 : Hid (∀ j, j < k + 1 → 0 ≤ l.getD j 0 ∧ l.getD j 0 ≤ 67108863) := fun j hj => by
            rcases (show j < k ∨ j = k by omega) with h | rfl
            · exact HK.out j h
            · rw [hx]; exact hgood
          clear hx HB HU HN HK hgood
          go_wp2
          go_roundw
          case rel => exact ⟨k + 1, by omega, by go_num, HB2.out, HU2.out, HS.out, HK2.out⟩
          case measure => simp [intOf]; omega
        · have HF : Hid (okP l = false) := okP_bad (k := k) (by omega) (by rw [hx]; exact hgood)
          have fin : ∀ (wz : World), RowZ wz (w.heap.size + 1) 52 .u64 z5 → Below w.heap.size w wz → RowZ (wz.setRow (w.heap.size + 1) (rowL .u64 z5)) (w.heap.size + 1) 52 .u64 z5 ∧ Below w.heap.size w (wz.setRow (w.heap.size + 1) (rowL .u64 z5)) := fun wz h1 h2 => ⟨setRow_heap _ _ _ _ _ _ h1, below_setRow h2 (by omega) _⟩
          have FIN : Hid _ := fin
          clear hx fin HN HK
          by_cases q1 : x < 0
          · clear hgood
            go_upto_region 8 with fail
            refine wp_region_lit ?_
            refine Go.Great.wpList_runTo rfl _ rfl (.agg (rowL .u64 z5)) wr (by rw [← zeroPn]; unfold execOp; go_simp) ?_
            try simp only [Act.put, List.getElem_toArray, List.getElem_cons_succ, List.getElem_cons_zero, List.setIfInBounds_toArray, List.set_cons_succ, List.set_cons_zero]
            refine wpList_store_rowTo rfl _ _ _ rfl rfl (w.heap.size + 1) (rowL .u64 z5) rfl rfl 52 (rowL .u64 z5) HU.out (sizePnL (rfl : z5.length = 5)) rfl (rowL_one _ _) ?_
            try simp only [Act.put, List.getElem_toArray, List.getElem_cons_succ, List.getElem_cons_zero, List.setIfInBounds_toArray, List.set_cons_succ, List.set_cons_zero]
            have hf := FIN.out wr HU.out HB.out
            generalize wr.setRow (w.heap.size + 1) (rowL .u64 z5) = wz at hf ⊢
            go_wp2
            refine bodyPost_ret (res_ct rfl _ _ (w.heap.size + 1) 52 (rowL .u64 z5) (0, 0) _ rfl hf.1 Try.underlying52 rfl (sizePnL (rfl : z5.length = 5))) rfl ?_
            exact ⟨z5, by rw [HF.out]; rfl, rfl, (fun h => by rw [HF.out] at h; cases h), hf.2⟩
          · have q2 : (67108863 : Int) < x := by omega
            clear hgood
            go_upto_region 8 with fail
            refine wp_region_lit ?_
            refine Go.Great.wpList_runTo rfl _ rfl (.agg (rowL .u64 z5)) wr (by rw [← zeroPn]; unfold execOp; go_simp) ?_
            try simp only [Act.put, List.getElem_toArray, List.getElem_cons_succ, List.getElem_cons_zero, List.setIfInBounds_toArray, List.set_cons_succ, List.set_cons_zero]
            refine wpList_store_rowTo rfl _ _ _ rfl rfl (w.heap.size + 1) (rowL .u64 z5) rfl rfl 52 (rowL .u64 z5) HU.out (sizePnL (rfl : z5.length = 5)) rfl (rowL_one _ _) ?_
            try simp only [Act.put, List.getElem_toArray, List.getElem_cons_succ, List.getElem_cons_zero, List.setIfInBounds_toArray, List.set_cons_succ, List.set_cons_zero]
            have hf := FIN.out wr HU.out HB.out
            generalize wr.setRow (w.heap.size + 1) (rowL .u64 z5) = wz at hf ⊢
            go_wp2
            refine bodyPost_ret (res_ct rfl _ _ (w.heap.size + 1) 52 (rowL .u64 z5) (0, 0) _ rfl hf.1 Try.underlying52 rfl (sizePnL (rfl : z5.length = 5))) rfl ?_
            exact ⟨z5, by rw [HF.out]; rfl, rfl, (fun h => by rw [HF.out] at h; cases h), hf.2⟩
      · obtain rfl : k = 5 := by omega
        rw [fillP_all hl] at HN
        have hall : ∀ x ∈ l, 0 ≤ x ∧ x ≤ 67108863 := fun x hx => by
          obtain ⟨j, hj, rfl⟩ := List.getElem_of_mem hx
          have := HK.out j (by omega)
          rw [List.getD_eq_getElem?_getD, List.getElem?_eq_getElem hj] at this
          exact this
        have hbd : bdP l := lok_bd (lok_all hl hall)
        have HOK : Hid (decide (l = canonP (lval pb l)) = okP l) := okP_red hl hall
        have HRD2 : Hid (∀ wz : World, Calls Try.prog 46 #[.agg (rowL .u64 l)] wz fun e w' => e = .returned (.agg (rowL .u64 (canonP (lval pb l)))) ∧ Below wz.heap.size wz w') := fun wz => HRD.out wz hbd
        have hrl : (canonP (lval pb l)).length = 5 := canonP_len _
        obtain ⟨r, hr⟩ : ∃ r, canonP (lval pb l) = r := ⟨_, rfl⟩
        rw [hr] at hrl HOK HRD2
        clear hall hbd HK HRD hr
        have hL1 : RowZ wr g4 52 .u64 l := HN.out
        have hR1 : RowZ wr (w.heap.size + 1) 52 .u64 z5 := HU.out
        have hB1 : Below w.heap.size w wr := HB.out
        clear HN HU HB
        go_upto_region 11 with fail
        refine _root_.Go.wp_region_held (S := fun w' : World => RowZ w' g4 52 .u64 l ∧ ∃ z : List Int, RowZ w' (w.heap.size + 1) 52 .u64 z ∧ z.length = 5) (by kernel_rfl) ?_
        have hS : (fun w' : World => RowZ w' g4 52 .u64 l ∧ ∃ z : List Int, RowZ w' (w.heap.size + 1) 52 .u64 z ∧ z.length = 5) wr.drew := ⟨hL1.drew, _, hR1.drew, rfl⟩
        clear hL1 hR1
        refine wpAnyH_take (i := 0) (v := .agg (rowL .u64 l)) rfl (by kernel_rfl) (by kernel_rfl) (by kernel_rfl) (fun _ _ _ h => h) (yieldsIf_load_mid (by rfl) _ _ rfl g4 0 rfl (l.map (Value.int .u64)) _ (fun w h => rangePn h.1) Try.underlying52 rfl (by rw [List.length_map, hl]; exact sizePn)) hS ?_
        simp only [Act.put, List.getElem_toArray, List.getElem_cons_zero, List.setIfInBounds_toArray, List.set_cons_succ, List.set_cons_zero]
        refine wpAnyH_take (i := 1) (v := .agg (rowL .u64 l)) rfl (by kernel_rfl) (by kernel_rfl) (by kernel_rfl) (fun _ _ _ h => h) (yieldsIf_load_mid (by rfl) _ _ rfl g4 0 rfl (l.map (Value.int .u64)) _ (fun w h => rangePn h.1) Try.underlying52 rfl (by rw [List.length_map, hl]; exact sizePn)) hS ?_
        simp only [Act.put, List.getElem_toArray, List.getElem_cons_succ, List.getElem_cons_zero, List.setIfInBounds_toArray, List.set_cons_succ, List.set_cons_zero]
        refine wpAnyH_take (i := 2) (v := .agg (rowL .u64 l)) rfl (by kernel_rfl) (by kernel_rfl) (by kernel_rfl) (fun _ _ _ h => h) (yieldsIf_load_mid (by rfl) _ _ rfl g4 0 rfl (l.map (Value.int .u64)) _ (fun w h => rangePn h.1) Try.underlying52 rfl (by rw [List.length_map, hl]; exact sizePn)) hS ?_
        simp only [Act.put, List.getElem_toArray, List.getElem_cons_succ, List.getElem_cons_zero, List.setIfInBounds_toArray, List.set_cons_succ, List.set_cons_zero]
        refine wpAnyH_ready (rs := [3]) (by kernel_rfl) (by simp) ?_
        refine AllReadyH.cons rfl (fun K hK => ?_) AllReadyH.nil
        go_simp
        refine Calls.mono (HRD2.out _) ?_
        rintro e w2 ⟨rfl, hb⟩
        obtain ⟨hS1, z, hSz, hz⟩ := hS
        have hS2 : RowZ w2 g4 52 .u64 l ∧ ∃ z : List Int, RowZ w2 (w.heap.size + 1) 52 .u64 z ∧ z.length = 5 := ⟨hS1.next hb, z, hSz.next hb, hz⟩
        have hB2 : Below w.heap.size w w2 := hB1.drew.trans (hb.mono hB1.drew.size)
        clear hS1 hSz hz z hb hB1
        refine hK.out _ _ hS2 (fun hS => ?_)
        clear hK K
        refine wpAnyH_take (i := 4) (v := .bool (decide (l = r))) rfl (by kernel_rfl) (by kernel_rfl) (by kernel_rfl) (fun _ _ _ h => h) (yields_pn (by rfl) _ _ _ rfl l r hl hrl rfl rfl) hS ?_
        simp only [Act.put, List.getElem_toArray, List.getElem_cons_succ, List.getElem_cons_zero, List.setIfInBounds_toArray, List.set_cons_succ, List.set_cons_zero]
        refine wpAnyH_ready (rs := [5]) (by kernel_rfl) (by simp) ?_
        refine AllReadyH.cons rfl (fun K hK => ?_) AllReadyH.nil
        obtain ⟨hS1, z, hSz, hz⟩ := hS
        refine ite_yes (by rfl) ?_
        refine wp_store_row _ _ _ rfl (w.heap.size + 1) (rowL .u64 l) rfl rfl 52 (rowL .u64 z) hSz (sizePnL hl) (by simp only [rowL_size]; exact hz.trans hl.symm) (rowL_one _ _) ?_
        have hR3 : RowZ (w2.setRow (w.heap.size + 1) (rowL .u64 l)) (w.heap.size + 1) 52 .u64 l := setRow_heap _ _ _ _ _ _ hSz
        have hB3 := below_setRow hB2 (show w.heap.size ≤ w.heap.size + 1 by omega) (rowL .u64 l)
        have hL3 : RowZ (w2.setRow (w.heap.size + 1) (rowL .u64 l)) g4 52 .u64 l := (setRow_other _ _ _ _ (by omega)).trans hS1
        clear hS1 hSz hz hB2 hrl
        generalize w2.setRow (w.heap.size + 1) (rowL .u64 l) = w3 at hR3 hB3 hL3 ⊢
        have HR3 : Hid (RowZ w3 (w.heap.size + 1) 52 .u64 l) := hR3
        have HB3 : Hid (Below w.heap.size w w3) := hB3
        refine hK.out _ _ ⟨hL3, l, hR3, hl⟩ (fun hS => ?_)
        clear hK K hR3 hL3 hB3
        simp only [Act.put, List.getElem_toArray, List.getElem_cons_succ, List.getElem_cons_zero, List.setIfInBounds_toArray, List.set_cons_succ, List.set_cons_zero]
        refine wpAnyH_take (i := 6) (v := ?_) rfl (by kernel_rfl) (by kernel_rfl) (by kernel_rfl) (fun _ _ _ h => h) (Or.inl ⟨by rfl, ?_⟩) hS ?_
        rotate_left
        · intro w hSw; skip; go_simp; try with_reducible rfl
        simp only [Act.put, List.getElem_toArray, List.getElem_cons_succ, List.getElem_cons_zero, List.setIfInBounds_toArray, List.set_cons_succ, List.set_cons_zero]
        clear hS
        refine wpAnyH_done (by kernel_rfl) ?_ _
        rw [HOK.out]
        go_wp2
        refine bodyPost_ret (res_ct rfl _ _ (w.heap.size + 1) 52 (rowL .u64 l) (0, 0) _ rfl HR3.out Try.underlying52 rfl (sizePnL hl)) rfl ?_
        exact ⟨l, rfl, hl, fun _ => rfl, HB3.out⟩
  · have hok : okP l = false := by
      cases h : okP l with
      | false => rfl
      | true => exact absurd (okP_len h) hl
    have hq : ((l.length : Int) != 5) = true := by simp; omega
    have hd : ¬ (l.length : Int) = 5 := by omega
    rw [hok]
    clear hok hr
    go_enter Try.func34, Try.ntmps34
    go_upto_region 1 with fail
    rw [← zeroPn] at hA1 hA0 hB0
    generalize ((w.alloc (.cells #[.slice a l.length cap] 26)).alloc (.cells #[.int .u64 0, .int .u64 0, .int .u64 0, .int .u64 0, .int .u64 0] 52)) = w0 at hA1 hA0 hB0 ⊢
    rw [zeroPn] at hA1
    have cA : w0.cell? ⟨w.heap.size, 0, none⟩ = some (.slice a l.length cap) := by rw [cell_of_row _ w.heap.size 0 _ _ _ hA0]; rfl
    go_upto_region 2 with fail
    refine wp_region_lit ?_
    refine Go.Great.wpList_runTo rfl _ rfl (.agg (rowL .u64 z5)) w0 (by rw [← zeroPn]; unfold execOp; go_simp) ?_
    try simp only [Act.put, List.getElem_toArray, List.getElem_cons_succ, List.getElem_cons_zero, List.setIfInBounds_toArray, List.set_cons_succ, List.set_cons_zero]
    refine wpList_store_rowTo rfl _ _ _ rfl rfl (w.heap.size + 1) (rowL .u64 z5) rfl rfl 52 (rowL .u64 z5) hA1 (sizePnL (rfl : z5.length = 5)) rfl (rowL_one _ _) ?_
    try simp only [Act.put, List.getElem_toArray, List.getElem_cons_succ, List.getElem_cons_zero, List.setIfInBounds_toArray, List.set_cons_succ, List.set_cons_zero]
    have hR : (w0.setRow (w.heap.size + 1) (rowL .u64 z5)).heap[w.heap.size + 1]? = some (.cells (rowL .u64 z5) 52 (0, 0)) := setRow_heap _ _ _ _ _ _ hA1
    have hBB := below_setRow hB0 (show w.heap.size ≤ w.heap.size + 1 by omega) (rowL .u64 z5)
    generalize w0.setRow (w.heap.size + 1) (rowL .u64 z5) = wz at hR hBB ⊢
    go_wp2
    refine bodyPost_ret (res_ct rfl _ _ (w.heap.size + 1) 52 (rowL .u64 z5) (0, 0) _ rfl hR Try.underlying52 rfl (sizePnL (rfl : z5.length = 5))) rfl ?_
    exact ⟨_, rfl, rfl, (fun h => by cases h), hBB⟩
end Go.Proofs.Ytopdjfgomclffaa
