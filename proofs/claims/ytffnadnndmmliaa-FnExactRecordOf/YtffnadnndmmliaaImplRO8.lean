/- The program's RecordOf (chapter 8), over a record that is told. -/
import Derived.Test.YtffnadnndmmliaaImplR8
import Derived.Test.YtffnadnndmmliaaImplS6
namespace Go.Proofs.Ytffnadnndmmliaa
open Go.RowKit Go.Maps
set_option linter.unusedVariables false
theorem recd_f (ns : List Nd) (key ep sq bd : Int) : (Tl.recd (.pl key) ep sq bd).f ns = (recA ns key ep sq bd, recK ns key ep sq bd) := by
  show (if ((inB ep 0 8 && inB sq 0 9999) && (okAt ns key && okAt ns bd)) = true then (recT key ep sq bd).f ns else (ns, -1)) = _
  have e : ((inB ep 0 8 && inB sq 0 9999) && (okAt ns key && okAt ns bd)) = recB ns key ep sq bd := by unfold recB; rw [Bool.and_assoc]
  rw [e, recT_f]
  unfold recA recK
  split <;> rfl
theorem recK_negR {ns : List Nd} {key ep sq bd : Int} (h : recK ns key ep sq bd < 0) : recK ns key ep sq bd = -1 := by
  unfold recK at h ⊢
  split
  · rename_i hb; rw [if_pos hb] at h; exact listF_neg _ _ h
  · rfl
set_option maxHeartbeats 3200000 in
set_option maxRecDepth 20000 in
theorem implRec_any (a : Option Addr) (cap : Nat) (ns : List Nd) (key ep sq body : Int) (w : World) (hl : ns.length ≤ 1048576) (hf : ∀ y ∈ ns, y.Fits) (h1 : (Lit.int .i64 key).wf = true) (h2 : (Lit.int .i64 ep).wf = true) (h3 : (Lit.int .i64 sq).wf = true) (h4 : (Lit.int .i64 body).wf = true) (ha : AddrN a cap) (hr : RowN w.heap.size w a ns) :
    Calls Try.prog 55 #[.agg #[.slice a ns.length cap], .int .i64 key, .int .i64 ep, .int .i64 sq, .int .i64 body] w fun e w' => ∃ v, e = .returned (.tuple #[.agg #[v], .int .i64 (recK ns key ep sq body)]) ∧ OwnC w.heap.size w' v (keptA ns (recA ns key ep sq body) (recK ns key ep sq body)) ∧ Below w.heap.size w w' := by
  obtain ⟨KK, hKK⟩ : ∃ X, recK ns key ep sq body = X := ⟨_, rfl⟩
  obtain ⟨KP, hKP⟩ : ∃ X, keptA ns (recA ns key ep sq body) (recK ns key ep sq body) = X := ⟨_, rfl⟩
  rw [hKP, hKK]
  obtain ⟨w0, he, hb0, hs0, hA0, hr0⟩ := two_cells a ns.length cap w
  have HC0 : Hid (w0.heap[w.heap.size]? = some (.cells #[.slice a ns.length cap] 28 (0, 0)) ∧ w0.heap[w.heap.size + 1]? = some (.cells #[.slice none 0 0] 28 (0, 0)) ∧ Below w.heap.size w w0 ∧ w.heap.size + 2 ≤ w0.heap.size) := ⟨hA0, hr0, hb0, by omega⟩
  have HYES : Hid (∀ (v : Value) (wz : World), Below w.heap.size w wz → ToldIs (w.heap.size + 2) wz.heap.size wz (.recd (.pl key) ep sq body) v → Calls Try.prog 112 #[v, .agg #[.slice a ns.length cap]] wz fun e w' => ∃ v', e = .returned (.tuple #[.agg #[v'], .int .i64 KK]) ∧ OwnC wz.heap.size w' v' KP ∧ Below wz.heap.size wz w') := fun v wz hb ht => by
    have := putIn_any (.recd (.pl key) ep sq body) v a cap ns wz ⟨h1, h2, h3, h4⟩ ht hl hf ha (hr.grown hb)
    rw [recd_f, ifneg8 recK_negR, hKP, hKK] at this
    exact this
  clear ha hr hf hb0 hs0 hA0 hr0 hKP hKK h1 h2 h3 h4
  have c0 : w0.cell? ⟨w.heap.size, 0, none⟩ = some (.slice a ns.length cap) := (cell_of_row _ _ 0 _ _ _ HC0.out.1).trans rfl
  rw [he] at c0
  go_enter Try.func55, Try.ntmps55
  go_wp2_with fail
  rw [← he] at c0 ⊢
  clear he
  refine _root_.Go.wp_region_held (S := fun w' : World => w'.cell? ⟨w.heap.size, 0, none⟩ = some (.slice a ns.length cap)) (by kernel_rfl) ?_
  have hS : (fun w' : World => w'.cell? ⟨w.heap.size, 0, none⟩ = some (.slice a ns.length cap)) w0.drew := c0
  refine wpAnyH_take (i := 0) (v := ?_) rfl (by kernel_rfl) (by kernel_rfl) (by kernel_rfl) (fun _ _ _ h => h) (Or.inl ⟨by rfl, ?_⟩) hS ?_
  rotate_left
  · intro w hSw; have y0 := hSw; go_simp; try with_reducible rfl
  simp only [Act.put, List.getElem_toArray, List.getElem_cons_zero, List.setIfInBounds_toArray, List.set_cons_succ, List.set_cons_zero]
  refine wpAnyH_take (i := 2) (v := ?_) rfl (by kernel_rfl) (by kernel_rfl) (by kernel_rfl) (fun _ _ _ h => h) (Or.inl ⟨by rfl, ?_⟩) hS ?_
  rotate_left
  · intro w hSw; have y0 := hSw; go_simp; try with_reducible rfl
  simp only [Act.put, List.getElem_toArray, List.getElem_cons_succ, List.getElem_cons_zero, List.setIfInBounds_toArray, List.set_cons_succ, List.set_cons_zero]
  refine wpAnyH_take (i := 3) (v := ?_) rfl (by kernel_rfl) (by kernel_rfl) (by kernel_rfl) (fun _ _ _ h => h) (Or.inl ⟨by rfl, ?_⟩) hS ?_
  rotate_left
  · intro w hSw; have y0 := hSw; go_simp; try with_reducible rfl
  simp only [Act.put, List.getElem_toArray, List.getElem_cons_succ, List.getElem_cons_zero, List.setIfInBounds_toArray, List.set_cons_succ, List.set_cons_zero]
  refine wpAnyH_take (i := 4) (v := ?_) rfl (by kernel_rfl) (by kernel_rfl) (by kernel_rfl) (fun _ _ _ h => h) (Or.inl ⟨by rfl, ?_⟩) hS ?_
  rotate_left
  · intro w hSw; have y0 := hSw; go_simp; try with_reducible rfl
  simp only [Act.put, List.getElem_toArray, List.getElem_cons_succ, List.getElem_cons_zero, List.setIfInBounds_toArray, List.set_cons_succ, List.set_cons_zero]
  refine wpAnyH_take (i := 5) (v := ?_) rfl (by kernel_rfl) (by kernel_rfl) (by kernel_rfl) (fun _ _ _ h => h) (Or.inl ⟨by rfl, ?_⟩) hS ?_
  rotate_left
  · intro w hSw; have y0 := hSw; go_simp; try with_reducible rfl
  simp only [Act.put, List.getElem_toArray, List.getElem_cons_succ, List.getElem_cons_zero, List.setIfInBounds_toArray, List.set_cons_succ, List.set_cons_zero]
  refine wpAnyH_take (i := 7) (v := ?_) rfl (by kernel_rfl) (by kernel_rfl) (by kernel_rfl) (fun _ _ _ h => h) (Or.inl ⟨by rfl, ?_⟩) hS ?_
  rotate_left
  · intro w hSw; have y0 := hSw; go_simp; try with_reducible rfl
  simp only [Act.put, List.getElem_toArray, List.getElem_cons_succ, List.getElem_cons_zero, List.setIfInBounds_toArray, List.set_cons_succ, List.set_cons_zero]
  refine wpAnyH_ready (rs := [1]) (by kernel_rfl) (by simp) ?_
  refine AllReadyH.cons rfl (fun K hK => ?_) AllReadyH.nil
  go_simp
  refine Calls.mono (toldAt_any (L := w.heap.size + 2) key w0.drew HC0.out.2.2.2) ?_
  rintro e w1 ⟨v1, rfl, ht1, hb⟩
  replace hb : Below w0.heap.size w0 w1 := ((Below.refl w0.heap.size w0).drew).trans (hb.mono (Nat.le_refl _))
  have HC1 : Hid (w1.heap[w.heap.size]? = some (.cells #[.slice a ns.length cap] 28 (0, 0)) ∧ w1.heap[w.heap.size + 1]? = some (.cells #[.slice none 0 0] 28 (0, 0)) ∧ Below w.heap.size w w1 ∧ w.heap.size + 2 ≤ w1.heap.size) := ⟨(hb.block _ (by have := HC0.out.2.2.2; omega)).trans HC0.out.1, (hb.block _ (by have := HC0.out.2.2.2; omega)).trans HC0.out.2.1, HC0.out.2.2.1.trans (hb.mono (by have := HC0.out.2.2.2; omega)), Nat.le_trans HC0.out.2.2.2 hb.size⟩
  clear hb HC0 c0
  have c0 : w1.cell? ⟨w.heap.size, 0, none⟩ = some (.slice a ns.length cap) := (cell_of_row _ _ 0 _ _ _ HC1.out.1).trans rfl
  refine hK.out _ _ c0 (fun hS => ?_)
  clear hK K
  refine wpAnyH_ready (rs := [6]) (by kernel_rfl) (by simp) ?_
  refine AllReadyH.cons rfl (fun K hK => ?_) AllReadyH.nil
  go_simp
  refine Calls.mono (toldRecord_any (L := w.heap.size + 2) (.pl key) v1 ep sq body w1 HC1.out.2.2.2 ht1) ?_
  rintro e w2 ⟨v2, rfl, ht2, hb⟩
  have HC2 : Hid (w2.heap[w.heap.size]? = some (.cells #[.slice a ns.length cap] 28 (0, 0)) ∧ w2.heap[w.heap.size + 1]? = some (.cells #[.slice none 0 0] 28 (0, 0)) ∧ Below w.heap.size w w2 ∧ w.heap.size + 2 ≤ w2.heap.size) := ⟨(hb.block _ (by have := HC1.out.2.2.2; omega)).trans HC1.out.1, (hb.block _ (by have := HC1.out.2.2.2; omega)).trans HC1.out.2.1, HC1.out.2.2.1.trans (hb.mono (by have := HC1.out.2.2.2; omega)), Nat.le_trans HC1.out.2.2.2 hb.size⟩
  clear hb HC1 c0 ht1
  have c0 : w2.cell? ⟨w.heap.size, 0, none⟩ = some (.slice a ns.length cap) := (cell_of_row _ _ 0 _ _ _ HC2.out.1).trans rfl
  refine hK.out _ _ c0 (fun hS => ?_)
  clear hK K
  refine wpAnyH_ready (rs := [8]) (by kernel_rfl) (by simp) ?_
  refine AllReadyH.cons rfl (fun K hK => ?_) AllReadyH.nil
  go_simp
  refine Calls.mono (HYES.out _ w2 HC2.out.2.2.1 ht2) ?_
  rintro e w9 ⟨v9, rfl, ho, hb⟩
  obtain ⟨a9, c9, rfl, -, -⟩ := ho.row
  obtain ⟨r0, f0, HE⟩ := fin_arena (HC2.out.2.2.1.trans (hb.mono (by have := HC2.out.2.2.2; omega))) ((hb.block _ (by have := HC2.out.2.2.2; omega)).trans HC2.out.2.1) (by have := HC2.out.2.2.2; omega) ho
  have q0 := (hb.cell (p := ⟨w.heap.size, 0, none⟩) (show w.heap.size < w2.heap.size by have := HC2.out.2.2.2; omega)).trans c0
  refine hK.out _ _ q0 (fun hS => ?_)
  clear hK K
  clear ho hb c0 HC2 ht2 HYES hS
  have hS : (fun w' : World => w'.cell? ⟨w.heap.size, 0, none⟩ = some (.slice a ns.length cap)) w9 := q0
  refine wpAnyH_take (i := 9) (v := ?_) rfl (by kernel_rfl) (by kernel_rfl) (by kernel_rfl) (fun _ _ _ h => h) (Or.inl ⟨by rfl, ?_⟩) hS ?_
  rotate_left
  · intro w hSw; have y0 := hSw; go_simp; try with_reducible rfl
  simp only [Act.put, List.getElem_toArray, List.getElem_cons_succ, List.getElem_cons_zero, List.setIfInBounds_toArray, List.set_cons_succ, List.set_cons_zero]
  refine wpAnyH_take (i := 10) (v := ?_) rfl (by kernel_rfl) (by kernel_rfl) (by kernel_rfl) (fun _ _ _ h => h) (Or.inl ⟨by rfl, ?_⟩) hS ?_
  rotate_left
  · intro w hSw; have y0 := hSw; go_simp; try with_reducible rfl
  simp only [Act.put, List.getElem_toArray, List.getElem_cons_succ, List.getElem_cons_zero, List.setIfInBounds_toArray, List.set_cons_succ, List.set_cons_zero]
  refine wpAnyH_ready (rs := [11]) (by kernel_rfl) (by simp) ?_
  refine AllReadyH.cons rfl (fun K hK => ?_) AllReadyH.nil
  go_simp
  refine hK.out _ _ ((World.cell?_of_block (Below.heap_setCell _ _ _ _ (show w.heap.size ≠ w.heap.size + 1 by omega))).trans q0) (fun hS => ?_)
  clear hK K
  refine wpAnyH_take (i := 12) (v := ?_) rfl (by kernel_rfl) (by kernel_rfl) (by kernel_rfl) (fun _ _ _ h => h) (Or.inl ⟨by rfl, ?_⟩) hS ?_
  rotate_left
  · intro w hSw; have y0 := hSw; go_simp; try with_reducible rfl
  simp only [Act.put, List.getElem_toArray, List.getElem_cons_succ, List.getElem_cons_zero, List.setIfInBounds_toArray, List.set_cons_succ, List.set_cons_zero]
  clear hS
  refine wpAnyH_done (by kernel_rfl) ?_ _
  clear r0 f0 q0
  go_wp2
  refine bodyPost_ret (res_cell2 rfl _ _ (w.heap.size + 1) 28 #[.slice a9 KP.length c9] (0, 0) _ rfl ?_ Try.underlying28 rfl arenaSize) rfl ?_
  · exact HE.out.1
  · exact ⟨_, rfl, HE.out.2.1, HE.out.2.2⟩
end Go.Proofs.Ytffnadnndmmliaa
