/- The drawing functions of chapter 9's laws, the specification's. -/
import Derived.Test.YtffnadnndmmliaaDrawTold
import Derived.Test.YtffnadnndmmliaaListLit
import Derived.Test.YtffnadnndmmliaaListP
import Derived.WalkKit
import Derived.WalkLawsBesides
import Derived.WalkSpells
import Derived.Laws.Rows
import Derived.Laws.OwnMore
import Derived.Laws.ResultCell
namespace Go.Proofs.Ytffnadnndmmliaa
open Go.RowKit
set_option linter.unusedVariables false
theorem res_cell5 {P : Program} {fn : Func} {p u v x y : Tmp} {ty : TypeId} (h : fn.results = #[.cell p ty, .tmp u, .tmp v, .tmp x, .tmp y]) (tmps : Array Value) (w : World) (g : Nat) (t : TypeId) (cs : Array Value) (fr : Nat × Nat) (d : TypeDesc)
    (hp : tmps.getD p undef = .pointer (some ⟨g, 0, none⟩)) (hg : w.heap[g]? = some (.cells cs t fr))
    (hu : P.underlying ty = some d) (hd : (match d with | .struct _ | .array _ _ => true | _ => false) = true) (hi : (P.info? ty).map (·.size) = some cs.size) :
    (results fn tmps).run P w = .ok (.tuple #[.agg cs, tmps.getD u undef, tmps.getD v undef, tmps.getD x undef, tmps.getD y undef]) w := by
  have hp' : tmps[p]?.getD undef = .pointer (some ⟨g, 0, none⟩) := by simpa using hp
  simp [results, h, hp', asAddr, run_loadVar_row w g t ty cs fr d hg hu hd hi]
theorem putK_range (ns : List Nd) (x : Nd) : -1 ≤ putK ns x ∧ putK ns x ≤ (ns.length : Int) := by
  unfold putK
  split
  · split
    · omega
    · have := findN_range ns x; omega
  · omega
theorem makeK_range (ns : List Nd) (kd x y : Int) : -1 ≤ makeK ns kd x y ∧ makeK ns kd x y ≤ (ns.length : Int) := by
  unfold makeK
  split
  · omega
  · exact putK_range _ _
theorem keptA_fits {ns A : List Nd} {K : Int} (hf : ∀ y ∈ ns, y.Fits) (hA : ∀ y ∈ A, y.Fits) : ∀ y ∈ keptA ns A K, y.Fits := by
  unfold keptA; split
  · exact hf
  · exact hA
theorem ckA_fits {ns : List Nd} {s d h : Int} (hf : ∀ y ∈ ns, y.Fits) (hl : ns.length ≤ 1048576) : ∀ y ∈ ckA ns s d h, y.Fits := by
  have h1 : ∀ y ∈ ckA2 ns s d, y.Fits := putA_fits (putA_fits hf hl) (putA_le2 hl)
  have h3 : ∀ y ∈ ckA3 ns s d h, y.Fits := makeA_fits h1 (ckA2_le hl)
  exact makeA_fits (listF_fits _ h3 (ckA3_le hl)) (ckL_le hl)
theorem ckK_range {ns : List Nd} {s d h : Int} (hl : ns.length ≤ 1048576) : -1 ≤ ckK ns s d h ∧ ckK ns s d h ≤ 1048576 := by
  have := makeK_range (ckL ns s d h).1 9 (ckK1 ns s) (ckL ns s d h).2
  have := ckL_le (s := s) (d := d) (x := h) hl
  unfold ckK; omega
set_option maxHeartbeats 3200000 in
set_option maxRecDepth 20000 in
theorem drawCook_any (a : Option Addr) (len cap : Nat) (w : World) (hc : CodeIn w.heap.size w a len) :
    Calls Try.prog 58 #[.slice a len cap] w fun e w' => ∃ v ns, ∃ se ad he : Int, e = .returned (.tuple #[.agg #[v], .int .i64 se, .int .i64 ad, .int .i64 he]) ∧ 1 ≤ ns.length ∧ ns.length ≤ 14 ∧ (∀ y ∈ ns, y.Fits) ∧ -1 ≤ se ∧ se ≤ 9000 ∧ -1 ≤ ad ∧ ad ≤ 99 ∧ -1 ≤ he ∧ he ≤ 4 ∧ ad ≠ 7 ∧ OwnN w.heap.size w' v ns ∧ Below w.heap.size w w' := by
  have hb0 : Below w.heap.size w (w.alloc (.cells #[.slice none 0 0] 28)) := (Below.refl _ _).alloc (Nat.le_refl _) _
  have hx0 := heap_alloc_new w (.cells #[.slice none 0 0] 28)
  have hc0 := codeIn_later hc hb0
  have hs0 : (w.alloc (.cells #[.slice none 0 0] 28)).heap.size = w.heap.size + 1 := by simp
  clear hc
  go_enter Try.func58, Try.ntmps58
  go_wp2_with fail
  generalize w.alloc (.cells #[.slice none 0 0] 28) = w0 at hb0 hx0 hc0 hs0 ⊢
  refine (new_any _ _ _ _ hc0).mono ?_
  rintro e w1 ⟨g, rfl, hc1, hb1⟩
  have hge := hc1.1
  have hgl1 := hc1.2.1
  have HB1 : Hid (Below w0.heap.size w0 w1) := hb1
  have hs1 := hb1.size
  clear hb1 hc0
  have hb2 : Below w1.heap.size w1 (w1.alloc (.cells #[.int .i64 9000, .int .i64 9000, .int .i64 5, .int .i64 (-1)] 3)) := (Below.refl _ _).alloc (Nat.le_refl _) _
  have hc2 := hc1.grown hb2
  have hrow := heap_alloc_new w1 (.cells #[.int .i64 9000, .int .i64 9000, .int .i64 5, .int .i64 (-1)] 3)
  have hgw1 := hc1.2.1
  have HB2 : Hid (Below w0.heap.size w0 (w1.alloc (.cells #[.int .i64 9000, .int .i64 9000, .int .i64 5, .int .i64 (-1)] 3))) := HB1.out.trans (hb2.mono HB1.out.size)
  have hs2 := hb2.size
  have HCL : Hid (∀ i, i < 4 → (w1.alloc (.cells #[.int .i64 9000, .int .i64 9000, .int .i64 5, .int .i64 (-1)] 3)).cell? ⟨w1.heap.size, i, none⟩ = some (.int .i64 (([9000, 9000, 5, -1] : List Int).getD i 0))) := fun i hi => by
    rw [cell_of_row _ _ i _ _ _ hrow]
    rcases (show i = 0 ∨ i = 1 ∨ i = 2 ∨ i = 3 by omega) with rfl | rfl | rfl | rfl <;> rfl
  clear hc1 hb2 HB1 hrow
  go_wp2_with fail
  generalize w1.alloc (.cells #[.int .i64 9000, .int .i64 9000, .int .i64 5, .int .i64 (-1)] 3) = w2 at hc2 HB2 HCL hs2 ⊢
  refine (pickInt_any w0.heap.size g w1.heap.size 4 _ [9000, 9000, 5, -1] _ (by omega) (by omega) rfl (by omega) HCL.out hc2).mono ?_
  rintro e w3 ⟨se, hse, rfl, hc3, hg⟩
  have hbse : -1 ≤ se ∧ se ≤ 9000 := by simp at hse; omega
  have HB3 : Hid (Below w0.heap.size w0 w3) := HB2.out.grown hg HB2.out.size (fun k hk => by cases hk; exact hge)
  have hs3 := hg.size
  clear hc2 hg HB2 hse HCL
  have hb4 : Below w3.heap.size w3 (w3.alloc (.cells #[.int .i64 1, .int .i64 2, .int .i64 99, .int .i64 (-1)] 3)) := (Below.refl _ _).alloc (Nat.le_refl _) _
  have hc4 := hc3.grown hb4
  have hrow := heap_alloc_new w3 (.cells #[.int .i64 1, .int .i64 2, .int .i64 99, .int .i64 (-1)] 3)
  have hgw3 := hc3.2.1
  have HB4 : Hid (Below w0.heap.size w0 (w3.alloc (.cells #[.int .i64 1, .int .i64 2, .int .i64 99, .int .i64 (-1)] 3))) := HB3.out.trans (hb4.mono HB3.out.size)
  have hs4 := hb4.size
  have HCL : Hid (∀ i, i < 4 → (w3.alloc (.cells #[.int .i64 1, .int .i64 2, .int .i64 99, .int .i64 (-1)] 3)).cell? ⟨w3.heap.size, i, none⟩ = some (.int .i64 (([1, 2, 99, -1] : List Int).getD i 0))) := fun i hi => by
    rw [cell_of_row _ _ i _ _ _ hrow]
    rcases (show i = 0 ∨ i = 1 ∨ i = 2 ∨ i = 3 by omega) with rfl | rfl | rfl | rfl <;> rfl
  clear hc3 hb4 HB3 hrow
  go_wp2_with fail
  generalize w3.alloc (.cells #[.int .i64 1, .int .i64 2, .int .i64 99, .int .i64 (-1)] 3) = w4 at hc4 HB4 HCL hs4 ⊢
  refine (pickInt_any w0.heap.size g w3.heap.size 4 _ [1, 2, 99, -1] _ (by omega) (by omega) rfl (by omega) HCL.out hc4).mono ?_
  rintro e w5 ⟨ad, had, rfl, hc5, hg⟩
  have hbad : -1 ≤ ad ∧ ad ≤ 99 := by simp at had; omega
  have h7 : ad ≠ 7 := by simp at had; omega
  have HB5 : Hid (Below w0.heap.size w0 w5) := HB4.out.grown hg HB4.out.size (fun k hk => by cases hk; exact hge)
  have hs5 := hg.size
  clear hc4 hg HB4 had HCL
  go_wp2_with fail
  refine (below_any w0.heap.size g 6 _ (by omega) (by omega) hc5).mono ?_
  rintro e w6 ⟨x, rfl, hx, hc6, hg⟩
  have HB6 : Hid (Below w0.heap.size w0 w6) := HB5.out.grown hg HB5.out.size (fun k hk => by cases hk; exact hge)
  have hs6 := hg.size
  clear hc5 hg HB5
  go_wp2_with fail
  refine (anyArena_any w0.heap.size g _ hc6).mono ?_
  rintro e w7 ⟨v3, ns, rfl, hn1, hn2, hfit, ho3, hc7, hg⟩
  have HB7 : Hid (Below w0.heap.size w0 w7) := HB6.out.grown hg HB6.out.size (fun k hk => by cases hk; exact hge)
  have hs7 := hg.size
  clear hc6 hc7 hg HB6
  obtain ⟨a3, cap3, rfl, _, _⟩ := ho3.row
  have hx4 := (HB7.out.block w.heap.size (by omega)).trans hx0
  have r0 : w7.cell? ⟨w.heap.size, 0, none⟩ = some (.slice none 0 0) := by rw [cell_of_row _ _ 0 _ _ _ hx4]; rfl
  have f0 : w7.frozen? ⟨w.heap.size, 0, none⟩ = false := frozen_of_row _ _ 0 _ _ hx4
  have HF : Hid ((∀ y ∈ ns, y.Fits) ∧ Below w.heap.size w (w7.setCell ⟨w.heap.size, 0, none⟩ (.slice a3 ns.length cap3))) := ⟨hfit, (hb0.trans (HB7.out.mono (by omega))).setCell (Nat.le_refl _) _⟩
  have HBL : Hid ((w7.setCell ⟨w.heap.size, 0, none⟩ (.slice a3 ns.length cap3)).heap[w.heap.size]? = some (.cells #[.slice a3 ns.length cap3] 28 (0, 0))) := (heap_setCell_same _ _ 0 _ _ _ hx4).trans rfl
  have HO : Hid (OwnN w.heap.size (w7.setCell ⟨w.heap.size, 0, none⟩ (.slice a3 ns.length cap3)) (.slice a3 ns.length cap3) ns) := OwnN.base (ownsRow_setCell_below ho3 (show w.heap.size < w6.heap.size by omega) _) (by omega)
  clear hx4 ho3 hfit hb0 hx0 HB7
  go_wp2
  refine bodyPost_ret (res_cell4 rfl _ _ w.heap.size 28 #[.slice a3 ns.length cap3] (0, 0) _ rfl ?_ Try.underlying28 rfl arenaSize) rfl ?_
  · exact HBL.out
  · exact ⟨_, ns, _, _, _, rfl, hn1, hn2, HF.out.1, hbse.1, hbse.2, hbad.1, hbad.2, by omega, by omega, h7, HO.out, HF.out.2⟩
set_option maxHeartbeats 3200000 in
set_option maxRecDepth 20000 in
theorem drawCookOk_any (a : Option Addr) (len cap : Nat) (w : World) (hlen : len ≤ 1048576) (hc : CodeIn w.heap.size w a len) :
    Calls Try.prog 59 #[.slice a len cap] w fun e w' => ∃ v ns, ∃ se ad he k : Int, e = .returned (.tuple #[.agg #[v], .int .i64 se, .int .i64 ad, .int .i64 he, .int .i64 k]) ∧ ns.length ≤ 1048576 ∧ (∀ y ∈ ns, y.Fits) ∧ -1 ≤ se ∧ se ≤ 9000 ∧ -1 ≤ ad ∧ ad ≤ 99 ∧ -1 ≤ he ∧ he ≤ 4 ∧ -2 ≤ k ∧ k ≤ 1048576 ∧ (∃ (ns0 : List Nd) (ad0 : Int), ns0.length ≤ 14 ∧ (∀ y ∈ ns0, y.Fits) ∧ ns = keptA ns0 (ckA ns0 se ad0 he) (ckK ns0 se ad0 he) ∧ ad0 ≠ 7 ∧ ((ad = 7 ∧ k = ckK ns0 se ad0 he) ∨ (ad = ad0 ∧ (k = ckK ns0 se ad0 he ∨ k = ckK ns0 se ad0 he - 1)))) ∧ OwnN w.heap.size w' v ns ∧ Below w.heap.size w w' := by
  have hb0 : Below w.heap.size w (w.alloc (.cells #[.slice none 0 0] 28)) := (Below.refl _ _).alloc (Nat.le_refl _) _
  have hx0 := heap_alloc_new w (.cells #[.slice none 0 0] 28)
  have hc0 := codeIn_later hc hb0
  have hs0 : (w.alloc (.cells #[.slice none 0 0] 28)).heap.size = w.heap.size + 1 := by simp
  clear hc
  go_enter Try.func59, Try.ntmps59
  go_wp2_with fail
  generalize w.alloc (.cells #[.slice none 0 0] 28) = w0 at hb0 hx0 hc0 hs0 ⊢
  have HC0 : Hid (CodeIn w0.heap.size w0 a len) := hc0
  refine (new_any _ _ _ _ hc0).mono ?_
  rintro e u1 ⟨g, rfl, hc1, hb1⟩
  have hge := hc1.1
  have HU1 : Hid (Below w0.heap.size w0 u1) := hb1
  have hsu1 := hb1.size
  clear hb1 hc0
  go_wp2_with fail
  refine (below_any w0.heap.size g 4 _ (by omega) (by omega) hc1).mono ?_
  rintro e u2 ⟨n5, rfl, hn5, hc2, hg⟩
  have HBd : Hid (Below w0.heap.size w0 u2) := HU1.out.grown hg HU1.out.size (fun k hk => by cases hk; exact hge)
  have hsu2 := hg.size
  clear hc1 hg HU1 hc2
  have hcD : Hid (CodeIn u2.heap.size u2 a len) := codeIn_later HC0.out HBd.out
  clear HC0
  go_wp2_with fail
  refine (drawCook_any _ _ _ _ hcD.out).mono ?_
  rintro e w1 ⟨v3, ns, se, ad, he, rfl, hn1, hn2, hfit, hk0, hk1, he0, he1, hq0, hq1, h7, ho3, hb1⟩
  obtain ⟨a3, cap3, rfl, hA3, hR3⟩ := ho3.row
  have hs1 := hb1.size
  have HBD : Hid (Below w0.heap.size w0 w1) := HBd.out.trans (hb1.mono HBd.out.size)
  have hbX : Below w1.heap.size w1 (w1.alloc (.cells #[.slice a3 ns.length cap3] 28)) := (Below.refl _ _).alloc (Nat.le_refl _) _
  have HBX : Hid (Below w0.heap.size w0 (w1.alloc (.cells #[.slice a3 ns.length cap3] 28))) := HBD.out.trans (hbX.mono HBD.out.size)
  have cX : (w1.alloc (.cells #[.slice a3 ns.length cap3] 28)).cell? ⟨w1.heap.size, 0, none⟩ = some (.slice a3 ns.length cap3) := (cell_of_row _ _ 0 _ _ _ (heap_alloc_new w1 _)).trans rfl
  have HRR : Hid (RowN (w1.alloc (.cells #[.slice a3 ns.length cap3] 28)).heap.size (w1.alloc (.cells #[.slice a3 ns.length cap3] 28)) a3 ns) := hR3.grown hbX
  have hszX : (w1.alloc (.cells #[.slice a3 ns.length cap3] 28)).heap.size = w1.heap.size + 1 := by simp
  have HFT : Hid (∀ y ∈ ns, y.Fits) := hfit
  have HA3 : Hid (AddrN a3 cap3) := hA3
  obtain ⟨M, K, HM, hMK⟩ : ∃ (M : List Nd) (K : Int), Hid ((∀ y ∈ M, y.Fits) ∧ M.length ≤ 1048576 ∧ -1 ≤ K ∧ K ≤ 1048576) ∧ (M = keptA ns (ckA ns se ad he) (ckK ns se ad he) ∧ K = ckK ns se ad he) := ⟨_, _, ⟨keptA_fits hfit (ckA_fits hfit (by omega)), by unfold keptA; split; omega; exact ckA_le (by omega), ckK_range (by omega)⟩, rfl, rfl⟩
  clear ho3 hfit hR3 hA3 HBD hb1 HBd hcD
  go_wp2_with fail
  generalize w1.alloc (.cells #[.slice a3 ns.length cap3] 28) = wX at HBX cX HRR hszX hbX ⊢
  refine (specCookie_any a3 cap3 ns se ad he wX (by omega) HA3.out HRR.out).mono ?_
  rintro e w2 ⟨v5, rfl, ho5, hb2⟩
  rw [← hMK.1] at ho5
  rw [← hMK.2]
  have HMK : Hid _ := hMK
  clear hMK
  obtain ⟨a5, cap5, rfl, -, -⟩ := ho5.row
  have HB2 : Hid (Below w0.heap.size w0 w2) := HBX.out.trans (hb2.mono HBX.out.size)
  have hs2 := hb2.size
  clear hb2 HBX cX HRR hbX HA3
  have hx2 := (HB2.out.block w.heap.size (by omega)).trans hx0
  have hlt2 : w.heap.size < w2.heap.size := by omega
  have hx3 := (heap_alloc_old w2 (.cells #[.slice a5 M.length cap5] 28) hlt2).trans hx2
  have r0 : (w2.alloc (.cells #[.slice a5 M.length cap5] 28)).cell? ⟨w.heap.size, 0, none⟩ = some (.slice none 0 0) := by rw [cell_of_row _ _ 0 _ _ _ hx3]; rfl
  have f0 : (w2.alloc (.cells #[.slice a5 M.length cap5] 28)).frozen? ⟨w.heap.size, 0, none⟩ = false := frozen_of_row _ _ 0 _ _ hx3
  have c5 : (w2.alloc (.cells #[.slice a5 M.length cap5] 28)).cell? ⟨w2.heap.size, 0, none⟩ = some (.slice a5 M.length cap5) := (cell_of_row _ _ 0 _ _ _ (heap_alloc_new w2 _)).trans rfl
  have HFB : Hid (Below w.heap.size w ((w2.setCell ⟨w.heap.size, 0, none⟩ (.slice a5 M.length cap5)).alloc (.cells #[.slice a5 M.length cap5] 28))) := ((hb0.trans (HB2.out.mono (by omega))).setCell (Nat.le_refl _) _).alloc (by simp; omega) _
  have HBL : Hid (((w2.setCell ⟨w.heap.size, 0, none⟩ (.slice a5 M.length cap5)).alloc (.cells #[.slice a5 M.length cap5] 28)).heap[w.heap.size]? = some (.cells #[.slice a5 M.length cap5] 28 (0, 0))) := (heap_alloc_old _ _ (by simpa using hlt2)).trans ((heap_setCell_same _ _ 0 _ _ _ hx2).trans rfl)
  have HO : Hid (OwnN w.heap.size ((w2.setCell ⟨w.heap.size, 0, none⟩ (.slice a5 M.length cap5)).alloc (.cells #[.slice a5 M.length cap5] 28)) (.slice a5 M.length cap5) M) := (OwnN.base (ownsRow_setCell_below ho5 (show w.heap.size < wX.heap.size by omega) _) (by omega)).alloc _
  clear hx2 hx3 ho5 hb0 hx0 HB2
  have HM3 : Hid (-1 ≤ K ∧ K ≤ 1048576) := HM.out.2.2
  have hK0 : -1 ≤ K := HM3.out.1
  have hK1 : K ≤ 1048576 := HM3.out.2
  by_cases h5 : n5 = 0
  · subst h5
    go_wp2
    refine bodyPost_ret (res_cell5 rfl _ _ w.heap.size 28 #[.slice a5 M.length cap5] (0, 0) _ rfl ?_ Try.underlying28 rfl arenaSize) rfl ?_
    · exact HBL.out
    · exact ⟨_, M, _, _, _, _, rfl, HM.out.2.1, HM.out.1, by omega, by omega, by omega, by omega, by omega, by omega, by omega, by omega, ⟨ns, ad, by omega, HFT.out, HMK.out.1, h7, .inl ⟨rfl, HMK.out.2⟩⟩, HO.out, HFB.out⟩
  by_cases h6 : n5 = 1
  · have hw1 : wrap64 (K - 1) = K - 1 := by unfold wrap64; omega
    subst h6
    clear h5
    go_wp2
    refine bodyPost_ret (res_cell5 rfl _ _ w.heap.size 28 #[.slice a5 M.length cap5] (0, 0) _ rfl ?_ Try.underlying28 rfl arenaSize) rfl ?_
    · exact HBL.out
    · exact ⟨_, M, _, _, _, _, rfl, HM.out.2.1, HM.out.1, by omega, by omega, by omega, by omega, by omega, by omega, by omega, by omega, ⟨ns, ad, by omega, HFT.out, HMK.out.1, h7, .inr ⟨rfl, .inr (by rw [HMK.out.2])⟩⟩, HO.out, HFB.out⟩
  have hne0 : ((n5 : Int) == 0) = false := by simpa using h5
  have hne1 : ((n5 : Int) == 1) = false := by simp; omega
  clear h5 h6
  go_wp2
  refine bodyPost_ret (res_cell5 rfl _ _ w.heap.size 28 #[.slice a5 M.length cap5] (0, 0) _ rfl ?_ Try.underlying28 rfl arenaSize) rfl ?_
  · exact HBL.out
  · exact ⟨_, M, _, _, _, _, rfl, HM.out.2.1, HM.out.1, by omega, by omega, by omega, by omega, by omega, by omega, by omega, by omega, ⟨ns, ad, by omega, HFT.out, HMK.out.1, h7, .inr ⟨rfl, .inl HMK.out.2⟩⟩, HO.out, HFB.out⟩
end Go.Proofs.Ytffnadnndmmliaa
