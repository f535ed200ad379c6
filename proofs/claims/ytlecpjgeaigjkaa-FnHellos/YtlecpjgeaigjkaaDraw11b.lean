/- DrawServerTerm and DrawHelloTerm, the specification's. -/
import Derived.Test.YtlecpjgeaigjkaaDrawTold
import Derived.Test.YtlecpjgeaigjkaaMakeIs
import Derived.BigRegion
import Derived.Deep.RegionWith
namespace Go.Proofs.Ytlecpjgeaigjkaa
open Go.RowKit
set_option linter.unusedVariables false
theorem helloSize9 : (Try.prog.info? 34).map (·.size) = some 4 := by kernel_rfl
theorem res_cc {P : Program} {fn : Func} {p q : Tmp} {ty tz : TypeId} (h : fn.results = #[.cell p ty, .cell q tz]) (tmps : Array Value) (w : World) (g b : Nat) (t u : TypeId) (cs ds : Array Value) (fr gr : Nat × Nat) (d e : TypeDesc)
    (hp : tmps.getD p undef = .pointer (some ⟨g, 0, none⟩)) (hq : tmps.getD q undef = .pointer (some ⟨b, 0, none⟩)) (hg : w.heap[g]? = some (.cells cs t fr)) (hb : w.heap[b]? = some (.cells ds u gr))
    (hu : P.underlying ty = some d) (hd : (match d with | .struct _ | .array _ _ => true | _ => false) = true) (hi : (P.info? ty).map (·.size) = some cs.size)
    (hv : P.underlying tz = some e) (he : (match e with | .struct _ | .array _ _ => true | _ => false) = true) (hj : (P.info? tz).map (·.size) = some ds.size) :
    (results fn tmps).run P w = .ok (.tuple #[.agg cs, .agg ds]) w := by
  have hp' : tmps[p]?.getD undef = .pointer (some ⟨g, 0, none⟩) := by simpa using hp
  have hq' : tmps[q]?.getD undef = .pointer (some ⟨b, 0, none⟩) := by simpa using hq
  simp [results, h, hp', hq', asAddr, run_loadVar_row w g t ty cs fr d hg hu hd hi, run_loadVar_row w b u tz ds gr e hb hv he hj]
set_option maxHeartbeats 3200000 in
set_option maxRecDepth 20000 in
theorem drawSrv_any (a : Option Addr) (len cap : Nat) (w : World) (hc : CodeIn w.heap.size w a len) :
    Calls Try.prog 28 #[.slice a len cap] w fun e w' => ∃ v ns, ∃ no pu : Int, e = .returned (.tuple #[.agg #[v], .int .i64 no, .int .i64 pu]) ∧ ns.length ≤ 17 ∧ (∀ y ∈ ns, y.Fits) ∧ -1 ≤ no ∧ no ≤ 20 ∧ -1 ≤ pu ∧ pu ≤ 20 ∧ OwnN w.heap.size w' v ns ∧ Below w.heap.size w w' := by
  have hb0 : Below w.heap.size w (w.alloc (.cells #[.slice none 0 0] 30)) := (Below.refl _ _).alloc (Nat.le_refl _) _
  have hx0 := heap_alloc_new w (.cells #[.slice none 0 0] 30)
  have hc0 := codeIn_later hc hb0
  have hs0 : (w.alloc (.cells #[.slice none 0 0] 30)).heap.size = w.heap.size + 1 := by simp
  clear hc
  go_enter Try.func28, Try.ntmps28
  go_wp2_with fail
  generalize w.alloc (.cells #[.slice none 0 0] 30) = w0 at hb0 hx0 hc0 hs0 ⊢
  refine (new_any _ _ _ _ hc0).mono ?_
  rintro e w1 ⟨g, rfl, hc1, hb1⟩
  have hge := hc1.1
  have hgl1 := hc1.2.1
  have HB1 : Hid (Below w0.heap.size w0 w1) := hb1
  have hs1 := hb1.size
  clear hb1 hc0
  go_wp2_with fail
  refine (arena11_any w0.heap.size g _ hc1).mono ?_
  rintro e w2 ⟨v3, ns, no, pu, rfl, hn2, hfit, hk0, hk1, hk2, hk3, ho3, hc2, hg⟩
  obtain ⟨a3, cap3, rfl, _, _⟩ := ho3.row
  have HB2 : Hid (Below w0.heap.size w0 w2) := HB1.out.grown hg HB1.out.size (fun k hk => by cases hk; exact hge)
  have hs2 := hg.size
  clear hc1 hc2 hg HB1
  have hx4 := (HB2.out.block w.heap.size (by omega)).trans hx0
  have r0 : w2.cell? ⟨w.heap.size, 0, none⟩ = some (.slice none 0 0) := by rw [cell_of_row _ _ 0 _ _ _ hx4]; rfl
  have f0 : w2.frozen? ⟨w.heap.size, 0, none⟩ = false := frozen_of_row _ _ 0 _ _ hx4
  have HF : Hid ((∀ y ∈ ns, y.Fits) ∧ Below w.heap.size w (w2.setCell ⟨w.heap.size, 0, none⟩ (.slice a3 ns.length cap3))) := ⟨hfit, (hb0.trans (HB2.out.mono (by omega))).setCell (Nat.le_refl _) _⟩
  have HBL : Hid ((w2.setCell ⟨w.heap.size, 0, none⟩ (.slice a3 ns.length cap3)).heap[w.heap.size]? = some (.cells #[.slice a3 ns.length cap3] 30 (0, 0))) := (heap_setCell_same _ _ 0 _ _ _ hx4).trans rfl
  have HO : Hid (OwnN w.heap.size (w2.setCell ⟨w.heap.size, 0, none⟩ (.slice a3 ns.length cap3)) (.slice a3 ns.length cap3) ns) := OwnN.base (ownsRow_setCell_below ho3 (show w.heap.size < w1.heap.size by omega) _) (by omega)
  clear hx4 ho3 hfit hb0 hx0 HB2
  go_wp2
  refine bodyPost_ret (res_cell3 rfl _ _ w.heap.size 30 #[.slice a3 ns.length cap3] (0, 0) _ rfl ?_ Try.underlying30 rfl arenaSize) rfl ?_
  · exact HBL.out
  · exact ⟨_, ns, _, _, rfl, hn2, HF.out.1, hk0, hk1, hk2, hk3, HO.out, HF.out.2⟩
set_option maxHeartbeats 3200000 in
set_option maxRecDepth 20000 in
theorem drawHel_any (a : Option Addr) (len cap : Nat) (w : World) (hc : CodeIn w.heap.size w a len) :
    Calls Try.prog 25 #[.slice a len cap] w fun e w' => ∃ v ns, ∃ mo na no pu : Int, e = .returned (.tuple #[.agg #[v], .agg #[.int .i64 mo, .int .i64 na, .int .i64 no, .int .i64 pu]]) ∧ ns.length ≤ 17 ∧ (∀ y ∈ ns, y.Fits) ∧ 0 ≤ mo ∧ mo ≤ 3 ∧ -1 ≤ na ∧ na ≤ 10 ∧ -1 ≤ no ∧ no ≤ 20 ∧ -1 ≤ pu ∧ pu ≤ 20 ∧ OwnN w.heap.size w' v ns ∧ Below w.heap.size w w' := by
  have hb0 : Below w.heap.size w ((w.alloc (.cells #[.slice none 0 0] 30)).alloc (.cells #[.int .i64 0, .int .i64 0, .int .i64 0, .int .i64 0] 34)) := ((Below.refl _ _).alloc (Nat.le_refl _) _).alloc (by simp) _
  have hx0 : ((w.alloc (.cells #[.slice none 0 0] 30)).alloc (.cells #[.int .i64 0, .int .i64 0, .int .i64 0, .int .i64 0] 34)).heap[w.heap.size]? = some (.cells #[.slice none 0 0] 30 (0, 0)) := (heap_alloc_old _ _ (by simp)).trans (heap_alloc_new w _)
  have hy0 : ((w.alloc (.cells #[.slice none 0 0] 30)).alloc (.cells #[.int .i64 0, .int .i64 0, .int .i64 0, .int .i64 0] 34)).heap[w.heap.size + 1]? = some (.cells #[.int .i64 0, .int .i64 0, .int .i64 0, .int .i64 0] 34 (0, 0)) := by
    have := heap_alloc_new (w.alloc (.cells #[.slice none 0 0] 30)) (.cells #[.int .i64 0, .int .i64 0, .int .i64 0, .int .i64 0] 34)
    simpa using this
  have hc0 := codeIn_later hc hb0
  have hs0 : ((w.alloc (.cells #[.slice none 0 0] 30)).alloc (.cells #[.int .i64 0, .int .i64 0, .int .i64 0, .int .i64 0] 34)).heap.size = w.heap.size + 2 := by simp
  clear hc
  go_enter Try.func25, Try.ntmps25
  go_wp2_with fail
  generalize (w.alloc (.cells #[.slice none 0 0] 30)).alloc (.cells #[.int .i64 0, .int .i64 0, .int .i64 0, .int .i64 0] 34) = w0 at hb0 hx0 hy0 hc0 hs0 ⊢
  refine (new_any _ _ _ _ hc0).mono ?_
  rintro e w1 ⟨g, rfl, hc1, hb1⟩
  have hge := hc1.1
  have hgl1 := hc1.2.1
  have HB1 : Hid (Below w0.heap.size w0 w1) := hb1
  have hs1 := hb1.size
  clear hb1 hc0
  go_wp2_with fail
  refine (below_any w0.heap.size g 4 _ (by omega) (by omega) hc1).mono ?_
  rintro e w2 ⟨m, rfl, hm, hc2, hg⟩
  have HB2 : Hid (Below w0.heap.size w0 w2) := HB1.out.grown hg HB1.out.size (fun k hk => by cases hk; exact hge)
  have hs2 := hg.size
  clear hc1 hg HB1
  have hb3 : Below w2.heap.size w2 (w2.alloc (.cells #[.int .i64 1, .int .i64 2, .int .i64 9, .int .i64 10, .int .i64 (-1)] 3)) := (Below.refl _ _).alloc (Nat.le_refl _) _
  have hc3 := hc2.grown hb3
  have hrow := heap_alloc_new w2 (.cells #[.int .i64 1, .int .i64 2, .int .i64 9, .int .i64 10, .int .i64 (-1)] 3)
  have hgw2 := hc2.2.1
  have HB3 : Hid (Below w0.heap.size w0 (w2.alloc (.cells #[.int .i64 1, .int .i64 2, .int .i64 9, .int .i64 10, .int .i64 (-1)] 3))) := HB2.out.trans (hb3.mono HB2.out.size)
  have hs3 := hb3.size
  have HCL : Hid (∀ i, i < 5 → (w2.alloc (.cells #[.int .i64 1, .int .i64 2, .int .i64 9, .int .i64 10, .int .i64 (-1)] 3)).cell? ⟨w2.heap.size, i, none⟩ = some (.int .i64 (([1, 2, 9, 10, -1] : List Int).getD i 0))) := fun i hi => by
    rw [cell_of_row _ _ i _ _ _ hrow]
    rcases (show i = 0 ∨ i = 1 ∨ i = 2 ∨ i = 3 ∨ i = 4 by omega) with rfl | rfl | rfl | rfl | rfl <;> rfl
  clear hc2 hb3 HB2 hrow
  go_wp2_with fail
  generalize w2.alloc (.cells #[.int .i64 1, .int .i64 2, .int .i64 9, .int .i64 10, .int .i64 (-1)] 3) = w3 at hc3 HB3 HCL hs3 ⊢
  refine (pickInt_any w0.heap.size g w2.heap.size 5 _ [1, 2, 9, 10, -1] _ (by omega) (by omega) rfl (by omega) HCL.out hc3).mono ?_
  rintro e w4 ⟨nm, hnm, rfl, hc4, hg⟩
  have hbnm : -1 ≤ nm ∧ nm ≤ 10 := by simp at hnm; omega
  have HB4 : Hid (Below w0.heap.size w0 w4) := HB3.out.grown hg HB3.out.size (fun k hk => by cases hk; exact hge)
  have hs4 := hg.size
  clear hc3 hg HB3 hnm HCL
  have hbx : Below w4.heap.size w4 (w4.alloc (.cells #[.int .i64 (m : Int), .int .i64 nm, .int .i64 0, .int .i64 0] 34)) := (Below.refl _ _).alloc (Nat.le_refl _) _
  have hh4 := heap_alloc_new w4 (.cells #[.int .i64 (m : Int), .int .i64 nm, .int .i64 0, .int .i64 0] 34)
  have hc5 := hc4.grown hbx
  have HB5 : Hid (Below w0.heap.size w0 (w4.alloc (.cells #[.int .i64 (m : Int), .int .i64 nm, .int .i64 0, .int .i64 0] 34))) := HB4.out.trans (hbx.mono HB4.out.size)
  have hs5 : (w4.alloc (.cells #[.int .i64 (m : Int), .int .i64 nm, .int .i64 0, .int .i64 0] 34)).heap.size = w4.heap.size + 1 := by simp
  have hgw4 := hc4.2.1
  clear hc4 hbx HB4
  go_wp2_with fail
  generalize w4.alloc (.cells #[.int .i64 (m : Int), .int .i64 nm, .int .i64 0, .int .i64 0] 34) = w5 at hh4 hc5 HB5 hs5 ⊢
  refine (arena11_any w0.heap.size g _ hc5).mono ?_
  rintro e w6 ⟨v3, ns, no, pu, rfl, hn2, hfit, hk0, hk1, hk2, hk3, ho3, hc6, hg⟩
  obtain ⟨a3, cap3, rfl, _, _⟩ := ho3.row
  have HB6 : Hid (Below w0.heap.size w0 w6) := HB5.out.grown hg HB5.out.size (fun k hk => by cases hk; exact hge)
  have hs6 := hg.size
  have hh6 := (hg.block w4.heap.size (by omega) (by simp; omega)).trans hh4
  clear hc5 hc6 hg HB5 hh4
  have HFT : Hid (∀ y ∈ ns, y.Fits) := hfit
  have hx6 := (HB6.out.block w.heap.size (by omega)).trans hx0
  have hy6 := (HB6.out.block (w.heap.size + 1) (by omega)).trans hy0
  have hbA7 : Below w6.heap.size w6 (w6.alloc (.cells #[.slice a3 ns.length cap3] 30)) := (Below.refl _ _).alloc (Nat.le_refl _) _
  have hh7 := (hbA7.block w4.heap.size (by omega)).trans hh6
  have c0 : (w6.alloc (.cells #[.slice a3 ns.length cap3] 30)).cell? ⟨w4.heap.size, 0, none⟩ = some (.int .i64 (m : Int)) := (cell_of_row _ _ 0 _ _ _ hh7).trans rfl
  have c1 : (w6.alloc (.cells #[.slice a3 ns.length cap3] 30)).cell? ⟨w4.heap.size, 1, none⟩ = some (.int .i64 nm) := (cell_of_row _ _ 1 _ _ _ hh7).trans rfl
  have c2 : (w6.alloc (.cells #[.slice a3 ns.length cap3] 30)).cell? ⟨w4.heap.size, 2, none⟩ = some (.int .i64 0) := (cell_of_row _ _ 2 _ _ _ hh7).trans rfl
  have c3 : (w6.alloc (.cells #[.slice a3 ns.length cap3] 30)).cell? ⟨w4.heap.size, 3, none⟩ = some (.int .i64 0) := (cell_of_row _ _ 3 _ _ _ hh7).trans rfl
  have z0 : (w6.alloc (.cells #[.slice a3 ns.length cap3] 30)).frozen? ⟨w4.heap.size, 0, none⟩ = false := frozen_of_row _ _ 0 _ _ hh7
  have z1 : (w6.alloc (.cells #[.slice a3 ns.length cap3] 30)).frozen? ⟨w4.heap.size, 1, none⟩ = false := frozen_of_row _ _ 1 _ _ hh7
  have z2 : (w6.alloc (.cells #[.slice a3 ns.length cap3] 30)).frozen? ⟨w4.heap.size, 2, none⟩ = false := frozen_of_row _ _ 2 _ _ hh7
  have z3 : (w6.alloc (.cells #[.slice a3 ns.length cap3] 30)).frozen? ⟨w4.heap.size, 3, none⟩ = false := frozen_of_row _ _ 3 _ _ hh7
  have ca : (w6.alloc (.cells #[.slice a3 ns.length cap3] 30)).cell? ⟨w6.heap.size, 0, none⟩ = some (.slice a3 ns.length cap3) := (cell_of_row _ _ 0 _ _ _ (heap_alloc_new w6 _)).trans rfl
  have hx7 := (hbA7.block w.heap.size (by omega)).trans hx6
  have hy7 := (hbA7.block (w.heap.size + 1) (by omega)).trans hy6
  have ho7 := ho3.later hbA7
  have HB7 : Hid (Below w0.heap.size w0 (w6.alloc (.cells #[.slice a3 ns.length cap3] 30))) := HB6.out.trans (hbA7.mono HB6.out.size)
  have hs7 : (w6.alloc (.cells #[.slice a3 ns.length cap3] 30)).heap.size = w6.heap.size + 1 := by simp
  obtain ⟨ga, HGA⟩ : ∃ b, Hid (w6.heap.size = b) := ⟨_, rfl⟩
  obtain ⟨gh, HGH⟩ : ∃ b, Hid (w4.heap.size = b) := ⟨_, rfl⟩
  have hga : gh < ga := by rw [← HGA.out, ← HGH.out]; omega
  have hgh : w.heap.size + 1 < gh := by rw [← HGH.out]; omega
  clear hh6 hx6 hy6 ho3 HB6 hbA7 hfit
  go_wp2_with fail
  have hA8 : (((w6.alloc (.cells #[.slice a3 ns.length cap3] 30)).setCell ⟨w4.heap.size, 2, none⟩ (.int .i64 no)).setCell ⟨w4.heap.size, 3, none⟩ (.int .i64 pu)).heap[w6.heap.size]? = some (.cells #[.slice a3 ns.length cap3] 30 (0, 0)) := (Below.heap_setCell _ _ _ _ (show w6.heap.size ≠ w4.heap.size by omega)).trans ((Below.heap_setCell _ _ _ _ (show w6.heap.size ≠ w4.heap.size by omega)).trans (heap_alloc_new w6 _))
  have hH8 : (((w6.alloc (.cells #[.slice a3 ns.length cap3] 30)).setCell ⟨w4.heap.size, 2, none⟩ (.int .i64 no)).setCell ⟨w4.heap.size, 3, none⟩ (.int .i64 pu)).heap[w4.heap.size]? = some (.cells #[.int .i64 (m : Int), .int .i64 nm, .int .i64 no, .int .i64 pu] 34 (0, 0)) := (heap_setCell_same _ _ 3 _ _ _ ((heap_setCell_same _ _ 2 _ _ _ hh7).trans rfl)).trans rfl
  have hx8 : (((w6.alloc (.cells #[.slice a3 ns.length cap3] 30)).setCell ⟨w4.heap.size, 2, none⟩ (.int .i64 no)).setCell ⟨w4.heap.size, 3, none⟩ (.int .i64 pu)).heap[w.heap.size]? = some (.cells #[.slice none 0 0] 30 (0, 0)) := (Below.heap_setCell _ _ _ _ (show w.heap.size ≠ w4.heap.size by omega)).trans ((Below.heap_setCell _ _ _ _ (show w.heap.size ≠ w4.heap.size by omega)).trans hx7)
  have hy8 : (((w6.alloc (.cells #[.slice a3 ns.length cap3] 30)).setCell ⟨w4.heap.size, 2, none⟩ (.int .i64 no)).setCell ⟨w4.heap.size, 3, none⟩ (.int .i64 pu)).heap[w.heap.size + 1]? = some (.cells #[.int .i64 0, .int .i64 0, .int .i64 0, .int .i64 0] 34 (0, 0)) := (Below.heap_setCell _ _ _ _ (show w.heap.size + 1 ≠ w4.heap.size by omega)).trans ((Below.heap_setCell _ _ _ _ (show w.heap.size + 1 ≠ w4.heap.size by omega)).trans hy7)
  have ho8 : OwnN w5.heap.size (((w6.alloc (.cells #[.slice a3 ns.length cap3] 30)).setCell ⟨w4.heap.size, 2, none⟩ (.int .i64 no)).setCell ⟨w4.heap.size, 3, none⟩ (.int .i64 pu)) (.slice a3 ns.length cap3) ns := ownsRow_setCell_below (ownsRow_setCell_below ho7 (show w4.heap.size < w5.heap.size by omega) _) (show w4.heap.size < w5.heap.size by omega) _
  have HB8 : Hid (Below w0.heap.size w0 (((w6.alloc (.cells #[.slice a3 ns.length cap3] 30)).setCell ⟨w4.heap.size, 2, none⟩ (.int .i64 no)).setCell ⟨w4.heap.size, 3, none⟩ (.int .i64 pu))) := (HB7.out.setCell (show w0.heap.size ≤ w4.heap.size by omega) _).setCell (show w0.heap.size ≤ w4.heap.size by omega) _
  clear c0 c1 c2 c3 z0 z1 z2 z3 ca hh7 hx7 hy7 ho7 HB7
  rw [HGA.out] at hA8 ⊢
  rw [HGH.out] at hA8 hH8 hx8 hy8 ho8 HB8 ⊢
  generalize ((w6.alloc (.cells #[.slice a3 ns.length cap3] 30)).setCell ⟨gh, 2, none⟩ (.int .i64 no)).setCell ⟨gh, 3, none⟩ (.int .i64 pu) = w8 at hA8 hH8 hx8 hy8 ho8 HB8 ⊢
  have ca : w8.cell? ⟨ga, 0, none⟩ = some (.slice a3 ns.length cap3) := (cell_of_row _ _ 0 _ _ _ hA8).trans rfl
  have c0 : w8.cell? ⟨gh, 0, none⟩ = some (.int .i64 (m : Int)) := (cell_of_row _ _ 0 _ _ _ hH8).trans rfl
  have c1 : w8.cell? ⟨gh, 1, none⟩ = some (.int .i64 nm) := (cell_of_row _ _ 1 _ _ _ hH8).trans rfl
  have c2 : w8.cell? ⟨gh, 2, none⟩ = some (.int .i64 no) := (cell_of_row _ _ 2 _ _ _ hH8).trans rfl
  have c3 : w8.cell? ⟨gh, 3, none⟩ = some (.int .i64 pu) := (cell_of_row _ _ 3 _ _ _ hH8).trans rfl
  have r0 : w8.cell? ⟨w.heap.size, 0, none⟩ = some (.slice none 0 0) := (cell_of_row _ _ 0 _ _ _ hx8).trans rfl
  have f0 : w8.frozen? ⟨w.heap.size, 0, none⟩ = false := frozen_of_row _ _ 0 _ _ hx8
  have s0 : w8.cell? ⟨w.heap.size + 1, 0, none⟩ = some (.int .i64 0) := (cell_of_row _ _ 0 _ _ _ hy8).trans rfl
  have s1 : w8.cell? ⟨w.heap.size + 1, 1, none⟩ = some (.int .i64 0) := (cell_of_row _ _ 1 _ _ _ hy8).trans rfl
  have s2 : w8.cell? ⟨w.heap.size + 1, 2, none⟩ = some (.int .i64 0) := (cell_of_row _ _ 2 _ _ _ hy8).trans rfl
  have s3 : w8.cell? ⟨w.heap.size + 1, 3, none⟩ = some (.int .i64 0) := (cell_of_row _ _ 3 _ _ _ hy8).trans rfl
  have t0 : w8.frozen? ⟨w.heap.size + 1, 0, none⟩ = false := frozen_of_row _ _ 0 _ _ hy8
  have t1 : w8.frozen? ⟨w.heap.size + 1, 1, none⟩ = false := frozen_of_row _ _ 1 _ _ hy8
  have t2 : w8.frozen? ⟨w.heap.size + 1, 2, none⟩ = false := frozen_of_row _ _ 2 _ _ hy8
  have t3 : w8.frozen? ⟨w.heap.size + 1, 3, none⟩ = false := frozen_of_row _ _ 3 _ _ hy8
  have HX1 : Hid ((((((w8.setCell ⟨w.heap.size, 0, none⟩ (.slice a3 ns.length cap3)).setCell ⟨w.heap.size + 1, 0, none⟩ (.int .i64 (m : Int))).setCell ⟨w.heap.size + 1, 1, none⟩ (.int .i64 nm)).setCell ⟨w.heap.size + 1, 2, none⟩ (.int .i64 no)).setCell ⟨w.heap.size + 1, 3, none⟩ (.int .i64 pu)).heap[w.heap.size]? = some (.cells #[.slice a3 ns.length cap3] 30 (0, 0))) := by
    have e : ∀ (wz : World) (j : Nat) (u : Value), (wz.setCell ⟨w.heap.size + 1, j, none⟩ u).heap[w.heap.size]? = wz.heap[w.heap.size]? := fun wz j u => Below.heap_setCell _ _ _ _ (show w.heap.size ≠ w.heap.size + 1 by omega)
    show _ = _
    rw [e, e, e, e]
    exact (heap_setCell_same _ _ 0 _ _ _ hx8).trans rfl
  have hy9 : (w8.setCell ⟨w.heap.size, 0, none⟩ (.slice a3 ns.length cap3)).heap[w.heap.size + 1]? = some (.cells #[.int .i64 0, .int .i64 0, .int .i64 0, .int .i64 0] 34 (0, 0)) := (Below.heap_setCell _ _ _ _ (show w.heap.size + 1 ≠ w.heap.size by omega)).trans hy8
  have HX2 : Hid ((((((w8.setCell ⟨w.heap.size, 0, none⟩ (.slice a3 ns.length cap3)).setCell ⟨w.heap.size + 1, 0, none⟩ (.int .i64 (m : Int))).setCell ⟨w.heap.size + 1, 1, none⟩ (.int .i64 nm)).setCell ⟨w.heap.size + 1, 2, none⟩ (.int .i64 no)).setCell ⟨w.heap.size + 1, 3, none⟩ (.int .i64 pu)).heap[w.heap.size + 1]? = some (.cells #[.int .i64 (m : Int), .int .i64 nm, .int .i64 no, .int .i64 pu] 34 (0, 0))) := store4 hy9 _ _ _ _
  have HXO : Hid (OwnN w.heap.size (((((w8.setCell ⟨w.heap.size, 0, none⟩ (.slice a3 ns.length cap3)).setCell ⟨w.heap.size + 1, 0, none⟩ (.int .i64 (m : Int))).setCell ⟨w.heap.size + 1, 1, none⟩ (.int .i64 nm)).setCell ⟨w.heap.size + 1, 2, none⟩ (.int .i64 no)).setCell ⟨w.heap.size + 1, 3, none⟩ (.int .i64 pu)) (.slice a3 ns.length cap3) ns) := OwnN.base (ownsRow_setCell_below (ownsRow_setCell_below (ownsRow_setCell_below (ownsRow_setCell_below (ownsRow_setCell_below ho8 (show w.heap.size < w5.heap.size by omega) _) (show w.heap.size + 1 < w5.heap.size by omega) _) (show w.heap.size + 1 < w5.heap.size by omega) _) (show w.heap.size + 1 < w5.heap.size by omega) _) (show w.heap.size + 1 < w5.heap.size by omega) _) (by omega)
  have HXB : Hid (Below w.heap.size w (((((w8.setCell ⟨w.heap.size, 0, none⟩ (.slice a3 ns.length cap3)).setCell ⟨w.heap.size + 1, 0, none⟩ (.int .i64 (m : Int))).setCell ⟨w.heap.size + 1, 1, none⟩ (.int .i64 nm)).setCell ⟨w.heap.size + 1, 2, none⟩ (.int .i64 no)).setCell ⟨w.heap.size + 1, 3, none⟩ (.int .i64 pu))) := below4 (g := w.heap.size + 1) ((hb0.trans (HB8.out.mono (by omega))).setCell (Nat.le_refl _) _) (by omega) _ _ _ _
  have hne1 : ga ≠ w.heap.size := by omega
  have hne2 : gh ≠ w.heap.size := by omega
  have hne3 : gh ≠ w.heap.size + 1 := by omega
  clear hA8 hH8 hx8 hy8 ho8 HB8 hy9 hb0 hx0 hy0
  go_region
  go_wp2
  refine bodyPost_ret (res_cc rfl _ _ w.heap.size (w.heap.size + 1) 30 34 #[.slice a3 ns.length cap3] #[.int .i64 (m : Int), .int .i64 nm, .int .i64 no, .int .i64 pu] (0, 0) (0, 0) _ _ rfl rfl ?_ ?_ Try.underlying30 rfl arenaSize Try.underlying34 rfl helloSize9) rfl ?_
  · exact HX1.out
  · exact HX2.out
  · exact ⟨_, ns, _, _, _, _, rfl, hn2, HFT.out, by omega, by omega, hbnm.1, hbnm.2, hk0, hk1, hk2, hk3, HXO.out.drew, HXB.out.drew⟩
end Go.Proofs.Ytlecpjgeaigjkaa
