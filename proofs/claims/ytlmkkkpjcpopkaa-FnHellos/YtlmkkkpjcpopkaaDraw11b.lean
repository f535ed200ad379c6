/- DrawServerTerm and DrawHelloTerm, the specification's. -/
import Derived.Test.YtlmkkkpjcpopkaaDrawTold
import Derived.Test.YtlmkkkpjcpopkaaMakeIs
import Derived.BigRegion
import Derived.Deep.RegionWith
namespace Go.Proofs.Ytlmkkkpjcpopkaa
open Go.RowKit
set_option linter.unusedVariables false
theorem helloSize9 : (Try.prog.info? 28).map (·.size) = some 4 := by kernel_rfl
theorem res_cc {P : Program} {fn : Func} {p q : Tmp} {ty tz : TypeId} (h : fn.results = #[.cell p ty, .cell q tz]) (tmps : Array Value) (w : World) (g b : Nat) (t u : TypeId) (cs ds : Array Value) (fr gr : Nat × Nat) (d e : TypeDesc)
    (hp : tmps.getD p undef = .pointer (some ⟨g, 0, none⟩)) (hq : tmps.getD q undef = .pointer (some ⟨b, 0, none⟩)) (hg : w.heap[g]? = some (.cells cs t fr)) (hb : w.heap[b]? = some (.cells ds u gr))
    (hu : P.underlying ty = some d) (hd : (match d with | .struct _ | .array _ _ => true | _ => false) = true) (hi : (P.info? ty).map (·.size) = some cs.size)
    (hv : P.underlying tz = some e) (he : (match e with | .struct _ | .array _ _ => true | _ => false) = true) (hj : (P.info? tz).map (·.size) = some ds.size) :
    (results fn tmps).run P w = .ok (.tuple #[.agg cs, .agg ds]) w := by
  have hp' : tmps[p]?.getD undef = .pointer (some ⟨g, 0, none⟩) := by simpa using hp
  have hq' : tmps[q]?.getD undef = .pointer (some ⟨b, 0, none⟩) := by simpa using hq
  simp [results, h, hp', hq', asAddr, run_loadVar_row w g t ty cs fr d hg hu hd hi, run_loadVar_row w b u tz ds gr e hb hv he hj]
set_option maxHeartbeats 3200000 in
set_option maxRecDepth 20000 in
theorem drawSrv_any (a : Option Addr) (len cap : Nat) (w : World) (hc : CodeIn w.heap.size w a len) :
    Calls Try.prog 18 #[.slice a len cap] w fun e w' => ∃ v ns, ∃ no pu : Int, e = .returned (.tuple #[.agg #[v], .int .i64 no, .int .i64 pu]) ∧ ns.length ≤ 17 ∧ (∀ y ∈ ns, y.Fits) ∧ -1 ≤ no ∧ no ≤ 20 ∧ -1 ≤ pu ∧ pu ≤ 20 ∧ OwnN w.heap.size w' v ns ∧ Below w.heap.size w w' := by
  have hb0 : Below w.heap.size w (w.alloc (.cells #[.slice none 0 0] 26)) := (Below.refl _ _).alloc (Nat.le_refl _) _
  have hx0 := heap_alloc_new w (.cells #[.slice none 0 0] 26)
  have hc0 := codeIn_later hc hb0
  have hs0 : (w.alloc (.cells #[.slice none 0 0] 26)).heap.size = w.heap.size + 1 := by simp
  clear hc
  go_enter Try.func18, Try.ntmps18
  go_wp2_with fail
  generalize w.alloc (.cells #[.slice none 0 0] 26) = w0 at hb0 hx0 hc0 hs0 ⊢
  refine (new_any _ _ _ _ hc0).mono ?_
  rintro e w1 ⟨g, rfl, hc1, hb1⟩
  have hge := hc1.1
  have hgl1 := hc1.2.1
  have HB1 : Hid (Below w0.heap.size w0 w1) := hb1
  have hs1 := hb1.size
  clear hb1 hc0
  go_wp2_with fail
  refine (arena11_any w0.heap.size g _ hc1).mono ?_
  rintro e w2 ⟨v3, ns, no, pu, rfl, hn2, hfit, hk0, hk1, hk2, hk3, ho3, hc2, hg⟩
  obtain ⟨a3, cap3, rfl, _, _⟩ := ho3.row
  have HB2 : Hid (Below w0.heap.size w0 w2) := HB1.out.grown hg HB1.out.size (fun k hk => by cases hk; exact hge)
  have hs2 := hg.size
  clear hc1 hc2 hg HB1
  have hx4 := (HB2.out.block w.heap.size (by omega)).trans hx0
  have r0 : w2.cell? ⟨w.heap.size, 0, none⟩ = some (.slice none 0 0) := by rw [cell_of_row _ _ 0 _ _ _ hx4]; rfl
  have f0 : w2.frozen? ⟨w.heap.size, 0, none⟩ = false := frozen_of_row _ _ 0 _ _ hx4
  have HF : Hid ((∀ y ∈ ns, y.Fits) ∧ Below w.heap.size w (w2.setCell ⟨w.heap.size, 0, none⟩ (.slice a3 ns.length cap3))) := ⟨hfit, (hb0.trans (HB2.out.mono (by omega))).setCell (Nat.le_refl _) _⟩
  have HBL : Hid ((w2.setCell ⟨w.heap.size, 0, none⟩ (.slice a3 ns.length cap3)).heap[w.heap.size]? = some (.cells #[.slice a3 ns.length cap3] 26 (0, 0))) := (heap_setCell_same _ _ 0 _ _ _ hx4).trans rfl
  have HO : Hid (OwnN w.heap.size (w2.setCell ⟨w.heap.size, 0, none⟩ (.slice a3 ns.length cap3)) (.slice a3 ns.length cap3) ns) := OwnN.base (ownsRow_setCell_below ho3 (show w.heap.size < w1.heap.size by omega) _) (by omega)
  clear hx4 ho3 hfit hb0 hx0 HB2
  go_wp2
  refine bodyPost_ret (res_cell3 rfl _ _ w.heap.size 26 #[.slice a3 ns.length cap3] (0, 0) _ rfl ?_ Try.underlying26 rfl arenaSize) rfl ?_
  · exact HBL.out
  · exact ⟨_, ns, _, _, rfl, hn2, HF.out.1, hk0, hk1, hk2, hk3, HO.out, HF.out.2⟩
set_option maxHeartbeats 3200000 in
set_option maxRecDepth 20000 in
theorem drawHel_any (a : Option Addr) (len cap : Nat) (w : World) (hc : CodeIn w.heap.size w a len) :
    Calls Try.prog 13 #[.slice a len cap] w fun e w' => ∃ v ns, ∃ mo na no pu : Int, e = .returned (.tuple #[.agg #[v], .agg #[.int .i64 mo, .int .i64 na, .int .i64 no, .int .i64 pu]]) ∧ ns.length ≤ 17 ∧ (∀ y ∈ ns, y.Fits) ∧ 0 ≤ mo ∧ mo ≤ 3 ∧ -1 ≤ na ∧ na ≤ 10 ∧ -1 ≤ no ∧ no ≤ 20 ∧ -1 ≤ pu ∧ pu ≤ 20 ∧ OwnN w.heap.size w' v ns ∧ Below w.heap.size w w' := by
  have hb0 : Below w.heap.size w ((w.alloc (.cells #[.slice none 0 0] 26)).alloc (.cells #[.int .i64 0, .int .i64 0, .int .i64 0, .int .i64 0] 28)) := ((Below.refl _ _).alloc (Nat.le_refl _) _).alloc (by simp) _
  have hx0 : ((w.alloc (.cells #[.slice none 0 0] 26)).alloc (.cells #[.int .i64 0, .int .i64 0, .int .i64 0, .int .i64 0] 28)).heap[w.heap.size]? = some (.cells #[.slice none 0 0] 26 (0, 0)) := (heap_alloc_old _ _ (by simp)).trans (heap_alloc_new w _)
  have hy0 : ((w.alloc (.cells #[.slice none 0 0] 26)).alloc (.cells #[.int .i64 0, .int .i64 0, .int .i64 0, .int .i64 0] 28)).heap[w.heap.size + 1]? = some (.cells #[.int .i64 0, .int .i64 0, .int .i64 0, .int .i64 0] 28 (0, 0)) := by
    have := heap_alloc_new (w.alloc (.cells #[.slice none 0 0] 26)) (.cells #[.int .i64 0, .int .i64 0, .int .i64 0, .int .i64 0] 28)
    simpa using this
  have hc0 := codeIn_later hc hb0
  have hs0 : ((w.alloc (.cells #[.slice none 0 0] 26)).alloc (.cells #[.int .i64 0, .int .i64 0, .int .i64 0, .int .i64 0] 28)).heap.size = w.heap.size + 2 := by simp
  clear hc
  go_enter Try.func13, Try.ntmps13
  go_wp2_with fail
  generalize (w.alloc (.cells #[.slice none 0 0] 26)).alloc (.cells #[.int .i64 0, .int .i64 0, .int .i64 0, .int .i64 0] 28) = w0 at hb0 hx0 hy0 hc0 hs0 ⊢
  refine (new_any _ _ _ _ hc0).mono ?_
  rintro e w1 ⟨g, rfl, hc1, hb1⟩
  have hge := hc1.1
  have hgl1 := hc1.2.1
  have HB1 : Hid (Below w0.heap.size w0 w1) := hb1
  have hs1 := hb1.size
  clear hb1 hc0
  go_wp2_with fail
  refine (below_any w0.heap.size g 4 _ (by omega) (by omega) hc1).mono ?_
  rintro e w2 ⟨m, rfl, hm, hc2, hg⟩
  have HB2 : Hid (Below w0.heap.size w0 w2) := HB1.out.grown hg HB1.out.size (fun k hk => by cases hk; exact hge)
  have hs2 := hg.size
  clear hc1 hg HB1
  have hb3 : Below w2.heap.size w2 (w2.alloc (.cells #[.int .i64 1, .int .i64 2, .int .i64 9, .int .i64 10, .int .i64 (-1)] 3)) := (Below.refl _ _).alloc (Nat.le_refl _) _
  have hc3 := hc2.grown hb3
  have hrow := heap_alloc_new w2 (.cells #[.int .i64 1, .int .i64 2, .int .i64 9, .int .i64 10, .int .i64 (-1)] 3)
  have hgw2 := hc2.2.1
  have HB3 : Hid (Below w0.heap.size w0 (w2.alloc (.cells #[.int .i64 1, .int .i64 2, .int .i64 9, .int .i64 10, .int .i64 (-1)] 3))) := HB2.out.trans (hb3.mono HB2.out.size)
  have hs3 := hb3.size
  have HCL : Hid (∀ i, i < 5 → (w2.alloc (.cells #[.int .i64 1, .int .i64 2, .int .i64 9, .int .i64 10, .int .i64 (-1)] 3)).cell? ⟨w2.heap.size, i, none⟩ = some (.int .i64 (([1, 2, 9, 10, -1] : List Int).getD i 0))) := fun i hi => by
    rw [cell_of_row _ _ i _ _ _ hrow]
    rcases (show i = 0 ∨ i = 1 ∨ i = 2 ∨ i = 3 ∨ i = 4 by omega) with rfl | rfl | rfl | rfl | rfl <;> rfl
  clear hc2 hb3 HB2 hrow
  go_wp2_with fail
  generalize w2.alloc (.cells #[.int .i64 1, .int .i64 2, .int .i64 9, .int .i64 10, .int .i64 (-1)] 3) = w3 at hc3 HB3 HCL hs3 ⊢
  refine (pickInt_any w0.heap.size g w2.heap.size 5 _ [1, 2, 9, 10, -1] _ (by omega) (by omega) rfl (by omega) HCL.out hc3).mono ?_
  rintro e w4 ⟨nm, hnm, rfl, hc4, hg⟩
  have hbnm : -1 ≤ nm ∧ nm ≤ 10 := by simp at hnm; omega
  have HB4 : Hid (Below w0.heap.size w0 w4) := HB3.out.grown hg HB3.out.size (fun k hk => by cases hk; exact hge)
  have hs4 := hg.size
  clear hc3 hg HB3 hnm HCL
  have hbx : Below w4.heap.size w4 (w4.alloc (.cells #[.int .i64 (m : Int), .int .i64 nm, .int .i64 0, .int .i64 0] 28)) := (Below.refl _ _).alloc (Nat.le_refl _) _
  have hh4 := heap_alloc_new w4 (.cells #[.int .i64 (m : Int), .int .i64 nm, .int .i64 0, .int .i64 0] 28)
  have hc5 := hc4.grown hbx
  have HB5 : Hid (Below w0.heap.size w0 (w4.alloc (.cells #[.int .i64 (m : Int), .int .i64 nm, .int .i64 0, .int .i64 0] 28))) := HB4.out.trans (hbx.mono HB4.out.size)
  have hs5 : (w4.alloc (.cells #[.int .i64 (m : Int), .int .i64 nm, .int .i64 0, .int .i64 0] 28)).heap.size = w4.heap.size + 1 := by simp
  have hgw4 := hc4.2.1
  clear hc4 hbx HB4
  go_wp2_with fail
  generalize w4.alloc (.cells #[.int .i64 (m : Int), .int .i64 nm, .int .i64 0, .int .i64 0] 28) = w5 at hh4 hc5 HB5 hs5 ⊢
  refine (arena11_any w0.heap.size g _ hc5).mono ?_
  rintro e w6 ⟨v3, ns, no, pu, rfl, hn2, hfit, hk0, hk1, hk2, hk3, ho3, hc6, hg⟩
  obtain ⟨a3, cap3, rfl, _, _⟩ := ho3.row
  have HB6 : Hid (Below w0.heap.size w0 w6) := HB5.out.grown hg HB5.out.size (fun k hk => by cases hk; exact hge)
  have hs6 := hg.size
  have hh6 := (hg.block w4.heap.size (by omega) (by simp; omega)).trans hh4
  clear hc5 hc6 hg HB5 hh4
  have HFT : Hid (∀ y ∈ ns, y.Fits) := hfit
  have hx6 := (HB6.out.block w.heap.size (by omega)).trans hx0
  have hy6 := (HB6.out.block (w.heap.size + 1) (by omega)).trans hy0
  have hbA7 : Below w6.heap.size w6 (w6.alloc (.cells #[.slice a3 ns.length cap3] 26)) := (Below.refl _ _).alloc (Nat.le_refl _) _
  have hh7 := (hbA7.block w4.heap.size (by omega)).trans hh6
  have c0 : (w6.alloc (.cells #[.slice a3 ns.length cap3] 26)).cell? ⟨w4.heap.size, 0, none⟩ = some (.int .i64 (m : Int)) := (cell_of_row _ _ 0 _ _ _ hh7).trans rfl
  have c1 : (w6.alloc (.cells #[.slice a3 ns.length cap3] 26)).cell? ⟨w4.heap.size, 1, none⟩ = some (.int .i64 nm) := (cell_of_row _ _ 1 _ _ _ hh7).trans rfl
  have c2 : (w6.alloc (.cells #[.slice a3 ns.length cap3] 26)).cell? ⟨w4.heap.size, 2, none⟩ = some (.int .i64 0) := (cell_of_row _ _ 2 _ _ _ hh7).trans rfl
  have c3 : (w6.alloc (.cells #[.slice a3 ns.length cap3] 26)).cell? ⟨w4.heap.size, 3, none⟩ = some (.int .i64 0) := (cell_of_row _ _ 3 _ _ _ hh7).trans rfl
  have z0 : (w6.alloc (.cells #[.slice a3 ns.length cap3] 26)).frozen? ⟨w4.heap.size, 0, none⟩ = false := frozen_of_row _ _ 0 _ _ hh7
  have z1 : (w6.alloc (.cells #[.slice a3 ns.length cap3] 26)).frozen? ⟨w4.heap.size, 1, none⟩ = false := frozen_of_row _ _ 1 _ _ hh7
  have z2 : (w6.alloc (.cells #[.slice a3 ns.length cap3] 26)).frozen? ⟨w4.heap.size, 2, none⟩ = false := frozen_of_row _ _ 2 _ _ hh7
  have z3 : (w6.alloc (.cells #[.slice a3 ns.length cap3] 26)).frozen? ⟨w4.heap.size, 3, none⟩ = false := frozen_of_row _ _ 3 _ _ hh7
  have ca : (w6.alloc (.cells #[.slice a3 ns.length cap3] 26)).cell? ⟨w6.heap.size, 0, none⟩ = some (.slice a3 ns.length cap3) := (cell_of_row _ _ 0 _ _ _ (heap_alloc_new w6 _)).trans rfl
  have hx7 := (hbA7.block w.heap.size (by omega)).trans hx6
  have hy7 := (hbA7.block (w.heap.size + 1) (by omega)).trans hy6
  have ho7 := ho3.later hbA7
  have HB7 : Hid (Below w0.heap.size w0 (w6.alloc (.cells #[.slice a3 ns.length cap3] 26))) := HB6.out.trans (hbA7.mono HB6.out.size)
  have hs7 : (w6.alloc (.cells #[.slice a3 ns.length cap3] 26)).heap.size = w6.heap.size + 1 := by simp
  obtain ⟨ga, HGA⟩ : ∃ b, Hid (w6.heap.size = b) := ⟨_, rfl⟩
  obtain ⟨gh, HGH⟩ : ∃ b, Hid (w4.heap.size = b) := ⟨_, rfl⟩
  have hga : gh < ga := by rw [← HGA.out, ← HGH.out]; omega
  have hgh : w.heap.size + 1 < gh := by rw [← HGH.out]; omega
  clear hh6 hx6 hy6 ho3 HB6 hbA7 hfit
  go_wp2_with fail
  have hA8 : (((w6.alloc (.cells #[.slice a3 ns.length cap3] 26)).setCell ⟨w4.heap.size, 2, none⟩ (.int .i64 no)).setCell ⟨w4.heap.size, 3, none⟩ (.int .i64 pu)).heap[w6.heap.size]? = some (.cells #[.slice a3 ns.length cap3] 26 (0, 0)) := (Below.heap_setCell _ _ _ _ (show w6.heap.size ≠ w4.heap.size by omega)).trans ((Below.heap_setCell _ _ _ _ (show w6.heap.size ≠ w4.heap.size by omega)).trans (heap_alloc_new w6 _))
  have hH8 : (((w6.alloc (.cells #[.slice a3 ns.length cap3] 26)).setCell ⟨w4.heap.size, 2, none⟩ (.int .i64 no)).setCell ⟨w4.heap.size, 3, none⟩ (.int .i64 pu)).heap[w4.heap.size]? = some (.cells #[.int .i64 (m : Int), .int .i64 nm, .int .i64 no, .int .i64 pu] 28 (0, 0)) := (heap_setCell_same _ _ 3 _ _ _ ((heap_setCell_same _ _ 2 _ _ _ hh7).trans rfl)).trans rfl
  have hx8 : (((w6.alloc (.cells #[.slice a3 ns.length cap3] 26)).setCell ⟨w4.heap.size, 2, none⟩ (.int .i64 no)).setCell ⟨w4.heap.size, 3, none⟩ (.int .i64 pu)).heap[w.heap.size]? = some (.cells #[.slice none 0 0] 26 (0, 0)) := (Below.heap_setCell _ _ _ _ (show w.heap.size ≠ w4.heap.size by omega)).trans ((Below.heap_setCell _ _ _ _ (show w.heap.size ≠ w4.heap.size by omega)).trans hx7)
  have hy8 : (((w6.alloc (.cells #[.slice a3 ns.length cap3] 26)).setCell ⟨w4.heap.size, 2, none⟩ (.int .i64 no)).setCell ⟨w4.heap.size, 3, none⟩ (.int .i64 pu)).heap[w.heap.size + 1]? = some (.cells #[.int .i64 0, .int .i64 0, .int .i64 0, .int .i64 0] 28 (0, 0)) := (Below.heap_setCell _ _ _ _ (show w.heap.size + 1 ≠ w4.heap.size by omega)).trans ((Below.heap_setCell _ _ _ _ (show w.heap.size + 1 ≠ w4.heap.size by omega)).trans hy7)
  have ho8 : OwnN w5.heap.size (((w6.alloc (.cells #[.slice a3 ns.length cap3] 26)).setCell ⟨w4.heap.size, 2, none⟩ (.int .i64 no)).setCell ⟨w4.heap.size, 3, none⟩ (.int .i64 pu)) (.slice a3 ns.length cap3) ns := ownsRow_setCell_below (ownsRow_setCell_below ho7 (show w4.heap.size < w5.heap.size by omega) _) (show w4.heap.size < w5.heap.size by omega) _
  have HB8 : Hid (Below w0.heap.size w0 (((w6.alloc (.cells #[.slice a3 ns.length cap3] 26)).setCell ⟨w4.heap.size, 2, none⟩ (.int .i64 no)).setCell ⟨w4.heap.size, 3, none⟩ (.int .i64 pu))) := (HB7.out.setCell (show w0.heap.size ≤ w4.heap.size by omega) _).setCell (show w0.heap.size ≤ w4.heap.size by omega) _
  clear c0 c1 c2 c3 z0 z1 z2 z3 ca hh7 hx7 hy7 ho7 HB7
  rw [HGA.out] at hA8 ⊢
  rw [HGH.out] at hA8 hH8 hx8 hy8 ho8 HB8 ⊢
  generalize ((w6.alloc (.cells #[.slice a3 ns.length cap3] 26)).setCell ⟨gh, 2, none⟩ (.int .i64 no)).setCell ⟨gh, 3, none⟩ (.int .i64 pu) = w8 at hA8 hH8 hx8 hy8 ho8 HB8 ⊢
  have ca : w8.cell? ⟨ga, 0, none⟩ = some (.slice a3 ns.length cap3) := (cell_of_row _ _ 0 _ _ _ hA8).trans rfl
  have c0 : w8.cell? ⟨gh, 0, none⟩ = some (.int .i64 (m : Int)) := (cell_of_row _ _ 0 _ _ _ hH8).trans rfl
  have c1 : w8.cell? ⟨gh, 1, none⟩ = some (.int .i64 nm) := (cell_of_row _ _ 1 _ _ _ hH8).trans rfl
  have c2 : w8.cell? ⟨gh, 2, none⟩ = some (.int .i64 no) := (cell_of_row _ _ 2 _ _ _ hH8).trans rfl
  have c3 : w8.cell? ⟨gh, 3, none⟩ = some (.int .i64 pu) := (cell_of_row _ _ 3 _ _ _ hH8).trans rfl
  have r0 : w8.cell? ⟨w.heap.size, 0, none⟩ = some (.slice none 0 0) := (cell_of_row _ _ 0 _ _ _ hx8).trans rfl
  have f0 : w8.frozen? ⟨w.heap.size, 0, none⟩ = false := frozen_of_row _ _ 0 _ _ hx8
  have s0 : w8.cell? ⟨w.heap.size + 1, 0, none⟩ = some (.int .i64 0) := (cell_of_row _ _ 0 _ _ _ hy8).trans rfl
  have s1 : w8.cell? ⟨w.heap.size + 1, 1, none⟩ = some (.int .i64 0) := (cell_of_row _ _ 1 _ _ _ hy8).trans rfl
  have s2 : w8.cell? ⟨w.heap.size + 1, 2, none⟩ = some (.int .i64 0) := (cell_of_row _ _ 2 _ _ _ hy8).trans rfl
  have s3 : w8.cell? ⟨w.heap.size + 1, 3, none⟩ = some (.int .i64 0) := (cell_of_row _ _ 3 _ _ _ hy8).trans rfl
  have t0 : w8.frozen? ⟨w.heap.size + 1, 0, none⟩ = false := frozen_of_row _ _ 0 _ _ hy8
  have t1 : w8.frozen? ⟨w.heap.size + 1, 1, none⟩ = false := frozen_of_row _ _ 1 _ _ hy8
  have t2 : w8.frozen? ⟨w.heap.size + 1, 2, none⟩ = false := frozen_of_row _ _ 2 _ _ hy8
  have t3 : w8.frozen? ⟨w.heap.size + 1, 3, none⟩ = false := frozen_of_row _ _ 3 _ _ hy8
  have HX1 : Hid ((((((w8.setCell ⟨w.heap.size, 0, none⟩ (.slice a3 ns.length cap3)).setCell ⟨w.heap.size + 1, 0, none⟩ (.int .i64 (m : Int))).setCell ⟨w.heap.size + 1, 1, none⟩ (.int .i64 nm)).setCell ⟨w.heap.size + 1, 2, none⟩ (.int .i64 no)).setCell ⟨w.heap.size + 1, 3, none⟩ (.int .i64 pu)).heap[w.heap.size]? = some (.cells #[.slice a3 ns.length cap3] 26 (0, 0))) := by
    have e : ∀ (wz : World) (j : Nat) (u : Value), (wz.setCell ⟨w.heap.size + 1, j, none⟩ u).heap[w.heap.size]? = wz.heap[w.heap.size]? := fun wz j u => Below.heap_setCell _ _ _ _ (show w.heap.size ≠ w.heap.size + 1 by omega)
    show _ = _
    rw [e, e, e, e]
    exact (heap_setCell_same _ _ 0 _ _ _ hx8).trans rfl
  have hy9 : (w8.setCell ⟨w.heap.size, 0, none⟩ (.slice a3 ns.length cap3)).heap[w.heap.size + 1]? = some (.cells #[.int .i64 0, .int .i64 0, .int .i64 0, .int .i64 0] 28 (0, 0)) := (Below.heap_setCell _ _ _ _ (show w.heap.size + 1 ≠ w.heap.size by omega)).trans hy8
  have HX2 : Hid ((((((w8.setCell ⟨w.heap.size, 0, none⟩ (.slice a3 ns.length cap3)).setCell ⟨w.heap.size + 1, 0, none⟩ (.int .i64 (m : Int))).setCell ⟨w.heap.size + 1, 1, none⟩ (.int .i64 nm)).setCell ⟨w.heap.size + 1, 2, none⟩ (.int .i64 no)).setCell ⟨w.heap.size + 1, 3, none⟩ (.int .i64 pu)).heap[w.heap.size + 1]? = some (.cells #[.int .i64 (m : Int), .int .i64 nm, .int .i64 no, .int .i64 pu] 28 (0, 0))) := store4 hy9 _ _ _ _
  have HXO : Hid (OwnN w.heap.size (((((w8.setCell ⟨w.heap.size, 0, none⟩ (.slice a3 ns.length cap3)).setCell ⟨w.heap.size + 1, 0, none⟩ (.int .i64 (m : Int))).setCell ⟨w.heap.size + 1, 1, none⟩ (.int .i64 nm)).setCell ⟨w.heap.size + 1, 2, none⟩ (.int .i64 no)).setCell ⟨w.heap.size + 1, 3, none⟩ (.int .i64 pu)) (.slice a3 ns.length cap3) ns) := OwnN.base (ownsRow_setCell_below (ownsRow_setCell_below (ownsRow_setCell_below (ownsRow_setCell_below (ownsRow_setCell_below ho8 (show w.heap.size < w5.heap.size by omega) _) (show w.heap.size + 1 < w5.heap.size by omega) _) (show w.heap.size + 1 < w5.heap.size by omega) _) (show w.heap.size + 1 < w5.heap.size by omega) _) (show w.heap.size + 1 < w5.heap.size by omega) _) (by omega)
  have HXB : Hid (Below w.heap.size w (((((w8.setCell ⟨w.heap.size, 0, none⟩ (.slice a3 ns.length cap3)).setCell ⟨w.heap.size + 1, 0, none⟩ (.int .i64 (m : Int))).setCell ⟨w.heap.size + 1, 1, none⟩ (.int .i64 nm)).setCell ⟨w.heap.size + 1, 2, none⟩ (.int .i64 no)).setCell ⟨w.heap.size + 1, 3, none⟩ (.int .i64 pu))) := below4 (g := w.heap.size + 1) ((hb0.trans (HB8.out.mono (by omega))).setCell (Nat.le_refl _) _) (by omega) _ _ _ _
  have hne1 : ga ≠ w.heap.size := by omega
  have hne2 : gh ≠ w.heap.size := by omega
  have hne3 : gh ≠ w.heap.size + 1 := by omega
  clear hA8 hH8 hx8 hy8 ho8 HB8 hy9 hb0 hx0 hy0
  go_region
  go_wp2
  refine bodyPost_ret (res_cc rfl _ _ w.heap.size (w.heap.size + 1) 26 28 #[.slice a3 ns.length cap3] #[.int .i64 (m : Int), .int .i64 nm, .int .i64 no, .int .i64 pu] (0, 0) (0, 0) _ _ rfl rfl ?_ ?_ Try.underlying26 rfl arenaSize Try.underlying28 rfl helloSize9) rfl ?_
  · exact HX1.out
  · exact HX2.out
  · exact ⟨_, ns, _, _, _, _, rfl, hn2, HFT.out, by omega, by omega, hbnm.1, hbnm.2, hk0, hk1, hk2, hk3, HXO.out.drew, HXB.out.drew⟩
end Go.Proofs.Ytlmkkkpjcpopkaa

namespace Go.Proofs.Ytlmkkkpjcpopkaa
open Go.RowKit
set_option linter.unusedVariables false
theorem keptA_fits11 {ns A : List Nd} {K : Int} (hf : ∀ y ∈ ns, y.Fits) (hA : ∀ y ∈ A, y.Fits) : ∀ y ∈ keptA ns A K, y.Fits := by
  unfold keptA; split
  · exact hf
  · exact hA
theorem hlA_fits {ns : List Nd} {mo na no pu : Int} (hf : ∀ y ∈ ns, y.Fits) (hl : ns.length ≤ 1048576) : ∀ y ∈ hlA ns mo na no pu, y.Fits :=
  listF_fits _ (putA_fits (putA_fits (putA_fits hf hl) (putA_le2 hl)) (putA_le2 (putA_le2 hl))) (hlA3_le hl)
theorem listF_rg (xs : List Int) {ns : List Nd} (hl : ns.length ≤ 1048576) : -1 ≤ (listF xs ns).2 ∧ (listF xs ns).2 ≤ 1048576 := by
  cases xs with
  | nil => rw [listF_nil]; simp only; have := putK_rg ns ⟨1, 0, 0, 0⟩; omega
  | cons x xs => rw [listF_cons]; simp only; have := makeK_rg (listF xs ns).1 2 x (listF xs ns).2; have := listF_le xs hl; omega
theorem hlK_range {ns : List Nd} {mo na no pu : Int} (hl : ns.length ≤ 1048576) : -1 ≤ hlK ns mo na no pu ∧ hlK ns mo na no pu ≤ 1048576 := listF_rg _ (hlA3_le hl)
theorem mod7 (len : Nat) : ((len : Int)).tmod 7 = ((len % 7 : Nat) : Int) := by rw [Int.tmod_eq_emod_of_nonneg (by omega)]; omega
set_option maxHeartbeats 3200000 in
set_option maxRecDepth 20000 in
theorem drawHelIn_any (a : Option Addr) (len cap : Nat) (w : World) (hlen : len ≤ 1048576) (hc : CodeIn w.heap.size w a len) :
    Calls Try.prog 25 #[.slice a len cap] w fun e w' => ∃ v ns, ∃ k : Int, e = .returned (.tuple #[.agg #[v], .int .i64 k]) ∧ ns.length ≤ 1048576 ∧ (∀ y ∈ ns, y.Fits) ∧ -2 ≤ k ∧ k ≤ 1048576 ∧ OwnN w.heap.size w' v ns ∧ Below w.heap.size w w' := by
  have hb0 : Below w.heap.size w (w.alloc (.cells #[.slice none 0 0] 26)) := (Below.refl _ _).alloc (Nat.le_refl _) _
  have hx0 := heap_alloc_new w (.cells #[.slice none 0 0] 26)
  have hc0 := codeIn_later hc hb0
  have hs0 : (w.alloc (.cells #[.slice none 0 0] 26)).heap.size = w.heap.size + 1 := by simp
  clear hc
  go_enter Try.func25, Try.ntmps25
  go_wp2_with fail
  generalize w.alloc (.cells #[.slice none 0 0] 26) = w0 at hb0 hx0 hc0 hs0 ⊢
  refine (drawHel_any _ _ _ _ hc0).mono ?_
  rintro e w1 ⟨v3, ns, mo, na, no, pu, rfl, hn2, hfit, hk0, hk1, he0, he1, hq0, hq1, hr0', hr1', ho3, hb1⟩
  obtain ⟨a3, cap3, rfl, hA3, hR3⟩ := ho3.row
  have hs1 := hb1.size
  have hbX : Below w1.heap.size w1 ((w1.alloc (.cells #[.slice a3 ns.length cap3] 26)).alloc (.cells #[.int .i64 mo, .int .i64 na, .int .i64 no, .int .i64 pu] 28)) := ((Below.refl _ _).alloc (Nat.le_refl _) _).alloc (by simp) _
  have HBX : Hid (Below w0.heap.size w0 ((w1.alloc (.cells #[.slice a3 ns.length cap3] 26)).alloc (.cells #[.int .i64 mo, .int .i64 na, .int .i64 no, .int .i64 pu] 28))) := hb1.trans (hbX.mono hb1.size)
  have hX0 : ((w1.alloc (.cells #[.slice a3 ns.length cap3] 26)).alloc (.cells #[.int .i64 mo, .int .i64 na, .int .i64 no, .int .i64 pu] 28)).heap[w1.heap.size]? = some (.cells #[.slice a3 ns.length cap3] 26 (0, 0)) := (heap_alloc_old _ _ (by simp)).trans (heap_alloc_new w1 _)
  have hX1 : ((w1.alloc (.cells #[.slice a3 ns.length cap3] 26)).alloc (.cells #[.int .i64 mo, .int .i64 na, .int .i64 no, .int .i64 pu] 28)).heap[w1.heap.size + 1]? = some (.cells #[.int .i64 mo, .int .i64 na, .int .i64 no, .int .i64 pu] 28 (0, 0)) := by
    have := heap_alloc_new (w1.alloc (.cells #[.slice a3 ns.length cap3] 26)) (.cells #[.int .i64 mo, .int .i64 na, .int .i64 no, .int .i64 pu] 28)
    simpa using this
  have cX : ((w1.alloc (.cells #[.slice a3 ns.length cap3] 26)).alloc (.cells #[.int .i64 mo, .int .i64 na, .int .i64 no, .int .i64 pu] 28)).cell? ⟨w1.heap.size, 0, none⟩ = some (.slice a3 ns.length cap3) := (cell_of_row _ _ 0 _ _ _ hX0).trans rfl
  have cH0 : ((w1.alloc (.cells #[.slice a3 ns.length cap3] 26)).alloc (.cells #[.int .i64 mo, .int .i64 na, .int .i64 no, .int .i64 pu] 28)).cell? ⟨w1.heap.size + 1, 0, none⟩ = some (.int .i64 mo) := (cell_of_row _ _ 0 _ _ _ hX1).trans rfl
  have cH1 : ((w1.alloc (.cells #[.slice a3 ns.length cap3] 26)).alloc (.cells #[.int .i64 mo, .int .i64 na, .int .i64 no, .int .i64 pu] 28)).cell? ⟨w1.heap.size + 1, 1, none⟩ = some (.int .i64 na) := (cell_of_row _ _ 1 _ _ _ hX1).trans rfl
  have cH2 : ((w1.alloc (.cells #[.slice a3 ns.length cap3] 26)).alloc (.cells #[.int .i64 mo, .int .i64 na, .int .i64 no, .int .i64 pu] 28)).cell? ⟨w1.heap.size + 1, 2, none⟩ = some (.int .i64 no) := (cell_of_row _ _ 2 _ _ _ hX1).trans rfl
  have cH3 : ((w1.alloc (.cells #[.slice a3 ns.length cap3] 26)).alloc (.cells #[.int .i64 mo, .int .i64 na, .int .i64 no, .int .i64 pu] 28)).cell? ⟨w1.heap.size + 1, 3, none⟩ = some (.int .i64 pu) := (cell_of_row _ _ 3 _ _ _ hX1).trans rfl
  have HRR : Hid (RowN ((w1.alloc (.cells #[.slice a3 ns.length cap3] 26)).alloc (.cells #[.int .i64 mo, .int .i64 na, .int .i64 no, .int .i64 pu] 28)).heap.size ((w1.alloc (.cells #[.slice a3 ns.length cap3] 26)).alloc (.cells #[.int .i64 mo, .int .i64 na, .int .i64 no, .int .i64 pu] 28)) a3 ns) := hR3.grown hbX
  have hszX : ((w1.alloc (.cells #[.slice a3 ns.length cap3] 26)).alloc (.cells #[.int .i64 mo, .int .i64 na, .int .i64 no, .int .i64 pu] 28)).heap.size = w1.heap.size + 2 := by simp
  have HA3 : Hid (AddrN a3 cap3) := hA3
  obtain ⟨M, K, HM, hMK⟩ : ∃ (M : List Nd) (K : Int), Hid ((∀ y ∈ M, y.Fits) ∧ M.length ≤ 1048576 ∧ -1 ≤ K ∧ K ≤ 1048576) ∧ (M = keptA ns (hlA ns mo na no pu) (hlK ns mo na no pu) ∧ K = hlK ns mo na no pu) := ⟨_, _, ⟨keptA_fits11 hfit (hlA_fits hfit (by omega)), by unfold keptA; split; omega; exact hlA_le (by omega), hlK_range (by omega)⟩, rfl, rfl⟩
  clear ho3 hfit hR3 hA3 hb1 hX0 hX1 hc0
  go_wp2_with fail
  generalize (w1.alloc (.cells #[.slice a3 ns.length cap3] 26)).alloc (.cells #[.int .i64 mo, .int .i64 na, .int .i64 no, .int .i64 pu] 28) = wX at HBX cX cH0 cH1 cH2 cH3 HRR hszX hbX ⊢
  clear cX cH0 cH1 cH2 cH3
  refine (specHello_any a3 cap3 ns mo na no pu wX (by omega) HA3.out HRR.out).mono ?_
  rintro e w2 ⟨v5, rfl, ho5, hb2⟩
  rw [← hMK.1] at ho5
  rw [← hMK.2]
  clear hMK
  obtain ⟨a5, cap5, rfl, -, -⟩ := ho5.row
  have HB2 : Hid (Below w0.heap.size w0 w2) := HBX.out.trans (hb2.mono HBX.out.size)
  have hs2 := hb2.size
  clear hb2 HBX HRR hbX HA3
  have hx2 := (HB2.out.block w.heap.size (by omega)).trans hx0
  have hlt2 : w.heap.size < w2.heap.size := by omega
  have hx3 := (heap_alloc_old w2 (.cells #[.slice a5 M.length cap5] 26) hlt2).trans hx2
  have r0 : (w2.alloc (.cells #[.slice a5 M.length cap5] 26)).cell? ⟨w.heap.size, 0, none⟩ = some (.slice none 0 0) := by rw [cell_of_row _ _ 0 _ _ _ hx3]; rfl
  have f0 : (w2.alloc (.cells #[.slice a5 M.length cap5] 26)).frozen? ⟨w.heap.size, 0, none⟩ = false := frozen_of_row _ _ 0 _ _ hx3
  have c5 : (w2.alloc (.cells #[.slice a5 M.length cap5] 26)).cell? ⟨w2.heap.size, 0, none⟩ = some (.slice a5 M.length cap5) := (cell_of_row _ _ 0 _ _ _ (heap_alloc_new w2 _)).trans rfl
  have HFB : Hid (Below w.heap.size w ((w2.setCell ⟨w.heap.size, 0, none⟩ (.slice a5 M.length cap5)).alloc (.cells #[.slice a5 M.length cap5] 26))) := ((hb0.trans (HB2.out.mono (by omega))).setCell (Nat.le_refl _) _).alloc (by simp; omega) _
  have HBL : Hid (((w2.setCell ⟨w.heap.size, 0, none⟩ (.slice a5 M.length cap5)).alloc (.cells #[.slice a5 M.length cap5] 26)).heap[w.heap.size]? = some (.cells #[.slice a5 M.length cap5] 26 (0, 0))) := (heap_alloc_old _ _ (by simpa using hlt2)).trans ((heap_setCell_same _ _ 0 _ _ _ hx2).trans rfl)
  have HO : Hid (OwnN w.heap.size ((w2.setCell ⟨w.heap.size, 0, none⟩ (.slice a5 M.length cap5)).alloc (.cells #[.slice a5 M.length cap5] 26)) (.slice a5 M.length cap5) M) := (OwnN.base (ownsRow_setCell_below ho5 (show w.heap.size < wX.heap.size by omega) _) (by omega)).alloc _
  clear hx2 hx3 ho5 hb0 hx0 HB2
  have HM3 : Hid (-1 ≤ K ∧ K ≤ 1048576) := HM.out.2.2
  have HW1 : Hid (wrap64 (K - 1) = K - 1 ∧ -2 ≤ K - 1 ∧ K - 1 ≤ 1048576 ∧ -2 ≤ K ∧ K ≤ 1048576) := by have := HM3.out; refine ⟨?_, by omega, by omega, by omega, by omega⟩; unfold wrap64; omega
  have ht := mod7 len
  clear HM3
  by_cases h7 : len % 7 = 0
  · rw [h7] at ht
    have hw1 := HW1.out.1
    clear h7
    go_wp2
    refine bodyPost_ret (res_cell2 rfl _ _ w.heap.size 26 #[.slice a5 M.length cap5] (0, 0) _ rfl ?_ Try.underlying26 rfl arenaSize) rfl ?_
    · exact HBL.out
    · exact ⟨_, M, _, rfl, HM.out.2.1, HM.out.1, by rw [HW1.out.1]; exact HW1.out.2.1, by rw [HW1.out.1]; exact HW1.out.2.2.1, HO.out, HFB.out⟩
  · have hne' : (((len % 7 : Nat) : Int) == 0) = false := by simp; omega
    generalize len % 7 = r7 at ht hne'
    clear h7
    go_wp2
    refine bodyPost_ret (res_cell2 rfl _ _ w.heap.size 26 #[.slice a5 M.length cap5] (0, 0) _ rfl ?_ Try.underlying26 rfl arenaSize) rfl ?_
    · exact HBL.out
    · exact ⟨_, M, _, rfl, HM.out.2.1, HM.out.1, HW1.out.2.2.2.1, HW1.out.2.2.2.2, HO.out, HFB.out⟩
end Go.Proofs.Ytlmkkkpjcpopkaa
