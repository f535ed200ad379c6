/- The drawing functions of chapter 12's laws, the specification's. -/
import Derived.Test.YtaanophnnkmkbaaGreatListP
import Derived.Test.YtaanophnnkmkbaaGreatPart12
import Derived.Test.YtaanophnnkmkbaaGreatLookPart12
import Derived.Test.YtaanophnnkmkbaaGreatSoftP12
import Derived.Test.YtaanophnnkmkbaaGreatPartP12
namespace Go.Proofs.YtaanophnnkmkbaaGreat
open Go.RowKit
set_option linter.unusedVariables false
theorem res_cell6 {P : Program} {fn : Func} {p u0 u1 u2 u3 u4 : Tmp} {ty : TypeId} (h : fn.results = #[.cell p ty, .tmp u0, .tmp u1, .tmp u2, .tmp u3, .tmp u4]) (tmps : Array Value) (w : World) (g : Nat) (t : TypeId) (cs : Array Value) (fr : Nat × Nat) (d : TypeDesc)
    (hp : tmps.getD p undef = .pointer (some ⟨g, 0, none⟩)) (hg : w.heap[g]? = some (.cells cs t fr))
    (hu : P.underlying ty = some d) (hd : (match d with | .struct _ | .array _ _ => true | _ => false) = true) (hi : (P.info? ty).map (·.size) = some cs.size) :
    (results fn tmps).run P w = .ok (.tuple #[.agg cs, tmps.getD u0 undef, tmps.getD u1 undef, tmps.getD u2 undef, tmps.getD u3 undef, tmps.getD u4 undef]) w := by
  have hp' : tmps[p]?.getD undef = .pointer (some ⟨g, 0, none⟩) := by simpa using hp
  simp [results, h, hp', asAddr, run_loadVar_row w g t ty cs fr d hg hu hd hi]
theorem res_cell7 {P : Program} {fn : Func} {p u0 u1 u2 u3 u4 u5 : Tmp} {ty : TypeId} (h : fn.results = #[.cell p ty, .tmp u0, .tmp u1, .tmp u2, .tmp u3, .tmp u4, .tmp u5]) (tmps : Array Value) (w : World) (g : Nat) (t : TypeId) (cs : Array Value) (fr : Nat × Nat) (d : TypeDesc)
    (hp : tmps.getD p undef = .pointer (some ⟨g, 0, none⟩)) (hg : w.heap[g]? = some (.cells cs t fr))
    (hu : P.underlying ty = some d) (hd : (match d with | .struct _ | .array _ _ => true | _ => false) = true) (hi : (P.info? ty).map (·.size) = some cs.size) :
    (results fn tmps).run P w = .ok (.tuple #[.agg cs, tmps.getD u0 undef, tmps.getD u1 undef, tmps.getD u2 undef, tmps.getD u3 undef, tmps.getD u4 undef, tmps.getD u5 undef]) w := by
  have hp' : tmps[p]?.getD undef = .pointer (some ⟨g, 0, none⟩) := by simpa using hp
  simp [results, h, hp', asAddr, run_loadVar_row w g t ty cs fr d hg hu hd hi]
theorem sideA_fits {ns : List Nd} {s n : Int} (hf : ∀ y ∈ ns, y.Fits) (hl : ns.length ≤ 1048576) : ∀ y ∈ sideA ns s n, y.Fits := makeA_fits (putA_fits hf hl) (putA_le2 hl)
theorem overA_fits {ns : List Nd} {k s n d : Int} (hf : ∀ y ∈ ns, y.Fits) (hl : ns.length ≤ 1048576) : ∀ y ∈ overA ns k s n d, y.Fits := makeA_fits (makeA_fits (sideA_fits hf hl) (sideA_le hl)) (makeA_le (sideA_le hl))
theorem wdA_fits {ns : List Nd} {m d : Int} (hf : ∀ y ∈ ns, y.Fits) (hl : ns.length ≤ 1048576) : ∀ y ∈ wdA ns m d, y.Fits := listF_fits _ (makeA_fits (putA_fits hf hl) (putA_le2 hl)) (wdA2_le hl)
theorem pvA_fits {ns : List Nd} {m mo nm sa : Int} (hf : ∀ y ∈ ns, y.Fits) (hl : ns.length ≤ 1048576) : ∀ y ∈ pvA ns m mo nm sa, y.Fits := by
  unfold pvA; split
  · exact makeA_fits (wdA_fits (lgA_fits (crA_fits hf hl) (crA_le hl)) (pcA2_le hl)) (pcA3_le hl)
  · exact putA_fits hf hl
theorem ptA_fits {ns : List Nd} {sd hd m1 m mo nm sa : Int} (hf : ∀ y ∈ ns, y.Fits) (hl : ns.length ≤ 1048576) : ∀ y ∈ ptA ns sd hd m1 m mo nm sa, y.Fits :=
  makeA_fits (listF_fits _ (overA_fits (pvA_fits (sideA_fits hf hl) (sideA_le hl)) (ptA2_le hl)) (ptA3_le hl)) (ptL_le hl)
theorem akA_fits {ns : List Nd} {hd le sa : Int} (hf : ∀ y ∈ ns, y.Fits) (hl : ns.length ≤ 1048576) : ∀ y ∈ akA ns hd le sa, y.Fits :=
  makeA_fits (listF_fits _ (makeA_fits (putA_fits (sideA_fits hf hl) (sideA_le hl)) (akA2_le hl)) (akA3_le hl)) (akL_le hl)
theorem ptK_range {ns : List Nd} {sd hd m1 m mo nm sa : Int} (hl : ns.length ≤ 1048576) : -1 ≤ ptK ns sd hd m1 m mo nm sa ∧ ptK ns sd hd m1 m mo nm sa ≤ 1048576 := by
  have := makeK_range (ptL ns sd hd m1 m mo nm sa).1 5 (sideK ns hd sd) (ptL ns sd hd m1 m mo nm sa).2
  have := ptL_le (sd := sd) (hd := hd) (m1 := m1) (m := m) (mo := mo) (nm := nm) (sa := sa) hl
  unfold ptK; omega
theorem akK_range {ns : List Nd} {hd le sa : Int} (hl : ns.length ≤ 1048576) : -1 ≤ akK ns hd le sa ∧ akK ns hd le sa ≤ 1048576 := by
  have := makeK_range (akL ns hd le sa).1 5 (sideK ns hd 40) (akL ns hd le sa).2
  have := akL_le (hd := hd) (le := le) (sa := sa) hl
  unfold akK; omega
set_option maxHeartbeats 3200000 in
set_option maxRecDepth 20000 in
theorem drawPart_any (a : Option Addr) (len cap : Nat) (w : World) (hc : CodeIn w.heap.size w a len) :
    Calls Tryz.prog 38 #[.slice a len cap] w fun e w' => ∃ v ns, ∃ sd hd mo nm sa : Int, e = .returned (.tuple #[.agg #[v], .int .i64 sd, .int .i64 hd, .int .i64 mo, .int .i64 nm, .int .i64 sa]) ∧ 1 ≤ ns.length ∧ ns.length ≤ 14 ∧ (∀ y ∈ ns, Sf ns.length y) ∧ 1 ≤ sd ∧ sd ≤ 2 ∧ 0 ≤ hd ∧ hd ≤ 3 ∧ 1 ≤ mo ∧ mo ≤ 2 ∧ 1 ≤ nm ∧ nm ≤ 10 ∧ -1 ≤ sa ∧ sa ≤ 3 ∧ OwnN w.heap.size w' v ns ∧ Below w.heap.size w w' := by
  have hb0 : Below w.heap.size w (w.alloc (.cells #[.slice none 0 0] 26)) := (Below.refl _ _).alloc (Nat.le_refl _) _
  have hx0 := heap_alloc_new w (.cells #[.slice none 0 0] 26)
  have hc0 := codeIn_later hc hb0
  have hs0 : (w.alloc (.cells #[.slice none 0 0] 26)).heap.size = w.heap.size + 1 := by simp
  clear hc
  go_enter Tryz.func38, Tryz.ntmps38
  go_wp2_with fail
  generalize w.alloc (.cells #[.slice none 0 0] 26) = w0 at hb0 hx0 hc0 hs0 ⊢
  refine (new_any _ _ _ _ hc0).mono ?_
  rintro e w1 ⟨g, rfl, hc1, hb1⟩
  have hge := hc1.1
  have hgl1 := hc1.2.1
  have HB1 : Hid (Below w0.heap.size w0 w1) := hb1
  have hs1 := hb1.size
  clear hb1 hc0
  go_wp2_with fail
  refine (below_any w0.heap.size g 2 _ (by omega) (by omega) hc1).mono ?_
  rintro e w2 ⟨sx, rfl, hsx, hc2, hg⟩
  have HB2 : Hid (Below w0.heap.size w0 w2) := HB1.out.grown hg HB1.out.size (fun k hk => by cases hk; exact hge)
  have hs2 := hg.size
  clear hc1 hg HB1
  go_wp2_with fail
  refine (below_any w0.heap.size g 2 _ (by omega) (by omega) hc2).mono ?_
  rintro e w3 ⟨mx, rfl, hmx, hc3, hg⟩
  have HB3 : Hid (Below w0.heap.size w0 w3) := HB2.out.grown hg HB2.out.size (fun k hk => by cases hk; exact hge)
  have hs3 := hg.size
  clear hc2 hg HB2
  have hb4 : Below w3.heap.size w3 (w3.alloc (.cells #[.int .i64 1, .int .i64 2, .int .i64 9, .int .i64 9, .int .i64 10] 3)) := (Below.refl _ _).alloc (Nat.le_refl _) _
  have hc4 := hc3.grown hb4
  have hrow := heap_alloc_new w3 (.cells #[.int .i64 1, .int .i64 2, .int .i64 9, .int .i64 9, .int .i64 10] 3)
  have hgw3 := hc3.2.1
  have HB4 : Hid (Below w0.heap.size w0 (w3.alloc (.cells #[.int .i64 1, .int .i64 2, .int .i64 9, .int .i64 9, .int .i64 10] 3))) := HB3.out.trans (hb4.mono HB3.out.size)
  have hs4 := hb4.size
  have HCL : Hid (∀ i, i < 5 → (w3.alloc (.cells #[.int .i64 1, .int .i64 2, .int .i64 9, .int .i64 9, .int .i64 10] 3)).cell? ⟨w3.heap.size, i, none⟩ = some (.int .i64 (([1, 2, 9, 9, 10] : List Int).getD i 0))) := fun i hi => by
    rw [cell_of_row _ _ i _ _ _ hrow]
    rcases (show i = 0 ∨ i = 1 ∨ i = 2 ∨ i = 3 ∨ i = 4 by omega) with rfl | rfl | rfl | rfl | rfl <;> rfl
  clear hc3 hb4 HB3 hrow
  go_wp2_with fail
  generalize w3.alloc (.cells #[.int .i64 1, .int .i64 2, .int .i64 9, .int .i64 9, .int .i64 10] 3) = w4 at hc4 HB4 HCL hs4 ⊢
  refine (pickInt_any w0.heap.size g w3.heap.size 5 _ [1, 2, 9, 9, 10] _ (by omega) (by omega) rfl (by omega) HCL.out hc4).mono ?_
  rintro e w5 ⟨nm, hnm, rfl, hc5, hg⟩
  have hbnm : 1 ≤ nm ∧ nm ≤ 10 := by simp at hnm; omega
  have HB5 : Hid (Below w0.heap.size w0 w5) := HB4.out.grown hg HB4.out.size (fun k hk => by cases hk; exact hge)
  have hs5 := hg.size
  clear hc4 hg HB4 hnm HCL
  go_wp2_with fail
  refine (below_any w0.heap.size g 4 _ (by omega) (by omega) hc5).mono ?_
  rintro e w6 ⟨hx, rfl, hhx, hc6, hg⟩
  have HB6 : Hid (Below w0.heap.size w0 w6) := HB5.out.grown hg HB5.out.size (fun k hk => by cases hk; exact hge)
  have hs6 := hg.size
  clear hc5 hg HB5
  go_wp2_with fail
  refine (below_any w0.heap.size g 4 _ (by omega) (by omega) hc6).mono ?_
  rintro e w7 ⟨ax, rfl, hax, hc7, hg⟩
  have HB7 : Hid (Below w0.heap.size w0 w7) := HB6.out.grown hg HB6.out.size (fun k hk => by cases hk; exact hge)
  have hs7 := hg.size
  clear hc6 hg HB6
  go_wp2_with fail
  refine (once_any w0.heap.size g 9 _ (by omega) (by omega) hc7).mono ?_
  rintro e w8 ⟨t, rfl, hc8, hg⟩
  have HB8 : Hid (Below w0.heap.size w0 w8) := HB7.out.grown hg HB7.out.size (fun k hk => by cases hk; exact hge)
  have hs8 := hg.size
  clear hc7 hg HB7
  cases t
  · go_wp2_with fail
    refine (anyArenaS_any w0.heap.size g _ hc8).mono ?_
    rintro e w9 ⟨v3, ns, rfl, hn1, hn2, hfit, ho3, hc9, hg⟩
    have HB9 : Hid (Below w0.heap.size w0 w9) := HB8.out.grown hg HB8.out.size (fun k hk => by cases hk; exact hge)
    have hs9 := hg.size
    clear hc8 hc9 hg HB8
    obtain ⟨a3, cap3, rfl, _, _⟩ := ho3.row
    have hx4 := (HB9.out.block w.heap.size (by omega)).trans hx0
    have r0 : w9.cell? ⟨w.heap.size, 0, none⟩ = some (.slice none 0 0) := by rw [cell_of_row _ _ 0 _ _ _ hx4]; rfl
    have f0 : w9.frozen? ⟨w.heap.size, 0, none⟩ = false := frozen_of_row _ _ 0 _ _ hx4
    have HF : Hid ((∀ y ∈ ns, Sf ns.length y) ∧ Below w.heap.size w (w9.setCell ⟨w.heap.size, 0, none⟩ (.slice a3 ns.length cap3))) := ⟨hfit, (hb0.trans (HB9.out.mono (by omega))).setCell (Nat.le_refl _) _⟩
    have HBL : Hid ((w9.setCell ⟨w.heap.size, 0, none⟩ (.slice a3 ns.length cap3)).heap[w.heap.size]? = some (.cells #[.slice a3 ns.length cap3] 26 (0, 0))) := (heap_setCell_same _ _ 0 _ _ _ hx4).trans rfl
    have HO : Hid (OwnN w.heap.size (w9.setCell ⟨w.heap.size, 0, none⟩ (.slice a3 ns.length cap3)) (.slice a3 ns.length cap3) ns) := OwnN.base (ownsRow_setCell_below ho3 (show w.heap.size < w8.heap.size by omega) _) (by omega)
    clear hx4 ho3 hfit hb0 hx0 HB9
    go_wp2
    refine bodyPost_ret (res_cell6 rfl _ _ w.heap.size 26 #[.slice a3 ns.length cap3] (0, 0) _ rfl ?_ Tryz.underlying26 rfl arenaSize) rfl ?_
    · exact HBL.out
    · exact ⟨_, ns, _, _, _, _, _, rfl, hn1, hn2, HF.out.1, by omega, by omega, by omega, by omega, by omega, by omega, hbnm.1, hbnm.2, by omega, by omega, HO.out, HF.out.2⟩
  · go_wp2_with fail
    refine (anyArenaS_any w0.heap.size g _ hc8).mono ?_
    rintro e w9 ⟨v3, ns, rfl, hn1, hn2, hfit, ho3, hc9, hg⟩
    have HB9 : Hid (Below w0.heap.size w0 w9) := HB8.out.grown hg HB8.out.size (fun k hk => by cases hk; exact hge)
    have hs9 := hg.size
    clear hc8 hc9 hg HB8
    obtain ⟨a3, cap3, rfl, _, _⟩ := ho3.row
    have hx4 := (HB9.out.block w.heap.size (by omega)).trans hx0
    have r0 : w9.cell? ⟨w.heap.size, 0, none⟩ = some (.slice none 0 0) := by rw [cell_of_row _ _ 0 _ _ _ hx4]; rfl
    have f0 : w9.frozen? ⟨w.heap.size, 0, none⟩ = false := frozen_of_row _ _ 0 _ _ hx4
    have HF : Hid ((∀ y ∈ ns, Sf ns.length y) ∧ Below w.heap.size w (w9.setCell ⟨w.heap.size, 0, none⟩ (.slice a3 ns.length cap3))) := ⟨hfit, (hb0.trans (HB9.out.mono (by omega))).setCell (Nat.le_refl _) _⟩
    have HBL : Hid ((w9.setCell ⟨w.heap.size, 0, none⟩ (.slice a3 ns.length cap3)).heap[w.heap.size]? = some (.cells #[.slice a3 ns.length cap3] 26 (0, 0))) := (heap_setCell_same _ _ 0 _ _ _ hx4).trans rfl
    have HO : Hid (OwnN w.heap.size (w9.setCell ⟨w.heap.size, 0, none⟩ (.slice a3 ns.length cap3)) (.slice a3 ns.length cap3) ns) := OwnN.base (ownsRow_setCell_below ho3 (show w.heap.size < w8.heap.size by omega) _) (by omega)
    clear hx4 ho3 hfit hb0 hx0 HB9
    go_wp2
    refine bodyPost_ret (res_cell6 rfl _ _ w.heap.size 26 #[.slice a3 ns.length cap3] (0, 0) _ rfl ?_ Tryz.underlying26 rfl arenaSize) rfl ?_
    · exact HBL.out
    · exact ⟨_, ns, _, _, _, _, _, rfl, hn1, hn2, HF.out.1, by omega, by omega, by omega, by omega, by omega, by omega, hbnm.1, hbnm.2, by omega, by omega, HO.out, HF.out.2⟩
set_option maxHeartbeats 3200000 in
set_option maxRecDepth 20000 in
theorem drawAckOf_any (a : Option Addr) (len cap : Nat) (w : World) (hc : CodeIn w.heap.size w a len) :
    Calls Tryz.prog 40 #[.slice a len cap] w fun e w' => ∃ v ns, ∃ hd le sa : Int, e = .returned (.tuple #[.agg #[v], .int .i64 hd, .int .i64 le, .int .i64 sa]) ∧ 1 ≤ ns.length ∧ ns.length ≤ 14 ∧ (∀ y ∈ ns, Sf ns.length y) ∧ -1 ≤ hd ∧ hd ≤ 3 ∧ ((1 ≤ le ∧ le ≤ 12) ∨ le = -1) ∧ -1 ≤ sa ∧ sa ≤ 3 ∧ OwnN w.heap.size w' v ns ∧ Below w.heap.size w w' := by
  have hb0 : Below w.heap.size w (w.alloc (.cells #[.slice none 0 0] 26)) := (Below.refl _ _).alloc (Nat.le_refl _) _
  have hx0 := heap_alloc_new w (.cells #[.slice none 0 0] 26)
  have hc0 := codeIn_later hc hb0
  have hs0 : (w.alloc (.cells #[.slice none 0 0] 26)).heap.size = w.heap.size + 1 := by simp
  clear hc
  go_enter Tryz.func40, Tryz.ntmps40
  go_wp2_with fail
  generalize w.alloc (.cells #[.slice none 0 0] 26) = w0 at hb0 hx0 hc0 hs0 ⊢
  refine (new_any _ _ _ _ hc0).mono ?_
  rintro e w1 ⟨g, rfl, hc1, hb1⟩
  have hge := hc1.1
  have hgl1 := hc1.2.1
  have HB1 : Hid (Below w0.heap.size w0 w1) := hb1
  have hs1 := hb1.size
  clear hb1 hc0
  have hb2 : Below w1.heap.size w1 (w1.alloc (.cells #[.int .i64 10, .int .i64 11, .int .i64 12, .int .i64 (-1)] 3)) := (Below.refl _ _).alloc (Nat.le_refl _) _
  have hc2 := hc1.grown hb2
  have hrow := heap_alloc_new w1 (.cells #[.int .i64 10, .int .i64 11, .int .i64 12, .int .i64 (-1)] 3)
  have hgw1 := hc1.2.1
  have HB2 : Hid (Below w0.heap.size w0 (w1.alloc (.cells #[.int .i64 10, .int .i64 11, .int .i64 12, .int .i64 (-1)] 3))) := HB1.out.trans (hb2.mono HB1.out.size)
  have hs2 := hb2.size
  have HCL : Hid (∀ i, i < 4 → (w1.alloc (.cells #[.int .i64 10, .int .i64 11, .int .i64 12, .int .i64 (-1)] 3)).cell? ⟨w1.heap.size, i, none⟩ = some (.int .i64 (([10, 11, 12, -1] : List Int).getD i 0))) := fun i hi => by
    rw [cell_of_row _ _ i _ _ _ hrow]
    rcases (show i = 0 ∨ i = 1 ∨ i = 2 ∨ i = 3 by omega) with rfl | rfl | rfl | rfl <;> rfl
  clear hc1 hb2 HB1 hrow
  go_wp2_with fail
  generalize w1.alloc (.cells #[.int .i64 10, .int .i64 11, .int .i64 12, .int .i64 (-1)] 3) = w2 at hc2 HB2 HCL hs2 ⊢
  refine (pickInt_any w0.heap.size g w1.heap.size 4 _ [10, 11, 12, -1] _ (by omega) (by omega) rfl (by omega) HCL.out hc2).mono ?_
  rintro e w3 ⟨le, hle, rfl, hc3, hg⟩
  have hble : (1 ≤ le ∧ le ≤ 12) ∨ le = -1 := by simp at hle; omega
  have HB3 : Hid (Below w0.heap.size w0 w3) := HB2.out.grown hg HB2.out.size (fun k hk => by cases hk; exact hge)
  have hs3 := hg.size
  clear hc2 hg HB2 hle HCL
  go_wp2_with fail
  refine (below_any w0.heap.size g 5 _ (by omega) (by omega) hc3).mono ?_
  rintro e w4 ⟨hx, rfl, hhx, hc4, hg⟩
  have HB4 : Hid (Below w0.heap.size w0 w4) := HB3.out.grown hg HB3.out.size (fun k hk => by cases hk; exact hge)
  have hs4 := hg.size
  clear hc3 hg HB3
  go_wp2_with fail
  refine (below_any w0.heap.size g 5 _ (by omega) (by omega) hc4).mono ?_
  rintro e w5 ⟨ax, rfl, hax, hc5, hg⟩
  have HB5 : Hid (Below w0.heap.size w0 w5) := HB4.out.grown hg HB4.out.size (fun k hk => by cases hk; exact hge)
  have hs5 := hg.size
  clear hc4 hg HB4
  go_wp2_with fail
  refine (anyArenaS_any w0.heap.size g _ hc5).mono ?_
  rintro e w6 ⟨v3, ns, rfl, hn1, hn2, hfit, ho3, hc6, hg⟩
  have HB6 : Hid (Below w0.heap.size w0 w6) := HB5.out.grown hg HB5.out.size (fun k hk => by cases hk; exact hge)
  have hs6 := hg.size
  clear hc5 hc6 hg HB5
  obtain ⟨a3, cap3, rfl, _, _⟩ := ho3.row
  have hx4 := (HB6.out.block w.heap.size (by omega)).trans hx0
  have r0 : w6.cell? ⟨w.heap.size, 0, none⟩ = some (.slice none 0 0) := by rw [cell_of_row _ _ 0 _ _ _ hx4]; rfl
  have f0 : w6.frozen? ⟨w.heap.size, 0, none⟩ = false := frozen_of_row _ _ 0 _ _ hx4
  have HF : Hid ((∀ y ∈ ns, Sf ns.length y) ∧ Below w.heap.size w (w6.setCell ⟨w.heap.size, 0, none⟩ (.slice a3 ns.length cap3))) := ⟨hfit, (hb0.trans (HB6.out.mono (by omega))).setCell (Nat.le_refl _) _⟩
  have HBL : Hid ((w6.setCell ⟨w.heap.size, 0, none⟩ (.slice a3 ns.length cap3)).heap[w.heap.size]? = some (.cells #[.slice a3 ns.length cap3] 26 (0, 0))) := (heap_setCell_same _ _ 0 _ _ _ hx4).trans rfl
  have HO : Hid (OwnN w.heap.size (w6.setCell ⟨w.heap.size, 0, none⟩ (.slice a3 ns.length cap3)) (.slice a3 ns.length cap3) ns) := OwnN.base (ownsRow_setCell_below ho3 (show w.heap.size < w5.heap.size by omega) _) (by omega)
  clear hx4 ho3 hfit hb0 hx0 HB6
  go_wp2
  refine bodyPost_ret (res_cell4 rfl _ _ w.heap.size 26 #[.slice a3 ns.length cap3] (0, 0) _ rfl ?_ Tryz.underlying26 rfl arenaSize) rfl ?_
  · exact HBL.out
  · exact ⟨_, ns, _, _, _, rfl, hn1, hn2, HF.out.1, by omega, by omega, hble, by omega, by omega, HO.out, HF.out.2⟩
set_option maxHeartbeats 3200000 in
set_option maxRecDepth 20000 in
theorem drawHand_any (a : Option Addr) (len cap : Nat) (w : World) (hc : CodeIn w.heap.size w a len) :
    Calls Tryz.prog 14 #[.slice a len cap] w fun e w' => ∃ v ns, ∃ sc pu mo x y bo : Int, e = .returned (.tuple #[.agg #[v], .int .i64 sc, .int .i64 pu, .int .i64 mo, .int .i64 x, .int .i64 y, .int .i64 bo]) ∧ ns.length ≤ 17 ∧ (∀ y ∈ ns, y.Fits) ∧ -1 ≤ sc ∧ sc ≤ 3 ∧ -1 ≤ pu ∧ pu ≤ 20 ∧ 0 ≤ mo ∧ mo ≤ 3 ∧ 1 ≤ x ∧ x ≤ 10 ∧ 9 ≤ y ∧ y ≤ 9 ∧ 0 ≤ bo ∧ bo ≤ 3 ∧ OwnN w.heap.size w' v ns ∧ Below w.heap.size w w' := by
  have hb0 : Below w.heap.size w (w.alloc (.cells #[.slice none 0 0] 26)) := (Below.refl _ _).alloc (Nat.le_refl _) _
  have hx0 := heap_alloc_new w (.cells #[.slice none 0 0] 26)
  have hc0 := codeIn_later hc hb0
  have hs0 : (w.alloc (.cells #[.slice none 0 0] 26)).heap.size = w.heap.size + 1 := by simp
  clear hc
  go_enter Tryz.func14, Tryz.ntmps14
  go_wp2_with fail
  generalize w.alloc (.cells #[.slice none 0 0] 26) = w0 at hb0 hx0 hc0 hs0 ⊢
  refine (new_any _ _ _ _ hc0).mono ?_
  rintro e w1 ⟨g, rfl, hc1, hb1⟩
  have hge := hc1.1
  have hgl1 := hc1.2.1
  have HB1 : Hid (Below w0.heap.size w0 w1) := hb1
  have hs1 := hb1.size
  clear hb1 hc0
  go_wp2_with fail
  refine (below_any w0.heap.size g 4 _ (by omega) (by omega) hc1).mono ?_
  rintro e w2 ⟨mx, rfl, hmx, hc2, hg⟩
  have HB2 : Hid (Below w0.heap.size w0 w2) := HB1.out.grown hg HB1.out.size (fun k hk => by cases hk; exact hge)
  have hs2 := hg.size
  clear hc1 hg HB1
  have hb3 : Below w2.heap.size w2 (w2.alloc (.cells #[.int .i64 1, .int .i64 2, .int .i64 10] 3)) := (Below.refl _ _).alloc (Nat.le_refl _) _
  have hc3 := hc2.grown hb3
  have hrow := heap_alloc_new w2 (.cells #[.int .i64 1, .int .i64 2, .int .i64 10] 3)
  have hgw2 := hc2.2.1
  have HB3 : Hid (Below w0.heap.size w0 (w2.alloc (.cells #[.int .i64 1, .int .i64 2, .int .i64 10] 3))) := HB2.out.trans (hb3.mono HB2.out.size)
  have hs3 := hb3.size
  have HCL : Hid (∀ i, i < 3 → (w2.alloc (.cells #[.int .i64 1, .int .i64 2, .int .i64 10] 3)).cell? ⟨w2.heap.size, i, none⟩ = some (.int .i64 (([1, 2, 10] : List Int).getD i 0))) := fun i hi => by
    rw [cell_of_row _ _ i _ _ _ hrow]
    rcases (show i = 0 ∨ i = 1 ∨ i = 2 by omega) with rfl | rfl | rfl <;> rfl
  clear hc2 hb3 HB2 hrow
  go_wp2_with fail
  generalize w2.alloc (.cells #[.int .i64 1, .int .i64 2, .int .i64 10] 3) = w3 at hc3 HB3 HCL hs3 ⊢
  refine (pickInt_any w0.heap.size g w2.heap.size 3 _ [1, 2, 10] _ (by omega) (by omega) rfl (by omega) HCL.out hc3).mono ?_
  rintro e w4 ⟨x, hx, rfl, hc4, hg⟩
  have hbx : 1 ≤ x ∧ x ≤ 10 := by simp at hx; omega
  have HB4 : Hid (Below w0.heap.size w0 w4) := HB3.out.grown hg HB3.out.size (fun k hk => by cases hk; exact hge)
  have hs4 := hg.size
  clear hc3 hg HB3 hx HCL
  go_wp2_with fail
  refine (below_any w0.heap.size g 4 _ (by omega) (by omega) hc4).mono ?_
  rintro e w5 ⟨ox, rfl, hox, hc5, hg⟩
  have HB5 : Hid (Below w0.heap.size w0 w5) := HB4.out.grown hg HB4.out.size (fun k hk => by cases hk; exact hge)
  have hs5 := hg.size
  clear hc4 hg HB4
  go_wp2_with fail
  refine (below_any w0.heap.size g 5 _ (by omega) (by omega) hc5).mono ?_
  rintro e w6 ⟨cx, rfl, hcx, hc6, hg⟩
  have HB6 : Hid (Below w0.heap.size w0 w6) := HB5.out.grown hg HB5.out.size (fun k hk => by cases hk; exact hge)
  have hs6 := hg.size
  clear hc5 hg HB5
  go_wp2_with fail
  refine (arena11_any w0.heap.size g _ hc6).mono ?_
  rintro e w7 ⟨v3, ns, no, pu, rfl, hn2, hfit, hk0, hk1, hk2, hk3, ho3, hc7, hg⟩
  obtain ⟨a3, cap3, rfl, _, _⟩ := ho3.row
  have HB7 : Hid (Below w0.heap.size w0 w7) := HB6.out.grown hg HB6.out.size (fun k hk => by cases hk; exact hge)
  have hs7 := hg.size
  clear hc6 hc7 hg HB6
  have hx7 := (HB7.out.block w.heap.size (by omega)).trans hx0
  have hlt7 : w.heap.size < w7.heap.size := by omega
  have hx8 := (heap_alloc_old w7 (.cells #[.slice a3 ns.length cap3] 26) hlt7).trans hx7
  have r0 : (w7.alloc (.cells #[.slice a3 ns.length cap3] 26)).cell? ⟨w.heap.size, 0, none⟩ = some (.slice none 0 0) := by rw [cell_of_row _ _ 0 _ _ _ hx8]; rfl
  have f0 : (w7.alloc (.cells #[.slice a3 ns.length cap3] 26)).frozen? ⟨w.heap.size, 0, none⟩ = false := frozen_of_row _ _ 0 _ _ hx8
  have c5 : (w7.alloc (.cells #[.slice a3 ns.length cap3] 26)).cell? ⟨w7.heap.size, 0, none⟩ = some (.slice a3 ns.length cap3) := (cell_of_row _ _ 0 _ _ _ (heap_alloc_new w7 _)).trans rfl
  have HF : Hid ((∀ y ∈ ns, y.Fits) ∧ Below w.heap.size w ((w7.setCell ⟨w.heap.size, 0, none⟩ (.slice a3 ns.length cap3)).alloc (.cells #[.slice a3 ns.length cap3] 26))) := ⟨hfit, ((hb0.trans (HB7.out.mono (by omega))).setCell (Nat.le_refl _) _).alloc (by simp; omega) _⟩
  have HBL : Hid (((w7.setCell ⟨w.heap.size, 0, none⟩ (.slice a3 ns.length cap3)).alloc (.cells #[.slice a3 ns.length cap3] 26)).heap[w.heap.size]? = some (.cells #[.slice a3 ns.length cap3] 26 (0, 0))) := (heap_alloc_old _ _ (by simpa using hlt7)).trans ((heap_setCell_same _ _ 0 _ _ _ hx7).trans rfl)
  have HO : Hid (OwnN w.heap.size ((w7.setCell ⟨w.heap.size, 0, none⟩ (.slice a3 ns.length cap3)).alloc (.cells #[.slice a3 ns.length cap3] 26)) (.slice a3 ns.length cap3) ns) := (OwnN.base (ownsRow_setCell_below ho3 (show w.heap.size < w6.heap.size by omega) _) (by omega)).alloc _
  clear hx7 hx8 ho3 hfit hb0 hx0 HB7
  go_wp2
  refine bodyPost_ret (res_cell7 rfl _ _ w.heap.size 26 #[.slice a3 ns.length cap3] (0, 0) _ rfl ?_ Tryz.underlying26 rfl arenaSize) rfl ?_
  · exact HBL.out
  · exact ⟨_, ns, _, _, _, _, _, _, rfl, hn2, HF.out.1, by omega, by omega, hk2, hk3, by omega, by omega, hbx.1, hbx.2, by omega, by omega, by omega, by omega, HO.out, HF.out.2⟩
set_option maxHeartbeats 3200000 in
set_option maxRecDepth 20000 in
theorem drawPartOk_any (a : Option Addr) (len cap : Nat) (w : World) (hc : CodeIn w.heap.size w a len) :
    Calls Tryz.prog 11 #[.slice a len cap] w fun e w' => ∃ v M, ∃ sd hd mo nm sa k : Int, e = .returned (.tuple #[.agg #[v], .int .i64 sd, .int .i64 hd, .int .i64 mo, .int .i64 nm, .int .i64 sa, .int .i64 k]) ∧ M.length ≤ 1048576 ∧ (∀ y ∈ M, y.Fits) ∧ (Tame M ∨ k < 0) ∧ 0 ≤ sd ∧ sd ≤ 3 ∧ -1 ≤ hd ∧ hd ≤ 5 ∧ 0 ≤ mo ∧ mo ≤ 3 ∧ 0 ≤ nm ∧ nm ≤ 10 ∧ -1 ≤ sa ∧ sa ≤ 5 ∧ -2 ≤ k ∧ k ≤ 1048576 ∧ OwnN w.heap.size w' v M ∧ Below w.heap.size w w' := by
  have hb0 : Below w.heap.size w (w.alloc (.cells #[.slice none 0 0] 26)) := (Below.refl _ _).alloc (Nat.le_refl _) _
  have hx0 := heap_alloc_new w (.cells #[.slice none 0 0] 26)
  have hc0 := codeIn_later hc hb0
  have hs0 : (w.alloc (.cells #[.slice none 0 0] 26)).heap.size = w.heap.size + 1 := by simp
  clear hc
  go_enter Tryz.func11, Tryz.ntmps11
  go_wp2_with fail
  generalize w.alloc (.cells #[.slice none 0 0] 26) = w0 at hb0 hx0 hc0 hs0 ⊢
  have HC0 : Hid (CodeIn w0.heap.size w0 a len) := hc0
  refine (new_any _ _ _ _ hc0).mono ?_
  rintro e u1 ⟨g, rfl, hc1, hb1⟩
  have hge := hc1.1
  have HU1 : Hid (Below w0.heap.size w0 u1) := hb1
  have hsu1 := hb1.size
  clear hb1 hc0
  go_wp2_with fail
  refine (below_any w0.heap.size g 10 _ (by omega) (by omega) hc1).mono ?_
  rintro e u2 ⟨n5, rfl, hn5, hc2, hg⟩
  have HBd : Hid (Below w0.heap.size w0 u2) := HU1.out.grown hg HU1.out.size (fun k hk => by cases hk; exact hge)
  have hsu2 := hg.size
  clear hc1 hg HU1 hc2
  have hcD : Hid (CodeIn u2.heap.size u2 a len) := codeIn_later HC0.out HBd.out
  clear HC0
  go_wp2_with fail
  refine (drawPart_any _ _ _ _ hcD.out).mono ?_
  rintro e w1 ⟨v3, ns, sd, hd, mo, nm, sa, rfl, hn1, hn2, hfit, hd0, hd1, hh0, hh1, hm0, hm1, hq0, hq1, ha0, ha1, ho3, hb1⟩
  have hSo := hfit
  replace hfit := soft_fits hfit
  obtain ⟨a3, cap3, rfl, hA3, hR3⟩ := ho3.row
  have hs1 := hb1.size
  have HBD : Hid (Below w0.heap.size w0 w1) := HBd.out.trans (hb1.mono HBd.out.size)
  have hbX : Below w1.heap.size w1 (w1.alloc (.cells #[.slice a3 ns.length cap3] 26)) := (Below.refl _ _).alloc (Nat.le_refl _) _
  have HBX : Hid (Below w0.heap.size w0 (w1.alloc (.cells #[.slice a3 ns.length cap3] 26))) := HBD.out.trans (hbX.mono HBD.out.size)
  have cX : (w1.alloc (.cells #[.slice a3 ns.length cap3] 26)).cell? ⟨w1.heap.size, 0, none⟩ = some (.slice a3 ns.length cap3) := (cell_of_row _ _ 0 _ _ _ (heap_alloc_new w1 _)).trans rfl
  have HRR : Hid (RowN (w1.alloc (.cells #[.slice a3 ns.length cap3] 26)).heap.size (w1.alloc (.cells #[.slice a3 ns.length cap3] 26)) a3 ns) := hR3.grown hbX
  have hszX : (w1.alloc (.cells #[.slice a3 ns.length cap3] 26)).heap.size = w1.heap.size + 1 := by simp
  have HFT : Hid (∀ y ∈ ns, y.Fits) := hfit
  have HA3 : Hid (AddrN a3 cap3) := hA3
  obtain ⟨M, K, HM, hMK⟩ : ∃ (M : List Nd) (K : Int), Hid ((∀ y ∈ M, y.Fits) ∧ M.length ≤ 1048576 ∧ -1 ≤ K ∧ K ≤ 1048576 ∧ (Tame M ∨ K < 0)) ∧ (M = keptA ns (ptA ns sd hd (IntKind.i64.wrap (10 + sd)) (IntKind.i64.wrap (80 + sd)) mo nm sa) (ptK ns sd hd (IntKind.i64.wrap (10 + sd)) (IntKind.i64.wrap (80 + sd)) mo nm sa) ∧ K = ptK ns sd hd (IntKind.i64.wrap (10 + sd)) (IntKind.i64.wrap (80 + sd)) mo nm sa) := ⟨_, _, ⟨keptA_fits hfit (ptA_fits hfit (by omega)), by unfold keptA; split; omega; exact ptA_le (by omega), (ptK_range (by omega)).1, (ptK_range (by omega)).2, (by rw [(wrap_10 (x := sd) (by omega)).1]; exact pt_tame hSo ⟨hd0, hd1⟩)⟩, rfl, rfl⟩
  clear hSo ho3 hfit hR3 hA3 HBD hb1 HBd hcD
  go_wp2_with fail
  generalize w1.alloc (.cells #[.slice a3 ns.length cap3] 26) = wX at HBX cX HRR hszX hbX ⊢
  refine (specPart_any a3 cap3 ns sd hd mo nm sa wX (by omega) HA3.out HRR.out).mono ?_
  rintro e w2 ⟨v5, rfl, ho5, hb2⟩
  rw [← hMK.1] at ho5
  rw [← hMK.2]
  clear hMK
  obtain ⟨a5, cap5, rfl, -, -⟩ := ho5.row
  have HB2 : Hid (Below w0.heap.size w0 w2) := HBX.out.trans (hb2.mono HBX.out.size)
  have hs2 := hb2.size
  clear hb2 HBX cX HRR hbX HFT HA3
  have HM3 : Hid (-1 ≤ K ∧ K ≤ 1048576) := ⟨HM.out.2.2.1, HM.out.2.2.2.1⟩
  have HTM : Hid (Tame M ∨ K < 0) := HM.out.2.2.2.2
  have hK0 : -1 ≤ K := HM3.out.1
  have hK1 : K ≤ 1048576 := HM3.out.2
  have hx2 := (HB2.out.block w.heap.size (by omega)).trans hx0
  have hlt2 : w.heap.size < w2.heap.size := by omega
  have hx3 := (heap_alloc_old w2 (.cells #[.slice a5 M.length cap5] 26) hlt2).trans hx2
  have r0 : (w2.alloc (.cells #[.slice a5 M.length cap5] 26)).cell? ⟨w.heap.size, 0, none⟩ = some (.slice none 0 0) := by rw [cell_of_row _ _ 0 _ _ _ hx3]; rfl
  have f0 : (w2.alloc (.cells #[.slice a5 M.length cap5] 26)).frozen? ⟨w.heap.size, 0, none⟩ = false := frozen_of_row _ _ 0 _ _ hx3
  have c5 : (w2.alloc (.cells #[.slice a5 M.length cap5] 26)).cell? ⟨w2.heap.size, 0, none⟩ = some (.slice a5 M.length cap5) := (cell_of_row _ _ 0 _ _ _ (heap_alloc_new w2 _)).trans rfl
  have HFB : Hid (Below w.heap.size w ((w2.setCell ⟨w.heap.size, 0, none⟩ (.slice a5 M.length cap5)).alloc (.cells #[.slice a5 M.length cap5] 26))) := ((hb0.trans (HB2.out.mono (by omega))).setCell (Nat.le_refl _) _).alloc (by simp; omega) _
  have HBL : Hid (((w2.setCell ⟨w.heap.size, 0, none⟩ (.slice a5 M.length cap5)).alloc (.cells #[.slice a5 M.length cap5] 26)).heap[w.heap.size]? = some (.cells #[.slice a5 M.length cap5] 26 (0, 0))) := (heap_alloc_old _ _ (by simpa using hlt2)).trans ((heap_setCell_same _ _ 0 _ _ _ hx2).trans rfl)
  have HO : Hid (OwnN w.heap.size ((w2.setCell ⟨w.heap.size, 0, none⟩ (.slice a5 M.length cap5)).alloc (.cells #[.slice a5 M.length cap5] 26)) (.slice a5 M.length cap5) M) := (OwnN.base (ownsRow_setCell_below ho5 (show w.heap.size < wX.heap.size by omega) _) (by omega)).alloc _
  clear hx2 hx3 ho5 hb0 hx0 HB2
  rcases (show n5 = 0 ∨ n5 = 1 ∨ n5 = 2 ∨ n5 = 3 ∨ n5 = 4 ∨ n5 = 5 ∨ 5 < n5 by omega) with rfl | rfl | rfl | rfl | rfl | rfl | h5
  · clear hn5
    go_wp2
    refine bodyPost_ret (res_cell7 rfl _ _ w.heap.size 26 #[.slice a5 M.length cap5] (0, 0) _ rfl ?_ Tryz.underlying26 rfl arenaSize) rfl ?_
    · exact HBL.out
    · obtain ⟨a9, c9, e9, h9, r9⟩ := HO.out.row
      exact ⟨_, M, _, _, _, _, _, _, rfl, HM.out.2.1, HM.out.1, HTM.out.imp id (fun h => by omega), by omega, by omega, by omega, by omega, by omega, by omega, by omega, by omega, by omega, by omega, by omega, by omega, HO.out, HFB.out⟩
  · clear hn5
    go_wp2
    refine bodyPost_ret (res_cell7 rfl _ _ w.heap.size 26 #[.slice a5 M.length cap5] (0, 0) _ rfl ?_ Tryz.underlying26 rfl arenaSize) rfl ?_
    · exact HBL.out
    · obtain ⟨a9, c9, e9, h9, r9⟩ := HO.out.row
      exact ⟨_, M, _, _, _, _, _, _, rfl, HM.out.2.1, HM.out.1, HTM.out.imp id (fun h => by omega), by omega, by omega, by omega, by omega, by omega, by omega, by omega, by omega, by omega, by omega, by omega, by omega, HO.out, HFB.out⟩
  · clear hn5
    go_wp2
    refine bodyPost_ret (res_cell7 rfl _ _ w.heap.size 26 #[.slice a5 M.length cap5] (0, 0) _ rfl ?_ Tryz.underlying26 rfl arenaSize) rfl ?_
    · exact HBL.out
    · obtain ⟨a9, c9, e9, h9, r9⟩ := HO.out.row
      exact ⟨_, M, _, _, _, _, _, _, rfl, HM.out.2.1, HM.out.1, HTM.out.imp id (fun h => by omega), by omega, by omega, by omega, by omega, by omega, by omega, by omega, by omega, by omega, by omega, by omega, by omega, HO.out, HFB.out⟩
  · clear hn5
    go_wp2
    refine bodyPost_ret (res_cell7 rfl _ _ w.heap.size 26 #[.slice a5 M.length cap5] (0, 0) _ rfl ?_ Tryz.underlying26 rfl arenaSize) rfl ?_
    · exact HBL.out
    · obtain ⟨a9, c9, e9, h9, r9⟩ := HO.out.row
      exact ⟨_, M, _, _, _, _, _, _, rfl, HM.out.2.1, HM.out.1, HTM.out.imp id (fun h => by omega), by omega, by omega, by omega, by omega, by omega, by omega, by omega, by omega, by omega, by omega, by omega, by omega, HO.out, HFB.out⟩
  · clear hn5
    go_wp2
    refine bodyPost_ret (res_cell7 rfl _ _ w.heap.size 26 #[.slice a5 M.length cap5] (0, 0) _ rfl ?_ Tryz.underlying26 rfl arenaSize) rfl ?_
    · exact HBL.out
    · obtain ⟨a9, c9, e9, h9, r9⟩ := HO.out.row
      exact ⟨_, M, _, _, _, _, _, _, rfl, HM.out.2.1, HM.out.1, HTM.out.imp id (fun h => by omega), by omega, by omega, by omega, by omega, by omega, by omega, by omega, by omega, by omega, by omega, by omega, by omega, HO.out, HFB.out⟩
  · clear hn5
    go_wp2
    refine bodyPost_ret (res_cell7 rfl _ _ w.heap.size 26 #[.slice a5 M.length cap5] (0, 0) _ rfl ?_ Tryz.underlying26 rfl arenaSize) rfl ?_
    · exact HBL.out
    · obtain ⟨a9, c9, e9, h9, r9⟩ := HO.out.row
      exact ⟨_, M, _, _, _, _, _, _, rfl, HM.out.2.1, HM.out.1, HTM.out.imp id (fun h => by omega), by omega, by omega, by omega, by omega, by omega, by omega, by omega, by omega, by omega, by omega, by omega, by omega, HO.out, HFB.out⟩
  · have hne0 : ((n5 : Int) == 0) = false := by simp; omega
    have hne1 : ((n5 : Int) == 1) = false := by simp; omega
    have hne2 : ((n5 : Int) == 2) = false := by simp; omega
    have hne3 : ((n5 : Int) == 3) = false := by simp; omega
    have hne4 : ((n5 : Int) == 4) = false := by simp; omega
    have hne5 : ((n5 : Int) == 5) = false := by simp; omega
    clear h5 hn5
    go_wp2
    refine bodyPost_ret (res_cell7 rfl _ _ w.heap.size 26 #[.slice a5 M.length cap5] (0, 0) _ rfl ?_ Tryz.underlying26 rfl arenaSize) rfl ?_
    · exact HBL.out
    · obtain ⟨a9, c9, e9, h9, r9⟩ := HO.out.row
      exact ⟨_, M, _, _, _, _, _, _, rfl, HM.out.2.1, HM.out.1, HTM.out.imp id (fun h => by omega), by omega, by omega, by omega, by omega, by omega, by omega, by omega, by omega, by omega, by omega, by omega, by omega, HO.out, HFB.out⟩
set_option maxHeartbeats 3200000 in
set_option maxRecDepth 20000 in
theorem drawAckIn_any (a : Option Addr) (len cap : Nat) (w : World) (hc : CodeIn w.heap.size w a len) :
    Calls Tryz.prog 12 #[.slice a len cap] w fun e w' => ∃ v M, ∃ hd sa k : Int, e = .returned (.tuple #[.agg #[v], .int .i64 hd, .int .i64 sa, .int .i64 k]) ∧ M.length ≤ 1048576 ∧ (∀ y ∈ M, y.Fits) ∧ (Tame M ∨ k < 0) ∧ -1 ≤ hd ∧ hd ≤ 5 ∧ -1 ≤ sa ∧ sa ≤ 5 ∧ -2 ≤ k ∧ k ≤ 1048576 ∧ OwnN w.heap.size w' v M ∧ Below w.heap.size w w' := by
  have hb0 : Below w.heap.size w (w.alloc (.cells #[.slice none 0 0] 26)) := (Below.refl _ _).alloc (Nat.le_refl _) _
  have hx0 := heap_alloc_new w (.cells #[.slice none 0 0] 26)
  have hc0 := codeIn_later hc hb0
  have hs0 : (w.alloc (.cells #[.slice none 0 0] 26)).heap.size = w.heap.size + 1 := by simp
  clear hc
  go_enter Tryz.func12, Tryz.ntmps12
  go_wp2_with fail
  generalize w.alloc (.cells #[.slice none 0 0] 26) = w0 at hb0 hx0 hc0 hs0 ⊢
  have HC0 : Hid (CodeIn w0.heap.size w0 a len) := hc0
  refine (new_any _ _ _ _ hc0).mono ?_
  rintro e u1 ⟨g, rfl, hc1, hb1⟩
  have hge := hc1.1
  have HU1 : Hid (Below w0.heap.size w0 u1) := hb1
  have hsu1 := hb1.size
  clear hb1 hc0
  go_wp2_with fail
  refine (below_any w0.heap.size g 6 _ (by omega) (by omega) hc1).mono ?_
  rintro e u2 ⟨n5, rfl, hn5, hc2, hg⟩
  have HBd : Hid (Below w0.heap.size w0 u2) := HU1.out.grown hg HU1.out.size (fun k hk => by cases hk; exact hge)
  have hsu2 := hg.size
  clear hc1 hg HU1 hc2
  have hcD : Hid (CodeIn u2.heap.size u2 a len) := codeIn_later HC0.out HBd.out
  clear HC0
  go_wp2_with fail
  refine (drawAckOf_any _ _ _ _ hcD.out).mono ?_
  rintro e w1 ⟨v3, ns, hd, le, sa, rfl, hn1, hn2, hfit, hh0, hh1, hq0, ha0, ha1, ho3, hb1⟩
  have hSo := hfit
  replace hfit := soft_fits hfit
  obtain ⟨a3, cap3, rfl, hA3, hR3⟩ := ho3.row
  have hs1 := hb1.size
  have HBD : Hid (Below w0.heap.size w0 w1) := HBd.out.trans (hb1.mono HBd.out.size)
  have hbX : Below w1.heap.size w1 (w1.alloc (.cells #[.slice a3 ns.length cap3] 26)) := (Below.refl _ _).alloc (Nat.le_refl _) _
  have HBX : Hid (Below w0.heap.size w0 (w1.alloc (.cells #[.slice a3 ns.length cap3] 26))) := HBD.out.trans (hbX.mono HBD.out.size)
  have cX : (w1.alloc (.cells #[.slice a3 ns.length cap3] 26)).cell? ⟨w1.heap.size, 0, none⟩ = some (.slice a3 ns.length cap3) := (cell_of_row _ _ 0 _ _ _ (heap_alloc_new w1 _)).trans rfl
  have HRR : Hid (RowN (w1.alloc (.cells #[.slice a3 ns.length cap3] 26)).heap.size (w1.alloc (.cells #[.slice a3 ns.length cap3] 26)) a3 ns) := hR3.grown hbX
  have hszX : (w1.alloc (.cells #[.slice a3 ns.length cap3] 26)).heap.size = w1.heap.size + 1 := by simp
  have HFT : Hid (∀ y ∈ ns, y.Fits) := hfit
  have HA3 : Hid (AddrN a3 cap3) := hA3
  obtain ⟨M, K, HM, hMK⟩ : ∃ (M : List Nd) (K : Int), Hid ((∀ y ∈ M, y.Fits) ∧ M.length ≤ 1048576 ∧ -1 ≤ K ∧ K ≤ 1048576 ∧ (Tame M ∨ K < 0)) ∧ (M = keptA ns (akA ns hd le sa) (akK ns hd le sa) ∧ K = akK ns hd le sa) := ⟨_, _, ⟨keptA_fits hfit (akA_fits hfit (by omega)), by unfold keptA; split; omega; exact akA_le (by omega), (akK_range (by omega)).1, (akK_range (by omega)).2, ak_tame hSo (by omega)⟩, rfl, rfl⟩
  clear hSo ho3 hfit hR3 hA3 HBD hb1 HBd hcD
  go_wp2_with fail
  generalize w1.alloc (.cells #[.slice a3 ns.length cap3] 26) = wX at HBX cX HRR hszX hbX ⊢
  refine (specAck_any a3 cap3 ns hd le sa wX (by omega) HA3.out HRR.out).mono ?_
  rintro e w2 ⟨v5, rfl, ho5, hb2⟩
  rw [← hMK.1] at ho5
  rw [← hMK.2]
  clear hMK
  obtain ⟨a5, cap5, rfl, -, -⟩ := ho5.row
  have HB2 : Hid (Below w0.heap.size w0 w2) := HBX.out.trans (hb2.mono HBX.out.size)
  have hs2 := hb2.size
  clear hb2 HBX cX HRR hbX HFT HA3
  have HM3 : Hid (-1 ≤ K ∧ K ≤ 1048576) := ⟨HM.out.2.2.1, HM.out.2.2.2.1⟩
  have HTM : Hid (Tame M ∨ K < 0) := HM.out.2.2.2.2
  have hK0 : -1 ≤ K := HM3.out.1
  have hK1 : K ≤ 1048576 := HM3.out.2
  have hx2 := (HB2.out.block w.heap.size (by omega)).trans hx0
  have hlt2 : w.heap.size < w2.heap.size := by omega
  have hx3 := (heap_alloc_old w2 (.cells #[.slice a5 M.length cap5] 26) hlt2).trans hx2
  have r0 : (w2.alloc (.cells #[.slice a5 M.length cap5] 26)).cell? ⟨w.heap.size, 0, none⟩ = some (.slice none 0 0) := by rw [cell_of_row _ _ 0 _ _ _ hx3]; rfl
  have f0 : (w2.alloc (.cells #[.slice a5 M.length cap5] 26)).frozen? ⟨w.heap.size, 0, none⟩ = false := frozen_of_row _ _ 0 _ _ hx3
  have c5 : (w2.alloc (.cells #[.slice a5 M.length cap5] 26)).cell? ⟨w2.heap.size, 0, none⟩ = some (.slice a5 M.length cap5) := (cell_of_row _ _ 0 _ _ _ (heap_alloc_new w2 _)).trans rfl
  have HFB : Hid (Below w.heap.size w ((w2.setCell ⟨w.heap.size, 0, none⟩ (.slice a5 M.length cap5)).alloc (.cells #[.slice a5 M.length cap5] 26))) := ((hb0.trans (HB2.out.mono (by omega))).setCell (Nat.le_refl _) _).alloc (by simp; omega) _
  have HBL : Hid (((w2.setCell ⟨w.heap.size, 0, none⟩ (.slice a5 M.length cap5)).alloc (.cells #[.slice a5 M.length cap5] 26)).heap[w.heap.size]? = some (.cells #[.slice a5 M.length cap5] 26 (0, 0))) := (heap_alloc_old _ _ (by simpa using hlt2)).trans ((heap_setCell_same _ _ 0 _ _ _ hx2).trans rfl)
  have HO : Hid (OwnN w.heap.size ((w2.setCell ⟨w.heap.size, 0, none⟩ (.slice a5 M.length cap5)).alloc (.cells #[.slice a5 M.length cap5] 26)) (.slice a5 M.length cap5) M) := (OwnN.base (ownsRow_setCell_below ho5 (show w.heap.size < wX.heap.size by omega) _) (by omega)).alloc _
  clear hx2 hx3 ho5 hb0 hx0 HB2
  rcases (show n5 = 0 ∨ n5 = 1 ∨ 1 < n5 by omega) with rfl | rfl | h5
  · clear hn5
    go_wp2
    refine bodyPost_ret (res_cell4 rfl _ _ w.heap.size 26 #[.slice a5 M.length cap5] (0, 0) _ rfl ?_ Tryz.underlying26 rfl arenaSize) rfl ?_
    · exact HBL.out
    · obtain ⟨a9, c9, e9, h9, r9⟩ := HO.out.row
      exact ⟨_, M, _, _, _, rfl, HM.out.2.1, HM.out.1, HTM.out.imp id (fun h => by omega), by omega, by omega, by omega, by omega, by omega, by omega, HO.out, HFB.out⟩
  · clear hn5
    go_wp2
    refine bodyPost_ret (res_cell4 rfl _ _ w.heap.size 26 #[.slice a5 M.length cap5] (0, 0) _ rfl ?_ Tryz.underlying26 rfl arenaSize) rfl ?_
    · exact HBL.out
    · obtain ⟨a9, c9, e9, h9, r9⟩ := HO.out.row
      exact ⟨_, M, _, _, _, rfl, HM.out.2.1, HM.out.1, HTM.out.imp id (fun h => by omega), by omega, by omega, by omega, by omega, by omega, by omega, HO.out, HFB.out⟩
  · have hne0 : ((n5 : Int) == 0) = false := by simp; omega
    have hne1 : ((n5 : Int) == 1) = false := by simp; omega
    clear h5 hn5
    go_wp2
    refine bodyPost_ret (res_cell4 rfl _ _ w.heap.size 26 #[.slice a5 M.length cap5] (0, 0) _ rfl ?_ Tryz.underlying26 rfl arenaSize) rfl ?_
    · exact HBL.out
    · obtain ⟨a9, c9, e9, h9, r9⟩ := HO.out.row
      exact ⟨_, M, _, _, _, rfl, HM.out.2.1, HM.out.1, HTM.out.imp id (fun h => by omega), by omega, by omega, by omega, by omega, by omega, by omega, HO.out, HFB.out⟩
end Go.Proofs.YtaanophnnkmkbaaGreat
