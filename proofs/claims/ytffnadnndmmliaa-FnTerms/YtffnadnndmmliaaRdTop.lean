/- The contract of chapter 3's ReadTerm, the program's. -/
import Derived.Test.YtffnadnndmmliaaRdTerm
import Derived.Test.YtffnadnndmmliaaBldWith
import Derived.Test.YtffnadnndmmliaaPlainRT3
import Derived.Test.YtffnadnndmmliaaImplSize
import Derived.WalkKit
import Derived.WalkLawsBesides
import Derived.WalkSpells
import Derived.Laws.Rows
import Derived.Test.YtffnadnndmmliaaSoFar
namespace Go.Proofs.Ytffnadnndmmliaa
open Go.RowKit Go.Maps
set_option linter.unusedVariables false
/-- What ReadTerm answers. -/
def rtA (s : ByteArray) (ns : List Nd) : List Nd := match rtOk s ns with | none => ns | some (ms, _) => ms
def rtK (s : ByteArray) (ns : List Nd) : Int := match rtOk s ns with | none => -1 | some (_, k) => (k : Int)
def rtB (s : ByteArray) (ns : List Nd) : Bool := (rtOk s ns).isSome
theorem rt_none {s : ByteArray} {ns : List Nd} (h : rtOk s ns = none) : rtA s ns = ns ∧ rtK s ns = -1 ∧ rtB s ns = false := by unfold rtA rtK rtB; rw [h]; exact ⟨rfl, rfl, rfl⟩
theorem rt_some {s : ByteArray} {ns ms : List Nd} {k : Nat} (h : rtOk s ns = some (ms, k)) : rtA s ns = ms ∧ rtK s ns = (k : Int) ∧ rtB s ns = true := by unfold rtA rtK rtB; rw [h]; exact ⟨rfl, rfl, rfl⟩
/-- The reader only adds. -/
theorem rdI_pre (s : ByteArray) : ∀ (f : Nat) (ns : List Nd) (p l : Nat), ns <+: (rdI s f ns p l).1
  | 0, ns, p, l => List.prefix_refl _
  | f + 1, ns, p, l => by
    rw [rdI]
    split
    · exact List.prefix_refl _
    · simp only
      split
      · exact putA_pre _ _
      · split
        · exact putA_pre _ _
        · have r1 := rdI_pre s f ns (numI s p).2 (l - 1)
          split
          · exact r1.trans (putA_pre _ _)
          · split
            · exact r1.trans (putA_pre _ _)
            · exact (r1.trans (rdI_pre s f _ _ _)).trans (putA_pre _ _)
theorem take_pre {ns ms : List Nd} (h : ns <+: ms) : ms.take ns.length = ns := by
  obtain ⟨t, rfl⟩ := h
  simp
set_option maxHeartbeats 3200000 in
set_option maxRecDepth 20000 in
theorem implRT_any (a : Option Addr) (cap : Nat) (ns : List Nd) (s : ByteArray) (w : World) (hs : s.size ≤ 1048576) (hl : ns.length ≤ 1048576) (hf : ∀ y ∈ ns, y.Fits) (ha : AddrN a cap) (hr : RowN w.heap.size w a ns) :
    Calls Try.prog 18 #[.agg #[.slice a ns.length cap], .string s] w fun e w' => ∃ v, e = .returned (.tuple #[.agg #[v], .int .i64 (rtK s ns), .bool (rtB s ns)]) ∧ OwnC w.heap.size w' v (rtA s ns) ∧ Below w.heap.size w w' := by
  have hb0 : Below w.heap.size w ((w.alloc (.cells #[.slice a ns.length cap] 28)).alloc (.cells #[.slice none 0 0] 28)) := ((Below.refl _ _).alloc (Nat.le_refl _) _).alloc (by simp) _
  have hs0 : ((w.alloc (.cells #[.slice a ns.length cap] 28)).alloc (.cells #[.slice none 0 0] 28)).heap.size = w.heap.size + 2 := by simp
  have hA0 : ((w.alloc (.cells #[.slice a ns.length cap] 28)).alloc (.cells #[.slice none 0 0] 28)).heap[w.heap.size]? = some (.cells #[.slice a ns.length cap] 28 (0, 0)) := (heap_alloc_old _ _ (by simp)).trans (heap_alloc_new w _)
  have hr0 : ((w.alloc (.cells #[.slice a ns.length cap] 28)).alloc (.cells #[.slice none 0 0] 28)).heap[w.heap.size + 1]? = some (.cells #[.slice none 0 0] 28 (0, 0)) := by
    have := heap_alloc_new (w.alloc (.cells #[.slice a ns.length cap] 28)) (.cells #[.slice none 0 0] 28)
    simpa using this
  have c0 : ((w.alloc (.cells #[.slice a ns.length cap] 28)).alloc (.cells #[.slice none 0 0] 28)).cell? ⟨w.heap.size, 0, none⟩ = some (.slice a ns.length cap) := (cell_of_row _ _ 0 _ _ _ hA0).trans rfl
  have HBO : Hid _ := builderOf_any a cap ns ((w.alloc (.cells #[.slice a ns.length cap] 28)).alloc (.cells #[.slice none 0 0] 28)) hl hf ha (hr.grown hb0)
  obtain ⟨K, HK, hKe⟩ : ∃ K : Int, Hid (K = rtK s ns) ∧ K = rtK s ns := ⟨_, rfl, rfl⟩
  obtain ⟨A, HA, hAe⟩ : ∃ A : List Nd, Hid (A = rtA s ns) ∧ A = rtA s ns := ⟨_, rfl, rfl⟩
  obtain ⟨Q, HQ, hQe⟩ : ∃ Q : Bool, Hid (Q = rtB s ns) ∧ Q = rtB s ns := ⟨_, rfl, rfl⟩
  rw [← hKe, ← hAe, ← hQe]
  clear hKe hAe hQe hr ha hf
  go_enter Try.func18, Try.ntmps18
  go_wp2_with fail
  generalize (w.alloc (.cells #[.slice a ns.length cap] 28)).alloc (.cells #[.slice none 0 0] 28) = w0 at hb0 hs0 hA0 hr0 c0 HBO ⊢
  refine Calls.mono HBO.out ?_
  rintro e w1 ⟨gb, gm, v, rfl, hbld, hb1⟩
  have hs1 := hb1.size
  have hlt1 := hbld.lts
  have hb2 : Below w1.heap.size w1 (w1.alloc (.cells #[.string s, .int .i64 0, .int .i64 2000, .pointer (some ⟨gb, 0, none⟩)] 82)) := (Below.refl _ _).alloc (Nat.le_refl _) _
  have hrd : RdrAt w0.heap.size w1.heap.size gb gm ns.length s 0 2000 ns.length ns v (w1.alloc (.cells #[.string s, .int .i64 0, .int .i64 2000, .pointer (some ⟨gb, 0, none⟩)] 82)) := ⟨heap_alloc_new w1 _, hbld.later hb2, hs1, by omega, by omega, fun e => by have := hlt1.2.2 _ e; omega⟩
  have HB2 : Hid (Below w0.heap.size w0 (w1.alloc (.cells #[.string s, .int .i64 0, .int .i64 2000, .pointer (some ⟨gb, 0, none⟩)] 82))) := hb1.trans (hb2.mono hs1)
  have HRD : Hid _ := hrd
  have HB0 : Hid (Below w.heap.size w w0) := hb0
  have HR0 : Hid (w0.heap[w.heap.size + 1]? = some (.cells #[.slice none 0 0] 28 (0, 0))) := hr0
  clear hrd hbld hb1 hb2 hlt1 hA0 hr0 c0 HBO hb0
  go_wp2_with fail
  generalize w1.alloc (.cells #[.string s, .int .i64 0, .int .i64 2000, .pointer (some ⟨gb, 0, none⟩)] 82) = w2 at HB2 HRD ⊢
  refine (ntTerm_any s w0.heap.size w1.heap.size gb gm ns.length hs 2000 ns 0 2000 v w2 (by omega) (by omega) hl HRD.out).mono ?_
  have hpre := rdI_pre s 2000 ns 0 2000
  have hbd := rdI_bd s 2000 ns 0 2000 hl
  obtain ⟨r, hrr⟩ : ∃ r, rdI s 2000 ns 0 2000 = r := ⟨_, rfl⟩
  rw [hrr] at hpre hbd ⊢
  obtain ⟨ms, k, ep, lp⟩ := r
  rintro e w3 ⟨rfl, v3, hR3, hK3, hB3⟩
  simp only at hR3 hK3 hB3 hpre hbd ⊢
  have hB03 : Below w0.heap.size w0 w3 := HB2.out.trans hB3
  have HB3 : Hid (Below w0.heap.size w0 w3) := hB03
  have HBL : Hid (BldAt w0.heap.size gb gm ms.length ns.length ms v3 w3) := hR3.2.1
  have hpl := hpre.length_le
  have HAW : Hid (∀ (v : Value) (w : World), BldAt w0.heap.size gb gm ms.length ns.length ms v w → Calls Try.prog 82 #[.pointer (some ⟨gb, 0, none⟩), .int .i64 (-1)] w fun e w' => ∃ v', e = .returned (.tuple #[.agg #[v'], .int .i64 (-1)]) ∧ OwnC w0.heap.size w' v' ns ∧ Below w.heap.size w w') := fun v w h => by
    have := aWith_no w0.heap.size gb gm ms.length ns.length ms v (-1) w hbd.1 hpl (by omega) h
    rw [take_pre hpre] at this
    exact this
  have q1 : w3.cell? ⟨w1.heap.size, 1, none⟩ = some (.int .i64 (ep : Int)) := (cell_of_row w3 _ 1 _ _ _ hR3.1).trans rfl
  have HG : Hid (w3.heap[w1.heap.size]? = some (.cells #[.string s, .int .i64 (ep : Int), .int .i64 (lp : Int), .pointer (some ⟨gb, 0, none⟩)] 82 (0, 0))) := hR3.1
  have hgr : w1.heap.size < w3.heap.size := (Array.getElem?_eq_some_iff.1 hR3.1).1
  have HRB : Hid (hrr = hrr) := rfl
  clear hR3 hK3 hB3 hB03 HB2 HRD HRB hpre
  by_cases he : ep = s.size
  rotate_left
  · have HE : Hid (A = ns ∧ K = -1 ∧ Q = false) := by
      obtain ⟨x1, x2, x3⟩ := rt_none (rtOk_none hrr (.inr (.inl he)))
      exact ⟨HA.out.trans x1, HK.out.trans x2, HQ.out.trans x3⟩
    have hne : ((ep : Int) != (s.size : Int)) = true := by simp; omega
    have q3 : w3.cell? ⟨w1.heap.size, 3, none⟩ = some (.pointer (some ⟨gb, 0, none⟩)) := (cell_of_row w3 _ 3 _ _ _ HG.out).trans rfl
    clear he hrr HA HK HQ
    go_wp2_with fail
    refine (HAW.out v3 w3 HBL.out).mono ?_
    rintro e w5 ⟨v5, rfl, ho5, hb5⟩
    obtain ⟨a5, c5, rfl, -, -⟩ := ho5.row
    have hB5 : Below w0.heap.size w0 w5 := (HB3.out).trans (hb5.mono (HB3.out).size)
    have hs5 := hB5.size
    have hb6 : Below w5.heap.size w5 (w5.alloc (.cells #[.slice a5 ns.length c5] 28)) := (Below.refl _ _).alloc (Nat.le_refl _) _
    have hR6 : (w5.alloc (.cells #[.slice a5 ns.length c5] 28)).heap[w.heap.size + 1]? = some (.cells #[.slice none 0 0] 28 (0, 0)) := (hb6.block _ (by omega)).trans ((hB5.block _ (by omega)).trans HR0.out)
    have o0 : (w5.alloc (.cells #[.slice a5 ns.length c5] 28)).cell? ⟨w5.heap.size, 0, none⟩ = some (.slice a5 ns.length c5) := (cell_of_row _ _ 0 _ _ _ (heap_alloc_new w5 _)).trans rfl
    have r0 : (w5.alloc (.cells #[.slice a5 ns.length c5] 28)).cell? ⟨w.heap.size + 1, 0, none⟩ = some (.slice none 0 0) := (cell_of_row _ _ 0 _ _ _ hR6).trans rfl
    have f0 : (w5.alloc (.cells #[.slice a5 ns.length c5] 28)).frozen? ⟨w.heap.size + 1, 0, none⟩ = false := frozen_of_row _ _ 0 _ _ hR6
    have HBX : Hid (((w5.alloc (.cells #[.slice a5 ns.length c5] 28)).setCell ⟨w.heap.size + 1, 0, none⟩ (.slice a5 ns.length c5)).heap[w.heap.size + 1]? = some (.cells #[.slice a5 ns.length c5] 28 (0, 0))) := (heap_setCell_same _ _ 0 _ _ _ hR6).trans rfl
    have HB7 : Hid (Below w.heap.size w ((w5.alloc (.cells #[.slice a5 ns.length c5] 28)).setCell ⟨w.heap.size + 1, 0, none⟩ (.slice a5 ns.length c5))) := ((HB0.out.trans (hB5.mono (by omega))).trans (hb6.mono (by omega))).setCell (show w.heap.size ≤ w.heap.size + 1 by omega) _
    have HO7 : Hid (OwnC w.heap.size ((w5.alloc (.cells #[.slice a5 ns.length c5] 28)).setCell ⟨w.heap.size + 1, 0, none⟩ (.slice a5 ns.length c5)) (.slice a5 ns.length c5) ns) := by
      obtain ⟨a6, c6, cp, e, ha6, ho6⟩ := ho5.later hb6
      exact ⟨a6, c6, cp, e, ha6, OwnN.base (ownsRow_setCell_below ho6 (show w.heap.size + 1 < w0.heap.size by omega) _) (by omega)⟩
    clear ho5 hb5 hB5 hb6 hR6
    go_wp2
    refine bodyPost_ret (res_cell3 rfl _ _ (w.heap.size + 1) 28 #[.slice a5 ns.length c5] (0, 0) _ rfl ?_ Try.underlying28 rfl arenaSize) rfl ?_
    · exact HBX.out
    · exact ⟨_, by rw [HE.out.2.1, HE.out.2.2]; rfl, by rw [HE.out.1]; exact HO7.out, HB7.out⟩
  obtain rfl := he
  obtain ⟨D3, t1, t2, -⟩ := id HBL.out
  obtain ⟨a3, c3, rfl, -, hrow3⟩ := t2.row
  have hgb : gb < w3.heap.size := (Array.getElem?_eq_some_iff.1 t1).1
  have q3 : w3.cell? ⟨w1.heap.size, 3, none⟩ = some (.pointer (some ⟨gb, 0, none⟩)) := (cell_of_row w3 _ 3 _ _ _ HG.out).trans rfl
  have qn : w3.cell? ⟨gb, 0, none⟩ = some (.slice a3 ms.length c3) := (cell_of_row w3 _ 0 _ _ _ t1).trans rfl
  have HSF : Hid _ := soFar_any 3000 w0.heap.size gb gm ns.length ms a3 c3 w3 HBL.out
  have HSZ : Hid (∀ wz : World, Below w3.heap.size w3 wz → Calls Try.prog 28 #[.agg #[.slice a3 ms.length c3], .int .i64 k] wz fun e w' => e = .returned (.int .i64 (sizeN ms k)) ∧ Below wz.heap.size wz w') := fun wz hz => implSize_any a3 c3 ms k wz hbd.1 (hrow3.grown hz)
  clear t1 t2 hrow3
  by_cases hz : sizeN ms k = 0
  · have HE : Hid (A = ns ∧ K = -1 ∧ Q = false) := by
      obtain ⟨x1, x2, x3⟩ := rt_none (rtOk_none hrr (.inr (.inr hz)))
      exact ⟨HA.out.trans x1, HK.out.trans x2, HQ.out.trans x3⟩
    rw [hz] at HSZ
    clear hrr HA HK HQ hz
    go_wp2_with fail
    refine Calls.mono HSF.out ?_
    rintro e wS ⟨rfl, hbS⟩
    have HSZ2 : Hid _ := HSZ.out wS hbS
    have HbS : Hid (Below w3.heap.size w3 wS) := hbS
    clear hbS HSF
    go_wp2_with fail
    refine Calls.mono HSZ2.out ?_
    rintro e w4 ⟨rfl, hb4'⟩
    have hb4 : Below w3.heap.size w3 w4 := HbS.out.trans (hb4'.mono HbS.out.size)
    clear hb4' HSZ2 HbS
    have HB4 : Hid (Below w0.heap.size w0 w4) := HB3.out.trans (hb4.mono HB3.out.size)
    have HBL4 : Hid _ := HBL.out.later hb4
    have p3 : w4.cell? ⟨w1.heap.size, 3, none⟩ = some (.pointer (some ⟨gb, 0, none⟩)) := (hb4.cell (p := ⟨w1.heap.size, 3, none⟩) hgr).trans q3
    clear hb4 q1 q3 qn HSZ HBL
    go_wp2_with fail
    refine (HAW.out _ w4 HBL4.out).mono ?_
    rintro e w5 ⟨v5, rfl, ho5, hb5⟩
    obtain ⟨a5, c5, rfl, -, -⟩ := ho5.row
    have hB5 : Below w0.heap.size w0 w5 := (HB4.out).trans (hb5.mono (HB4.out).size)
    have hs5 := hB5.size
    have hb6 : Below w5.heap.size w5 (w5.alloc (.cells #[.slice a5 ns.length c5] 28)) := (Below.refl _ _).alloc (Nat.le_refl _) _
    have hR6 : (w5.alloc (.cells #[.slice a5 ns.length c5] 28)).heap[w.heap.size + 1]? = some (.cells #[.slice none 0 0] 28 (0, 0)) := (hb6.block _ (by omega)).trans ((hB5.block _ (by omega)).trans HR0.out)
    have o0 : (w5.alloc (.cells #[.slice a5 ns.length c5] 28)).cell? ⟨w5.heap.size, 0, none⟩ = some (.slice a5 ns.length c5) := (cell_of_row _ _ 0 _ _ _ (heap_alloc_new w5 _)).trans rfl
    have r0 : (w5.alloc (.cells #[.slice a5 ns.length c5] 28)).cell? ⟨w.heap.size + 1, 0, none⟩ = some (.slice none 0 0) := (cell_of_row _ _ 0 _ _ _ hR6).trans rfl
    have f0 : (w5.alloc (.cells #[.slice a5 ns.length c5] 28)).frozen? ⟨w.heap.size + 1, 0, none⟩ = false := frozen_of_row _ _ 0 _ _ hR6
    have HBX : Hid (((w5.alloc (.cells #[.slice a5 ns.length c5] 28)).setCell ⟨w.heap.size + 1, 0, none⟩ (.slice a5 ns.length c5)).heap[w.heap.size + 1]? = some (.cells #[.slice a5 ns.length c5] 28 (0, 0))) := (heap_setCell_same _ _ 0 _ _ _ hR6).trans rfl
    have HB7 : Hid (Below w.heap.size w ((w5.alloc (.cells #[.slice a5 ns.length c5] 28)).setCell ⟨w.heap.size + 1, 0, none⟩ (.slice a5 ns.length c5))) := ((HB0.out.trans (hB5.mono (by omega))).trans (hb6.mono (by omega))).setCell (show w.heap.size ≤ w.heap.size + 1 by omega) _
    have HO7 : Hid (OwnC w.heap.size ((w5.alloc (.cells #[.slice a5 ns.length c5] 28)).setCell ⟨w.heap.size + 1, 0, none⟩ (.slice a5 ns.length c5)) (.slice a5 ns.length c5) ns) := by
      obtain ⟨a6, c6, cp, e, ha6, ho6⟩ := ho5.later hb6
      exact ⟨a6, c6, cp, e, ha6, OwnN.base (ownsRow_setCell_below ho6 (show w.heap.size + 1 < w0.heap.size by omega) _) (by omega)⟩
    clear ho5 hb5 hB5 hb6 hR6
    go_wp2
    refine bodyPost_ret (res_cell3 rfl _ _ (w.heap.size + 1) 28 #[.slice a5 ns.length c5] (0, 0) _ rfl ?_ Try.underlying28 rfl arenaSize) rfl ?_
    · exact HBX.out
    · exact ⟨_, by rw [HE.out.2.1, HE.out.2.2]; rfl, by rw [HE.out.1]; exact HO7.out, HB7.out⟩
  · have hk0 : 0 ≤ k := by
      rcases Int.lt_or_le k 0 with h | h
      · exact absurd (by unfold sizeN; rw [if_neg]; unfold inB; simp; omega) hz
      · exact h
    have HE : Hid (A = ms ∧ K = k ∧ Q = true) := by
      obtain ⟨x1, x2, x3⟩ := rt_some (rtOk_some hrr hk0 rfl hz)
      exact ⟨HA.out.trans x1, (HK.out.trans x2).trans (by omega), HQ.out.trans x3⟩
    obtain ⟨z, hzz⟩ : ∃ z, sizeN ms k = z := ⟨_, rfl⟩
    rw [hzz] at HSZ hz
    have hz0 : (z == 0) = false := by simp [hz]
    have hkn : ¬ k < 0 := by omega
    have hkd : decide (0 ≤ k) = true := by simp [hk0]
    clear hrr HA HK HQ hz hzz
    go_wp2_with fail
    refine Calls.mono HSF.out ?_
    rintro e wS ⟨rfl, hbS⟩
    have HSZ2 : Hid _ := HSZ.out wS hbS
    have HbS : Hid (Below w3.heap.size w3 wS) := hbS
    clear hbS HSF
    go_wp2_with fail
    refine Calls.mono HSZ2.out ?_
    rintro e w4 ⟨rfl, hb4'⟩
    have hb4 : Below w3.heap.size w3 w4 := HbS.out.trans (hb4'.mono HbS.out.size)
    clear hb4' HSZ2 HbS
    have HB4 : Hid (Below w0.heap.size w0 w4) := HB3.out.trans (hb4.mono HB3.out.size)
    have HBL4 : Hid _ := HBL.out.later hb4
    have p3 : w4.cell? ⟨w1.heap.size, 3, none⟩ = some (.pointer (some ⟨gb, 0, none⟩)) := (hb4.cell (p := ⟨w1.heap.size, 3, none⟩) hgr).trans q3
    clear hb4 q1 q3 qn HSZ HBL
    go_wp2_with fail
    refine (aWith_yes w0.heap.size gb gm ms.length ns.length ms _ k w4 hbd.1 (by omega) HBL4.out).mono ?_
    rintro e w5 ⟨v5, rfl, ho5, hb5⟩
    obtain ⟨a5, c5, rfl, -, -⟩ := ho5.row
    have hB5 : Below w0.heap.size w0 w5 := (HB4.out).trans (hb5.mono (HB4.out).size)
    have hs5 := hB5.size
    have hb6 : Below w5.heap.size w5 (w5.alloc (.cells #[.slice a5 ms.length c5] 28)) := (Below.refl _ _).alloc (Nat.le_refl _) _
    have hR6 : (w5.alloc (.cells #[.slice a5 ms.length c5] 28)).heap[w.heap.size + 1]? = some (.cells #[.slice none 0 0] 28 (0, 0)) := (hb6.block _ (by omega)).trans ((hB5.block _ (by omega)).trans HR0.out)
    have o0 : (w5.alloc (.cells #[.slice a5 ms.length c5] 28)).cell? ⟨w5.heap.size, 0, none⟩ = some (.slice a5 ms.length c5) := (cell_of_row _ _ 0 _ _ _ (heap_alloc_new w5 _)).trans rfl
    have r0 : (w5.alloc (.cells #[.slice a5 ms.length c5] 28)).cell? ⟨w.heap.size + 1, 0, none⟩ = some (.slice none 0 0) := (cell_of_row _ _ 0 _ _ _ hR6).trans rfl
    have f0 : (w5.alloc (.cells #[.slice a5 ms.length c5] 28)).frozen? ⟨w.heap.size + 1, 0, none⟩ = false := frozen_of_row _ _ 0 _ _ hR6
    have HBX : Hid (((w5.alloc (.cells #[.slice a5 ms.length c5] 28)).setCell ⟨w.heap.size + 1, 0, none⟩ (.slice a5 ms.length c5)).heap[w.heap.size + 1]? = some (.cells #[.slice a5 ms.length c5] 28 (0, 0))) := (heap_setCell_same _ _ 0 _ _ _ hR6).trans rfl
    have HB7 : Hid (Below w.heap.size w ((w5.alloc (.cells #[.slice a5 ms.length c5] 28)).setCell ⟨w.heap.size + 1, 0, none⟩ (.slice a5 ms.length c5))) := ((HB0.out.trans (hB5.mono (by omega))).trans (hb6.mono (by omega))).setCell (show w.heap.size ≤ w.heap.size + 1 by omega) _
    have HO7 : Hid (OwnC w.heap.size ((w5.alloc (.cells #[.slice a5 ms.length c5] 28)).setCell ⟨w.heap.size + 1, 0, none⟩ (.slice a5 ms.length c5)) (.slice a5 ms.length c5) ms) := by
      obtain ⟨a6, c6, cp, e, ha6, ho6⟩ := ho5.later hb6
      exact ⟨a6, c6, cp, e, ha6, OwnN.base (ownsRow_setCell_below ho6 (show w.heap.size + 1 < w0.heap.size by omega) _) (by omega)⟩
    clear ho5 hb5 hB5 hb6 hR6
    go_wp2
    refine bodyPost_ret (res_cell3 rfl _ _ (w.heap.size + 1) 28 #[.slice a5 ms.length c5] (0, 0) _ rfl ?_ Try.underlying28 rfl arenaSize) rfl ?_
    · exact HBX.out
    · exact ⟨_, by rw [HE.out.2.1, HE.out.2.2]; first | rfl | simp [hk0], by rw [HE.out.1]; exact HO7.out, HB7.out⟩
end Go.Proofs.Ytffnadnndmmliaa
