/- The program's placesIn (chapter 12): where the three terms of a side stand, -1 for one that is not there. -/
import Derived.Test.YtaanophnnkmkbaaGreatTold8
import Derived.Test.YtaanophnnkmkbaaGreatToldP12
import Derived.Laws.EntriesVeiled
import Derived.Test.YtaanophnnkmkbaaGreatImplCI10
import Derived.Test.YtaanophnnkmkbaaGreatMakeParts
import Derived.Test.YtaanophnnkmkbaaGreatMakeSign
import Derived.Test.YtaanophnnkmkbaaGreatPlainTerm
import Derived.Test.YtaanophnnkmkbaaGreatCert10
namespace Go.Proofs.YtaanophnnkmkbaaGreat
open Go.RowKit Go.Maps
set_option linter.unusedVariables false
def lkK (ns : List Nd) (hd sd : Int) : Int := (Tl.two 4 (.pl hd) (.atom sd)).look ns
def lkS (ns : List Nd) (m8 sa : Int) : Int := (Tl.list [.atom m8, .hash (.pl sa)]).look ns
def lkD (ns : List Nd) (hd m1 sa : Int) : Int := (Tl.two 9 (.two 4 (.pl hd) (.atom m1)) (.hash (.pl sa))).look ns
theorem a3Size : (Tryz.prog.info? 60).map (·.size) = some 3 := by kernel_rfl
/-- While the places are looked for. -/
def PlSt (ns : List Nd) (gb gm h : Nat) (x0 x1 x2 : Int) (W0 wr : World) : Prop :=
  (∃ u, BldM ns.length W0.heap.size gb gm ns.length ns.length ns u wr ∧ (h < wr.heap.size ∧ Apt gb gm u h)) ∧ Below W0.heap.size W0 wr ∧ wr.heap[h]? = some (.cells #[.int .i64 x0, .int .i64 x1, .int .i64 x2] 60 (0, 0)) ∧ W0.heap.size ≤ h
theorem PlSt.told {ns : List Nd} {gb gm h : Nat} {x0 x1 x2 q : Int} {W0 wr w3 : World} {t : Tl} {F : FuncId} {cs : Array Value} (H : PlSt ns gb gm h x0 x1 x2 W0 wr) (hl : ns.length ≤ 1048576) (ht : ToldIs wr.heap.size w3.heap.size w3 t (.func (.func F) #[] cs)) (hb : Below wr.heap.size wr w3) (hw : t.Wf) (hs : t.Still) (hq : t.look ns = q) :
    Calls Tryz.prog F (#[.pointer (some ⟨gb, 0, none⟩)] ++ cs) w3 fun e w4 => e = .returned (.int .i64 q) ∧ PlSt ns gb gm h x0 x1 x2 W0 w4 := by
  obtain ⟨⟨u, h1, h2⟩, h3, h4, h5⟩ := H
  have hk : Keep gb gm u u wr w3 := Keep.below hb
  refine (ToldIs.findK ht hw hs hl (h1.later hb) h1.lts).mono ?_
  rintro e w4 ⟨rfl, ⟨u', p1, p2⟩, p3⟩
  have ha := hk.apt h2
  refine ⟨by rw [hq], ⟨u', p1, p2.apt ha⟩, (h3.trans (hb.mono h1.size)).trans p3, ?_, h5⟩
  exact (p2.atk ha).trans ((hb.block _ h2.1).trans h4)
theorem PlSt.set {ns : List Nd} {gb gm h : Nat} {x0 x1 x2 y0 y1 y2 : Int} {W0 wr : World} (H : PlSt ns gb gm h x0 x1 x2 W0 wr) (j : Nat) (v : Value) (hj : (wr.setCell ⟨h, j, none⟩ v).heap[h]? = some (.cells #[.int .i64 y0, .int .i64 y1, .int .i64 y2] 60 (0, 0))) : PlSt ns gb gm h y0 y1 y2 W0 (wr.setCell ⟨h, j, none⟩ v) := by
  obtain ⟨⟨u, h1, h2⟩, h3, h4, h5⟩ := H
  have hg : wr.grownBy (wr.setCell ⟨h, j, none⟩ v) (some h) := ⟨rfl, rfl, rfl, by simp, fun k _ hn => Below.heap_setCell _ _ _ _ (by simpa using hn)⟩
  exact ⟨⟨u, h1.apart hg h2.2.1 h2.2.2.1 h2.2.2.2, by simpa using h2.1, h2.2⟩, h3.setCell (show W0.heap.size ≤ (⟨h, j, none⟩ : Addr).block from h5) _, hj, h5⟩
set_option maxHeartbeats 3200000 in
set_option maxRecDepth 20000 in
theorem placesIn_any (a : Option Addr) (cap : Nat) (ns : List Nd) (sd hd sa m1 m8 : Int) (w : World) (hl : ns.length ≤ 1048576) (hf : ∀ y ∈ ns, y.Fits) (h1 : (Lit.int .i64 sd).wf = true) (h2 : (Lit.int .i64 hd).wf = true) (h3 : (Lit.int .i64 sa).wf = true) (hm1 : IntKind.i64.wrap (10 + sd) = m1) (hm8 : IntKind.i64.wrap (80 + sd) = m8) (ha : AddrN a cap) (hr : RowN w.heap.size w a ns) :
    Calls Tryz.prog 28 #[.agg #[.int .i64 sd, .int .i64 hd, .int .i64 sa], .agg #[.slice a ns.length cap]] w fun e w' => e = .returned (.agg #[.int .i64 (lkK ns hd sd), .int .i64 (lkS ns m8 sa), .int .i64 (lkD ns hd m1 sa)]) ∧ Below w.heap.size w w' := by
  have wm1 : (Lit.int .i64 m1).wf = true := by rw [← hm1]; exact wf_wrap _ _
  have wm8 : (Lit.int .i64 m8).wf = true := by rw [← hm8]; exact wf_wrap _ _
  have HW : Hid ((Tl.two 4 (.pl hd) (.atom sd)).Wf ∧ (Tl.list [.atom m8, .hash (.pl sa)]).Wf ∧ (Tl.two 9 (.two 4 (.pl hd) (.atom m1)) (.hash (.pl sa))).Wf) := ⟨⟨by omega, by omega, h2, h1⟩, ⟨by simp, wm8, h3, trivial⟩, ⟨by omega, by omega, ⟨by omega, by omega, h2, wm1⟩, h3⟩⟩
  have HST : Hid ((Tl.two 4 (.pl hd) (.atom sd)).Still ∧ (Tl.list [.atom m8, .hash (.pl sa)]).Still ∧ (Tl.two 9 (.two 4 (.pl hd) (.atom m1)) (.hash (.pl sa))).Still) := ⟨.two (.pl _) (.atom _), .list (fun x hx => by simp only [List.mem_cons, List.not_mem_nil, or_false] at hx; rcases hx with rfl | rfl; exact .atom _; exact .hash (.pl _)), .two (.two (.pl _) (.atom _)) (.hash (.pl _))⟩
  have HM : Hid (IntKind.i64.wrap (10 + sd) = m1 ∧ IntKind.i64.wrap (80 + sd) = m8) := ⟨hm1, hm8⟩
  obtain ⟨q0, HQ0⟩ : ∃ q, Hid (lkK ns hd sd = q) := ⟨_, rfl⟩
  obtain ⟨q1, HQ1⟩ : ∃ q, Hid (lkS ns m8 sa = q) := ⟨_, rfl⟩
  obtain ⟨q2, HQ2⟩ : ∃ q, Hid (lkD ns hd m1 sa = q) := ⟨_, rfl⟩
  rw [HQ0.out, HQ1.out, HQ2.out]
  have hb0 : Below w.heap.size w (((w.alloc (.cells #[.int .i64 sd, .int .i64 hd, .int .i64 sa] 48)).alloc (.cells #[.slice a ns.length cap] 26)).alloc (.cells #[.int .i64 0, .int .i64 0, .int .i64 0] 60)) := (((Below.refl _ _).alloc (Nat.le_refl _) _).alloc (by simp) _).alloc (by simp; omega) _
  have s0 : (((w.alloc (.cells #[.int .i64 sd, .int .i64 hd, .int .i64 sa] 48)).alloc (.cells #[.slice a ns.length cap] 26)).alloc (.cells #[.int .i64 0, .int .i64 0, .int .i64 0] 60)).heap.size = w.heap.size + 3 := by simp
  have e0 : (((w.alloc (.cells #[.int .i64 sd, .int .i64 hd, .int .i64 sa] 48)).alloc (.cells #[.slice a ns.length cap] 26)).alloc (.cells #[.int .i64 0, .int .i64 0, .int .i64 0] 60)).heap[w.heap.size]? = some (.cells #[.int .i64 sd, .int .i64 hd, .int .i64 sa] 48 (0, 0)) := by
    rw [heap_alloc_old _ _ (by simp; omega), heap_alloc_old _ _ (by simp)]; exact heap_alloc_new w _
  have e1 : (((w.alloc (.cells #[.int .i64 sd, .int .i64 hd, .int .i64 sa] 48)).alloc (.cells #[.slice a ns.length cap] 26)).alloc (.cells #[.int .i64 0, .int .i64 0, .int .i64 0] 60)).heap[w.heap.size + 1]? = some (.cells #[.slice a ns.length cap] 26 (0, 0)) := by
    rw [heap_alloc_old _ _ (by simp)]
    have := heap_alloc_new (w.alloc (.cells #[.int .i64 sd, .int .i64 hd, .int .i64 sa] 48)) (.cells #[.slice a ns.length cap] 26)
    simpa using this
  have e2 : (((w.alloc (.cells #[.int .i64 sd, .int .i64 hd, .int .i64 sa] 48)).alloc (.cells #[.slice a ns.length cap] 26)).alloc (.cells #[.int .i64 0, .int .i64 0, .int .i64 0] 60)).heap[w.heap.size + 2]? = some (.cells #[.int .i64 0, .int .i64 0, .int .i64 0] 60 (0, 0)) := by
    have := heap_alloc_new ((w.alloc (.cells #[.int .i64 sd, .int .i64 hd, .int .i64 sa] 48)).alloc (.cells #[.slice a ns.length cap] 26)) (.cells #[.int .i64 0, .int .i64 0, .int .i64 0] 60)
    simpa using this
  have c1 : (((w.alloc (.cells #[.int .i64 sd, .int .i64 hd, .int .i64 sa] 48)).alloc (.cells #[.slice a ns.length cap] 26)).alloc (.cells #[.int .i64 0, .int .i64 0, .int .i64 0] 60)).cell? ⟨w.heap.size + 1, 0, none⟩ = some (.slice a ns.length cap) := (cell_of_row _ _ 0 _ _ _ e1).trans rfl
  have HC : Hid _ := finderOf_any a cap ns _ hl hf ha (hr.grown hb0)
  clear h1 h2 h3 hf ha hr wm1 wm8 hm1 hm8 e1
  have ix0 : ∀ w : World, (Instr.index 50 (.agg #[.func (.func 55) #[] #[], .func (.func 56) #[] #[], .func (.func 57) #[] #[]]) (.int .i64 0)).run Tryz.prog w = .ok (.func (.func 55) #[] #[]) w := fun _ => by kernel_rfl
  have ix1 : ∀ w : World, (Instr.index 50 (.agg #[.func (.func 55) #[] #[], .func (.func 56) #[] #[], .func (.func 57) #[] #[]]) (.int .i64 1)).run Tryz.prog w = .ok (.func (.func 56) #[] #[]) w := fun _ => by kernel_rfl
  have ix2 : ∀ w : World, (Instr.index 50 (.agg #[.func (.func 55) #[] #[], .func (.func 56) #[] #[], .func (.func 57) #[] #[]]) (.int .i64 2)).run Tryz.prog w = .ok (.func (.func 57) #[] #[]) w := fun _ => by kernel_rfl
  go_enter Tryz.func28, Tryz.ntmps28
  go_wp2_with fail
  generalize (((w.alloc (.cells #[.int .i64 sd, .int .i64 hd, .int .i64 sa] 48)).alloc (.cells #[.slice a ns.length cap] 26)).alloc (.cells #[.int .i64 0, .int .i64 0, .int .i64 0] 60)) = w0 at hb0 s0 e0 e2 c1 HC ⊢
  refine Calls.mono HC.out ?_
  rintro e w1 ⟨gb, gm, v, rfl, hbld, hb1⟩
  have HK0 : Hid (Below w.heap.size w w0 ∧ w0.heap.size = w.heap.size + 3 ∧ w0.heap[w.heap.size]? = some (.cells #[.int .i64 sd, .int .i64 hd, .int .i64 sa] 48 (0, 0)) ∧ w0.heap[w.heap.size + 2]? = some (.cells #[.int .i64 0, .int .i64 0, .int .i64 0] 60 (0, 0))) := ⟨hb0, s0, e0, e2⟩
  have HB1 : Hid (BldM ns.length w0.heap.size gb gm ns.length ns.length ns v w1 ∧ Below w0.heap.size w0 w1) := ⟨hbld, hb1⟩
  have hbA : Below w1.heap.size w1 (w1.alloc (.cells #[.int .i64 0, .int .i64 0, .int .i64 0] 60)) := (Below.refl _ _).alloc (Nat.le_refl _) _
  have HP0 : Hid (PlSt ns gb gm w1.heap.size 0 0 0 w0 (w1.alloc (.cells #[.int .i64 0, .int .i64 0, .int .i64 0] 60))) := by
    have hlt := hbld.lts
    refine ⟨⟨v, hbld.later hbA, by simp, by omega, by omega, fun e => by have := hlt.2.2 _ e; omega⟩, hb1.trans (hbA.mono hbld.size), heap_alloc_new w1 _, hbld.size⟩
  clear hbld hb1 HC c1 hb0 s0 e0 e2 hbA HB1
  go_wp2_with fail
  generalize w1.alloc (.cells #[.int .i64 0, .int .i64 0, .int .i64 0] 60) = w2 at HP0 ⊢
  generalize w1.heap.size = h at HP0 ⊢
  refine Calls.mono (sideTable_any w2) ?_
  rintro e w3 ⟨rfl, hb3⟩
  replace HP0 : Hid (PlSt ns gb gm h 0 0 0 w0 w3) := by
    obtain ⟨⟨u, p1, p2⟩, p3, p4, p5⟩ := HP0.out
    exact ⟨⟨u, p1.later hb3, (Keep.below hb3 : Keep gb gm u u w2 w3).apt p2⟩, p3.trans (hb3.mono p1.size), (hb3.block _ p2.1).trans p4, p5⟩
  clear hb3
  go_wp2
  go_loopw [13] (fun i wr => ∃ m : Nat, m ≤ 3 ∧ i = .int .i64 (m : Int) ∧ Hid (PlSt ns gb gm h (if 0 < m then q0 else 0) (if 1 < m then q1 else 0) (if 2 < m then q2 else 0) w0 wr))
    (fun i _ => 3 - (intOf i).toNat)
  case atStart => exact ⟨0, by omega, rfl, HP0.out⟩
  case round =>
    obtain ⟨m, hm, rfl, HP⟩ := hrel
    clear HP0
    have HSB : Hid (wr.heap[w.heap.size]? = some (.cells #[.int .i64 sd, .int .i64 hd, .int .i64 sa] 48 (0, 0)) ∧ wr.heap[w.heap.size + 2]? = some (.cells #[.int .i64 0, .int .i64 0, .int .i64 0] 60 (0, 0))) := ⟨(HP.out.2.1.block _ (by rw [HK0.out.2.1]; omega)).trans HK0.out.2.2.1, (HP.out.2.1.block _ (by rw [HK0.out.2.1]; omega)).trans HK0.out.2.2.2⟩
    have k0 : wr.cell? ⟨w.heap.size, 0, none⟩ = some (.int .i64 sd) := (cell_of_row _ _ 0 _ _ _ HSB.out.1).trans rfl
    have k1 : wr.cell? ⟨w.heap.size, 1, none⟩ = some (.int .i64 hd) := (cell_of_row _ _ 1 _ _ _ HSB.out.1).trans rfl
    have k2 : wr.cell? ⟨w.heap.size, 2, none⟩ = some (.int .i64 sa) := (cell_of_row _ _ 2 _ _ _ HSB.out.1).trans rfl
    rcases (show m = 0 ∨ m = 1 ∨ m = 2 ∨ m = 3 by omega) with rfl | rfl | rfl | rfl
    · have HP' : Hid (PlSt ns gb gm h 0 0 0 w0 wr) := HP.out
      clear HP HSB
      go_wp2_with fail
      refine Calls.mono (psKey_any (L := wr.heap.size) sd hd sa wr (Nat.le_refl _)) ?_
      rintro e w4 ⟨v4, rfl, t4, b4⟩
      obtain ⟨F4, c4, rfl⟩ := t4.fn
      have eg4 := t4.eg
      have HX : Hid _ := PlSt.told HP'.out hl t4 b4 HW.out.1 HST.out.1 HQ0.out
      clear t4 b4 k0 k1 k2 HP'
      go_wp2_with fail
      refine Calls.mono HX.out ?_
      rintro e w5 ⟨rfl, hp5⟩
      have d0 : w5.cell? ⟨h, 0, none⟩ = some (.int .i64 0) := (cell_of_row _ _ 0 _ _ _ hp5.2.2.1).trans rfl
      have f0 : w5.frozen? ⟨h, 0, none⟩ = false := frozen_of_row _ _ 0 _ _ hp5.2.2.1
      have HP5 : Hid (PlSt ns gb gm h q0 0 0 w0 (w5.setCell ⟨h, 0, none⟩ (.int .i64 q0))) := hp5.set 0 _ ((heap_setCell_same _ _ 0 _ _ _ hp5.2.2.1).trans rfl)
      clear hp5 HX eg4
      go_wp2
      go_roundw
      case rel => exact ⟨1, by omega, by go_num, HP5.out⟩
      case measure => simp [intOf]
    · have HP' : Hid (PlSt ns gb gm h q0 0 0 w0 wr) := HP.out
      clear HP HSB
      go_wp2_with fail
      refine Calls.mono (psSigned_any (L := wr.heap.size) sd hd sa wr (Nat.le_refl _) HM.out.2) ?_
      rintro e w4 ⟨v4, rfl, t4, b4⟩
      obtain ⟨F4, c4, rfl⟩ := t4.fn
      have eg4 := t4.eg
      have HX : Hid _ := PlSt.told HP'.out hl t4 b4 HW.out.2.1 HST.out.2.1 HQ1.out
      clear t4 b4 k0 k1 k2 HP'
      go_wp2_with fail
      refine Calls.mono HX.out ?_
      rintro e w5 ⟨rfl, hp5⟩
      have d0 : w5.cell? ⟨h, 1, none⟩ = some (.int .i64 0) := (cell_of_row _ _ 1 _ _ _ hp5.2.2.1).trans rfl
      have f0 : w5.frozen? ⟨h, 1, none⟩ = false := frozen_of_row _ _ 1 _ _ hp5.2.2.1
      have HP5 : Hid (PlSt ns gb gm h q0 q1 0 w0 (w5.setCell ⟨h, 1, none⟩ (.int .i64 q1))) := hp5.set 1 _ ((heap_setCell_same _ _ 1 _ _ _ hp5.2.2.1).trans rfl)
      clear hp5 HX eg4
      go_wp2
      go_roundw
      case rel => exact ⟨2, by omega, by go_num, HP5.out⟩
      case measure => simp [intOf]
    · have HP' : Hid (PlSt ns gb gm h q0 q1 0 w0 wr) := HP.out
      clear HP HSB
      go_wp2_with fail
      refine Calls.mono (psDone_any (L := wr.heap.size) sd hd sa wr (Nat.le_refl _) HM.out.1) ?_
      rintro e w4 ⟨v4, rfl, t4, b4⟩
      obtain ⟨F4, c4, rfl⟩ := t4.fn
      have eg4 := t4.eg
      have HX : Hid _ := PlSt.told HP'.out hl t4 b4 HW.out.2.2 HST.out.2.2 HQ2.out
      clear t4 b4 k0 k1 k2 HP'
      go_wp2_with fail
      refine Calls.mono HX.out ?_
      rintro e w5 ⟨rfl, hp5⟩
      have d0 : w5.cell? ⟨h, 2, none⟩ = some (.int .i64 0) := (cell_of_row _ _ 2 _ _ _ hp5.2.2.1).trans rfl
      have f0 : w5.frozen? ⟨h, 2, none⟩ = false := frozen_of_row _ _ 2 _ _ hp5.2.2.1
      have HP5 : Hid (PlSt ns gb gm h q0 q1 q2 w0 (w5.setCell ⟨h, 2, none⟩ (.int .i64 q2))) := hp5.set 2 _ ((heap_setCell_same _ _ 2 _ _ _ hp5.2.2.1).trans rfl)
      clear hp5 HX eg4
      go_wp2
      go_roundw
      case rel => exact ⟨3, by omega, by go_num, HP5.out⟩
      case measure => simp [intOf]
    · have p4 : wr.heap[h]? = some (.cells #[.int .i64 q0, .int .i64 q1, .int .i64 q2] 60 (0, 0)) := HP.out.2.2.1
      have r0 : wr.cell? ⟨h, 0, none⟩ = some (.int .i64 q0) := (cell_of_row _ _ 0 _ _ _ p4).trans rfl
      have r1 : wr.cell? ⟨h, 1, none⟩ = some (.int .i64 q1) := (cell_of_row _ _ 1 _ _ _ p4).trans rfl
      have r2 : wr.cell? ⟨h, 2, none⟩ = some (.int .i64 q2) := (cell_of_row _ _ 2 _ _ _ p4).trans rfl
      have z2 := HSB.out.2
      have n0 : wr.cell? ⟨w.heap.size + 2, 0, none⟩ = some (.int .i64 0) := (cell_of_row _ _ 0 _ _ _ z2).trans rfl
      have n1 : wr.cell? ⟨w.heap.size + 2, 1, none⟩ = some (.int .i64 0) := (cell_of_row _ _ 1 _ _ _ z2).trans rfl
      have n2 : wr.cell? ⟨w.heap.size + 2, 2, none⟩ = some (.int .i64 0) := (cell_of_row _ _ 2 _ _ _ z2).trans rfl
      have m0 : wr.frozen? ⟨w.heap.size + 2, 0, none⟩ = false := frozen_of_row _ _ 0 _ _ z2
      have m1' : wr.frozen? ⟨w.heap.size + 2, 1, none⟩ = false := frozen_of_row _ _ 1 _ _ z2
      have m2 : wr.frozen? ⟨w.heap.size + 2, 2, none⟩ = false := frozen_of_row _ _ 2 _ _ z2
      have a0 := heap_setCell_same wr (w.heap.size + 2) 0 _ _ (.int .i64 q0) z2
      have a1 := heap_setCell_same _ (w.heap.size + 2) 1 _ _ (.int .i64 q1) a0
      have a2 := heap_setCell_same _ (w.heap.size + 2) 2 _ _ (.int .i64 q2) a1
      have hBr : Below w.heap.size w wr := HK0.out.1.trans (HP.out.2.1.mono (by rw [HK0.out.2.1]; omega))
      have HX : Hid ((((wr.setCell ⟨w.heap.size + 2, 0, none⟩ (.int .i64 q0)).setCell ⟨w.heap.size + 2, 1, none⟩ (.int .i64 q1)).setCell ⟨w.heap.size + 2, 2, none⟩ (.int .i64 q2)).heap[w.heap.size + 2]? = some (.cells #[.int .i64 q0, .int .i64 q1, .int .i64 q2] 60 (0, 0)) ∧ Below w.heap.size w (((wr.setCell ⟨w.heap.size + 2, 0, none⟩ (.int .i64 q0)).setCell ⟨w.heap.size + 2, 1, none⟩ (.int .i64 q1)).setCell ⟨w.heap.size + 2, 2, none⟩ (.int .i64 q2))) := ⟨a2.trans rfl, ((hBr.setCell (show w.heap.size ≤ (⟨w.heap.size + 2, 0, none⟩ : Addr).block by show w.heap.size ≤ w.heap.size + 2; omega) _).setCell (show w.heap.size ≤ (⟨w.heap.size + 2, 1, none⟩ : Addr).block by show w.heap.size ≤ w.heap.size + 2; omega) _).setCell (show w.heap.size ≤ (⟨w.heap.size + 2, 2, none⟩ : Addr).block by show w.heap.size ≤ w.heap.size + 2; omega) _⟩
      clear a0 a1 a2 hBr HP HSB p4 z2 k0 k1 k2
      go_wp2
      refine bodyPost_ret (results_cell_row rfl _ _ (w.heap.size + 2) 60 #[.int .i64 q0, .int .i64 q1, .int .i64 q2] (0, 0) _ rfl ?_ Tryz.underlying60 rfl a3Size) rfl ?_
      · exact HX.out.1
      · exact ⟨rfl, HX.out.2⟩
end Go.Proofs.YtaanophnnkmkbaaGreat

namespace Go.Proofs.YtaanophnnkmkbaaGreat
open Go.RowKit
set_option linter.unusedVariables false
def whB (ns : List Nd) (mo nm sg c s : Int) : Bool := if mo = 1 then crtB ns c && (decide (crtN ns c = nm) && (signB ns (crtP ns c) s && decide (signV ns (crtP ns c) s = sg))) else numIs ns c 0 && numIs ns s 0
set_option maxHeartbeats 3200000 in
set_option maxRecDepth 20000 in
theorem isWho_any (a : Option Addr) (cap : Nat) (ns : List Nd) (mo nm sg c s : Int) (w : World) (hl : ns.length ≤ 1048576) (hf : ∀ y ∈ ns, y.Fits) (hr : RowN w.heap.size w a ns) :
    Calls Tryz.prog 31 #[.agg #[.slice a ns.length cap], .int .i64 mo, .int .i64 nm, .int .i64 sg, .int .i64 c, .int .i64 s] w fun e w' => e = .returned (.bool (whB ns mo nm sg c s)) ∧ Below w.heap.size w w' := by
  have hb0 : Below w.heap.size w (w.alloc (.cells #[.slice a ns.length cap] 26)) := (Below.refl _ _).alloc (Nat.le_refl _) _
  have hA0 := heap_alloc_new w (.cells #[.slice a ns.length cap] 26)
  have c0 : (w.alloc (.cells #[.slice a ns.length cap] 26)).cell? ⟨w.heap.size, 0, none⟩ = some (.slice a ns.length cap) := (cell_of_row _ _ 0 _ _ _ hA0).trans rfl
  have hs0 : w.heap.size < (w.alloc (.cells #[.slice a ns.length cap] 26)).heap.size := by simp
  have HR : Hid (RowN w.heap.size w a ns) := hr
  have HB0 : Hid (Below w.heap.size w (w.alloc (.cells #[.slice a ns.length cap] 26))) := hb0
  by_cases hm : mo = 1
  · have HC : Hid _ := implCertIn_any a cap ns c _ hl hf (hr.grown hb0)
    have HSG : Hid (∀ (p : Int) (wz : World), Below w.heap.size w wz → Calls Tryz.prog 70 #[.agg #[.slice a ns.length cap], .int .i64 p, .int .i64 s] wz fun e w' => e = .returned (.tuple #[.int .i64 (signV ns p s), .bool (signB ns p s)]) ∧ Below w.heap.size w w') := fun p wz hz => (implSigned_any a cap ns p s wz hl (hr.grown hz)).mono fun e w' ⟨p1, p2⟩ => ⟨p1, hz.trans (p2.mono hz.size)⟩
    have HWB : Hid (whB ns mo nm sg c s = (crtB ns c && (decide (crtN ns c = nm) && (signB ns (crtP ns c) s && decide (signV ns (crtP ns c) s = sg))))) := by show _ = _; unfold whB; rw [if_pos hm]
    subst hm
    generalize whB ns 1 nm sg c s = R at HWB ⊢
    generalize crtB ns c = bb at HC HWB
    generalize crtN ns c = n1 at HC HWB
    generalize crtP ns c = p1 at HC HWB
    clear hr hf hb0
    go_enter Tryz.func31, Tryz.ntmps31
    go_wp2_with fail
    generalize w.alloc (.cells #[.slice a ns.length cap] 26) = w0 at HB0 hA0 c0 hs0 HC ⊢
    refine Calls.mono HC.out ?_
    rintro e w1 ⟨rfl, hb1⟩
    have c1 : w1.cell? ⟨w.heap.size, 0, none⟩ = some (.slice a ns.length cap) := (hb1.cell (p := ⟨w.heap.size, 0, none⟩) hs0).trans c0
    have HB1 : Hid (Below w.heap.size w w1) := HB0.out.trans (hb1.mono HB0.out.size)
    clear hb1 HC c0 hA0
    go_wp2_with fail
    refine Calls.mono (HSG.out p1 w1 HB1.out) ?_
    rintro e w2 ⟨rfl, hb2⟩
    have HB2 : Hid (Below w.heap.size w w2) := hb2
    generalize signV ns p1 s = v1 at HWB ⊢
    generalize signB ns p1 s = b1 at HWB ⊢
    have HW' : Hid (R = (bb && ((n1 == nm) && (b1 && (v1 == sg))))) := by show _ = _; rw [HWB.out]; rfl
    clear hb2 c1 HSG HB1 HWB
    cases hn : (n1 == nm) <;> cases hv : (v1 == sg) <;> cases bb <;> cases b1
    all_goals
      rw [hn, hv] at HW'
      go_wp2
      go_ret
      exact ⟨by rw [HW'.out]; rfl, HB2.out⟩
  · have HNI : Hid (∀ (x : Int) (wz : World), Below w.heap.size w wz → Calls Tryz.prog 68 #[.agg #[.slice a ns.length cap], .int .i64 x, .int .i64 0] wz fun e w' => e = .returned (.bool (numIs ns x 0)) ∧ Below wz.heap.size wz w') := fun x wz hz => isAtom_any a cap ns x 0 wz hl (hr.grown hz)
    have HWB : Hid (whB ns mo nm sg c s = (numIs ns c 0 && numIs ns s 0)) := by show _ = _; unfold whB; rw [if_neg hm]
    have hm' : (mo == 1) = false := by simp [hm]
    generalize whB ns mo nm sg c s = R at HWB ⊢
    clear hr hf hb0 hm
    obtain ⟨d1, HD1⟩ : ∃ d, Hid (numIs ns c 0 = d) := ⟨_, rfl⟩
    obtain ⟨d2, HD2⟩ : ∃ d, Hid (numIs ns s 0 = d) := ⟨_, rfl⟩
    rw [HD1.out, HD2.out] at HWB
    go_enter Tryz.func31, Tryz.ntmps31
    go_wp2_with fail
    generalize w.alloc (.cells #[.slice a ns.length cap] 26) = w0 at HB0 hA0 c0 hs0 ⊢
    have H1 : Hid _ := HNI.out c w0 HB0.out
    rw [HD1.out] at H1
    refine Calls.mono H1.out ?_
    rintro e w1 ⟨rfl, hb1⟩
    have HB1 : Hid (Below w.heap.size w w1) := HB0.out.trans (hb1.mono HB0.out.size)
    have c1 : w1.cell? ⟨w.heap.size, 0, none⟩ = some (.slice a ns.length cap) := (hb1.cell (p := ⟨w.heap.size, 0, none⟩) hs0).trans c0
    cases d1 with
    | false =>
      clear hb1 c0 hA0 H1 c1
      go_wp2
      go_ret
      exact ⟨by rw [HWB.out]; rfl, HB1.out⟩
    | true =>
      clear hb1 c0 hA0 H1
      go_wp2_with fail
      have H2 : Hid _ := HNI.out s w1 HB1.out
      rw [HD2.out] at H2
      refine Calls.mono H2.out ?_
      rintro e w2 ⟨rfl, hb2⟩
      have HB2 : Hid (Below w.heap.size w w2) := HB1.out.trans (hb2.mono HB1.out.size)
      clear hb2 c1 H2 HNI
      go_wp2
      go_ret
      exact ⟨by rw [HWB.out]; rfl, HB2.out⟩
end Go.Proofs.YtaanophnnkmkbaaGreat

namespace Go.Proofs.YtaanophnnkmkbaaGreat
open Go.RowKit Go.Maps
set_option linter.unusedVariables false
def plW (ns : List Nd) (hd sd k : Int) : Int := openV ns (lkK ns hd sd) k
def plP (ns : List Nd) (hd sd k : Int) (i : Nat) : Int := p3 ns (plW ns hd sd k) i
def plQ (ns : List Nd) (hd sd k : Int) : Bool := partsB ns (plW ns hd sd k) 3
def plB (ns : List Nd) (sd hd m1 m8 mo nm sa k : Int) : Bool := plQ ns hd sd k && (whB ns mo nm (lkS ns m8 sa) (plP ns hd sd k 0) (plP ns hd sd k 1) && decide (plP ns hd sd k 2 = lkD ns hd m1 sa))
set_option maxHeartbeats 3200000 in
set_option maxRecDepth 20000 in
theorem implPartOkL_any (a : Option Addr) (cap : Nat) (ns : List Nd) (sd hd mo nm sa k m1 m8 : Int) (w : World) (hl : ns.length ≤ 1048576) (hf : ∀ y ∈ ns, y.Fits) (h1 : (Lit.int .i64 sd).wf = true) (h2 : (Lit.int .i64 hd).wf = true) (h3 : (Lit.int .i64 sa).wf = true) (hm1 : IntKind.i64.wrap (10 + sd) = m1) (hm8 : IntKind.i64.wrap (80 + sd) = m8) (ha : AddrN a cap) (hr : RowN w.heap.size w a ns) :
    Calls Tryz.prog 8 #[.agg #[.slice a ns.length cap], .int .i64 sd, .int .i64 hd, .int .i64 mo, .int .i64 nm, .int .i64 sa, .int .i64 k] w fun e w' => e = .returned (.bool (plB ns sd hd m1 m8 mo nm sa k)) ∧ Below w.heap.size w w' := by
  have hb0 : Below w.heap.size w (w.alloc (.cells #[.slice a ns.length cap] 26)) := (Below.refl _ _).alloc (Nat.le_refl _) _
  have hA0 := heap_alloc_new w (.cells #[.slice a ns.length cap] 26)
  have c0 : (w.alloc (.cells #[.slice a ns.length cap] 26)).cell? ⟨w.heap.size, 0, none⟩ = some (.slice a ns.length cap) := (cell_of_row _ _ 0 _ _ _ hA0).trans rfl
  have hs0 : w.heap.size < (w.alloc (.cells #[.slice a ns.length cap] 26)).heap.size := by simp
  have HC : Hid _ := placesIn_any a cap ns sd hd sa m1 m8 _ hl hf h1 h2 h3 hm1 hm8 ha (hr.grown hb0)
  have HR : Hid (RowN w.heap.size w a ns) := hr
  have HFI : Hid (∀ y ∈ ns, y.Fits) := hf
  obtain ⟨G, HG⟩ : ∃ G, Hid (plB ns sd hd m1 m8 mo nm sa k = G) := ⟨_, rfl⟩
  rw [HG.out]
  unfold plB plQ plP plW at HG
  obtain ⟨q0, HQ0⟩ : ∃ q, Hid (lkK ns hd sd = q) := ⟨_, rfl⟩
  obtain ⟨q1, HQ1⟩ : ∃ q, Hid (lkS ns m8 sa = q) := ⟨_, rfl⟩
  obtain ⟨q2, HQ2⟩ : ∃ q, Hid (lkD ns hd m1 sa = q) := ⟨_, rfl⟩
  rw [HQ0.out, HQ1.out, HQ2.out] at HC HG
  have HB0 : Hid (Below w.heap.size w (w.alloc (.cells #[.slice a ns.length cap] 26))) := hb0
  clear hr hf ha h1 h2 h3 hm1 hm8 hb0
  go_enter Tryz.func8, Tryz.ntmps8
  go_wp2_with fail
  generalize w.alloc (.cells #[.slice a ns.length cap] 26) = w0 at HB0 hA0 c0 hs0 HC ⊢
  refine Calls.mono HC.out ?_
  rintro e w1 ⟨rfl, hb1⟩
  obtain ⟨w2, hw2⟩ : ∃ w2, w1.alloc (.cells #[.int .i64 q0, .int .i64 q1, .int .i64 q2] 60) = w2 := ⟨_, rfl⟩
  have hb2 : Below w1.heap.size w1 w2 := by rw [← hw2]; exact (Below.refl _ _).alloc (Nat.le_refl _) _
  have hP2 : w2.heap[w1.heap.size]? = some (.cells #[.int .i64 q0, .int .i64 q1, .int .i64 q2] 60 (0, 0)) := by rw [← hw2]; exact heap_alloc_new w1 _
  have hB02 : Below w0.heap.size w0 w2 := hb1.trans (hb2.mono hb1.size)
  have HB2 : Hid (Below w.heap.size w w2) := HB0.out.trans (hB02.mono HB0.out.size)
  have c2 : w2.cell? ⟨w.heap.size, 0, none⟩ = some (.slice a ns.length cap) := (hB02.cell (p := ⟨w.heap.size, 0, none⟩) hs0).trans c0
  have p0 : w2.cell? ⟨w1.heap.size, 0, none⟩ = some (.int .i64 q0) := (cell_of_row _ _ 0 _ _ _ hP2).trans rfl
  have HL2 : Hid (w.heap.size < w2.heap.size ∧ w1.heap.size < w2.heap.size ∧ w2.heap[w.heap.size]? = some (.cells #[.slice a ns.length cap] 26 (0, 0)) ∧ w2.heap[w1.heap.size]? = some (.cells #[.int .i64 q0, .int .i64 q1, .int .i64 q2] 60 (0, 0))) := ⟨Nat.lt_of_lt_of_le hs0 hB02.size, (Array.getElem?_eq_some_iff.1 hP2).1, (hB02.block _ hs0).trans hA0, hP2⟩
  clear hb1 hb2 hP2 hB02 c0 hA0 hs0 HC HB0
  go_wp2_with fail
  clear hw2
  generalize w1.heap.size = h at HL2 p0 ⊢
  have HOP : Hid _ := implOpen_any a cap ns q0 k w2 hl (HR.out.grown HB2.out)
  obtain ⟨iw, HIW⟩ : ∃ q, Hid (openV ns q0 k = q) := ⟨_, rfl⟩
  rw [HIW.out] at HOP HG
  refine Calls.mono HOP.out ?_
  rintro e w3 ⟨rfl, hb3⟩
  have HB3 : Hid (Below w.heap.size w w3) := HB2.out.trans (hb3.mono HB2.out.size)
  have HL3 : Hid (w.heap.size < w3.heap.size ∧ h < w3.heap.size ∧ w3.heap[w.heap.size]? = some (.cells #[.slice a ns.length cap] 26 (0, 0)) ∧ w3.heap[h]? = some (.cells #[.int .i64 q0, .int .i64 q1, .int .i64 q2] 60 (0, 0))) := ⟨Nat.lt_of_lt_of_le HL2.out.1 hb3.size, Nat.lt_of_lt_of_le HL2.out.2.1 hb3.size, (hb3.block _ HL2.out.1).trans HL2.out.2.2.1, (hb3.block _ HL2.out.2.1).trans HL2.out.2.2.2⟩
  have c3 : w3.cell? ⟨w.heap.size, 0, none⟩ = some (.slice a ns.length cap) := (cell_of_row _ _ 0 _ _ _ HL3.out.2.2.1).trans rfl
  clear hb3 HL2 HB2 HOP c2 p0
  go_wp2_with fail
  have HPA : Hid _ := implParts_any a cap ns iw 3 w3 hl (HR.out.grown HB3.out)
  refine Calls.mono HPA.out ?_
  rintro e w4 ⟨v4, rfl, ho4, hb4⟩
  have HB4 : Hid (Below w.heap.size w w4) := HB3.out.trans (hb4.mono HB3.out.size)
  have HL4 : Hid (w.heap.size < w4.heap.size ∧ h < w4.heap.size ∧ w4.heap[w.heap.size]? = some (.cells #[.slice a ns.length cap] 26 (0, 0)) ∧ w4.heap[h]? = some (.cells #[.int .i64 q0, .int .i64 q1, .int .i64 q2] 60 (0, 0))) := ⟨Nat.lt_of_lt_of_le HL3.out.1 hb4.size, Nat.lt_of_lt_of_le HL3.out.2.1 hb4.size, (hb4.block _ HL3.out.1).trans HL3.out.2.2.1, (hb4.block _ HL3.out.2.1).trans HL3.out.2.2.2⟩
  clear hb4 HL3 HB3 HPA c3
  obtain ⟨av, cv, rfl, -, hrow⟩ := ho4.row
  obtain ⟨S, hS0, hNE, HK⟩ := below_class (Below.refl w4.heap.size w4) (Nat.le_refl _)
  have kA : ∀ q : Hw S, q.w.cell? ⟨w.heap.size, 0, none⟩ = some (.slice a ns.length cap) := fun q => ((HK.out.2 _ q.ok).cell (p := ⟨w.heap.size, 0, none⟩) HL4.out.1).trans ((cell_of_row _ _ 0 _ _ _ HL4.out.2.2.1).trans rfl)
  have k1 : ∀ q : Hw S, q.w.cell? ⟨h, 1, none⟩ = some (.int .i64 q1) := fun q => ((HK.out.2 _ q.ok).cell (p := ⟨h, 1, none⟩) HL4.out.2.1).trans ((cell_of_row _ _ 1 _ _ _ HL4.out.2.2.2).trans rfl)
  have k2 : ∀ q : Hw S, q.w.cell? ⟨h, 2, none⟩ = some (.int .i64 q2) := fun q => ((HK.out.2 _ q.ok).cell (p := ⟨h, 2, none⟩) HL4.out.2.1).trans ((cell_of_row _ _ 2 _ _ _ HL4.out.2.2.2).trans rfl)
  have HRS : Hid (∀ q : Hw S, RowN q.w.heap.size q.w a ns) := fun q => (HR.out.grown HB4.out).grown (HK.out.2 _ q.ok)
  cases hpb : partsB ns iw 3 with
  | false =>
    have HZ : Hid (G = false) := by show _ = _; rw [← HG.out, hpb]; rfl
    clear ho4 hrow hpb HRS
    go_wp2_with fail
    refine wp_region_held (S := S) (by kernel_rfl) (by kernel_rfl) hS0 ?_
    repeat (go_big_quiet_step (fail))
    refine wpQuiet_nil ?_
    rintro _ ⟨sw, rfl⟩
    have HE : Hid (Below w.heap.size w sw.w) := HB4.out.trans ((HK.out.2 _ sw.ok).mono HB4.out.size)
    clear HK kA k1 k2 hS0 hNE
    go_wp2
    go_ret
    exact ⟨by rw [HZ.out]; rfl, HE.out⟩
  | true =>
    have hlen := parts3 hpb
    obtain ⟨b, off, rfl⟩ := hrow.addr (i := 0) (by omega)
    have y0 := (hrow.at (Below.refl _ _) (i := 0) (by omega))
    have hblt := y0.1
    have HYS : Hid (∀ (q : Hw S) (i : Nat), i < 3 → q.w.cell? ⟨b, off + i, none⟩ = some (.int .i64 (p3 ns iw i))) := fun q i hi => (hrow.at (HK.out.2 _ q.ok) (i := i) (by omega)).2
    have j0 : ∀ q : Hw S, q.w.cell? ⟨b, off, none⟩ = some (.int .i64 (p3 ns iw 0)) := fun q => HYS.out q 0 (by omega)
    have j1 : ∀ q : Hw S, q.w.cell? ⟨b, off + 1, none⟩ = some (.int .i64 (p3 ns iw 1)) := fun q => HYS.out q 1 (by omega)
    have j2 : ∀ q : Hw S, q.w.cell? ⟨b, off + 2, none⟩ = some (.int .i64 (p3 ns iw 2)) := fun q => HYS.out q 2 (by omega)
    have HWH : Hid (∀ q : Hw S, Calls Tryz.prog 31 #[.agg #[.slice a ns.length cap], .int .i64 mo, .int .i64 nm, .int .i64 q1, .int .i64 (p3 ns iw 0), .int .i64 (p3 ns iw 1)] q.w fun e w' => e = .returned (.bool (whB ns mo nm q1 (p3 ns iw 0) (p3 ns iw 1))) ∧ Below q.w.heap.size q.w w') := fun q => isWho_any a cap ns mo nm q1 _ _ q.w hl HFI.out (HRS.out q)
    rw [hlen]
    generalize p3 ns iw 0 = x0 at j0 HWH HG
    generalize p3 ns iw 1 = x1 at j1 HWH HG
    generalize p3 ns iw 2 = x2 at j2 HG
    rw [hpb, Bool.true_and] at HG
    cases hwb : whB ns mo nm q1 x0 x1 with
    | false =>
      rw [hwb] at HWH
      have HZ : Hid (G = false) := by show _ = _; rw [← HG.out, hwb]; rfl
      clear ho4 hrow hpb hwb hlen y0 HYS HG HRS
      go_wp2_with fail
      refine wp_region_held (S := S) (by kernel_rfl) (by kernel_rfl) hS0 ?_
      repeat (go_big_quiet_step (first | (go_at_call 31; exact Calls.held (HWH.out _) (HK.out.1 _))))
      refine wpQuiet_nil ?_
      rintro _ ⟨sw, rfl⟩
      have HE : Hid (Below w.heap.size w sw.w) := HB4.out.trans ((HK.out.2 _ sw.ok).mono HB4.out.size)
      clear HK kA k1 k2 hS0 hNE j0 j1 j2 HWH
      go_wp2
      go_ret
      exact ⟨by rw [HZ.out]; rfl, HE.out⟩
    | true =>
      rw [hwb] at HWH
      have HZ : Hid (G = (x2 == q2)) := by show _ = _; rw [← HG.out, hwb]; rfl
      clear ho4 hrow hpb hwb hlen y0 HYS HG HRS
      go_wp2_with fail
      refine wp_region_held (S := S) (by kernel_rfl) (by kernel_rfl) hS0 ?_
      repeat (go_big_quiet_step (first | (go_at_call 31; exact Calls.held (HWH.out _) (HK.out.1 _))))
      refine wpQuiet_nil ?_
      rintro _ ⟨sw, rfl⟩
      have HE : Hid (Below w.heap.size w sw.w) := HB4.out.trans ((HK.out.2 _ sw.ok).mono HB4.out.size)
      clear HK kA k1 k2 hS0 hNE j0 j1 j2 HWH
      go_wp2
      go_ret
      exact ⟨by rw [HZ.out]; rfl, HE.out⟩
end Go.Proofs.YtaanophnnkmkbaaGreat
