/- The laws' own helpers over {'X': 'Limbs', 'I': '24', 'A': '30', 'sz': '14', 'to': '16', 'eq': '11', 'mark': '12', 'held': '13'}: one row of whole numbers in a struct; what a law keeps from step to step. -/
import Derived.Test.YtecjpagnifkcaaaLawI
import Derived.Test.YtecjpagnifkcaaaCloneI
import Derived.WalkKit
import Derived.WalkLawsBesides
import Derived.WalkSpells
import Derived.OwnWalk
import Derived.Laws.OwnMore
import Derived.Laws.Rows
import Derived.BigRegion
import Derived.Lib.Strings
import Derived.PlainAid
import Derived.Deep.WholeRow
import Derived.Lib.SmallJoins
import Derived.Deep.Slices
import Derived.OpenShut
import Derived.ProofKit
namespace Go.Proofs.Ytecjpagnifkcaaa
open Go.RowKit Go.WideShapes Go.ChangeShapes Go.ChangeAt Go.Joins Go.Deep Go.PlainAid
set_option linter.unusedVariables false
set_option maxRecDepth 20000
theorem lawSizeLimbs : (Try.prog.info? 24).map (·.size) = some 1 := by kernel_rfl
theorem lawSize1Limbs (v : Value) : (Try.prog.info? 24).map (·.size) = some (#[v] : Array Value).size := lawSizeLimbs
/-- A one-cell variable in memory. -/
structure VarZ (b : Nat) (v : Value) (w : World) : Prop where
  lt : b < w.heap.size
  c : w.cell? ⟨b, 0, none⟩ = some v
theorem VarZ.next {b : Nat} {v : Value} {w w' : World} (h : VarZ b v w) (hb : Below w.heap.size w w') : VarZ b v w' := ⟨Nat.lt_of_lt_of_le h.lt hb.size, (hb.cell (p := ⟨b, 0, none⟩) h.lt).trans h.c⟩
theorem VarZ.mark {b : Nat} {v : Value} {w w' : World} {r : Option Nat} (h : VarZ b v w) (hg : w.grownBy w' r) (hne : r ≠ some b) : VarZ b v w' := ⟨Nat.lt_of_lt_of_le h.lt hg.size, cell_grown hg h.lt hne h.c⟩
theorem VarZ.made {w : World} {v : Value} {t : TypeId} : VarZ w.heap.size v (w.alloc (.cells #[v] t)) := ⟨by simp, by rw [cell_of_row _ w.heap.size 0 _ _ _ (heap_alloc_new w _)]; rfl⟩
theorem below_alloc (w : World) (o : Obj) : Below w.heap.size w (w.alloc o) := (Below.refl _ _).alloc (Nat.le_refl _) _
theorem two_keptZ {w w' : World} {p q : Addr} {u v : Value} (h : w.cell? p = some u ∧ w.cell? q = some v) (hp : p.block < w.heap.size) (hq : q.block < w.heap.size) (hb : Below w.heap.size w w') : w'.cell? p = some u ∧ w'.cell? q = some v :=
  ⟨(hb.cell hp).trans h.1, (hb.cell hq).trans h.2⟩
theorem szIntS_any (a : Option Addr) (len cap : Nat) (left : Int) (w : World) (hl : (len : Int) ≤ left) (hm : left ≤ 1048576) :
    Calls Try.prog 32 #[.slice a len cap, .int .i64 left] w fun e w' => e = .returned (.int .i64 (left - (len : Int))) ∧ w = w' := by
  have h : ¬ left - (len : Int) < 0 := by omega
  have hw : IntKind.i64.wrap (left - (len : Int)) = left - (len : Int) := by rw [IntKind.wrap_i64]; omega
  go_enter Try.func32, Try.ntmps32
  go_wp2
  go_ret
  exact ⟨rfl, rfl⟩
theorem szIntS_big (a : Option Addr) (len cap : Nat) (left : Int) (w : World) (hl : left < (len : Int)) (h0 : 0 ≤ left) (hm : len ≤ maxLen) :
    Calls Try.prog 32 #[.slice a len cap, .int .i64 left] w fun e w' => e = .returned (.int .i64 (-1)) ∧ w = w' := by
  have h : left - (len : Int) < 0 := by omega
  have hm' : (len : Int) ≤ 9223372036854775807 := by unfold maxLen at hm; omega
  have hw : IntKind.i64.wrap (left - (len : Int)) = left - (len : Int) := by rw [IntKind.wrap_i64]; omega
  clear hm
  go_enter Try.func32, Try.ntmps32
  go_wp2
  go_ret
  exact ⟨rfl, rfl⟩
theorem szLimbs_any (a : Option Addr) (len cap : Nat) (left : Int) (w : World) (hl : (len : Int) ≤ left) (hm : left ≤ 1048576) :
    Calls Try.prog 14 #[.agg #[.slice a len cap], .int .i64 left] w fun e w' => e = .returned (.int .i64 (left - (len : Int))) ∧ Below w.heap.size w w' := by
  have H : Hid (∀ wz, Calls Try.prog 32 #[.slice a len cap, .int .i64 left] wz fun e w' => e = .returned (.int .i64 (left - (len : Int))) ∧ wz = w') := fun wz => szIntS_any a len cap left wz hl hm
  have h : ¬ left - (len : Int) < 0 := by omega
  go_enter Try.func14, Try.ntmps14
  go_wp2_with fail
  refine Calls.mono (H.out _) ?_
  rintro e w1 ⟨rfl, rfl⟩
  go_wp2
  go_ret
  exact ⟨rfl, below_alloc _ _⟩
theorem szLimbs_big (a : Option Addr) (len cap : Nat) (left : Int) (w : World) (hl : left < (len : Int)) (h0 : 0 ≤ left) (hm : len ≤ maxLen) :
    Calls Try.prog 14 #[.agg #[.slice a len cap], .int .i64 left] w fun e w' => e = .returned (.int .i64 (-1)) ∧ Below w.heap.size w w' := by
  have H : Hid (∀ wz, Calls Try.prog 32 #[.slice a len cap, .int .i64 left] wz fun e w' => e = .returned (.int .i64 (-1)) ∧ wz = w') := fun wz => szIntS_big a len cap left wz hl h0 hm
  go_enter Try.func14, Try.ntmps14
  go_wp2_with fail
  refine Calls.mono (H.out _) ?_
  rintro e w1 ⟨rfl, rfl⟩
  go_wp2
  go_ret
  exact ⟨rfl, below_alloc _ _⟩
set_option maxHeartbeats 800000 in
theorem toLimbs_any (a : Option Addr) (cap : Nat) (xs : List Int) (w : World) (hl : xs.length ≤ 1048576) (hr : RowI w.heap.size w a xs) :
    Calls Try.prog 16 #[.agg #[.slice a xs.length cap]] w fun e w' => ∃ v, e = .returned (.agg #[v]) ∧ OwnInt w.heap.size w' v xs ∧ Below w.heap.size w w' := by
  have HR : Hid (RowI w.heap.size w a xs) := hr
  clear hr
  go_enter Try.func16, Try.ntmps16
  go_wp2_with fail
  have hb0 : Below w.heap.size w (((w.alloc (.cells #[.slice a xs.length cap] 30)).alloc (.cells #[.slice none 0 0] 24)).alloc (.cells #[.slice none 0 0] 24)) := (((Below.refl _ _).alloc (Nat.le_refl _) _).alloc (by simp) _).alloc (by simp; omega) _
  have hs0 : (((w.alloc (.cells #[.slice a xs.length cap] 30)).alloc (.cells #[.slice none 0 0] 24)).alloc (.cells #[.slice none 0 0] 24)).heap.size = w.heap.size + 3 := by simp
  have hn0 : (((w.alloc (.cells #[.slice a xs.length cap] 30)).alloc (.cells #[.slice none 0 0] 24)).alloc (.cells #[.slice none 0 0] 24)).heap[w.heap.size + 1]? = some (.cells #[.slice none 0 0] 24 (0, 0)) := by
    rw [heap_alloc_old _ _ (by simp)]
    have := heap_alloc_new (w.alloc (.cells #[.slice a xs.length cap] 30)) (.cells #[.slice none 0 0] 24)
    simpa using this
  have hr0 : (((w.alloc (.cells #[.slice a xs.length cap] 30)).alloc (.cells #[.slice none 0 0] 24)).alloc (.cells #[.slice none 0 0] 24)).heap[w.heap.size + 1 + 1]? = some (.cells #[.slice none 0 0] 24 (0, 0)) := by
    have := heap_alloc_new ((w.alloc (.cells #[.slice a xs.length cap] 30)).alloc (.cells #[.slice none 0 0] 24)) (.cells #[.slice none 0 0] 24)
    simpa using this
  generalize ((w.alloc (.cells #[.slice a xs.length cap] 30)).alloc (.cells #[.slice none 0 0] 24)).alloc (.cells #[.slice none 0 0] 24) = w0 at hb0 hs0 hn0 hr0 ⊢
  refine (toIntS_any a cap xs w0 hl (HR.out.grown hb0)).mono ?_
  rintro e w1 ⟨v, rfl, hown, hb1⟩
  obtain ⟨a1, cap1, rfl, _, _⟩ := hown.row
  have hn1 := (hb1.block (w.heap.size + 1) (by omega)).trans hn0
  have hr1 := (hb1.block (w.heap.size + 1 + 1) (by omega)).trans hr0
  have n0 : w1.cell? ⟨w.heap.size + 1, 0, none⟩ = some (.slice none 0 0) := by rw [cell_of_row w1 _ 0 _ _ _ hn1]; rfl
  have n1 : w1.frozen? ⟨w.heap.size + 1, 0, none⟩ = false := frozen_of_row w1 _ 0 _ _ hn1
  have r0 : w1.cell? ⟨w.heap.size + 1 + 1, 0, none⟩ = some (.slice none 0 0) := by rw [cell_of_row w1 _ 0 _ _ _ hr1]; rfl
  have r1 : w1.frozen? ⟨w.heap.size + 1 + 1, 0, none⟩ = false := frozen_of_row w1 _ 0 _ _ hr1
  have hB1 : Below w.heap.size w w1 := hb0.trans (hb1.mono hb0.size)
  have HB2 : Hid (Below w.heap.size w ((w1.setCell ⟨w.heap.size + 1 + 1, 0, none⟩ (.slice a1 xs.length cap1)).setCell ⟨w.heap.size + 1, 0, none⟩ (.slice a1 xs.length cap1))) := (hB1.setCell (show w.heap.size ≤ w.heap.size + 1 + 1 by omega) _).setCell (show w.heap.size ≤ w.heap.size + 1 by omega) _
  have HO2 : Hid (OwnInt w.heap.size ((w1.setCell ⟨w.heap.size + 1 + 1, 0, none⟩ (.slice a1 xs.length cap1)).setCell ⟨w.heap.size + 1, 0, none⟩ (.slice a1 xs.length cap1)) (.slice a1 xs.length cap1) xs) := OwnInt.base (ownsRow_setCell_below (ownsRow_setCell_below hown (show w.heap.size + 1 + 1 < w0.heap.size by omega) _) (show w.heap.size + 1 < w0.heap.size by omega) _) (by omega)
  have HBL : Hid (((w1.setCell ⟨w.heap.size + 1 + 1, 0, none⟩ (.slice a1 xs.length cap1)).setCell ⟨w.heap.size + 1, 0, none⟩ (.slice a1 xs.length cap1)).heap[w.heap.size + 1]? = some (.cells #[.slice a1 xs.length cap1] 24 (0, 0))) := by
    show _ = _
    rw [heap_setCell_same _ (w.heap.size + 1) 0 _ _ _ ((Below.heap_setCell _ _ _ _ (show w.heap.size + 1 ≠ w.heap.size + 1 + 1 by omega)).trans hn1)]; rfl
  clear hown hn1 hr1 hB1 hb1 hb0 hn0 hr0
  go_wp2
  refine bodyPost_ret (results_cell_row rfl _ _ (w.heap.size + 1) 24 #[.slice a1 xs.length cap1] (0, 0) _ rfl ?_ Try.underlying24 rfl (lawSize1Limbs _)) rfl ?_
  · exact HBL.out
  · exact ⟨_, rfl, HO2.out, HB2.out⟩
theorem eqLimbs_same (a b : Option Addr) (ca cb : Nat) (xs : List Int) (w : World) (hl : xs.length ≤ 2097152) (hr : RowI w.heap.size w a xs) (hq : RowI w.heap.size w b xs) :
    Calls Try.prog 11 #[.agg #[.slice a xs.length ca], .agg #[.slice b xs.length cb]] w fun e w' => e = .returned (.bool true) ∧ Below w.heap.size w w' := by
  have hB : Below w.heap.size w ((w.alloc (.cells #[.slice a xs.length ca] 24)).alloc (.cells #[.slice b xs.length cb] 24)) := ((Below.refl _ _).alloc (Nat.le_refl _) _).alloc (by simp) _
  have hr0 := hr.grown hB
  have hq0 := hq.grown hB
  clear hr hq
  go_enter Try.func11, Try.ntmps11
  go_wp2_with fail
  refine (eqIntS_same a b ca cb xs _ hl hr0 hq0).mono ?_
  rintro e w1 ⟨rfl, hb⟩
  have HB : Hid _ := hB.trans (hb.mono hB.size)
  clear hb hB hr0 hq0
  go_wp2
  go_ret
  exact ⟨rfl, HB.out⟩
theorem markLimbs_any (base k0 : Nat) (v : Value) (xs : List Int) (w : World) (hn : xs.length ≤ 2097152) (hk : k0 ≤ 1000000000) (hown : OwnInt base w v xs) :
    Calls Try.prog 12 #[.agg #[v], .int .i64 (k0 : Int)] w fun e w' => e = .returned (.int .i64 ((k0 : Int) + (xs.length : Int))) ∧ OwnInt base w' v (marksI k0 xs.length) ∧ w.grownBy w' v.ownBlock := by
  obtain ⟨a, cap, rfl, -, -⟩ := hown.row
  have ho := own_next hown (below_alloc w (.cells #[.slice a xs.length cap] 24))
  go_enter Try.func12, Try.ntmps12
  go_wp2_with fail
  refine (markIntS_any base k0 _ xs _ hn hk ho).mono ?_
  rintro e w1 ⟨rfl, h1, h2⟩
  have h3 : w.grownBy w1 (Value.ownBlock (.slice a xs.length cap)) := ⟨h2.os, h2.tape, h2.output, Nat.le_trans (by simp) h2.size, fun k hk hne => (h2.block k (by simp; omega) hne).trans (heap_alloc_old w _ hk)⟩
  clear h2 ho hown
  go_wp2
  go_ret
  exact ⟨rfl, h1, h3⟩
theorem heldLimbs_any (a : Option Addr) (cap n k0 : Nat) (w : World) (hn : n ≤ 2097152) (hk : k0 ≤ 1000000000) (hr : RowI w.heap.size w a (marksI k0 n)) :
    Calls Try.prog 13 #[.agg #[.slice a n cap], .int .i64 (k0 : Int)] w fun e w' => e = .returned (.int .i64 ((k0 : Int) + (n : Int))) ∧ Below w.heap.size w w' := by
  have hr0 := hr.grown (below_alloc w (.cells #[.slice a n cap] 24))
  have h0 : ¬ (k0 : Int) + (n : Int) < 0 := by omega
  go_enter Try.func13, Try.ntmps13
  go_wp2_with fail
  refine (heldIntS_any a cap n k0 _ hn hk hr0).mono ?_
  rintro e w1 ⟨rfl, hb⟩
  have HB : Hid _ := (below_alloc w (.cells #[.slice a n cap] 24)).trans (hb.mono (by simp))
  clear hb hr0 hr
  go_wp2
  go_ret
  exact ⟨rfl, HB.out⟩
theorem cellsLLimbs : Try.prog.cellsOf 30 = 1 := by kernel_rfl
theorem cellsLInts : Try.prog.cellsOf 22 = 1 := by kernel_rfl
set_option maxRecDepth 100000 in
theorem box_of {H : Type} {enc : TypeId × Value → H} {W : World} {b0 : Nat} {r : Reach} {v : Value} {d : DataW H} {p : List MemPlace} (hv : Value.okWide Try.prog W r b0 30 v) (h : DataW.Trod enc Try.prog W 0 (fun _ => true) true 30 v d p) :
    ∃ (a : Option Addr) (cap : Nat) (xs : List Int), v = .agg #[.slice a xs.length cap] ∧ xs.length ≤ maxLen ∧ RowI W.heap.size W a xs ∧ ∀ x ∈ xs, -9223372036854775808 ≤ x ∧ x ≤ 9223372036854775807 := by
  obtain ⟨cs, rfl, hsz⟩ := okWide_struct Try.underlying30 hv
  rw [cellsLLimbs] at hsz
  obtain ⟨fuel, hf⟩ := h
  obtain ⟨y0, n, _, hl, h0⟩ := trod_struct1 Try.underlying30 hf
  simp only [Value.cells] at h0 hl
  obtain ⟨c, hc⟩ : ∃ c, cs.toList = [c] := List.length_eq_one_iff.1 (by simpa using hsz)
  have hcs : cs = #[c] := by apply Array.ext'; exact hc
  subst hcs
  simp only [cellsLInts, List.drop_zero, List.take_succ_cons, List.take_zero] at h0
  have hcase : ∃ a len cap, c = .slice a len cap := by
    rcases open_ints Try.underlying22 Try.underlying3 (by kernel_rfl) h0 with ⟨hn, _⟩ | ⟨x, l, c', zs, hn, _⟩
    · simp only [List.cons.injEq, and_true] at hn; exact ⟨_, _, _, hn⟩
    · simp only [List.cons.injEq, and_true] at hn; exact ⟨_, _, _, hn⟩
  obtain ⟨a, len, cap, rfl⟩ := hcase
  obtain ⟨xs, rfl, h1, h2, h3⟩ := ints_of ⟨n, h0⟩
  exact ⟨a, cap, xs, rfl, h1, h2, h3⟩
end Go.Proofs.Ytecjpagnifkcaaa
