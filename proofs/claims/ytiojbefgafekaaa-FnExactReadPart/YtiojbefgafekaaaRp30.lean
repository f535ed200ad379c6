/- A part read from a text (chapter 30): ReadPart of both sides. -/
import Derived.Test.YtiojbefgafekaaaPtx30
import Derived.Test.YtiojbefgafekaaaReadW
import Derived.Test.YtiojbefgafekaaaShortW
import Derived.Test.YtiojbefgafekaaaRound
import Derived.Test.YtiojbefgafekaaaResC
import Derived.WalkKit
import Derived.WalkLawsBesides
import Derived.WalkSpells
import Derived.OwnWalk
import Derived.PlainAid
import Derived.Deep.Cut
import Derived.Laws.Rows
namespace Go.Proofs.Ytiojbefgafekaaa
open Go.RowKit Go.PlainAid
set_option maxRecDepth 20000
set_option linter.unusedVariables false
def zPt : Pt := ⟨0, 0, 0, ⟨#[]⟩⟩
def rv (t : ByteArray) (a : Int) : Int × Nat := (RV t a).getD (0, 0)
def rs (t : ByteArray) (a : Int) : ByteArray := match RS t a with | none => ⟨#[]⟩ | some (k, j) => t.extract k j
def ptIn (t : ByteArray) : Pt := ⟨(rv t 0).1, (rv t (rv t 0).2).1, (rv t (rv t (rv t 0).2).2).1, rs t (rv t (rv t (rv t 0).2).2).2⟩
def rpOk (t : ByteArray) : Bool := ptOk (ptIn t) && decide (ptT (ptIn t) = t)
def rpP (t : ByteArray) : Pt := if rpOk t = true then ptIn t else zPt
theorem rv_some {t : ByteArray} {a n : Int} {k : Nat} (h : RV t a = some (n, k)) : rv t a = (n, k) := by unfold rv; rw [h]; rfl
theorem rv_none {t : ByteArray} {a : Int} (h : RV t a = none) : rv t a = (0, 0) := by unfold rv; rw [h]; rfl
theorem pt_back {n a b : Nat} {x t : ByteArray} (hn : n ≤ 65535) (ha : a ≤ 4000) (hb : b ≤ 4000) (hx : x.size ≤ 1000) (h : ptB n a b x = t) :
    ∃ k1 k2 k3 k4 : Nat, RV t 0 = some ((n : Int), k1) ∧ RV t k1 = some ((a : Int), k2) ∧ RV t k2 = some ((b : Int), k3) ∧ RS t k3 = some (k4, t.size) := by
  have h1 := var_back (A := ⟨#[]⟩) (C := vt a ++ vt b ++ vt x.size ++ x) (n := n) (by omega)
  have h2 := var_back (A := vt n) (C := vt b ++ vt x.size ++ x) (n := a) (by omega)
  have h3 := var_back (A := vt n ++ vt a) (C := vt x.size ++ x) (n := b) (by omega)
  have h4 := var_back (A := vt n ++ vt a ++ vt b) (C := x) (n := x.size) (by omega)
  have e1 : (⟨#[]⟩ : ByteArray) ++ strOfNums (vb n) ++ (vt a ++ vt b ++ vt x.size ++ x) = t := by
    rw [← h]; apply Go.WideShapes.bytes_inj; unfold ptB vt; simp only [dat_app, List.append_assoc]; rfl
  have e2 : vt n ++ strOfNums (vb a) ++ (vt b ++ vt x.size ++ x) = t := by
    rw [← h]; apply Go.WideShapes.bytes_inj; unfold ptB vt; simp only [dat_app, List.append_assoc]
  have e3 : vt n ++ vt a ++ strOfNums (vb b) ++ (vt x.size ++ x) = t := by
    rw [← h]; apply Go.WideShapes.bytes_inj; unfold ptB vt; simp only [dat_app, List.append_assoc]
  have e4 : vt n ++ vt a ++ vt b ++ strOfNums (vb x.size) ++ x = t := by
    rw [← h]; rfl
  rw [e1] at h1
  rw [e2] at h2
  rw [e3] at h3
  rw [e4] at h4
  have hs : t.size = (vt n ++ vt a ++ vt b).size + (strOfNums (vb x.size)).size + x.size := by rw [← e4, sz_app, sz_app]
  refine ⟨(vt n).size, (vt n ++ vt a).size, (vt n ++ vt a ++ vt b).size, (vt n ++ vt a ++ vt b).size + (strOfNums (vb x.size)).size, ?_, ?_, ?_, ?_⟩
  · have : (⟨#[]⟩ : ByteArray).size = 0 := rfl
    rw [this, Nat.zero_add] at h1
    exact h1
  · rw [sz_app]; exact h2
  · rw [show (vt n ++ vt a ++ vt b).size = (vt n ++ vt a).size + (vt b).size from sz_app _ _]; exact h3
  · unfold RS
    rw [h4]
    simp only [Int.toNat_natCast]
    rw [if_pos ⟨by omega, by omega⟩, hs]
theorem rp_true {t : ByteArray} (h : rpOk t = true) : ptOk (ptIn t) = true ∧ ptT (ptIn t) = t ∧
    ∃ (n a b : Int) (k1 k2 k3 k4 : Nat), RV t 0 = some (n, k1) ∧ RV t k1 = some (a, k2) ∧ RV t k2 = some (b, k3) ∧ RS t k3 = some (k4, t.size) ∧ ptIn t = ⟨n, a, b, t.extract k4 t.size⟩ := by
  unfold rpOk at h
  rw [Bool.and_eq_true] at h
  have hT := of_decide_eq_true h.2
  refine ⟨h.1, hT, ?_⟩
  have hk := h.1
  have hp : ∃ n a b : Nat, ∃ x : ByteArray, n ≤ 65535 ∧ a ≤ 4000 ∧ b ≤ 4000 ∧ x.size ≤ 1000 ∧ ptB n a b x = t := by
    generalize ptIn t = y at hk hT
    obtain ⟨n, a, b, x⟩ := y
    have e : ptT ⟨n, a, b, x⟩ = ptB n.toNat a.toNat b.toNat x := by unfold ptT; rw [if_pos hk]
    rw [e] at hT
    unfold ptOk at hk
    rw [Bool.and_eq_true] at hk
    have q1 := of_decide_eq_true hk.1
    have q2 := of_decide_eq_true hk.2
    simp only [] at q1 q2
    exact ⟨n.toNat, a.toNat, b.toNat, x, by omega, by omega, by omega, q2, hT⟩
  obtain ⟨n, a, b, x, q1, q2, q3, q4, q5⟩ := hp
  obtain ⟨k1, k2, k3, k4, r1, r2, r3, r4⟩ := pt_back q1 q2 q3 q4 q5
  refine ⟨n, a, b, k1, k2, k3, k4, r1, r2, r3, r4, ?_⟩
  have f1 := rv_some r1
  have f2 := rv_some r2
  have f3 := rv_some r3
  unfold ptIn
  rw [f1]
  simp only []
  rw [f2]
  simp only []
  rw [f3]
  simp only []
  unfold rs
  rw [r4]
theorem implRv_any (t : ByteArray) (a : Int) (w : World) (hs : t.size ≤ 1048576) :
    Calls Try.prog 45 #[.string t, .int .i64 a] w fun e w' => e = .returned (.tuple #[.int .i64 (rv t a).1, .int .i64 (((rv t a).2 : Nat) : Int), .bool (RV t a).isSome]) ∧ w = w' := by
  cases h : RV t a with
  | none => rw [rv_none h]; exact implRead_none t a w hs h
  | some x => obtain ⟨n, k⟩ := x; rw [rv_some h]; exact implRead_some t a w hs n k h
theorem implRs_any (t : ByteArray) (a : Int) (w : World) (hs : t.size ≤ 1048576) :
    Calls Try.prog 46 #[.string t, .int .i64 a] w fun e w' => ∃ (j : Int) (b : Bool), e = .returned (.tuple #[.string (rs t a), .int .i64 j, .bool b]) ∧ Below w.heap.size w w' := by
  cases h : RS t a with
  | none => exact (implRS_none t a w hs h).mono fun e w' ⟨h1, h2⟩ => ⟨0, false, by unfold rs; rw [h]; exact h1, h2⟩
  | some x => obtain ⟨k, j⟩ := x; exact (implRS_some t a w hs k j h).mono fun e w' ⟨h1, h2⟩ => ⟨j, true, by unfold rs; rw [h]; exact h1, h2⟩
theorem store4t {w : World} {g : Nat} {u0 u1 u2 u3 : Value} (h : w.heap[g]? = some (.cells #[u0, u1, u2, u3] 26 (0, 0))) (v0 v1 v2 v3 : Value) :
    ((((w.setCell ⟨g, 0, none⟩ v0).setCell ⟨g, 1, none⟩ v1).setCell ⟨g, 2, none⟩ v2).setCell ⟨g, 3, none⟩ v3).heap[g]? = some (.cells #[v0, v1, v2, v3] 26 (0, 0)) := by
  have h0 := heap_setCell_same w g 0 _ _ v0 h
  have h1 := heap_setCell_same _ g 1 _ _ v1 h0
  have h2 := heap_setCell_same _ g 2 _ _ v2 h1
  have h3 := heap_setCell_same _ g 3 _ _ v3 h2
  exact h3.trans (by rfl)
theorem below4t {B g : Nat} {w w' : World} (h : Below B w w') (hg : B ≤ g) (v0 v1 v2 v3 : Value) : Below B w ((((w'.setCell ⟨g, 0, none⟩ v0).setCell ⟨g, 1, none⟩ v1).setCell ⟨g, 2, none⟩ v2).setCell ⟨g, 3, none⟩ v3) :=
  (((h.setCell (show B ≤ g from hg) _).setCell (show B ≤ g from hg) _).setCell (show B ≤ g from hg) _).setCell (show B ≤ g from hg) _
theorem partSizeR : (Try.prog.info? 26).map (·.size) = some 4 := by kernel_rfl
set_option maxHeartbeats 1600000 in
theorem partIn_any (t : ByteArray) (w : World) (hs : t.size ≤ 1048576) :
    Calls Try.prog 33 #[.string t] w fun e w' => e = .returned (.agg #[.int .i64 (ptIn t).n, .int .i64 (ptIn t).a, .int .i64 (ptIn t).b, .string (ptIn t).t]) ∧ Below w.heap.size w w' := by
  have hA : (w.alloc (.cells #[.int .i64 0, .int .i64 0, .int .i64 0, .string ⟨#[]⟩] 26)).heap[w.heap.size]? = some (.cells #[.int .i64 0, .int .i64 0, .int .i64 0, .string ⟨#[]⟩] 26 (0, 0)) := heap_alloc_new w _
  have hB : Below w.heap.size w (w.alloc (.cells #[.int .i64 0, .int .i64 0, .int .i64 0, .string ⟨#[]⟩] 26)) := (Below.refl _ _).alloc (Nat.le_refl _) _
  have HV : Hid (∀ a wz, _) := fun a wz => implRv_any t a wz hs
  have HS : Hid (∀ a wz, _) := fun a wz => implRs_any t a wz hs
  have HE : Hid (ptIn t = ⟨(rv t 0).1, (rv t (rv t 0).2).1, (rv t (rv t (rv t 0).2).2).1, rs t (rv t (rv t (rv t 0).2).2).2⟩) := rfl
  clear hs
  go_enter Try.func33, Try.ntmps33
  go_wp2_with fail
  generalize (w.alloc (.cells #[.int .i64 0, .int .i64 0, .int .i64 0, .string ⟨#[]⟩] 26)) = w0 at hA hB ⊢
  have hlt : w.heap.size < w0.heap.size := (Array.getElem?_eq_some_iff.1 hA).1
  refine Calls.mono (HV.out _ _) ?_
  rintro e z0 ⟨rfl, rfl⟩
  generalize rv t 0 = r0 at HE ⊢
  go_wp2_with fail
  refine Calls.mono (HV.out _ _) ?_
  rintro e z1 ⟨rfl, rfl⟩
  generalize rv t ↑r0.2 = r1 at HE ⊢
  go_wp2_with fail
  refine Calls.mono (HV.out _ _) ?_
  rintro e z2 ⟨rfl, rfl⟩
  generalize rv t ↑r1.2 = r2 at HE ⊢
  go_wp2_with fail
  refine Calls.mono (HS.out _ _) ?_
  rintro e w1 ⟨j, bb, rfl, hb⟩
  generalize rs t ↑r2.2 = x at HE ⊢
  replace hA := (hb.block _ hlt).trans hA
  replace hB := hB.trans (hb.mono hB.size)
  replace hlt := (Array.getElem?_eq_some_iff.1 hA).1
  clear hb
  have n0 : w1.cell? ⟨w.heap.size, 0, none⟩ = some (.int .i64 0) := (cell_of_row w1 _ 0 _ _ _ hA).trans rfl
  have m0 : w1.frozen? ⟨w.heap.size, 0, none⟩ = false := frozen_of_row w1 _ 0 _ _ hA
  have n1 : w1.cell? ⟨w.heap.size, 1, none⟩ = some (.int .i64 0) := (cell_of_row w1 _ 1 _ _ _ hA).trans rfl
  have m1 : w1.frozen? ⟨w.heap.size, 1, none⟩ = false := frozen_of_row w1 _ 1 _ _ hA
  have n2 : w1.cell? ⟨w.heap.size, 2, none⟩ = some (.int .i64 0) := (cell_of_row w1 _ 2 _ _ _ hA).trans rfl
  have m2 : w1.frozen? ⟨w.heap.size, 2, none⟩ = false := frozen_of_row w1 _ 2 _ _ hA
  have n3 : w1.cell? ⟨w.heap.size, 3, none⟩ = some (.string ⟨#[]⟩) := (cell_of_row w1 _ 3 _ _ _ hA).trans rfl
  have m3 : w1.frozen? ⟨w.heap.size, 3, none⟩ = false := frozen_of_row w1 _ 3 _ _ hA
  have HBL : Hid _ := store4t hA (.int .i64 r0.1) (.int .i64 r1.1) (.int .i64 r2.1) (.string x)
  have HB : Hid _ := below4t (g := w.heap.size) hB (Nat.le_refl _) (.int .i64 r0.1) (.int .i64 r1.1) (.int .i64 r2.1) (.string x)
  clear hA hB hlt
  go_wp2
  refine bodyPost_ret (results_cell_row rfl _ _ w.heap.size 26 #[.int .i64 r0.1, .int .i64 r1.1, .int .i64 r2.1, .string x] (0, 0) _ rfl ?_ Try.underlying26 rfl partSizeR) rfl ?_
  · exact HBL.out
  · exact ⟨by rw [HE.out], HB.out⟩
theorem list_ne {s t : ByteArray} (h : s ≠ t) : (s.toList == t.toList) = false := by
  rw [beq_eq_false_iff_ne, ByteArray.toList_eq, ByteArray.toList_eq]
  exact fun e => h (Go.WideShapes.bytes_inj e)
theorem rp_false {t : ByteArray} (h : rpOk t = false) : ptOk (ptIn t) = false ∨ ptOk (ptIn t) = true ∧ ptT (ptIn t) ≠ t := by
  unfold rpOk at h
  cases hk : ptOk (ptIn t) with
  | false => exact .inl rfl
  | true => rw [hk, Bool.true_and] at h; exact .inr ⟨rfl, of_decide_eq_false h⟩
theorem RV_le {t : ByteArray} {a n : Int} {k : Nat} (h : RV t a = some (n, k)) : k ≤ t.size := (RV_bd h).2.2
theorem RS_le {t : ByteArray} {a : Int} {k j : Nat} (h : RS t a = some (k, j)) : j ≤ t.size := by
  unfold RS at h
  split at h
  · simp at h
  · split at h
    · simp only [Option.some.injEq, Prod.mk.injEq] at h; omega
    · simp at h
theorem extract_le (t : ByteArray) (k j : Nat) (h : j ≤ t.size) : (t.extract k j).size ≤ t.size := by rw [ByteArray.size_extract]; omega
theorem rs_le (t : ByteArray) (a : Int) : (rs t a).size ≤ t.size := by
  unfold rs
  cases h : RS t a with
  | none => exact Nat.zero_le _
  | some x => obtain ⟨k, j⟩ := x; exact extract_le t k j (RS_le h)
theorem ptIn_le (t : ByteArray) : (ptIn t).t.size ≤ t.size := rs_le t _
set_option maxHeartbeats 1600000 in
theorem implReadPart_yes (t : ByteArray) (w : World) (hs : t.size ≤ 1048576) (h : rpOk t = true) :
    Calls Try.prog 15 #[.string t] w fun e w' => e = .returned (.tuple #[.agg #[.int .i64 (ptIn t).n, .int .i64 (ptIn t).a, .int .i64 (ptIn t).b, .string (ptIn t).t], .bool true]) ∧ Below w.heap.size w w' := by
  obtain ⟨hk, hT, -⟩ := rp_true h
  have HP : Hid (∀ wz, _) := fun wz => partIn_any t wz hs
  have HT : Hid (∀ wz, _) := fun wz => implPtx_any (ptIn t) wz (Nat.le_trans (ptIn_le t) hs)
  rw [hk, hT] at HT
  clear hk hT h
  generalize ptIn t = x at HP HT ⊢
  have hA : (w.alloc (.cells #[.int .i64 0, .int .i64 0, .int .i64 0, .string ⟨#[]⟩] 26)).heap[w.heap.size]? = some (.cells #[.int .i64 0, .int .i64 0, .int .i64 0, .string ⟨#[]⟩] 26 (0, 0)) := heap_alloc_new w _
  have hB : Below w.heap.size w (w.alloc (.cells #[.int .i64 0, .int .i64 0, .int .i64 0, .string ⟨#[]⟩] 26)) := (Below.refl _ _).alloc (Nat.le_refl _) _
  go_enter Try.func15, Try.ntmps15
  go_wp2_with fail
  generalize (w.alloc (.cells #[.int .i64 0, .int .i64 0, .int .i64 0, .string ⟨#[]⟩] 26)) = w0 at hA hB ⊢
  have hlt : w.heap.size < w0.heap.size := (Array.getElem?_eq_some_iff.1 hA).1
  refine Calls.mono (HP.out _) ?_
  rintro e w1 ⟨rfl, hb⟩
  replace hA := (hb.block _ hlt).trans hA
  replace hB := hB.trans (hb.mono hB.size)
  replace hlt := (Array.getElem?_eq_some_iff.1 hA).1
  clear hb
  have hG : (w1.alloc (.cells #[.int .i64 x.n, .int .i64 x.a, .int .i64 x.b, .string x.t] 26)).heap[w1.heap.size]? = some (.cells #[.int .i64 x.n, .int .i64 x.a, .int .i64 x.b, .string x.t] 26 (0, 0)) := heap_alloc_new w1 _
  go_wp2_with fail
  replace hA := (heap_alloc_old w1 (.cells #[.int .i64 x.n, .int .i64 x.a, .int .i64 x.b, .string x.t] 26) hlt).trans hA
  replace hB := hB.alloc (Nat.le_of_lt hlt) (.cells #[.int .i64 x.n, .int .i64 x.a, .int .i64 x.b, .string x.t] 26)
  generalize (w1.alloc (.cells #[.int .i64 x.n, .int .i64 x.a, .int .i64 x.b, .string x.t] 26)) = w2 at hA hB hG ⊢
  replace hlt := (Array.getElem?_eq_some_iff.1 hA).1
  have hltG := (Array.getElem?_eq_some_iff.1 hG).1
  refine Calls.mono (HT.out _) ?_
  rintro e w3 ⟨rfl, hb⟩
  replace hG := (hb.block _ hltG).trans hG
  clear hltG
  replace hA := (hb.block _ hlt).trans hA
  replace hB := hB.trans (hb.mono hB.size)
  replace hlt := (Array.getElem?_eq_some_iff.1 hA).1
  clear hb
  have c0 : w3.cell? ⟨w1.heap.size, 0, none⟩ = some (.int .i64 x.n) := (cell_of_row _ _ 0 _ _ _ hG).trans rfl
  have c1 : w3.cell? ⟨w1.heap.size, 1, none⟩ = some (.int .i64 x.a) := (cell_of_row _ _ 1 _ _ _ hG).trans rfl
  have c2 : w3.cell? ⟨w1.heap.size, 2, none⟩ = some (.int .i64 x.b) := (cell_of_row _ _ 2 _ _ _ hG).trans rfl
  have c3 : w3.cell? ⟨w1.heap.size, 3, none⟩ = some (.string x.t) := (cell_of_row _ _ 3 _ _ _ hG).trans rfl
  clear hG
  have n0 : w3.cell? ⟨w.heap.size, 0, none⟩ = some (.int .i64 0) := (cell_of_row w3 _ 0 _ _ _ hA).trans rfl
  have m0 : w3.frozen? ⟨w.heap.size, 0, none⟩ = false := frozen_of_row w3 _ 0 _ _ hA
  have n1 : w3.cell? ⟨w.heap.size, 1, none⟩ = some (.int .i64 0) := (cell_of_row w3 _ 1 _ _ _ hA).trans rfl
  have m1 : w3.frozen? ⟨w.heap.size, 1, none⟩ = false := frozen_of_row w3 _ 1 _ _ hA
  have n2 : w3.cell? ⟨w.heap.size, 2, none⟩ = some (.int .i64 0) := (cell_of_row w3 _ 2 _ _ _ hA).trans rfl
  have m2 : w3.frozen? ⟨w.heap.size, 2, none⟩ = false := frozen_of_row w3 _ 2 _ _ hA
  have n3 : w3.cell? ⟨w.heap.size, 3, none⟩ = some (.string ⟨#[]⟩) := (cell_of_row w3 _ 3 _ _ _ hA).trans rfl
  have m3 : w3.frozen? ⟨w.heap.size, 3, none⟩ = false := frozen_of_row w3 _ 3 _ _ hA
  have HBL : Hid _ := store4t hA (.int .i64 x.n) (.int .i64 x.a) (.int .i64 x.b) (.string x.t)
  have HB : Hid _ := below4t (g := w.heap.size) hB (Nat.le_refl _) (.int .i64 x.n) (.int .i64 x.a) (.int .i64 x.b) (.string x.t)
  clear hA hB hlt
  go_wp2
  refine bodyPost_ret (res_ct rfl _ _ w.heap.size 26 #[.int .i64 x.n, .int .i64 x.a, .int .i64 x.b, .string x.t] (0, 0) _ rfl ?_ Try.underlying26 rfl partSizeR) rfl ?_
  · exact HBL.out
  · exact ⟨rfl, HB.out⟩
set_option maxHeartbeats 1600000 in
theorem implReadPart_bad (t : ByteArray) (w : World) (hs : t.size ≤ 1048576) (h : ptOk (ptIn t) = false) :
    Calls Try.prog 15 #[.string t] w fun e w' => e = .returned (.tuple #[.agg #[.int .i64 zPt.n, .int .i64 zPt.a, .int .i64 zPt.b, .string zPt.t], .bool false]) ∧ Below w.heap.size w w' := by
  have HP : Hid (∀ wz, _) := fun wz => partIn_any t wz hs
  have HT : Hid (∀ wz, _) := fun wz => implPtx_any (ptIn t) wz (Nat.le_trans (ptIn_le t) hs)
  rw [h] at HT
  clear h
  generalize ptIn t = x at HP HT ⊢
  generalize ptT x = s at HT
  have hA : (w.alloc (.cells #[.int .i64 0, .int .i64 0, .int .i64 0, .string ⟨#[]⟩] 26)).heap[w.heap.size]? = some (.cells #[.int .i64 0, .int .i64 0, .int .i64 0, .string ⟨#[]⟩] 26 (0, 0)) := heap_alloc_new w _
  have hB : Below w.heap.size w (w.alloc (.cells #[.int .i64 0, .int .i64 0, .int .i64 0, .string ⟨#[]⟩] 26)) := (Below.refl _ _).alloc (Nat.le_refl _) _
  go_enter Try.func15, Try.ntmps15
  go_wp2_with fail
  generalize (w.alloc (.cells #[.int .i64 0, .int .i64 0, .int .i64 0, .string ⟨#[]⟩] 26)) = w0 at hA hB ⊢
  have hlt : w.heap.size < w0.heap.size := (Array.getElem?_eq_some_iff.1 hA).1
  refine Calls.mono (HP.out _) ?_
  rintro e w1 ⟨rfl, hb⟩
  replace hA := (hb.block _ hlt).trans hA
  replace hB := hB.trans (hb.mono hB.size)
  replace hlt := (Array.getElem?_eq_some_iff.1 hA).1
  clear hb
  have hG : (w1.alloc (.cells #[.int .i64 x.n, .int .i64 x.a, .int .i64 x.b, .string x.t] 26)).heap[w1.heap.size]? = some (.cells #[.int .i64 x.n, .int .i64 x.a, .int .i64 x.b, .string x.t] 26 (0, 0)) := heap_alloc_new w1 _
  go_wp2_with fail
  replace hA := (heap_alloc_old w1 (.cells #[.int .i64 x.n, .int .i64 x.a, .int .i64 x.b, .string x.t] 26) hlt).trans hA
  replace hB := hB.alloc (Nat.le_of_lt hlt) (.cells #[.int .i64 x.n, .int .i64 x.a, .int .i64 x.b, .string x.t] 26)
  generalize (w1.alloc (.cells #[.int .i64 x.n, .int .i64 x.a, .int .i64 x.b, .string x.t] 26)) = w2 at hA hB hG ⊢
  replace hlt := (Array.getElem?_eq_some_iff.1 hA).1
  have hltG := (Array.getElem?_eq_some_iff.1 hG).1
  refine Calls.mono (HT.out _) ?_
  rintro e w3 ⟨rfl, hb⟩
  replace hG := (hb.block _ hltG).trans hG
  clear hltG
  replace hA := (hb.block _ hlt).trans hA
  replace hB := hB.trans (hb.mono hB.size)
  replace hlt := (Array.getElem?_eq_some_iff.1 hA).1
  clear hb
  clear hG
  have n0 : w3.cell? ⟨w.heap.size, 0, none⟩ = some (.int .i64 0) := (cell_of_row w3 _ 0 _ _ _ hA).trans rfl
  have m0 : w3.frozen? ⟨w.heap.size, 0, none⟩ = false := frozen_of_row w3 _ 0 _ _ hA
  have n1 : w3.cell? ⟨w.heap.size, 1, none⟩ = some (.int .i64 0) := (cell_of_row w3 _ 1 _ _ _ hA).trans rfl
  have m1 : w3.frozen? ⟨w.heap.size, 1, none⟩ = false := frozen_of_row w3 _ 1 _ _ hA
  have n2 : w3.cell? ⟨w.heap.size, 2, none⟩ = some (.int .i64 0) := (cell_of_row w3 _ 2 _ _ _ hA).trans rfl
  have m2 : w3.frozen? ⟨w.heap.size, 2, none⟩ = false := frozen_of_row w3 _ 2 _ _ hA
  have n3 : w3.cell? ⟨w.heap.size, 3, none⟩ = some (.string ⟨#[]⟩) := (cell_of_row w3 _ 3 _ _ _ hA).trans rfl
  have m3 : w3.frozen? ⟨w.heap.size, 3, none⟩ = false := frozen_of_row w3 _ 3 _ _ hA
  have HBL : Hid _ := store4t hA (.int .i64 0) (.int .i64 0) (.int .i64 0) (.string ⟨#[]⟩)
  have HB : Hid _ := below4t (g := w.heap.size) hB (Nat.le_refl _) (.int .i64 0) (.int .i64 0) (.int .i64 0) (.string ⟨#[]⟩)
  clear hA hB hlt
  go_wp2
  refine bodyPost_ret (res_ct rfl _ _ w.heap.size 26 #[.int .i64 0, .int .i64 0, .int .i64 0, .string ⟨#[]⟩] (0, 0) _ rfl ?_ Try.underlying26 rfl partSizeR) rfl ?_
  · exact HBL.out
  · exact ⟨rfl, HB.out⟩
set_option maxHeartbeats 1600000 in
theorem implReadPart_not (t : ByteArray) (w : World) (hs : t.size ≤ 1048576) (h : ptOk (ptIn t) = true) (h2 : ptT (ptIn t) ≠ t) :
    Calls Try.prog 15 #[.string t] w fun e w' => e = .returned (.tuple #[.agg #[.int .i64 zPt.n, .int .i64 zPt.a, .int .i64 zPt.b, .string zPt.t], .bool false]) ∧ Below w.heap.size w w' := by
  have HP : Hid (∀ wz, _) := fun wz => partIn_any t wz hs
  have HT : Hid (∀ wz, _) := fun wz => implPtx_any (ptIn t) wz (Nat.le_trans (ptIn_le t) hs)
  rw [h] at HT
  clear h
  generalize ptIn t = x at HP HT h2 ⊢
  generalize ptT x = s at HT h2
  have hq := list_ne h2
  clear h2
  have hA : (w.alloc (.cells #[.int .i64 0, .int .i64 0, .int .i64 0, .string ⟨#[]⟩] 26)).heap[w.heap.size]? = some (.cells #[.int .i64 0, .int .i64 0, .int .i64 0, .string ⟨#[]⟩] 26 (0, 0)) := heap_alloc_new w _
  have hB : Below w.heap.size w (w.alloc (.cells #[.int .i64 0, .int .i64 0, .int .i64 0, .string ⟨#[]⟩] 26)) := (Below.refl _ _).alloc (Nat.le_refl _) _
  go_enter Try.func15, Try.ntmps15
  go_wp2_with fail
  generalize (w.alloc (.cells #[.int .i64 0, .int .i64 0, .int .i64 0, .string ⟨#[]⟩] 26)) = w0 at hA hB ⊢
  have hlt : w.heap.size < w0.heap.size := (Array.getElem?_eq_some_iff.1 hA).1
  refine Calls.mono (HP.out _) ?_
  rintro e w1 ⟨rfl, hb⟩
  replace hA := (hb.block _ hlt).trans hA
  replace hB := hB.trans (hb.mono hB.size)
  replace hlt := (Array.getElem?_eq_some_iff.1 hA).1
  clear hb
  have hG : (w1.alloc (.cells #[.int .i64 x.n, .int .i64 x.a, .int .i64 x.b, .string x.t] 26)).heap[w1.heap.size]? = some (.cells #[.int .i64 x.n, .int .i64 x.a, .int .i64 x.b, .string x.t] 26 (0, 0)) := heap_alloc_new w1 _
  go_wp2_with fail
  replace hA := (heap_alloc_old w1 (.cells #[.int .i64 x.n, .int .i64 x.a, .int .i64 x.b, .string x.t] 26) hlt).trans hA
  replace hB := hB.alloc (Nat.le_of_lt hlt) (.cells #[.int .i64 x.n, .int .i64 x.a, .int .i64 x.b, .string x.t] 26)
  generalize (w1.alloc (.cells #[.int .i64 x.n, .int .i64 x.a, .int .i64 x.b, .string x.t] 26)) = w2 at hA hB hG ⊢
  replace hlt := (Array.getElem?_eq_some_iff.1 hA).1
  have hltG := (Array.getElem?_eq_some_iff.1 hG).1
  refine Calls.mono (HT.out _) ?_
  rintro e w3 ⟨rfl, hb⟩
  replace hG := (hb.block _ hltG).trans hG
  clear hltG
  replace hA := (hb.block _ hlt).trans hA
  replace hB := hB.trans (hb.mono hB.size)
  replace hlt := (Array.getElem?_eq_some_iff.1 hA).1
  clear hb
  clear hG
  have n0 : w3.cell? ⟨w.heap.size, 0, none⟩ = some (.int .i64 0) := (cell_of_row w3 _ 0 _ _ _ hA).trans rfl
  have m0 : w3.frozen? ⟨w.heap.size, 0, none⟩ = false := frozen_of_row w3 _ 0 _ _ hA
  have n1 : w3.cell? ⟨w.heap.size, 1, none⟩ = some (.int .i64 0) := (cell_of_row w3 _ 1 _ _ _ hA).trans rfl
  have m1 : w3.frozen? ⟨w.heap.size, 1, none⟩ = false := frozen_of_row w3 _ 1 _ _ hA
  have n2 : w3.cell? ⟨w.heap.size, 2, none⟩ = some (.int .i64 0) := (cell_of_row w3 _ 2 _ _ _ hA).trans rfl
  have m2 : w3.frozen? ⟨w.heap.size, 2, none⟩ = false := frozen_of_row w3 _ 2 _ _ hA
  have n3 : w3.cell? ⟨w.heap.size, 3, none⟩ = some (.string ⟨#[]⟩) := (cell_of_row w3 _ 3 _ _ _ hA).trans rfl
  have m3 : w3.frozen? ⟨w.heap.size, 3, none⟩ = false := frozen_of_row w3 _ 3 _ _ hA
  have HBL : Hid _ := store4t hA (.int .i64 0) (.int .i64 0) (.int .i64 0) (.string ⟨#[]⟩)
  have HB : Hid _ := below4t (g := w.heap.size) hB (Nat.le_refl _) (.int .i64 0) (.int .i64 0) (.int .i64 0) (.string ⟨#[]⟩)
  clear hA hB hlt
  go_wp2
  refine bodyPost_ret (res_ct rfl _ _ w.heap.size 26 #[.int .i64 0, .int .i64 0, .int .i64 0, .string ⟨#[]⟩] (0, 0) _ rfl ?_ Try.underlying26 rfl partSizeR) rfl ?_
  · exact HBL.out
  · exact ⟨rfl, HB.out⟩
theorem implReadPart_any (t : ByteArray) (w : World) (hs : t.size ≤ 1048576) :
    Calls Try.prog 15 #[.string t] w fun e w' => e = .returned (.tuple #[.agg #[.int .i64 (rpP t).n, .int .i64 (rpP t).a, .int .i64 (rpP t).b, .string (rpP t).t], .bool (rpOk t)]) ∧ Below w.heap.size w w' := by
  cases h : rpOk t with
  | true => rw [show rpP t = ptIn t from by unfold rpP; rw [if_pos h]]; exact implReadPart_yes t w hs h
  | false =>
    rw [show rpP t = zPt from by unfold rpP; rw [if_neg (by rw [h]; simp)]]
    rcases rp_false h with h1 | ⟨h1, h2⟩
    · exact implReadPart_bad t w hs h1
    · exact implReadPart_not t w hs h1 h2
end Go.Proofs.Ytiojbefgafekaaa
