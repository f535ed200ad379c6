/- The contracts of chapter 4's l04List and List, the specification's; and what a List is, in plain words. -/
import Derived.Test.YtodpfdjlhbjlgaaMakeA
import Derived.Test.YtodpfdjlhbjlgaaLawInts
import Derived.Test.YtodpfdjlhbjlgaaPlainText
import Derived.WalkKit
import Derived.WalkLawsBesides
import Derived.WalkSpells
import Derived.Laws.Rows
namespace Go.Proofs.Ytodpfdjlhbjlgaa
open Go.RowKit
set_option linter.unusedVariables false

/-- List, made from the end on. -/
def listF (xs : List Int) (ns : List Nd) : List Nd × Int := xs.foldr (fun x p => (makeA p.1 2 x p.2, makeK p.1 2 x p.2)) (putA ns ⟨1, 0, 0, 0⟩, putK ns ⟨1, 0, 0, 0⟩)
def listK (ns : List Nd) (xs : List Int) : Int := (listF xs ns).2
def listA (ns : List Nd) (xs : List Int) : List Nd := if (listF xs ns).2 < 0 then ns else (listF xs ns).1
theorem listF_nil (ns : List Nd) : listF [] ns = (putA ns ⟨1, 0, 0, 0⟩, putK ns ⟨1, 0, 0, 0⟩) := rfl
theorem listF_cons (x : Int) (xs : List Int) (ns : List Nd) : listF (x :: xs) ns = (makeA (listF xs ns).1 2 x (listF xs ns).2, makeK (listF xs ns).1 2 x (listF xs ns).2) := rfl
theorem listF_drop (xs : List Int) (ns : List Nd) {m : Nat} (h : m < xs.length) : listF (xs.drop m) ns = (makeA (listF (xs.drop (m + 1)) ns).1 2 (xs.getD m 0) (listF (xs.drop (m + 1)) ns).2, makeK (listF (xs.drop (m + 1)) ns).1 2 (xs.getD m 0) (listF (xs.drop (m + 1)) ns).2) := by
  rw [List.drop_eq_getElem_cons h, List.getD_eq_getElem?_getD, List.getElem?_eq_getElem h]
  rfl
theorem putA_le2 {ns : List Nd} {x : Nd} (h : ns.length ≤ 1048576) : (putA ns x).length ≤ 1048576 := by
  unfold putA
  split
  · rename_i h1; simp; omega
  · exact h
theorem makeA_le {ns : List Nd} {k x y : Int} (h : ns.length ≤ 1048576) : (makeA ns k x y).length ≤ 1048576 := by
  unfold makeA
  split
  · exact h
  · exact putA_le2 h
theorem listF_le (xs : List Int) {ns : List Nd} (h : ns.length ≤ 1048576) : (listF xs ns).1.length ≤ 1048576 := by
  induction xs with
  | nil => rw [listF_nil]; exact putA_le2 h
  | cons x xs ih => rw [listF_cons]; simp only; exact makeA_le ih
theorem listF_neg (xs : List Int) (ns : List Nd) : (listF xs ns).2 < 0 → (listF xs ns).2 = -1 := by
  cases xs with
  | nil => rw [listF_nil]; simp only; exact fun h => putK_neg h
  | cons x xs => rw [listF_cons]; simp only; exact fun h => makeK_neg h
/-- Where a part of it can't be, it can't. -/
theorem listF_fall (xs : List Int) (ns : List Nd) : ∀ m, (listF (xs.drop m) ns).2 < 0 → (listF xs ns).2 = -1
  | 0, h => listF_neg xs ns (by simpa using h)
  | m + 1, h => by
    by_cases hm : m < xs.length
    · refine listF_fall xs ns m ?_
      rw [listF_drop xs ns hm]
      have := (make_bad (ns := (listF (xs.drop (m + 1)) ns).1) (kind := 2) (x := xs.getD m 0) (y := (listF (xs.drop (m + 1)) ns).2) (.inr (.inr (.inr ⟨by decide, h⟩)))).1
      simp only
      omega
    · refine listF_fall xs ns m ?_
      rw [List.drop_eq_nil_of_le (by omega)]
      rw [List.drop_eq_nil_of_le (by omega)] at h
      exact h
theorem makeK2 (ns : List Nd) (x y : Int) : makeK ns 2 x y = putK ns ⟨2, 0, x, y⟩ ∧ makeA ns 2 x y = putA ns ⟨2, 0, x, y⟩ := by
  unfold makeK makeA
  rw [if_neg (by omega), if_neg (by omega)]
  exact ⟨rfl, rfl⟩
theorem listA_len {ns : List Nd} {xs : List Int} (h : ns.length ≤ 1048576) : (listA ns xs).length ≤ 1048577 := by
  unfold listA
  split
  · omega
  · have := listF_le xs h; omega

set_option maxHeartbeats 800000 in
theorem listP_any (B g : Nat) (ns : List Nd) (la : Option Addr) (lc : Nat) (xs : List Int) (w : World) (hl : ns.length ≤ 1048576) (hxl : xs.length ≤ 1048576) (hx : RowI B w la xs) (h : ArenaAt B w g ns) (hB : B ≤ w.heap.size) :
    Calls Try.prog 103 #[.pointer (some ⟨g, 0, none⟩), .slice la xs.length lc] w fun e w' => e = .returned (.int .i64 (listF xs ns).2) ∧ ArenaAt B w' g (listF xs ns).1 ∧ Below B w w' := by
  have HX : Hid (RowI B w la xs) := hx
  have H0 : Hid _ := specAtomP_any B g ns 0 w hl h hB
  clear hx h
  go_enter Try.func103, Try.ntmps103
  go_wp2_with fail
  refine Calls.mono H0.out ?_
  rintro e w1 ⟨rfl, ha1, hb1⟩
  have HL1 : Hid (listF (xs.drop xs.length) ns = (putA ns ⟨1, 0, 0, 0⟩, putK ns ⟨1, 0, 0, 0⟩)) := by show _ = _; rw [List.drop_length]; rfl
  go_wp2
  go_loopw [5, 6] (fun k i wr => ∃ m : Nat, m ≤ xs.length ∧ i = .int .i64 ((m : Int) - 1) ∧ k = .int .i64 (listF (xs.drop m) ns).2 ∧ Hid (ArenaAt B wr g (listF (xs.drop m) ns).1) ∧ Below B w wr)
    (fun _ i _ => (intOf i + 1).toNat)
  case atStart => exact ⟨xs.length, Nat.le_refl _, rfl, by rw [HL1.out], by rw [HL1.out]; exact ha1, hb1⟩
  case round =>
    obtain ⟨m, hm, rfl, rfl, HA, hbel⟩ := hrel
    by_cases h0 : m = 0
    · subst h0
      have hz : ¬ (0 : Int) ≤ ((0 : Nat) : Int) - 1 := by omega
      rw [List.drop_zero] at HA ⊢
      go_wp2
      go_ret
      exact ⟨rfl, HA.out, hbel⟩
    · obtain ⟨m, rfl⟩ : ∃ q, m = q + 1 := ⟨m - 1, by omega⟩
      have e1 : ((m + 1 : Nat) : Int) - 1 = (m : Int) := by omega
      rw [e1]
      have hlt : m < xs.length := by omega
      obtain ⟨b, off, rfl⟩ := HX.out.addr hlt
      have c0 := (HX.out.at hbel hlt).2
      have hi0 : (0 : Int) ≤ (m : Int) := by omega
      have hi1 : (m : Int) < (xs.length : Int) := by omega
      have HLD : Hid _ := listF_drop xs ns hlt
      have hle := listF_le (xs.drop (m + 1)) hl
      have hBw := hbel.size
      have HM : Hid (Calls Try.prog 101 #[.pointer (some ⟨g, 0, none⟩), .int .i64 2, .int .i64 (xs.getD m 0), .int .i64 (listF (xs.drop (m + 1)) ns).2] wr fun e w' => e = .returned (.int .i64 (listF (xs.drop m) ns).2) ∧ ArenaAt B w' g (listF (xs.drop m) ns).1 ∧ Below B wr w') := by
        have := specMakeP_any B g (listF (xs.drop (m + 1)) ns).1 2 (xs.getD m 0) (listF (xs.drop (m + 1)) ns).2 wr hle HA.out (by omega)
        show Calls _ _ _ _ _
        rw [HLD.out]
        exact this
      generalize xs.getD m 0 = y at c0 HM
      generalize (listF (xs.drop (m + 1)) ns).2 = kk at HM
      clear HA HLD hle e1
      go_wp2_with fail
      refine Calls.mono HM.out ?_
      rintro e w2 ⟨rfl, ha2, hb2⟩
      have HA2 : Hid (ArenaAt B w2 g (listF (xs.drop m) ns).1) := ha2
      have hbel2 := hbel.trans hb2
      clear ha2 hb2 HM c0
      go_wp2
      go_roundw
      case rel => exact ⟨m, by omega, by go_num, rfl, HA2.out, hbel2⟩
      case measure => simp [intOf] <;> omega
set_option maxHeartbeats 800000 in
/-- spec.List, the specification's. -/
theorem specList_any (a : Option Addr) (cap : Nat) (ns : List Nd) (la : Option Addr) (lc : Nat) (xs : List Int) (w : World) (hl : ns.length ≤ 1048576) (hxl : xs.length ≤ 1048576) (hx : RowI w.heap.size w la xs) (ha : AddrN a cap) (hr : RowN w.heap.size w a ns) :
    Calls Try.prog 52 #[.agg #[.slice a ns.length cap], .slice la xs.length lc] w fun e w' => ∃ v, e = .returned (.tuple #[.agg #[v], .int .i64 (listK ns xs)]) ∧ OwnN w.heap.size w' v (listA ns xs) ∧ Below w.heap.size w w' := by
  obtain ⟨A, K, R, HP, HN1, HN2, HN3, hEA, hEK⟩ : ∃ (A : List Nd) (K : Int) (R : List Nd), Hid (∀ (B g : Nat) (wz : World), w.heap.size ≤ B → Below w.heap.size w wz → ArenaAt B wz g ns → B ≤ wz.heap.size → Calls Try.prog 103 #[.pointer (some ⟨g, 0, none⟩), .slice la xs.length lc] wz fun e w' => e = .returned (.int .i64 K) ∧ ArenaAt B w' g A ∧ Below B wz w') ∧ Hid (K < 0 → K = -1) ∧ Hid (K < 0 → R = ns) ∧ Hid (¬ K < 0 → R = A) ∧ R = listA ns xs ∧ K = listK ns xs :=
    ⟨(listF xs ns).1, listK ns xs, listA ns xs, fun B g wz hwB hwz h hB => listP_any B g ns la lc xs wz hl hxl ((hx.later hwz).wide hwB) h hB, listF_neg xs ns, fun h => if_pos h, fun h => if_neg h, rfl, rfl⟩
  rw [← hEA, ← hEK]
  clear hEA hEK
  have hb0 : Below w.heap.size w ((w.alloc (.cells #[.slice a ns.length cap] 26)).alloc (.cells #[.slice none 0 0] 26)) := ((Below.refl _ _).alloc (Nat.le_refl _) _).alloc (by simp) _
  have hs0 : ((w.alloc (.cells #[.slice a ns.length cap] 26)).alloc (.cells #[.slice none 0 0] 26)).heap.size = w.heap.size + 2 := by simp
  have hA0 : ((w.alloc (.cells #[.slice a ns.length cap] 26)).alloc (.cells #[.slice none 0 0] 26)).heap[w.heap.size]? = some (.cells #[.slice a ns.length cap] 26 (0, 0)) := (heap_alloc_old _ _ (by simp)).trans (heap_alloc_new w _)
  have hr0 : ((w.alloc (.cells #[.slice a ns.length cap] 26)).alloc (.cells #[.slice none 0 0] 26)).heap[w.heap.size + 1]? = some (.cells #[.slice none 0 0] 26 (0, 0)) := by
    have := heap_alloc_new (w.alloc (.cells #[.slice a ns.length cap] 26)) (.cells #[.slice none 0 0] 26)
    simpa using this
  have HR : Hid (RowN w.heap.size w a ns) := hr
  have HA : Hid (AddrN a cap) := ha
  clear hr ha
  go_enter Try.func52, Try.ntmps52
  go_wp2_with fail
  generalize (w.alloc (.cells #[.slice a ns.length cap] 26)).alloc (.cells #[.slice none 0 0] 26) = w0 at hb0 hs0 hA0 hr0 ⊢
  refine (specCopy_any a cap ns w0 hl HA.out (HR.out.grown hb0)).mono ?_
  rintro e w1 ⟨v, rfl, hown, hb1⟩
  obtain ⟨a1, cap1, rfl, ha1, hr1⟩ := hown.row
  have hA1 := (hb1.block w.heap.size (by omega)).trans hA0
  have hr1' := (hb1.block (w.heap.size + 1) (by omega)).trans hr0
  have hs1 := hb1.size
  have hbA : Below w1.heap.size w1 (w1.alloc (.cells #[.slice a1 ns.length cap1] 26)) := (Below.refl _ _).alloc (Nat.le_refl _) _
  have hAt : ArenaAt w0.heap.size (w1.alloc (.cells #[.slice a1 ns.length cap1] 26)) w1.heap.size ns := ⟨hs1, by simp, _, heap_alloc_new w1 _, hown.later hbA, fun h => by have := (hown.lt _ h).2; omega⟩
  have HB1 : Hid (Below w.heap.size w w1) := hb0.trans (hb1.mono (by omega))
  have HA1 : Hid (w1.heap[w.heap.size]? = some (.cells #[.slice a ns.length cap] 26 (0, 0))) := hA1
  have HR1 : Hid (w1.heap[w.heap.size + 1]? = some (.cells #[.slice none 0 0] 26 (0, 0))) := hr1'
  have HAt : Hid _ := hAt
  clear hAt hown hA1 hr1' hb0 hb1 hA0 hr0 ha1 hr1
  go_wp2_with fail
  refine Calls.mono (HP.out _ _ _ (show w.heap.size ≤ w0.heap.size by omega) (HB1.out.trans (hbA.mono (by omega))) HAt.out (by simp; omega)) ?_
  rintro e w2 ⟨rfl, hat, hb2⟩
  obtain ⟨t1, t2, v2, t3, t4, t5⟩ := hat
  obtain ⟨a2, cap2, rfl, _, _⟩ := t4.row
  have hB2 : Below w.heap.size w w2 := HB1.out.trans ((hbA.mono (by omega)).trans (hb2.mono (by omega)))
  have hA2 : w2.heap[w.heap.size]? = some (.cells #[.slice a ns.length cap] 26 (0, 0)) := (hb2.block _ (by omega)).trans ((hbA.block _ (by omega)).trans HA1.out)
  have hR2 : w2.heap[w.heap.size + 1]? = some (.cells #[.slice none 0 0] 26 (0, 0)) := (hb2.block _ (by omega)).trans ((hbA.block _ (by omega)).trans HR1.out)
  have hs2 : w1.heap.size < w2.heap.size := t2
  clear HP HAt hb2 hbA HB1 HA1 HR1 t1 t2 t5
  by_cases hk : K < 0
  · have o0 : w2.cell? ⟨w.heap.size, 0, none⟩ = some (.slice a ns.length cap) := (cell_of_row w2 _ 0 _ _ _ hA2).trans rfl
    have HB2 : Hid (Below w.heap.size w w2) := hB2
    have HR2 : Hid (w2.heap[w.heap.size + 1]? = some (.cells #[.slice none 0 0] 26 (0, 0))) := hR2
    clear t3 t4 hA2 hR2 hB2
    go_wp2_with fail
    refine (specCopy_any a cap ns w2 hl HA.out (HR.out.grown HB2.out)).mono ?_
    rintro e w3 ⟨v3, rfl, ho3, hb3⟩
    obtain ⟨a3, cap3, rfl, _, _⟩ := ho3.row
    have hR3 := (hb3.block (w.heap.size + 1) (by omega)).trans HR2.out
    have r0 : w3.cell? ⟨w.heap.size + 1, 0, none⟩ = some (.slice none 0 0) := (cell_of_row w3 _ 0 _ _ _ hR3).trans rfl
    have f0 : w3.frozen? ⟨w.heap.size + 1, 0, none⟩ = false := frozen_of_row w3 _ 0 _ _ hR3
    have HBL : Hid ((w3.setCell ⟨w.heap.size + 1, 0, none⟩ (.slice a3 ns.length cap3)).heap[w.heap.size + 1]? = some (.cells #[.slice a3 ns.length cap3] 26 (0, 0))) := (heap_setCell_same w3 _ 0 _ _ _ hR3).trans rfl
    have HO3 : Hid (OwnN w.heap.size (w3.setCell ⟨w.heap.size + 1, 0, none⟩ (.slice a3 ns.length cap3)) (.slice a3 ns.length cap3) ns) := OwnN.base (ownsRow_setCell_below ho3 (show w.heap.size + 1 < w2.heap.size by omega) _) (by omega)
    have HB3 : Hid (Below w.heap.size w (w3.setCell ⟨w.heap.size + 1, 0, none⟩ (.slice a3 ns.length cap3))) := (HB2.out.trans (hb3.mono (by omega))).setCell (show w.heap.size ≤ w.heap.size + 1 by omega) _
    clear ho3 hb3 hR3 o0
    go_wp2
    refine bodyPost_ret (res_cell2 rfl _ _ (w.heap.size + 1) 26 #[.slice a3 ns.length cap3] (0, 0) _ rfl ?_ Try.underlying26 rfl arenaSize) rfl ?_
    · exact HBL.out
    · exact ⟨_, by rw [HN1.out hk]; rfl, by rw [HN2.out hk]; exact HO3.out, HB3.out⟩
  · have o0 : w2.cell? ⟨w1.heap.size, 0, none⟩ = some (.slice a2 A.length cap2) := (cell_of_row w2 _ 0 _ _ _ t3).trans rfl
    have r0 : w2.cell? ⟨w.heap.size + 1, 0, none⟩ = some (.slice none 0 0) := (cell_of_row w2 _ 0 _ _ _ hR2).trans rfl
    have f0 : w2.frozen? ⟨w.heap.size + 1, 0, none⟩ = false := frozen_of_row w2 _ 0 _ _ hR2
    have HBL : Hid ((w2.setCell ⟨w.heap.size + 1, 0, none⟩ (.slice a2 A.length cap2)).heap[w.heap.size + 1]? = some (.cells #[.slice a2 A.length cap2] 26 (0, 0))) := (heap_setCell_same w2 _ 0 _ _ _ hR2).trans rfl
    have HO2 : Hid (OwnN w.heap.size (w2.setCell ⟨w.heap.size + 1, 0, none⟩ (.slice a2 A.length cap2)) (.slice a2 A.length cap2) A) := OwnN.base (ownsRow_setCell_below t4 (show w.heap.size + 1 < w0.heap.size by omega) _) (by omega)
    have HB2 : Hid (Below w.heap.size w (w2.setCell ⟨w.heap.size + 1, 0, none⟩ (.slice a2 A.length cap2))) := hB2.setCell (show w.heap.size ≤ w.heap.size + 1 by omega) _
    clear t3 t4 hA2 hR2 hB2
    go_wp2
    refine bodyPost_ret (res_cell2 rfl _ _ (w.heap.size + 1) 26 #[.slice a2 A.length cap2] (0, 0) _ rfl ?_ Try.underlying26 rfl arenaSize) rfl ?_
    · exact HBL.out
    · exact ⟨_, rfl, by rw [HN3.out hk]; exact HO2.out, HB2.out⟩
end Go.Proofs.Ytodpfdjlhbjlgaa
