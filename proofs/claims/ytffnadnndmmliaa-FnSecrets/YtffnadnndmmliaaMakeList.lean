/- The contracts of chapter 4's l04List and List, the specification's; and what a List is, in plain words. -/
import Derived.Test.YtffnadnndmmliaaMakeA
import Derived.Test.YtffnadnndmmliaaLawInts
import Derived.Test.YtffnadnndmmliaaPlainText
import Derived.WalkKit
import Derived.WalkLawsBesides
import Derived.WalkSpells
import Derived.Laws.Rows
import Derived.Test.YtffnadnndmmliaaRdAt
import Derived.Test.YtffnadnndmmliaaPlainRT2
namespace Go.Proofs.Ytffnadnndmmliaa
open Go.RowKit
set_option linter.unusedVariables false

/-- List, made from the end on. -/
def listF (xs : List Int) (ns : List Nd) : List Nd × Int := xs.foldr (fun x p => (makeA p.1 2 x p.2, makeK p.1 2 x p.2)) (putA ns ⟨1, 0, 0, 0⟩, putK ns ⟨1, 0, 0, 0⟩)
def listK (ns : List Nd) (xs : List Int) : Int := (listF xs ns).2
def listA (ns : List Nd) (xs : List Int) : List Nd := if (listF xs ns).2 < 0 then ns else (listF xs ns).1
theorem listF_nil (ns : List Nd) : listF [] ns = (putA ns ⟨1, 0, 0, 0⟩, putK ns ⟨1, 0, 0, 0⟩) := rfl
theorem listF_cons (x : Int) (xs : List Int) (ns : List Nd) : listF (x :: xs) ns = (makeA (listF xs ns).1 2 x (listF xs ns).2, makeK (listF xs ns).1 2 x (listF xs ns).2) := rfl
theorem listF_drop (xs : List Int) (ns : List Nd) {m : Nat} (h : m < xs.length) : listF (xs.drop m) ns = (makeA (listF (xs.drop (m + 1)) ns).1 2 (xs.getD m 0) (listF (xs.drop (m + 1)) ns).2, makeK (listF (xs.drop (m + 1)) ns).1 2 (xs.getD m 0) (listF (xs.drop (m + 1)) ns).2) := by
  rw [List.drop_eq_getElem_cons h, List.getD_eq_getElem?_getD, List.getElem?_eq_getElem h]
  rfl
theorem putA_le2 {ns : List Nd} {x : Nd} (h : ns.length ≤ 1048576) : (putA ns x).length ≤ 1048576 := by
  unfold putA
  split
  · rename_i h1; simp; omega
  · exact h
theorem makeA_le {ns : List Nd} {k x y : Int} (h : ns.length ≤ 1048576) : (makeA ns k x y).length ≤ 1048576 := by
  unfold makeA
  split
  · exact h
  · exact putA_le2 h
theorem listF_le (xs : List Int) {ns : List Nd} (h : ns.length ≤ 1048576) : (listF xs ns).1.length ≤ 1048576 := by
  induction xs with
  | nil => rw [listF_nil]; exact putA_le2 h
  | cons x xs ih => rw [listF_cons]; simp only; exact makeA_le ih
theorem listF_neg (xs : List Int) (ns : List Nd) : (listF xs ns).2 < 0 → (listF xs ns).2 = -1 := by
  cases xs with
  | nil => rw [listF_nil]; simp only; exact fun h => putK_neg h
  | cons x xs => rw [listF_cons]; simp only; exact fun h => makeK_neg h
/-- Where a part of it can't be, it can't. -/
theorem listF_fall (xs : List Int) (ns : List Nd) : ∀ m, (listF (xs.drop m) ns).2 < 0 → (listF xs ns).2 = -1
  | 0, h => listF_neg xs ns (by simpa using h)
  | m + 1, h => by
    by_cases hm : m < xs.length
    · refine listF_fall xs ns m ?_
      rw [listF_drop xs ns hm]
      have := (make_bad (ns := (listF (xs.drop (m + 1)) ns).1) (kind := 2) (x := xs.getD m 0) (y := (listF (xs.drop (m + 1)) ns).2) (.inr (.inr (.inr ⟨by decide, h⟩)))).1
      simp only
      omega
    · refine listF_fall xs ns m ?_
      rw [List.drop_eq_nil_of_le (by omega)]
      rw [List.drop_eq_nil_of_le (by omega)] at h
      exact h
theorem makeK2 (ns : List Nd) (x y : Int) : makeK ns 2 x y = putK ns ⟨2, 0, x, y⟩ ∧ makeA ns 2 x y = putA ns ⟨2, 0, x, y⟩ := by
  unfold makeK makeA
  rw [if_neg (by omega), if_neg (by omega)]
  exact ⟨rfl, rfl⟩
theorem listA_len {ns : List Nd} {xs : List Int} (h : ns.length ≤ 1048576) : (listA ns xs).length ≤ 1048577 := by
  unfold listA
  split
  · omega
  · have := listF_le xs h; omega

set_option maxHeartbeats 800000 in
theorem listP_any (B g : Nat) (ns : List Nd) (la : Option Addr) (lc : Nat) (xs : List Int) (w : World) (hl : ns.length ≤ 1048576) (hxl : xs.length ≤ 1048576) (hx : RowI B w la xs) (h : ArenaAt B w g ns) (hB : B ≤ w.heap.size) :
    Calls Try.prog 138 #[.pointer (some ⟨g, 0, none⟩), .slice la xs.length lc] w fun e w' => e = .returned (.int .i64 (listF xs ns).2) ∧ ArenaAt B w' g (listF xs ns).1 ∧ Below B w w' := by
  have HX : Hid (RowI B w la xs) := hx
  have H0 : Hid _ := specAtomP_any B g ns 0 w hl h hB
  clear hx h
  go_enter Try.func138, Try.ntmps138
  go_wp2_with fail
  refine Calls.mono H0.out ?_
  rintro e w1 ⟨rfl, ha1, hb1⟩
  have HL1 : Hid (listF (xs.drop xs.length) ns = (putA ns ⟨1, 0, 0, 0⟩, putK ns ⟨1, 0, 0, 0⟩)) := by show _ = _; rw [List.drop_length]; rfl
  go_wp2
  go_loopw [5, 6] (fun k i wr => ∃ m : Nat, m ≤ xs.length ∧ i = .int .i64 ((m : Int) - 1) ∧ k = .int .i64 (listF (xs.drop m) ns).2 ∧ Hid (ArenaAt B wr g (listF (xs.drop m) ns).1) ∧ Below B w wr)
    (fun _ i _ => (intOf i + 1).toNat)
  case atStart => exact ⟨xs.length, Nat.le_refl _, rfl, by rw [HL1.out], by rw [HL1.out]; exact ha1, hb1⟩
  case round =>
    obtain ⟨m, hm, rfl, rfl, HA, hbel⟩ := hrel
    by_cases h0 : m = 0
    · subst h0
      have hz : ¬ (0 : Int) ≤ ((0 : Nat) : Int) - 1 := by omega
      rw [List.drop_zero] at HA ⊢
      go_wp2
      go_ret
      exact ⟨rfl, HA.out, hbel⟩
    · obtain ⟨m, rfl⟩ : ∃ q, m = q + 1 := ⟨m - 1, by omega⟩
      have e1 : ((m + 1 : Nat) : Int) - 1 = (m : Int) := by omega
      rw [e1]
      have hlt : m < xs.length := by omega
      obtain ⟨b, off, rfl⟩ := HX.out.addr hlt
      have c0 := (HX.out.at hbel hlt).2
      have hi0 : (0 : Int) ≤ (m : Int) := by omega
      have hi1 : (m : Int) < (xs.length : Int) := by omega
      have HLD : Hid _ := listF_drop xs ns hlt
      have hle := listF_le (xs.drop (m + 1)) hl
      have hBw := hbel.size
      have HM : Hid (Calls Try.prog 135 #[.pointer (some ⟨g, 0, none⟩), .int .i64 2, .int .i64 (xs.getD m 0), .int .i64 (listF (xs.drop (m + 1)) ns).2] wr fun e w' => e = .returned (.int .i64 (listF (xs.drop m) ns).2) ∧ ArenaAt B w' g (listF (xs.drop m) ns).1 ∧ Below B wr w') := by
        have := specMakeP_any B g (listF (xs.drop (m + 1)) ns).1 2 (xs.getD m 0) (listF (xs.drop (m + 1)) ns).2 wr hle HA.out (by omega)
        show Calls _ _ _ _ _
        rw [HLD.out]
        exact this
      generalize xs.getD m 0 = y at c0 HM
      generalize (listF (xs.drop (m + 1)) ns).2 = kk at HM
      clear HA HLD hle e1
      go_wp2_with fail
      refine Calls.mono HM.out ?_
      rintro e w2 ⟨rfl, ha2, hb2⟩
      have HA2 : Hid (ArenaAt B w2 g (listF (xs.drop m) ns).1) := ha2
      have hbel2 := hbel.trans hb2
      clear ha2 hb2 HM c0
      go_wp2
      go_roundw
      case rel => exact ⟨m, by omega, by go_num, rfl, HA2.out, hbel2⟩
      case measure => simp [intOf] <;> omega
end Go.Proofs.Ytffnadnndmmliaa

namespace Go.Proofs.Ytffnadnndmmliaa
open Go.RowKit Go.Maps
set_option linter.unusedVariables false
/-- List only adds. -/
theorem makeA_pre (ns : List Nd) (k x y : Int) : ns <+: makeA ns k x y := by
  unfold makeA
  split
  · exact List.prefix_refl _
  · exact putA_pre _ _
theorem listF_pre (xs : List Int) (ns : List Nd) : ns <+: (listF xs ns).1 := by
  induction xs with
  | nil => rw [listF_nil]; exact putA_pre _ _
  | cons x xs ih => rw [listF_cons]; simp only; exact ih.trans (makeA_pre _ _ _ _)
theorem listF_bd (xs : List Int) (ns : List Nd) (h : ns.length ≤ 1048576) : -1 ≤ (listF xs ns).2 ∧ (listF xs ns).2 ≤ 1048576 := by
  cases xs with
  | nil =>
    rw [listF_nil]; simp only
    have := putK_bd ns ⟨1, 0, 0, 0⟩; omega
  | cons x xs =>
    rw [listF_cons]; simp only
    rw [(makeK2 _ _ _).1]
    have := putK_bd (listF xs ns).1 ⟨2, 0, x, (listF xs ns).2⟩
    have := listF_le xs h
    omega
theorem take_preL {ns ms : List Nd} (h : ns <+: ms) : ms.take ns.length = ns := by
  obtain ⟨t, rfl⟩ := h
  simp
theorem implList_fits {x k : Int} (h1 : -9223372036854775808 ≤ x ∧ x ≤ 9223372036854775807) (h2 : -1 ≤ k ∧ k ≤ 1048576) : (Nd.mk 2 0 x k).Fits := by
  unfold Nd.Fits; simp only; omega
/-- Where the loop fell, it ends. -/
theorem listF_end (xs : List Int) (ns : List Nd) : ∀ m, (listF (xs.drop m) ns).2 < 0 → listF xs ns = ((listF (xs.drop m) ns).1, -1)
  | 0, h => by
    rw [List.drop_zero] at h ⊢
    exact Prod.ext rfl (listF_neg xs ns h)
  | m + 1, h => by
    by_cases hm : m < xs.length
    · have hd := listF_drop xs ns hm
      have hb := make_bad (ns := (listF (xs.drop (m + 1)) ns).1) (kind := 2) (x := xs.getD m 0) (y := (listF (xs.drop (m + 1)) ns).2) (.inr (.inr (.inr ⟨by decide, h⟩)))
      have := listF_end xs ns m (by rw [hd]; simp only; omega)
      rw [this, hd]; simp only; rw [hb.2]
    · have e1 : xs.drop m = [] := List.drop_eq_nil_of_le (by omega)
      have e2 : xs.drop (m + 1) = [] := List.drop_eq_nil_of_le (by omega)
      have := listF_end xs ns m (by rw [e1]; rw [e2] at h; exact h)
      rw [this, e1, e2]
/-- The same where there is room for as many as mx tells. -/
def listFm (mx : Nat) : List Int → List Nd → List Nd × Int
  | [], ns => (putAm mx ns ⟨1, 0, 0, 0⟩, putKm mx ns ⟨1, 0, 0, 0⟩)
  | x :: xs, ns => (putAm mx (listFm mx xs ns).1 ⟨2, 0, x, (listFm mx xs ns).2⟩, putKm mx (listFm mx xs ns).1 ⟨2, 0, x, (listFm mx xs ns).2⟩)
theorem listFm_nil (mx : Nat) (ns : List Nd) : listFm mx [] ns = (putAm mx ns ⟨1, 0, 0, 0⟩, putKm mx ns ⟨1, 0, 0, 0⟩) := rfl
theorem listFm_cons (mx : Nat) (x : Int) (xs : List Int) (ns : List Nd) : listFm mx (x :: xs) ns = (putAm mx (listFm mx xs ns).1 ⟨2, 0, x, (listFm mx xs ns).2⟩, putKm mx (listFm mx xs ns).1 ⟨2, 0, x, (listFm mx xs ns).2⟩) := rfl
theorem listFm_is (ns : List Nd) : ∀ xs : List Int, listFm 3000 xs ns = listF xs ns
  | [] => rfl
  | x :: xs => by rw [listFm_cons, listF_cons, listFm_is ns xs, (makeK2 _ _ _).1, (makeK2 _ _ _).2]; rfl
theorem putAm_pre (mx : Nat) (ns : List Nd) (x : Nd) : ns <+: putAm mx ns x := by
  unfold putAm; split
  · exact List.prefix_append _ _
  · exact List.prefix_refl _
theorem putKm_neg {mx : Nat} {ns : List Nd} {x : Nd} (h : putKm mx ns x < 0) : putKm mx ns x = -1 := by
  have := putKm_bd mx ns x; omega
theorem listFm_le {mx : Nat} (hm : mx ≤ 1048576) (xs : List Int) {ns : List Nd} (h : ns.length ≤ 1048576) : (listFm mx xs ns).1.length ≤ 1048576 := by
  induction xs with
  | nil => exact putAm_le hm h
  | cons x xs ih => exact putAm_le hm ih
theorem listFm_pre (mx : Nat) (xs : List Int) (ns : List Nd) : ns <+: (listFm mx xs ns).1 := by
  induction xs with
  | nil => exact putAm_pre _ _ _
  | cons x xs ih => exact ih.trans (putAm_pre _ _ _)
theorem listFm_neg {mx : Nat} (xs : List Int) (ns : List Nd) : (listFm mx xs ns).2 < 0 → (listFm mx xs ns).2 = -1 := by
  cases xs with
  | nil => rw [listFm_nil]; simp only; exact fun h => putKm_neg h
  | cons x xs => rw [listFm_cons]; simp only; exact fun h => putKm_neg h
theorem listFm_bd {mx : Nat} (hm : mx ≤ 1048576) (xs : List Int) (ns : List Nd) (h : ns.length ≤ 1048576) : -1 ≤ (listFm mx xs ns).2 ∧ (listFm mx xs ns).2 ≤ 1048576 := by
  cases xs with
  | nil => rw [listFm_nil]; simp only; have := putKm_bd mx ns ⟨1, 0, 0, 0⟩; omega
  | cons x xs =>
    rw [listFm_cons]; simp only
    have := putKm_bd mx (listFm mx xs ns).1 ⟨2, 0, x, (listFm mx xs ns).2⟩
    have := listFm_le hm xs h
    omega
theorem listFm_drop (mx : Nat) (xs : List Int) (ns : List Nd) {m : Nat} (h : m < xs.length) : listFm mx (xs.drop m) ns = (putAm mx (listFm mx (xs.drop (m + 1)) ns).1 ⟨2, 0, xs.getD m 0, (listFm mx (xs.drop (m + 1)) ns).2⟩, putKm mx (listFm mx (xs.drop (m + 1)) ns).1 ⟨2, 0, xs.getD m 0, (listFm mx (xs.drop (m + 1)) ns).2⟩) := by
  rw [List.drop_eq_getElem_cons h, listFm_cons, List.getD_eq_getElem?_getD, List.getElem?_eq_getElem h]
  rfl
theorem putm_bad {mx : Nat} {ns : List Nd} {x y : Int} (h : y < 0) : putAm mx ns ⟨2, 0, x, y⟩ = ns ∧ putKm mx ns ⟨2, 0, x, y⟩ = -1 := by
  have hb : nodeB ⟨2, 0, x, y⟩ (ns.length : Int) = false := by
    have := (make_bad (ns := ns) (kind := 2) (x := x) (y := y) (.inr (.inr (.inr ⟨by decide, h⟩)))).1
    rw [(makeK2 _ _ _).1] at this
    unfold putK at this
    cases hn : nodeB ⟨2, 0, x, y⟩ (ns.length : Int) with
    | false => rfl
    | true =>
      exfalso
      unfold nodeB at hn
      simp [inB, oneK] at hn
      omega
  constructor
  · unfold putAm; rw [if_neg (by rw [hb]; simp)]
  · unfold putKm; rw [if_neg (by rw [hb]; simp)]
theorem listFm_end (mx : Nat) (xs : List Int) (ns : List Nd) : ∀ m, (listFm mx (xs.drop m) ns).2 < 0 → listFm mx xs ns = ((listFm mx (xs.drop m) ns).1, -1)
  | 0, h => by
    rw [List.drop_zero] at h ⊢
    exact Prod.ext rfl (listFm_neg xs ns h)
  | m + 1, h => by
    by_cases hm : m < xs.length
    · have hd := listFm_drop mx xs ns hm
      have hb := putm_bad (mx := mx) (ns := (listFm mx (xs.drop (m + 1)) ns).1) (x := xs.getD m 0) (y := (listFm mx (xs.drop (m + 1)) ns).2) h
      have := listFm_end mx xs ns m (by rw [hd]; simp only; omega)
      rw [this, hd]; simp only; rw [hb.1]
    · have e1 : xs.drop m = [] := List.drop_eq_nil_of_le (by omega)
      have e2 : xs.drop (m + 1) = [] := List.drop_eq_nil_of_le (by omega)
      have := listFm_end mx xs ns m (by rw [e1]; rw [e2] at h; exact h)
      rw [this, e1, e2]
end Go.Proofs.Ytffnadnndmmliaa
