/- The contracts of chapter 3's NodeOk and placeFor, the program's. -/
import Derived.Test.YtedihnfhjchdbaaImplR
import Derived.WalkKit
import Derived.WalkLawsBesides
import Derived.WalkSpells
import Derived.Test.YtedihnfhjchdbaaTermOk
import Derived.Test.YtedihnfhjchdbaaTermPut
import Derived.Laws.Rows
import Derived.Laws.ResultCell
namespace Go.Proofs.Ytedihnfhjchdbaa
open Go.RowKit
set_option linter.unusedVariables false

theorem implOk_no (a : Option Addr) (cap : Nat) (ns : List Nd) (k : Int) (w : World) (hl : ns.length ≤ 1048576) (h : inB k 0 ((ns.length : Int) - 1) = false) :
    Calls Try.prog 56 #[.agg #[.slice a ns.length cap], .int .i64 k] w fun e w' => e = .returned (.bool false) ∧ Below w.heap.size w w' := by
  go_enter Try.func56, Try.ntmps56
  go_wp2_with fail
  refine (ahead_any _ _ _).mono ?_
  rintro e w' ⟨rfl, rfl⟩
  rw [h]
  go_wp2
  go_ret
  exact ⟨rfl, (Below.refl _ _).alloc (Nat.le_refl _) _⟩
theorem implOk_yes (a : Option Addr) (cap : Nat) (ns : List Nd) (i : Nat) (w : World) (hl : ns.length ≤ 1048576) (hi : i < ns.length) (hr : RowN w.heap.size w a ns) :
    Calls Try.prog 56 #[.agg #[.slice a ns.length cap], .int .i64 (i : Int)] w fun e w' => e = .returned (.bool (nodeB (ns.getD i Nd.zero) i)) ∧ Below w.heap.size w w' := by
  have H : Hid (inB (i : Int) 0 ((ns.length : Int) - 1) = true) := by show _ = _; unfold inB; simp; omega
  obtain ⟨b, off, rfl⟩ := hr.addr hi
  obtain ⟨hb, c0, c1, c2, c3⟩ := hr.at (Below.refl _ _) hi
  have hi0 : (0 : Int) ≤ (i : Int) := by omega
  have hi1 : (i : Int) < (ns.length : Int) := by omega
  clear hr
  generalize ns.getD i Nd.zero = y at c0 c1 c2 c3 ⊢
  go_enter Try.func56, Try.ntmps56
  go_wp2_with fail
  refine (ahead_any _ _ _).mono ?_
  rintro e w' ⟨rfl, rfl⟩
  rw [H.out]
  go_wp2_with fail
  refine (right_any y i _).mono ?_
  rintro e w' ⟨v, rfl, hb1⟩
  go_wp2
  go_ret
  exact ⟨rfl, ((Below.refl _ _).alloc (Nat.le_refl _) _).trans (hb1.mono (by simp))⟩
theorem implOk_any (a : Option Addr) (cap : Nat) (ns : List Nd) (k : Int) (w : World) (hl : ns.length ≤ 1048576) (hr : RowN w.heap.size w a ns) :
    Calls Try.prog 56 #[.agg #[.slice a ns.length cap], .int .i64 k] w fun e w' => e = .returned (.bool (okAt ns k)) ∧ Below w.heap.size w w' := by
  cases h : inB k 0 ((ns.length : Int) - 1) with
  | false =>
    have e : okAt ns k = false := by unfold okAt; rw [h]; rfl
    rw [e]
    exact implOk_no a cap ns k w hl h
  | true =>
    have h' := h
    unfold inB at h'
    simp at h'
    obtain ⟨i, rfl⟩ : ∃ i : Nat, k = (i : Int) := ⟨k.toNat, by omega⟩
    have e : okAt ns (i : Int) = nodeB (ns.getD i Nd.zero) i := by unfold okAt; rw [h]; simp
    rw [e]
    exact implOk_yes a cap ns i w hl (by omega) hr

/-- Where a node comes to stand among e nodes, f the first that is it. -/
def placeB (x : Nd) (e f mx : Int) : Int := if nodeB x e = true then (if 0 ≤ f then f else if mx ≤ e then -1 else e) else -1
theorem placeFor_any (x : Nd) (e f mx : Int) (w : World) :
    Calls Try.prog 119 #[.agg #[.int .i64 x.k, .int .i64 x.n, .int .i64 x.a, .int .i64 x.b], .int .i64 e, .int .i64 f, .int .i64 mx] w fun r w' => r = .returned (.int .i64 (placeB x e f mx)) ∧ Below w.heap.size w w' := by
  obtain ⟨d, HD⟩ : ∃ d, Hid (nodeB x e = d) := ⟨_, rfl⟩
  have HP : Hid (placeB x e f mx = if d = true then (if 0 ≤ f then f else if mx ≤ e then -1 else e) else -1) := by show _ = _; unfold placeB; rw [HD.out]
  cases d
  · go_enter Try.func119, Try.ntmps119
    go_wp2_with fail
    refine (right_any x e _).mono ?_
    rintro r w1 ⟨v, rfl, hb1⟩
    rw [HD.out]
    go_wp2
    go_ret
    exact ⟨by rw [HP.out]; rfl, ((Below.refl _ _).alloc (Nat.le_refl _) _).trans (hb1.mono (by simp))⟩
  · by_cases h0 : 0 ≤ f
    · have HQ : Hid (placeB x e f mx = f) := by show _ = _; rw [HP.out, if_pos rfl, if_pos h0]
      go_enter Try.func119, Try.ntmps119
      go_wp2_with fail
      refine (right_any x e _).mono ?_
      rintro r w1 ⟨v, rfl, hb1⟩
      rw [HD.out]
      go_wp2
      go_ret
      exact ⟨by rw [HQ.out]; rfl, ((Below.refl _ _).alloc (Nat.le_refl _) _).trans (hb1.mono (by simp))⟩
    · by_cases h1 : mx ≤ e
      · have HQ : Hid (placeB x e f mx = -1) := by show _ = _; rw [HP.out, if_pos rfl, if_neg h0, if_pos h1]
        go_enter Try.func119, Try.ntmps119
        go_wp2_with fail
        refine (right_any x e _).mono ?_
        rintro r w1 ⟨v, rfl, hb1⟩
        rw [HD.out]
        go_wp2
        go_ret
        exact ⟨by rw [HQ.out]; rfl, ((Below.refl _ _).alloc (Nat.le_refl _) _).trans (hb1.mono (by simp))⟩
      · have HQ : Hid (placeB x e f mx = e) := by show _ = _; rw [HP.out, if_pos rfl, if_neg h0, if_neg h1]
        go_enter Try.func119, Try.ntmps119
        go_wp2_with fail
        refine (right_any x e _).mono ?_
        rintro r w1 ⟨v, rfl, hb1⟩
        rw [HD.out]
        go_wp2
        go_ret
        exact ⟨by rw [HQ.out]; rfl, ((Below.refl _ _).alloc (Nat.le_refl _) _).trans (hb1.mono (by simp))⟩
/-- Put where there is room for as many as mx tells. -/
def putAm (mx : Nat) (ns : List Nd) (x : Nd) : List Nd := if nodeB x ns.length = true ∧ findN ns x = -1 ∧ ns.length < mx then ns ++ [x] else ns
def putKm (mx : Nat) (ns : List Nd) (x : Nd) : Int := if nodeB x ns.length = true then (if findN ns x = -1 ∧ ns.length < mx then (ns.length : Int) else findN ns x) else -1
theorem putAm_is (ns : List Nd) (x : Nd) : putAm 3000 ns x = putA ns x := rfl
theorem putKm_is (ns : List Nd) (x : Nd) : putKm 3000 ns x = putK ns x := rfl
/-- placeFor, at the first place of the node: as Put says. -/
theorem placeB_put (mx : Nat) (ns : List Nd) (x : Nd) : placeB x ns.length (findN ns x) (mx : Int) = putKm mx ns x := by
  unfold placeB putKm
  cases nodeB x (ns.length : Int)
  · rfl
  · have := findN_range ns x
    simp only [if_true]
    by_cases h0 : 0 ≤ findN ns x
    · rw [if_pos h0, if_neg (by omega)]
    · rw [if_neg h0]
      by_cases h1 : (mx : Int) ≤ ns.length
      · rw [if_pos h1, if_neg (by omega)]; omega
      · rw [if_neg h1, if_pos (by omega)]
end Go.Proofs.Ytedihnfhjchdbaa

namespace Go.Proofs.Ytedihnfhjchdbaa
open Go.RowKit
set_option linter.unusedVariables false

/-- The node at a place. -/
def ndAt (ns : List Nd) (k : Int) : Nd := ns.getD k.toNat Nd.zero
/-- Is a term a right node of a kind? -/
def isK (ns : List Nd) (k kind : Int) : Bool := okAt ns k && decide ((ndAt ns k).k = kind)
theorem okAt_in {ns : List Nd} {k : Int} (h : okAt ns k = true) : ∃ i : Nat, k = (i : Int) ∧ i < ns.length := by
  unfold okAt inB at h
  simp at h
  exact ⟨k.toNat, by omega, by omega⟩
theorem isK_ok {ns : List Nd} {k kind : Int} (h : isK ns k kind = true) : okAt ns k = true ∧ (ndAt ns k).k = kind := by
  unfold isK at h
  simpa using h
theorem isK_false {ns : List Nd} {k kind : Int} (h : okAt ns k = false) : isK ns k kind = false := by unfold isK; rw [h]; rfl
theorem ndAt_nat (ns : List Nd) (i : Nat) : ndAt ns (i : Int) = ns.getD i Nd.zero := by unfold ndAt; simp

def numV (ns : List Nd) (k : Int) : Int := if isK ns k 1 = true then (ndAt ns k).n else 0
def openB (ns : List Nd) (key k : Int) : Bool := isK ns k 5 && decide ((ndAt ns k).a = key)
def openV (ns : List Nd) (key k : Int) : Int := if openB ns key k = true then (ndAt ns k).b else -1
def signB (ns : List Nd) (pub k : Int) : Bool := isK ns pub 6 && (isK ns k 8 && decide ((ndAt ns k).a = (ndAt ns pub).a))
def signV (ns : List Nd) (pub k : Int) : Int := if signB ns pub k = true then (ndAt ns k).b else -1

/-- A node in a block, written whole. -/
theorem store4 {w : World} {g : Nat} {t : TypeId} {u0 u1 u2 u3 : Value} (h : w.heap[g]? = some (.cells #[u0, u1, u2, u3] t (0, 0))) (v0 v1 v2 v3 : Value) :
    ((((w.setCell ⟨g, 0, none⟩ v0).setCell ⟨g, 1, none⟩ v1).setCell ⟨g, 2, none⟩ v2).setCell ⟨g, 3, none⟩ v3).heap[g]? = some (.cells #[v0, v1, v2, v3] t (0, 0)) := by
  have h0 := (heap_setCell_same w g 0 _ _ v0 h).trans rfl
  have h1 := (heap_setCell_same _ g 1 _ _ v1 h0).trans rfl
  have h2 := (heap_setCell_same _ g 2 _ _ v2 h1).trans rfl
  exact (heap_setCell_same _ g 3 _ _ v3 h2).trans rfl
theorem below4 {B : Nat} {w w1 : World} {g : Nat} (h : Below B w w1) (hg : B ≤ g) (v0 v1 v2 v3 : Value) :
    Below B w ((((w1.setCell ⟨g, 0, none⟩ v0).setCell ⟨g, 1, none⟩ v1).setCell ⟨g, 2, none⟩ v2).setCell ⟨g, 3, none⟩ v3) :=
  (((h.setCell hg _).setCell hg _).setCell hg _).setCell hg _
theorem nodeSizeMk : (Try.prog.info? 70).map (·.size) = some 4 := by kernel_rfl
end Go.Proofs.Ytedihnfhjchdbaa
