/- The contract of chapter 4's l04Kept, the specification's. -/
import Derived.Test.YtgmlanmblabgfaaMakeA
import Derived.WalkKit
import Derived.WalkLawsBesides
import Derived.WalkSpells
import Derived.Laws.Rows
import Derived.Test.YtgmlanmblabgfaaArenaD
namespace Go.Proofs.Ytgmlanmblabgfaa
open Go.RowKit
set_option linter.unusedVariables false
/-- The arena that was made, or the one that came when the term can't be. -/
def keptA (ns A : List Nd) (K : Int) : List Nd := if K < 0 then ns else A
theorem keptA_neg {ns A : List Nd} {K : Int} (h : K < 0) : keptA ns A K = ns := by unfold keptA; rw [if_pos h]
theorem keptA_pos {ns A : List Nd} {K : Int} (h : ¬ K < 0) : keptA ns A K = A := by unfold keptA; rw [if_neg h]
/-- What it answers. -/
def KeptP (w : World) (ns : List Nd) (u : Value) (k : Int) (v : Value) (w' : World) : Prop := (k < 0 → OwnN w.heap.size w' v ns) ∧ (¬ k < 0 → v = u)
set_option maxHeartbeats 1600000 in
theorem kept_any (a b : Option Addr) (cap cb : Nat) (ns ms : List Nd) (k : Int) (w : World) (hl : ns.length ≤ 1048576) (ha : AddrN a cap) (hr : RowN w.heap.size w a ns) :
    Calls Try.prog 50 #[.agg #[.slice a ns.length cap], .agg #[.slice b ms.length cb], .int .i64 k] w fun e w' => ∃ v, e = .returned (.agg #[v]) ∧ Below w.heap.size w w' ∧ KeptP w ns (.slice b ms.length cb) k v w' := by
  have hb0 : Below w.heap.size w (((w.alloc (.cells #[.slice a ns.length cap] 26)).alloc (.cells #[.slice b ms.length cb] 26)).alloc (.cells #[.slice none 0 0] 26)) := (((Below.refl _ _).alloc (Nat.le_refl _) _).alloc (by simp) _).alloc (by simp <;> omega) _
  have hs0 : (((w.alloc (.cells #[.slice a ns.length cap] 26)).alloc (.cells #[.slice b ms.length cb] 26)).alloc (.cells #[.slice none 0 0] 26)).heap.size = w.heap.size + 3 := by simp
  have hA0 : (((w.alloc (.cells #[.slice a ns.length cap] 26)).alloc (.cells #[.slice b ms.length cb] 26)).alloc (.cells #[.slice none 0 0] 26)).heap[w.heap.size]? = some (.cells #[.slice a ns.length cap] 26 (0, 0)) := (heap_alloc_old _ _ (by simp <;> omega)).trans ((heap_alloc_old _ _ (by simp)).trans (heap_alloc_new w _))
  have hM0 : (((w.alloc (.cells #[.slice a ns.length cap] 26)).alloc (.cells #[.slice b ms.length cb] 26)).alloc (.cells #[.slice none 0 0] 26)).heap[w.heap.size + 1]? = some (.cells #[.slice b ms.length cb] 26 (0, 0)) := (heap_alloc_old _ _ (by simp <;> omega)).trans (by have := heap_alloc_new (w.alloc (.cells #[.slice a ns.length cap] 26)) (.cells #[.slice b ms.length cb] 26); simpa using this)
  have hR0 : (((w.alloc (.cells #[.slice a ns.length cap] 26)).alloc (.cells #[.slice b ms.length cb] 26)).alloc (.cells #[.slice none 0 0] 26)).heap[w.heap.size + 2]? = some (.cells #[.slice none 0 0] 26 (0, 0)) := by have := heap_alloc_new ((w.alloc (.cells #[.slice a ns.length cap] 26)).alloc (.cells #[.slice b ms.length cb] 26)) (.cells #[.slice none 0 0] 26); simpa using this
  have HR : Hid (RowN w.heap.size w a ns) := hr
  have HA : Hid (AddrN a cap) := ha
  have c0 := (cell_of_row _ _ 0 _ _ _ hA0).trans rfl
  have c1 := (cell_of_row _ _ 0 _ _ _ hM0).trans rfl
  clear hr ha
  go_enter Try.func50, Try.ntmps50
  by_cases hk : k < 0
  · go_wp2_with fail
    generalize ((w.alloc (.cells #[.slice a ns.length cap] 26)).alloc (.cells #[.slice b ms.length cb] 26)).alloc (.cells #[.slice none 0 0] 26) = w0 at hb0 hs0 hA0 hM0 hR0 ⊢
    refine (specCopy_any a cap ns w0 hl HA.out (HR.out.grown hb0)).mono ?_
    rintro e w1 ⟨v, rfl, hown, hb1⟩
    obtain ⟨a1, cap1, rfl, -, -⟩ := hown.row
    have hR1 := (hb1.block (w.heap.size + 2) (by omega)).trans hR0
    have r0 : w1.cell? ⟨w.heap.size + 2, 0, none⟩ = some (.slice none 0 0) := (cell_of_row w1 _ 0 _ _ _ hR1).trans rfl
    have f0 : w1.frozen? ⟨w.heap.size + 2, 0, none⟩ = false := frozen_of_row w1 _ 0 _ _ hR1
    have HBL : Hid ((w1.setCell ⟨w.heap.size + 2, 0, none⟩ (.slice a1 ns.length cap1)).heap[w.heap.size + 2]? = some (.cells #[.slice a1 ns.length cap1] 26 (0, 0))) := (heap_setCell_same w1 _ 0 _ _ _ hR1).trans rfl
    have HO : Hid (OwnN w.heap.size (w1.setCell ⟨w.heap.size + 2, 0, none⟩ (.slice a1 ns.length cap1)) (.slice a1 ns.length cap1) ns) := OwnN.base (ownsRow_setCell_below hown (show w.heap.size + 2 < w0.heap.size by omega) _) (by omega)
    have HB : Hid (Below w.heap.size w (w1.setCell ⟨w.heap.size + 2, 0, none⟩ (.slice a1 ns.length cap1))) := (hb0.trans (hb1.mono (by omega))).setCell (show w.heap.size ≤ w.heap.size + 2 by omega) _
    clear hown hb1 hR1 hb0 hA0 hM0 hR0 c0 c1
    go_wp2
    refine bodyPost_ret (results_cell_row rfl _ _ (w.heap.size + 2) 26 #[.slice a1 ns.length cap1] (0, 0) _ rfl ?_ Try.underlying26 rfl arenaSize) rfl ?_
    · exact HBL.out
    · exact ⟨_, rfl, HB.out, ⟨fun _ => HO.out, fun h => absurd hk h⟩⟩
  · have r0 := (cell_of_row _ _ 0 _ _ _ hR0).trans rfl
    have f0 := frozen_of_row _ _ 0 _ _ hR0
    have HB : Hid (Below w.heap.size w (((w.alloc (.cells #[.slice a ns.length cap] 26)).alloc (.cells #[.slice b ms.length cb] 26)).alloc (.cells #[.slice b ms.length cb] 26))) := (((Below.refl _ _).alloc (Nat.le_refl _) _).alloc (by simp) _).alloc (by simp <;> omega) _
    clear hb0 hA0 hM0 hR0
    go_wp2
    refine bodyPost_ret (results_cell_row rfl _ _ (w.heap.size + 2) 26 #[.slice b ms.length cb] (0, 0) _ rfl ?_ Try.underlying26 rfl arenaSize) rfl ?_
    · have := heap_alloc_new ((w.alloc (.cells #[.slice a ns.length cap] 26)).alloc (.cells #[.slice b ms.length cb] 26)) (.cells #[.slice b ms.length cb] 26)
      simpa using this
    · exact ⟨_, rfl, HB.out, ⟨fun h => by omega, fun _ => rfl⟩⟩
end Go.Proofs.Ytgmlanmblabgfaa

namespace Go.Proofs.Ytgmlanmblabgfaa
theorem keptA_len {ns A : List Nd} {K : Int} (h : ns.length ≤ 1048576) (hA : A.length ≤ 1048576) : (keptA ns A K).length ≤ 1048577 := by
  unfold keptA; split <;> omega
theorem keptA_le {ns A : List Nd} {K : Int} (h : ns.length ≤ 1048576) (hA : A.length ≤ 1048576) : (keptA ns A K).length ≤ 1048576 := by
  unfold keptA; split <;> omega
end Go.Proofs.Ytgmlanmblabgfaa

namespace Go.Proofs.Ytgmlanmblabgfaa
open Go.RowKit
set_option linter.unusedVariables false
/-- A row of ints that was just made. -/
theorem rowD_new (D : Nat → Prop) (w : World) (xs : List Int) : RowD (fun k => D k ∨ k = w.heap.size) (w.alloc (.cells (xs.map (Value.int .i64)).toArray 3)) (some ⟨w.heap.size, 0, none⟩) xs := by
  refine .inr ⟨w.heap.size, 0, rfl, .inr rfl, fun j hj => ?_⟩
  rw [Nat.zero_add]
  refine (cell_of_row _ w.heap.size j _ _ _ (heap_alloc_new w _)).trans ?_
  simp [List.getD_eq_getElem?_getD, List.getElem?_eq_getElem hj]
/-- l04List of a list that is written out. -/
theorem listLit_any (D : Nat → Prop) (g : Nat) (ns : List Nd) (xs : List Int) (w : World) (hl : ns.length ≤ 1048576) (hxl : xs.length ≤ 2000000) (h : ArD D w g ns) (hB : ∀ k, D k → k < w.heap.size) :
    Calls Try.prog 42 #[.pointer (some ⟨g, 0, none⟩), .slice (some ⟨w.heap.size, 0, none⟩) xs.length xs.length] (w.alloc (.cells (xs.map (Value.int .i64)).toArray 3)) fun e w' => e = .returned (.int .i64 (listF xs ns).2) ∧ ArD D w' g (listF xs ns).1 ∧ Safe D w w' := by
  have hbA : Below w.heap.size w (w.alloc (.cells (xs.map (Value.int .i64)).toArray 3)) := (Below.refl _ _).alloc (Nat.le_refl _) _
  refine (listD_any (fun k => D k ∨ k = w.heap.size) g ns _ xs.length xs _ hl hxl (rowD_new D w xs) (h.wide (Nat.le_refl _) _ hbA) (fun k hk => ?_)).mono fun e w' ⟨he, ha, hs⟩ => ⟨he, ha.narrow (fun k hk => .inl hk), (Safe.of_below hbA hB).trans (hs.mono (fun k hk => .inl hk))⟩
  rcases hk with hk | hk
  · have := hB k hk; simp; omega
  · subst hk; simp
end Go.Proofs.Ytgmlanmblabgfaa

namespace Go.Proofs.Ytgmlanmblabgfaa
open Go.RowKit
set_option linter.unusedVariables false
/-- A cookie, made step by step. -/
def ckA1 (ns : List Nd) (s : Int) : List Nd := putA ns ⟨1, s, 0, 0⟩
def ckK1 (ns : List Nd) (s : Int) : Int := putK ns ⟨1, s, 0, 0⟩
def ckA2 (ns : List Nd) (s d : Int) : List Nd := putA (ckA1 ns s) ⟨1, d, 0, 0⟩
def ckK2 (ns : List Nd) (s d : Int) : Int := putK (ckA1 ns s) ⟨1, d, 0, 0⟩
def ckA3 (ns : List Nd) (s d h : Int) : List Nd := makeA (ckA2 ns s d) 3 h 0
def ckK3 (ns : List Nd) (s d h : Int) : Int := makeK (ckA2 ns s d) 3 h 0
def ckL (ns : List Nd) (s d h : Int) : List Nd × Int := listF [ckK2 ns s d, ckK3 ns s d h] (ckA3 ns s d h)
def ckA (ns : List Nd) (s d h : Int) : List Nd := makeA (ckL ns s d h).1 9 (ckK1 ns s) (ckL ns s d h).2
def ckK (ns : List Nd) (s d h : Int) : Int := makeK (ckL ns s d h).1 9 (ckK1 ns s) (ckL ns s d h).2
theorem ckA2_le {ns : List Nd} {s d : Int} (h : ns.length ≤ 1048576) : (ckA2 ns s d).length ≤ 1048576 := putA_le2 (putA_le2 h)
theorem ckA3_le {ns : List Nd} {s d x : Int} (h : ns.length ≤ 1048576) : (ckA3 ns s d x).length ≤ 1048576 := makeA_le (ckA2_le h)
theorem ckL_le {ns : List Nd} {s d x : Int} (h : ns.length ≤ 1048576) : (ckL ns s d x).1.length ≤ 1048576 := listF_le _ (ckA3_le h)
theorem ckA_le {ns : List Nd} {s d x : Int} (h : ns.length ≤ 1048576) : (ckA ns s d x).length ≤ 1048576 := makeA_le (ckL_le h)
/-- Whether it is that. -/
def ckOk (ns : List Nd) (s d h c : Int) : Bool := decide (0 ≤ ckK ns s d h) && decide (ckK ns s d h = c)
end Go.Proofs.Ytgmlanmblabgfaa
