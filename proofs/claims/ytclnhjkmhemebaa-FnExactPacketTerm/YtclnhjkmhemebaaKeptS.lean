/- The contract of chapter 4's l04Kept, the specification's. -/
import Derived.Test.YtclnhjkmhemebaaMakeA
import Derived.WalkKit
import Derived.WalkLawsBesides
import Derived.WalkSpells
import Derived.Laws.Rows
import Derived.Test.YtclnhjkmhemebaaMakeIs
import Derived.Test.YtclnhjkmhemebaaTermOk
import Derived.Test.YtclnhjkmhemebaaPlainText
namespace Go.Proofs.Ytclnhjkmhemebaa
open Go.RowKit
set_option linter.unusedVariables false
/-- The arena that was made, or the one that came when the term can't be. -/
def keptA (ns A : List Nd) (K : Int) : List Nd := if K < 0 then ns else A
theorem keptA_neg {ns A : List Nd} {K : Int} (h : K < 0) : keptA ns A K = ns := by unfold keptA; rw [if_pos h]
theorem keptA_pos {ns A : List Nd} {K : Int} (h : ¬ K < 0) : keptA ns A K = A := by unfold keptA; rw [if_neg h]
/-- What it answers. -/
def KeptP (w : World) (ns : List Nd) (u : Value) (k : Int) (v : Value) (w' : World) : Prop := (k < 0 → OwnN w.heap.size w' v ns) ∧ (¬ k < 0 → v = u)
set_option maxHeartbeats 1600000 in
theorem kept_any (a b : Option Addr) (cap cb : Nat) (ns ms : List Nd) (k : Int) (w : World) (hl : ns.length ≤ 1048576) (ha : AddrN a cap) (hr : RowN w.heap.size w a ns) :
    Calls Try.prog 98 #[.agg #[.slice a ns.length cap], .agg #[.slice b ms.length cb], .int .i64 k] w fun e w' => ∃ v, e = .returned (.agg #[v]) ∧ Below w.heap.size w w' ∧ KeptP w ns (.slice b ms.length cb) k v w' := by
  have hb0 : Below w.heap.size w (((w.alloc (.cells #[.slice a ns.length cap] 50)).alloc (.cells #[.slice b ms.length cb] 50)).alloc (.cells #[.slice none 0 0] 50)) := (((Below.refl _ _).alloc (Nat.le_refl _) _).alloc (by simp) _).alloc (by simp <;> omega) _
  have hs0 : (((w.alloc (.cells #[.slice a ns.length cap] 50)).alloc (.cells #[.slice b ms.length cb] 50)).alloc (.cells #[.slice none 0 0] 50)).heap.size = w.heap.size + 3 := by simp
  have hA0 : (((w.alloc (.cells #[.slice a ns.length cap] 50)).alloc (.cells #[.slice b ms.length cb] 50)).alloc (.cells #[.slice none 0 0] 50)).heap[w.heap.size]? = some (.cells #[.slice a ns.length cap] 50 (0, 0)) := (heap_alloc_old _ _ (by simp <;> omega)).trans ((heap_alloc_old _ _ (by simp)).trans (heap_alloc_new w _))
  have hM0 : (((w.alloc (.cells #[.slice a ns.length cap] 50)).alloc (.cells #[.slice b ms.length cb] 50)).alloc (.cells #[.slice none 0 0] 50)).heap[w.heap.size + 1]? = some (.cells #[.slice b ms.length cb] 50 (0, 0)) := (heap_alloc_old _ _ (by simp <;> omega)).trans (by have := heap_alloc_new (w.alloc (.cells #[.slice a ns.length cap] 50)) (.cells #[.slice b ms.length cb] 50); simpa using this)
  have hR0 : (((w.alloc (.cells #[.slice a ns.length cap] 50)).alloc (.cells #[.slice b ms.length cb] 50)).alloc (.cells #[.slice none 0 0] 50)).heap[w.heap.size + 2]? = some (.cells #[.slice none 0 0] 50 (0, 0)) := by have := heap_alloc_new ((w.alloc (.cells #[.slice a ns.length cap] 50)).alloc (.cells #[.slice b ms.length cb] 50)) (.cells #[.slice none 0 0] 50); simpa using this
  have HR : Hid (RowN w.heap.size w a ns) := hr
  have HA : Hid (AddrN a cap) := ha
  have c0 := (cell_of_row _ _ 0 _ _ _ hA0).trans rfl
  have c1 := (cell_of_row _ _ 0 _ _ _ hM0).trans rfl
  clear hr ha
  go_enter Try.func98, Try.ntmps98
  by_cases hk : k < 0
  · go_wp2_with fail
    generalize ((w.alloc (.cells #[.slice a ns.length cap] 50)).alloc (.cells #[.slice b ms.length cb] 50)).alloc (.cells #[.slice none 0 0] 50) = w0 at hb0 hs0 hA0 hM0 hR0 ⊢
    refine (specCopy_any a cap ns w0 hl HA.out (HR.out.grown hb0)).mono ?_
    rintro e w1 ⟨v, rfl, hown, hb1⟩
    obtain ⟨a1, cap1, rfl, -, -⟩ := hown.row
    have hR1 := (hb1.block (w.heap.size + 2) (by omega)).trans hR0
    have r0 : w1.cell? ⟨w.heap.size + 2, 0, none⟩ = some (.slice none 0 0) := (cell_of_row w1 _ 0 _ _ _ hR1).trans rfl
    have f0 : w1.frozen? ⟨w.heap.size + 2, 0, none⟩ = false := frozen_of_row w1 _ 0 _ _ hR1
    have HBL : Hid ((w1.setCell ⟨w.heap.size + 2, 0, none⟩ (.slice a1 ns.length cap1)).heap[w.heap.size + 2]? = some (.cells #[.slice a1 ns.length cap1] 50 (0, 0))) := (heap_setCell_same w1 _ 0 _ _ _ hR1).trans rfl
    have HO : Hid (OwnN w.heap.size (w1.setCell ⟨w.heap.size + 2, 0, none⟩ (.slice a1 ns.length cap1)) (.slice a1 ns.length cap1) ns) := OwnN.base (ownsRow_setCell_below hown (show w.heap.size + 2 < w0.heap.size by omega) _) (by omega)
    have HB : Hid (Below w.heap.size w (w1.setCell ⟨w.heap.size + 2, 0, none⟩ (.slice a1 ns.length cap1))) := (hb0.trans (hb1.mono (by omega))).setCell (show w.heap.size ≤ w.heap.size + 2 by omega) _
    clear hown hb1 hR1 hb0 hA0 hM0 hR0 c0 c1
    go_wp2
    refine bodyPost_ret (results_cell_row rfl _ _ (w.heap.size + 2) 50 #[.slice a1 ns.length cap1] (0, 0) _ rfl ?_ Try.underlying50 rfl arenaSize) rfl ?_
    · exact HBL.out
    · exact ⟨_, rfl, HB.out, ⟨fun _ => HO.out, fun h => absurd hk h⟩⟩
  · have r0 := (cell_of_row _ _ 0 _ _ _ hR0).trans rfl
    have f0 := frozen_of_row _ _ 0 _ _ hR0
    have HB : Hid (Below w.heap.size w (((w.alloc (.cells #[.slice a ns.length cap] 50)).alloc (.cells #[.slice b ms.length cb] 50)).alloc (.cells #[.slice b ms.length cb] 50))) := (((Below.refl _ _).alloc (Nat.le_refl _) _).alloc (by simp) _).alloc (by simp <;> omega) _
    clear hb0 hA0 hM0 hR0
    go_wp2
    refine bodyPost_ret (results_cell_row rfl _ _ (w.heap.size + 2) 50 #[.slice b ms.length cb] (0, 0) _ rfl ?_ Try.underlying50 rfl arenaSize) rfl ?_
    · have := heap_alloc_new ((w.alloc (.cells #[.slice a ns.length cap] 50)).alloc (.cells #[.slice b ms.length cb] 50)) (.cells #[.slice b ms.length cb] 50)
      simpa using this
    · exact ⟨_, rfl, HB.out, ⟨fun h => by omega, fun _ => rfl⟩⟩
end Go.Proofs.Ytclnhjkmhemebaa

namespace Go.Proofs.Ytclnhjkmhemebaa
theorem keptA_len {ns A : List Nd} {K : Int} (h : ns.length ≤ 1048576) (hA : A.length ≤ 1048576) : (keptA ns A K).length ≤ 1048577 := by
  unfold keptA; split <;> omega
theorem keptA_le {ns A : List Nd} {K : Int} (h : ns.length ≤ 1048576) (hA : A.length ≤ 1048576) : (keptA ns A K).length ≤ 1048576 := by
  unfold keptA; split <;> omega
end Go.Proofs.Ytclnhjkmhemebaa

namespace Go.Proofs.Ytclnhjkmhemebaa
open Go.RowKit
set_option linter.unusedVariables false
/-- A key of a secret and a number; what else chapter 6 makes. -/
def sideA (ns : List Nd) (s n : Int) : List Nd := makeA (putA ns ⟨1, n, 0, 0⟩) 4 s (putK ns ⟨1, n, 0, 0⟩)
def sideK (ns : List Nd) (s n : Int) : Int := makeK (putA ns ⟨1, n, 0, 0⟩) 4 s (putK ns ⟨1, n, 0, 0⟩)
def handA (ns : List Nd) (s p b : Int) : List Nd := makeA (makeA (makeA ns 2 s p) 3 b 0) 4 (makeK ns 2 s p) (makeK (makeA ns 2 s p) 3 b 0)
def handK (ns : List Nd) (s p b : Int) : Int := makeK (makeA (makeA ns 2 s p) 3 b 0) 4 (makeK ns 2 s p) (makeK (makeA ns 2 s p) 3 b 0)
/-- A node of a kind over a key and a hash. -/
def overA (ns : List Nd) (kind s n d : Int) : List Nd := makeA (makeA (sideA ns s n) 3 d 0) kind (sideK ns s n) (makeK (sideA ns s n) 3 d 0)
def overK (ns : List Nd) (kind s n d : Int) : Int := makeK (makeA (sideA ns s n) 3 d 0) kind (sideK ns s n) (makeK (sideA ns s n) 3 d 0)
/-- So often as m tells. -/
def epochF (ns : List Nd) (k : Int) : Nat → List Nd × Int
  | 0 => (ns, k)
  | m + 1 => (sideA (epochF ns k m).1 (epochF ns k m).2 30, sideK (epochF ns k m).1 (epochF ns k m).2 30)
def epochB (ns : List Nd) (app e : Int) : Bool := inB e 0 8 && okAt ns app
def epochA (ns : List Nd) (app e : Int) : List Nd := if epochB ns app e = true then (epochF ns app e.toNat).1 else ns
def epochK (ns : List Nd) (app e : Int) : Int := if epochB ns app e = true then (epochF ns app e.toNat).2 else -1
theorem putA_le6 {ns : List Nd} {x : Nd} (h : ns.length ≤ 1048576) : (putA ns x).length ≤ 1048576 := by
  unfold putA; split
  · rename_i h1; simp; omega
  · exact h
theorem makeA_le6 {ns : List Nd} {k x y : Int} (h : ns.length ≤ 1048576) : (makeA ns k x y).length ≤ 1048576 := by
  unfold makeA; split
  · exact h
  · exact putA_le6 h
theorem sideA_le {ns : List Nd} {s n : Int} (h : ns.length ≤ 1048576) : (sideA ns s n).length ≤ 1048576 := makeA_le6 (putA_le6 h)
theorem handA_le {ns : List Nd} {s p b : Int} (h : ns.length ≤ 1048576) : (handA ns s p b).length ≤ 1048576 := makeA_le6 (makeA_le6 (makeA_le6 h))
theorem overA_le {ns : List Nd} {k s n d : Int} (h : ns.length ≤ 1048576) : (overA ns k s n d).length ≤ 1048576 := makeA_le6 (makeA_le6 (sideA_le h))
theorem epochF_le {ns : List Nd} {k : Int} (h : ns.length ≤ 1048576) : ∀ m, (epochF ns k m).1.length ≤ 1048576
  | 0 => h
  | m + 1 => sideA_le (epochF_le h m)
theorem epochA_le {ns : List Nd} {k e : Int} (h : ns.length ≤ 1048576) : (epochA ns k e).length ≤ 1048576 := by
  unfold epochA; split
  · exact epochF_le h _
  · exact h
theorem sideK_neg {ns : List Nd} {s n : Int} (h : sideK ns s n < 0) : sideK ns s n = -1 := makeK_neg (show makeK _ _ _ _ < 0 from h)
theorem epochF_neg {ns : List Nd} {k : Int} (hk : 0 ≤ k) : ∀ m, (epochF ns k m).2 < 0 → (epochF ns k m).2 = -1
  | 0, h => by have : (epochF ns k 0).2 = k := rfl; omega
  | m + 1, h => sideK_neg h
theorem epochK_neg {ns : List Nd} {k e : Int} (h : epochK ns k e < 0) : epochK ns k e = -1 := by
  unfold epochK at h ⊢
  split at h
  · rename_i h1
    rw [if_pos h1]
    refine epochF_neg ?_ _ h
    unfold epochB at h1
    simp at h1
    obtain ⟨i, e, _⟩ := okAt_in h1.2
    omega
  · rename_i h1; rw [if_neg h1]
end Go.Proofs.Ytclnhjkmhemebaa
