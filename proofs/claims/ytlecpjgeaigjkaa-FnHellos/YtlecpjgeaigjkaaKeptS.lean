/- The contract of chapter 4's l04Kept, the specification's. -/
import Derived.Test.YtlecpjgeaigjkaaImplPut
import Derived.WalkKit
import Derived.WalkLawsBesides
import Derived.WalkSpells
import Derived.Laws.Rows
import Derived.Test.YtlecpjgeaigjkaaArenaD
import Derived.Test.YtlecpjgeaigjkaaMakeIs
import Derived.Test.YtlecpjgeaigjkaaTermAt
import Derived.Test.YtlecpjgeaigjkaaPlainText
namespace Go.Proofs.Ytlecpjgeaigjkaa
open Go.RowKit
set_option linter.unusedVariables false
/-- The arena that was made, or the one that came when the term can't be. -/
def keptA (ns A : List Nd) (K : Int) : List Nd := if K < 0 then ns else A
theorem keptA_neg {ns A : List Nd} {K : Int} (h : K < 0) : keptA ns A K = ns := by unfold keptA; rw [if_pos h]
theorem keptA_pos {ns A : List Nd} {K : Int} (h : ¬ K < 0) : keptA ns A K = A := by unfold keptA; rw [if_neg h]
/-- What it answers. -/
def KeptP (w : World) (ns : List Nd) (u : Value) (k : Int) (v : Value) (w' : World) : Prop := (k < 0 → OwnN w.heap.size w' v ns) ∧ (¬ k < 0 → v = u)
set_option maxHeartbeats 1600000 in
theorem kept_any (a b : Option Addr) (cap cb : Nat) (ns ms : List Nd) (k : Int) (w : World) (hl : ns.length ≤ 1048576) (ha : AddrN a cap) (hr : RowN w.heap.size w a ns) :
    Calls Try.prog 43 #[.agg #[.slice a ns.length cap], .agg #[.slice b ms.length cb], .int .i64 k] w fun e w' => ∃ v, e = .returned (.agg #[v]) ∧ Below w.heap.size w w' ∧ KeptP w ns (.slice b ms.length cb) k v w' := by
  have hb0 : Below w.heap.size w (((w.alloc (.cells #[.slice a ns.length cap] 30)).alloc (.cells #[.slice b ms.length cb] 30)).alloc (.cells #[.slice none 0 0] 30)) := (((Below.refl _ _).alloc (Nat.le_refl _) _).alloc (by simp) _).alloc (by simp <;> omega) _
  have hs0 : (((w.alloc (.cells #[.slice a ns.length cap] 30)).alloc (.cells #[.slice b ms.length cb] 30)).alloc (.cells #[.slice none 0 0] 30)).heap.size = w.heap.size + 3 := by simp
  have hA0 : (((w.alloc (.cells #[.slice a ns.length cap] 30)).alloc (.cells #[.slice b ms.length cb] 30)).alloc (.cells #[.slice none 0 0] 30)).heap[w.heap.size]? = some (.cells #[.slice a ns.length cap] 30 (0, 0)) := (heap_alloc_old _ _ (by simp <;> omega)).trans ((heap_alloc_old _ _ (by simp)).trans (heap_alloc_new w _))
  have hM0 : (((w.alloc (.cells #[.slice a ns.length cap] 30)).alloc (.cells #[.slice b ms.length cb] 30)).alloc (.cells #[.slice none 0 0] 30)).heap[w.heap.size + 1]? = some (.cells #[.slice b ms.length cb] 30 (0, 0)) := (heap_alloc_old _ _ (by simp <;> omega)).trans (by have := heap_alloc_new (w.alloc (.cells #[.slice a ns.length cap] 30)) (.cells #[.slice b ms.length cb] 30); simpa using this)
  have hR0 : (((w.alloc (.cells #[.slice a ns.length cap] 30)).alloc (.cells #[.slice b ms.length cb] 30)).alloc (.cells #[.slice none 0 0] 30)).heap[w.heap.size + 2]? = some (.cells #[.slice none 0 0] 30 (0, 0)) := by have := heap_alloc_new ((w.alloc (.cells #[.slice a ns.length cap] 30)).alloc (.cells #[.slice b ms.length cb] 30)) (.cells #[.slice none 0 0] 30); simpa using this
  have HR : Hid (RowN w.heap.size w a ns) := hr
  have HA : Hid (AddrN a cap) := ha
  have c0 := (cell_of_row _ _ 0 _ _ _ hA0).trans rfl
  have c1 := (cell_of_row _ _ 0 _ _ _ hM0).trans rfl
  clear hr ha
  go_enter Try.func43, Try.ntmps43
  by_cases hk : k < 0
  · go_wp2_with fail
    generalize ((w.alloc (.cells #[.slice a ns.length cap] 30)).alloc (.cells #[.slice b ms.length cb] 30)).alloc (.cells #[.slice none 0 0] 30) = w0 at hb0 hs0 hA0 hM0 hR0 ⊢
    refine (specCopy_any a cap ns w0 hl HA.out (HR.out.grown hb0)).mono ?_
    rintro e w1 ⟨v, rfl, hown, hb1⟩
    obtain ⟨a1, cap1, rfl, -, -⟩ := hown.row
    have hR1 := (hb1.block (w.heap.size + 2) (by omega)).trans hR0
    have r0 : w1.cell? ⟨w.heap.size + 2, 0, none⟩ = some (.slice none 0 0) := (cell_of_row w1 _ 0 _ _ _ hR1).trans rfl
    have f0 : w1.frozen? ⟨w.heap.size + 2, 0, none⟩ = false := frozen_of_row w1 _ 0 _ _ hR1
    have HBL : Hid ((w1.setCell ⟨w.heap.size + 2, 0, none⟩ (.slice a1 ns.length cap1)).heap[w.heap.size + 2]? = some (.cells #[.slice a1 ns.length cap1] 30 (0, 0))) := (heap_setCell_same w1 _ 0 _ _ _ hR1).trans rfl
    have HO : Hid (OwnN w.heap.size (w1.setCell ⟨w.heap.size + 2, 0, none⟩ (.slice a1 ns.length cap1)) (.slice a1 ns.length cap1) ns) := OwnN.base (ownsRow_setCell_below hown (show w.heap.size + 2 < w0.heap.size by omega) _) (by omega)
    have HB : Hid (Below w.heap.size w (w1.setCell ⟨w.heap.size + 2, 0, none⟩ (.slice a1 ns.length cap1))) := (hb0.trans (hb1.mono (by omega))).setCell (show w.heap.size ≤ w.heap.size + 2 by omega) _
    clear hown hb1 hR1 hb0 hA0 hM0 hR0 c0 c1
    go_wp2
    refine bodyPost_ret (results_cell_row rfl _ _ (w.heap.size + 2) 30 #[.slice a1 ns.length cap1] (0, 0) _ rfl ?_ Try.underlying30 rfl arenaSize) rfl ?_
    · exact HBL.out
    · exact ⟨_, rfl, HB.out, ⟨fun _ => HO.out, fun h => absurd hk h⟩⟩
  · have r0 := (cell_of_row _ _ 0 _ _ _ hR0).trans rfl
    have f0 := frozen_of_row _ _ 0 _ _ hR0
    have HB : Hid (Below w.heap.size w (((w.alloc (.cells #[.slice a ns.length cap] 30)).alloc (.cells #[.slice b ms.length cb] 30)).alloc (.cells #[.slice b ms.length cb] 30))) := (((Below.refl _ _).alloc (Nat.le_refl _) _).alloc (by simp) _).alloc (by simp <;> omega) _
    clear hb0 hA0 hM0 hR0
    go_wp2
    refine bodyPost_ret (results_cell_row rfl _ _ (w.heap.size + 2) 30 #[.slice b ms.length cb] (0, 0) _ rfl ?_ Try.underlying30 rfl arenaSize) rfl ?_
    · have := heap_alloc_new ((w.alloc (.cells #[.slice a ns.length cap] 30)).alloc (.cells #[.slice b ms.length cb] 30)) (.cells #[.slice b ms.length cb] 30)
      simpa using this
    · exact ⟨_, rfl, HB.out, ⟨fun h => by omega, fun _ => rfl⟩⟩
end Go.Proofs.Ytlecpjgeaigjkaa

namespace Go.Proofs.Ytlecpjgeaigjkaa
theorem keptA_len {ns A : List Nd} {K : Int} (h : ns.length ≤ 1048576) (hA : A.length ≤ 1048576) : (keptA ns A K).length ≤ 1048577 := by
  unfold keptA; split <;> omega
theorem keptA_le {ns A : List Nd} {K : Int} (h : ns.length ≤ 1048576) (hA : A.length ≤ 1048576) : (keptA ns A K).length ≤ 1048576 := by
  unfold keptA; split <;> omega
end Go.Proofs.Ytlecpjgeaigjkaa

namespace Go.Proofs.Ytlecpjgeaigjkaa
open Go.RowKit
set_option linter.unusedVariables false
/-- A row of ints that was just made. -/
theorem rowD_new (D : Nat → Prop) (w : World) (xs : List Int) : RowD (fun k => D k ∨ k = w.heap.size) (w.alloc (.cells (xs.map (Value.int .i64)).toArray 3)) (some ⟨w.heap.size, 0, none⟩) xs := by
  refine .inr ⟨w.heap.size, 0, rfl, .inr rfl, fun j hj => ?_⟩
  rw [Nat.zero_add]
  refine (cell_of_row _ w.heap.size j _ _ _ (heap_alloc_new w _)).trans ?_
  simp [List.getD_eq_getElem?_getD, List.getElem?_eq_getElem hj]
/-- l04List of a list that is written out. -/
theorem listLit_any (D : Nat → Prop) (g : Nat) (ns : List Nd) (xs : List Int) (w : World) (hl : ns.length ≤ 1048576) (hxl : xs.length ≤ 2000000) (h : ArD D w g ns) (hB : ∀ k, D k → k < w.heap.size) :
    Calls Try.prog 83 #[.pointer (some ⟨g, 0, none⟩), .slice (some ⟨w.heap.size, 0, none⟩) xs.length xs.length] (w.alloc (.cells (xs.map (Value.int .i64)).toArray 3)) fun e w' => e = .returned (.int .i64 (listF xs ns).2) ∧ ArD D w' g (listF xs ns).1 ∧ Safe D w w' := by
  have hbA : Below w.heap.size w (w.alloc (.cells (xs.map (Value.int .i64)).toArray 3)) := (Below.refl _ _).alloc (Nat.le_refl _) _
  refine (listD_any (fun k => D k ∨ k = w.heap.size) g ns _ xs.length xs _ hl hxl (rowD_new D w xs) (h.wide (Nat.le_refl _) _ hbA) (fun k hk => ?_)).mono fun e w' ⟨he, ha, hs⟩ => ⟨he, ha.narrow (fun k hk => .inl hk), (Safe.of_below hbA hB).trans (hs.mono (fun k hk => .inl hk))⟩
  rcases hk with hk | hk
  · have := hB k hk; simp; omega
  · subst hk; simp
end Go.Proofs.Ytlecpjgeaigjkaa

namespace Go.Proofs.Ytlecpjgeaigjkaa
open Go.RowKit
set_option linter.unusedVariables false
/-- A cookie, made step by step. -/
def ckA1 (ns : List Nd) (s : Int) : List Nd := putA ns ⟨1, s, 0, 0⟩
def ckK1 (ns : List Nd) (s : Int) : Int := putK ns ⟨1, s, 0, 0⟩
def ckA2 (ns : List Nd) (s d : Int) : List Nd := putA (ckA1 ns s) ⟨1, d, 0, 0⟩
def ckK2 (ns : List Nd) (s d : Int) : Int := putK (ckA1 ns s) ⟨1, d, 0, 0⟩
def ckA3 (ns : List Nd) (s d h : Int) : List Nd := makeA (ckA2 ns s d) 3 h 0
def ckK3 (ns : List Nd) (s d h : Int) : Int := makeK (ckA2 ns s d) 3 h 0
def ckL (ns : List Nd) (s d h : Int) : List Nd × Int := listF [ckK2 ns s d, ckK3 ns s d h] (ckA3 ns s d h)
def ckA (ns : List Nd) (s d h : Int) : List Nd := makeA (ckL ns s d h).1 9 (ckK1 ns s) (ckL ns s d h).2
def ckK (ns : List Nd) (s d h : Int) : Int := makeK (ckL ns s d h).1 9 (ckK1 ns s) (ckL ns s d h).2
theorem ckA2_le {ns : List Nd} {s d : Int} (h : ns.length ≤ 1048576) : (ckA2 ns s d).length ≤ 1048576 := putA_le2 (putA_le2 h)
theorem ckA3_le {ns : List Nd} {s d x : Int} (h : ns.length ≤ 1048576) : (ckA3 ns s d x).length ≤ 1048576 := makeA_le (ckA2_le h)
theorem ckL_le {ns : List Nd} {s d x : Int} (h : ns.length ≤ 1048576) : (ckL ns s d x).1.length ≤ 1048576 := listF_le _ (ckA3_le h)
theorem ckA_le {ns : List Nd} {s d x : Int} (h : ns.length ≤ 1048576) : (ckA ns s d x).length ≤ 1048576 := makeA_le (ckL_le h)
/-- Whether it is that. -/
def ckOk (ns : List Nd) (s d h c : Int) : Bool := decide (0 ≤ ckK ns s d h) && decide (ckK ns s d h = c)
end Go.Proofs.Ytlecpjgeaigjkaa

namespace Go.Proofs.Ytlecpjgeaigjkaa
open Go.RowKit
set_option linter.unusedVariables false
/-- A key of a secret and a number; what else chapter 6 makes. -/
def sideA (ns : List Nd) (s n : Int) : List Nd := makeA (putA ns ⟨1, n, 0, 0⟩) 4 s (putK ns ⟨1, n, 0, 0⟩)
def sideK (ns : List Nd) (s n : Int) : Int := makeK (putA ns ⟨1, n, 0, 0⟩) 4 s (putK ns ⟨1, n, 0, 0⟩)
def handA (ns : List Nd) (s p b : Int) : List Nd := makeA (makeA (makeA ns 2 s p) 3 b 0) 4 (makeK ns 2 s p) (makeK (makeA ns 2 s p) 3 b 0)
def handK (ns : List Nd) (s p b : Int) : Int := makeK (makeA (makeA ns 2 s p) 3 b 0) 4 (makeK ns 2 s p) (makeK (makeA ns 2 s p) 3 b 0)
/-- A node of a kind over a key and a hash. -/
def overA (ns : List Nd) (kind s n d : Int) : List Nd := makeA (makeA (sideA ns s n) 3 d 0) kind (sideK ns s n) (makeK (sideA ns s n) 3 d 0)
def overK (ns : List Nd) (kind s n d : Int) : Int := makeK (makeA (sideA ns s n) 3 d 0) kind (sideK ns s n) (makeK (sideA ns s n) 3 d 0)
/-- So often as m tells. -/
def epochF (ns : List Nd) (k : Int) : Nat → List Nd × Int
  | 0 => (ns, k)
  | m + 1 => (sideA (epochF ns k m).1 (epochF ns k m).2 30, sideK (epochF ns k m).1 (epochF ns k m).2 30)
def epochB (ns : List Nd) (app e : Int) : Bool := inB e 0 8 && okAt ns app
def epochA (ns : List Nd) (app e : Int) : List Nd := if epochB ns app e = true then (epochF ns app e.toNat).1 else ns
def epochK (ns : List Nd) (app e : Int) : Int := if epochB ns app e = true then (epochF ns app e.toNat).2 else -1
theorem putA_le6 {ns : List Nd} {x : Nd} (h : ns.length ≤ 1048576) : (putA ns x).length ≤ 1048576 := by
  unfold putA; split
  · rename_i h1; simp; omega
  · exact h
theorem makeA_le6 {ns : List Nd} {k x y : Int} (h : ns.length ≤ 1048576) : (makeA ns k x y).length ≤ 1048576 := by
  unfold makeA; split
  · exact h
  · exact putA_le6 h
theorem sideA_le {ns : List Nd} {s n : Int} (h : ns.length ≤ 1048576) : (sideA ns s n).length ≤ 1048576 := makeA_le6 (putA_le6 h)
theorem handA_le {ns : List Nd} {s p b : Int} (h : ns.length ≤ 1048576) : (handA ns s p b).length ≤ 1048576 := makeA_le6 (makeA_le6 (makeA_le6 h))
theorem overA_le {ns : List Nd} {k s n d : Int} (h : ns.length ≤ 1048576) : (overA ns k s n d).length ≤ 1048576 := makeA_le6 (makeA_le6 (sideA_le h))
theorem epochF_le {ns : List Nd} {k : Int} (h : ns.length ≤ 1048576) : ∀ m, (epochF ns k m).1.length ≤ 1048576
  | 0 => h
  | m + 1 => sideA_le (epochF_le h m)
theorem epochA_le {ns : List Nd} {k e : Int} (h : ns.length ≤ 1048576) : (epochA ns k e).length ≤ 1048576 := by
  unfold epochA; split
  · exact epochF_le h _
  · exact h
theorem sideK_neg {ns : List Nd} {s n : Int} (h : sideK ns s n < 0) : sideK ns s n = -1 := makeK_neg (show makeK _ _ _ _ < 0 from h)
theorem epochF_neg {ns : List Nd} {k : Int} (hk : 0 ≤ k) : ∀ m, (epochF ns k m).2 < 0 → (epochF ns k m).2 = -1
  | 0, h => by have : (epochF ns k 0).2 = k := rfl; omega
  | m + 1, h => sideK_neg h
theorem epochK_neg {ns : List Nd} {k e : Int} (h : epochK ns k e < 0) : epochK ns k e = -1 := by
  unfold epochK at h ⊢
  split at h
  · rename_i h1
    rw [if_pos h1]
    refine epochF_neg ?_ _ h
    unfold epochB at h1
    simp at h1
    obtain ⟨i, e, _⟩ := okAt_in h1.2
    omega
  · rename_i h1; rw [if_neg h1]
set_option maxHeartbeats 1600000 in
theorem specSideP_any (B g : Nat) (ns : List Nd) (s : Int) (n : Int) (w : World) (hl : ns.length ≤ 1048576) (h : ArenaAt B w g ns) (hB : B ≤ w.heap.size) :
    Calls Try.prog 106 #[.pointer (some ⟨g, 0, none⟩), .int .i64 s, .int .i64 n] w fun e w' => e = .returned (.int .i64 (sideK ns s n)) ∧ ArenaAt B w' g (sideA ns s n) ∧ Below B w w' := by
  have H0 : Hid (ArenaAt B w g ns ∧ Below B w w) := ⟨h, Below.refl _ _⟩
  clear h
  go_enter Try.func106, Try.ntmps106
  go_wp2_with fail
  refine (specAtomP_any B g (ns) (n) w (hl) H0.out.1 (Nat.le_trans hB H0.out.2.size)).mono ?_
  rintro e w1 ⟨rfl, ha, hb⟩
  have H1 : Hid (ArenaAt B w1 g _ ∧ Below B w w1) := ⟨ha, H0.out.2.trans hb⟩
  clear ha hb H0
  go_wp2_with fail
  refine (specMakeP_any B g (putA ns ⟨1, n, 0, 0⟩) 4 (s) (putK ns ⟨1, n, 0, 0⟩) w1 (putA_le6 hl) H1.out.1 (Nat.le_trans hB H1.out.2.size)).mono ?_
  rintro e w2 ⟨rfl, ha, hb⟩
  have H2 : Hid (ArenaAt B w2 g _ ∧ Below B w w2) := ⟨ha, H1.out.2.trans hb⟩
  clear ha hb H1
  go_wp2
  go_ret
  exact ⟨rfl, H2.out.1, H2.out.2⟩
set_option maxHeartbeats 1600000 in
theorem specDoneP_any (B g : Nat) (ns : List Nd) (s : Int) (sd : Int) (d : Int) (w : World) (hl : ns.length ≤ 1048576) (h : ArenaAt B w g ns) (hB : B ≤ w.heap.size) :
    Calls Try.prog 110 #[.pointer (some ⟨g, 0, none⟩), .int .i64 s, .int .i64 sd, .int .i64 d] w fun e w' => e = .returned (.int .i64 (overK ns 9 s (IntKind.i64.wrap (10 + sd)) d)) ∧ ArenaAt B w' g (overA ns 9 s (IntKind.i64.wrap (10 + sd)) d) ∧ Below B w w' := by
  obtain ⟨m, hm⟩ : ∃ m, IntKind.i64.wrap (10 + sd) = m := ⟨_, rfl⟩
  rw [hm]
  have H0 : Hid (ArenaAt B w g ns ∧ Below B w w) := ⟨h, Below.refl _ _⟩
  clear h
  go_enter Try.func110, Try.ntmps110
  go_wp2_with fail
  refine (specSideP_any B g (ns) (s) (m) w (hl) H0.out.1 (Nat.le_trans hB H0.out.2.size)).mono ?_
  rintro e w1 ⟨rfl, ha, hb⟩
  have H1 : Hid (ArenaAt B w1 g _ ∧ Below B w w1) := ⟨ha, H0.out.2.trans hb⟩
  clear ha hb H0
  go_wp2_with fail
  refine (specMakeP_any B g (sideA ns s (m)) 3 (d) (0) w1 (sideA_le hl) H1.out.1 (Nat.le_trans hB H1.out.2.size)).mono ?_
  rintro e w2 ⟨rfl, ha, hb⟩
  have H2 : Hid (ArenaAt B w2 g _ ∧ Below B w w2) := ⟨ha, H1.out.2.trans hb⟩
  clear ha hb H1
  go_wp2_with fail
  refine (specMakeP_any B g (makeA (sideA ns s (m)) 3 d 0) 9 (sideK ns s (m)) (makeK (sideA ns s (m)) 3 d 0) w2 (makeA_le6 (sideA_le hl)) H2.out.1 (Nat.le_trans hB H2.out.2.size)).mono ?_
  rintro e w3 ⟨rfl, ha, hb⟩
  have H3 : Hid (ArenaAt B w3 g _ ∧ Below B w w3) := ⟨ha, H2.out.2.trans hb⟩
  clear ha hb H2
  go_wp2
  go_ret
  exact ⟨rfl, H3.out.1, H3.out.2⟩
end Go.Proofs.Ytlecpjgeaigjkaa
