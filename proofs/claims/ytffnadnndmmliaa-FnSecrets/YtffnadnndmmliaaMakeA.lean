/- The contracts of chapter 4's l04Atom, l04Make, Atom and Make, the specification's. -/
import Derived.Test.YtffnadnndmmliaaTermPut2
import Derived.Test.YtffnadnndmmliaaImplPut2
import Derived.WalkKit
import Derived.WalkLawsBesides
import Derived.WalkSpells
import Derived.Laws.Rows
namespace Go.Proofs.Ytffnadnndmmliaa
open Go.RowKit
set_option linter.unusedVariables false

theorem putK_neg {ns : List Nd} {x : Nd} (h : putK ns x < 0) : putK ns x = -1 := by
  unfold putK at h ⊢
  split at h
  · split at h
    · omega
    · rename_i h1 h2; rw [if_pos h1, if_neg h2]; have := findN_range ns x; omega
  · rename_i h1; rw [if_neg h1]
theorem putA_neg {ns : List Nd} {x : Nd} (h : putK ns x < 0) : putA ns x = ns := putA_old (by omega)
/-- The node of a kind. -/
def mkNd (kind x y : Int) : Nd := ⟨kind, 0, x, if oneK kind = true then 0 else y⟩
def makeA (ns : List Nd) (kind x y : Int) : List Nd := if kind = 1 ∨ kind = 7 then ns else putA ns (mkNd kind x y)
def makeK (ns : List Nd) (kind x y : Int) : Int := if kind = 1 ∨ kind = 7 then -1 else putK ns (mkNd kind x y)
theorem makeK_neg {ns : List Nd} {kind x y : Int} (h : makeK ns kind x y < 0) : makeK ns kind x y = -1 := by
  unfold makeK at h ⊢
  split
  · rfl
  · rename_i h1; rw [if_neg h1] at h; exact putK_neg h
theorem makeA_neg {ns : List Nd} {kind x y : Int} (h : makeK ns kind x y < 0) : makeA ns kind x y = ns := by
  unfold makeK at h
  unfold makeA
  split
  · rfl
  · rename_i h1; rw [if_neg h1] at h; exact putA_neg h
theorem mkNd_bad {kind x y : Int} {e : Int} (h1 : kind ≠ 1) (h : x < 0 ∨ (oneK kind = false ∧ y < 0)) : nodeB (mkNd kind x y) e = false := by
  unfold nodeB mkNd
  simp only
  rw [if_neg h1]
  split
  · rfl
  · rcases h with h | ⟨ho, h⟩
    · rw [if_pos (.inr (by unfold inB; simp; omega))]
    · split
      · rfl
      · rw [ho]
        simp only [Bool.false_eq_true, if_false]
        unfold inB; simp; omega
theorem make_bad {ns : List Nd} {kind x y : Int} (h : kind = 1 ∨ kind = 7 ∨ x < 0 ∨ (oneK kind = false ∧ y < 0)) : makeK ns kind x y = -1 ∧ makeA ns kind x y = ns := by
  unfold makeK makeA
  by_cases h1 : kind = 1 ∨ kind = 7
  · rw [if_pos h1, if_pos h1]; exact ⟨rfl, rfl⟩
  · rw [if_neg h1, if_neg h1]
    have hb : nodeB (mkNd kind x y) ns.length = false := mkNd_bad (fun e => h1 (.inl e)) (by
      rcases h with h | h | h | h
      · exact absurd (.inl h) h1
      · exact absurd (.inr h) h1
      · exact .inl h
      · exact .inr h)
    have hk : putK ns (mkNd kind x y) = -1 := by unfold putK; rw [if_neg (by simp [hb])]
    exact ⟨hk, putA_neg (by omega)⟩
theorem make_good {ns : List Nd} {kind x y : Int} (h : kind ≠ 1 ∧ kind ≠ 7) : makeK ns kind x y = putK ns (mkNd kind x y) ∧ makeA ns kind x y = putA ns (mkNd kind x y) := by
  unfold makeK makeA
  rw [if_neg (by omega), if_neg (by omega)]
  exact ⟨rfl, rfl⟩

theorem specAtomP_any (B g : Nat) (ns : List Nd) (n : Int) (w : World) (hl : ns.length ≤ 1048576) (h : ArenaAt B w g ns) (hB : B ≤ w.heap.size) :
    Calls Try.prog 113 #[.pointer (some ⟨g, 0, none⟩), .int .i64 n] w fun e w' => e = .returned (.int .i64 (putK ns ⟨1, n, 0, 0⟩)) ∧ ArenaAt B w' g (putA ns ⟨1, n, 0, 0⟩) ∧ Below B w w' := by
  have H : Hid _ := specPutP_any B g ns ⟨1, n, 0, 0⟩ w hl h hB
  clear h
  go_enter Try.func113, Try.ntmps113
  go_wp2_with fail
  refine Calls.mono H.out ?_
  rintro e w1 ⟨rfl, ha, hb⟩
  have HE : Hid _ := And.intro ha hb
  clear ha hb H
  go_wp2
  go_ret
  exact ⟨rfl, HE.out.1, HE.out.2⟩

theorem specMakeP_any (B g : Nat) (ns : List Nd) (kind x y : Int) (w : World) (hl : ns.length ≤ 1048576) (h : ArenaAt B w g ns) (hB : B ≤ w.heap.size) :
    Calls Try.prog 135 #[.pointer (some ⟨g, 0, none⟩), .int .i64 kind, .int .i64 x, .int .i64 y] w fun e w' => e = .returned (.int .i64 (makeK ns kind x y)) ∧ ArenaAt B w' g (makeA ns kind x y) ∧ Below B w w' := by
  have HH : Hid (ArenaAt B w g ns) := h
  clear h
  cases ho : oneK kind with
  | true =>
    have HO : Hid (oneK kind = true) := ho
    by_cases hbad : kind = 1 ∨ kind = 7 ∨ x < 0
    · obtain ⟨e1, e2⟩ := make_bad (ns := ns) (kind := kind) (x := x) (y := y) (by rcases hbad with h | h | h <;> simp [h])
      rw [e1, e2]
      clear ho e1 e2
      have hk1 : (kind == 1) = false := by have := HO.out; unfold oneK at this; simp at this; simp; omega
      have hk7 : (kind == 7) = false := by have := HO.out; unfold oneK at this; simp at this; simp; omega
      have hx : x < 0 := by simp at hk1 hk7; omega
      clear hbad
      go_enter Try.func135, Try.ntmps135
      go_wp2_with fail
      refine (specOne_any kind _).mono ?_
      rintro e w1 ⟨rfl, rfl⟩
      rw [HO.out]
      go_wp2
      go_ret
      exact ⟨rfl, HH.out, Below.refl _ _⟩
    · have hg : kind ≠ 1 ∧ kind ≠ 7 ∧ ¬ x < 0 := by omega
      obtain ⟨e1, e2⟩ := make_good (ns := ns) (x := x) (y := y) ⟨hg.1, hg.2.1⟩
      rw [e1, e2]
      have em : mkNd kind x y = ⟨kind, 0, x, 0⟩ := by unfold mkNd; rw [if_pos ho]
      rw [em]
      have hk1 : (kind == 1) = false := by simp; omega
      have hk7 : (kind == 7) = false := by simp; omega
      have hx := hg.2.2
      have H : Hid _ := specPutP_any B g ns ⟨kind, 0, x, 0⟩ w hl HH.out hB
      clear ho e1 e2 em hbad hg
      go_enter Try.func135, Try.ntmps135
      go_wp2_with fail
      refine (specOne_any kind _).mono ?_
      rintro e w1 ⟨rfl, rfl⟩
      rw [HO.out]
      go_wp2_with fail
      refine Calls.mono H.out ?_
      rintro e w1 ⟨rfl, ha, hb⟩
      have HE : Hid _ := And.intro ha hb
      clear ha hb H
      go_wp2
      go_ret
      exact ⟨rfl, HE.out.1, HE.out.2⟩
  | false =>
    have HO : Hid (oneK kind = false) := ho
    have em : mkNd kind x y = ⟨kind, 0, x, y⟩ := by unfold mkNd; rw [if_neg (by simp [ho])]
    by_cases h1 : kind = 1
    · obtain ⟨e1, e2⟩ := make_bad (ns := ns) (kind := kind) (x := x) (y := y) (.inl h1)
      rw [e1, e2]
      have hk1 : (kind == 1) = true := by simp [h1]
      clear ho em e1 e2 h1
      go_enter Try.func135, Try.ntmps135
      go_wp2_with fail
      refine (specOne_any kind _).mono ?_
      rintro e w1 ⟨rfl, rfl⟩
      rw [HO.out]
      go_wp2
      go_ret
      exact ⟨rfl, HH.out, Below.refl _ _⟩
    by_cases h7 : kind = 7
    · obtain ⟨e1, e2⟩ := make_bad (ns := ns) (kind := kind) (x := x) (y := y) (.inr (.inl h7))
      rw [e1, e2]
      have hk1 : (kind == 1) = false := by simp [h1]
      have hk7 : (kind == 7) = true := by simp [h7]
      clear ho em e1 e2 h1 h7
      go_enter Try.func135, Try.ntmps135
      go_wp2_with fail
      refine (specOne_any kind _).mono ?_
      rintro e w1 ⟨rfl, rfl⟩
      rw [HO.out]
      go_wp2
      go_ret
      exact ⟨rfl, HH.out, Below.refl _ _⟩
    have hk1 : (kind == 1) = false := by simp [h1]
    have hk7 : (kind == 7) = false := by simp [h7]
    by_cases hx : x < 0
    · obtain ⟨e1, e2⟩ := make_bad (ns := ns) (kind := kind) (x := x) (y := y) (.inr (.inr (.inl hx)))
      rw [e1, e2]
      clear ho em e1 e2 h1 h7
      go_enter Try.func135, Try.ntmps135
      go_wp2_with fail
      refine (specOne_any kind _).mono ?_
      rintro e w1 ⟨rfl, rfl⟩
      rw [HO.out]
      go_wp2
      go_ret
      exact ⟨rfl, HH.out, Below.refl _ _⟩
    by_cases hy : y < 0
    · obtain ⟨e1, e2⟩ := make_bad (ns := ns) (kind := kind) (x := x) (y := y) (.inr (.inr (.inr ⟨ho, hy⟩)))
      rw [e1, e2]
      clear ho em e1 e2 h1 h7
      go_enter Try.func135, Try.ntmps135
      go_wp2_with fail
      refine (specOne_any kind _).mono ?_
      rintro e w1 ⟨rfl, rfl⟩
      rw [HO.out]
      go_wp2
      go_ret
      exact ⟨rfl, HH.out, Below.refl _ _⟩
    obtain ⟨e1, e2⟩ := make_good (ns := ns) (x := x) (y := y) ⟨h1, h7⟩
    rw [e1, e2, em]
    have H : Hid _ := specPutP_any B g ns ⟨kind, 0, x, y⟩ w hl HH.out hB
    clear ho em e1 e2 h1 h7
    go_enter Try.func135, Try.ntmps135
    go_wp2_with fail
    refine (specOne_any kind _).mono ?_
    rintro e w1 ⟨rfl, rfl⟩
    rw [HO.out]
    go_wp2_with fail
    refine Calls.mono H.out ?_
    rintro e w1 ⟨rfl, ha, hb⟩
    have HE : Hid _ := And.intro ha hb
    clear ha hb H
    go_wp2
    go_ret
    exact ⟨rfl, HE.out.1, HE.out.2⟩

set_option maxHeartbeats 800000 in
/-- spec.Atom, the specification's. -/
theorem specAtom_any (a : Option Addr) (cap : Nat) (ns : List Nd) (n : Int) (w : World) (hl : ns.length ≤ 1048576) (ha : AddrN a cap) (hr : RowN w.heap.size w a ns) :
    Calls Try.prog 42 #[.agg #[.slice a ns.length cap], .int .i64 n] w fun e w' => ∃ v, e = .returned (.tuple #[.agg #[v], .int .i64 (putK ns ⟨1, n, 0, 0⟩)]) ∧ OwnN w.heap.size w' v (putA ns ⟨1, n, 0, 0⟩) ∧ Below w.heap.size w w' := by
  obtain ⟨A, K, R, HP, HN1, HN2, HN3, hEA, hEK⟩ : ∃ (A : List Nd) (K : Int) (R : List Nd), Hid (∀ (B g : Nat) (wz : World), w.heap.size ≤ B → Below w.heap.size w wz → ArenaAt B wz g ns → B ≤ wz.heap.size → Calls Try.prog 113 #[.pointer (some ⟨g, 0, none⟩), .int .i64 n] wz fun e w' => e = .returned (.int .i64 K) ∧ ArenaAt B w' g A ∧ Below B wz w') ∧ Hid (K < 0 → K = -1) ∧ Hid (K < 0 → R = ns) ∧ Hid (¬ K < 0 → R = A) ∧ R = putA ns ⟨1, n, 0, 0⟩ ∧ K = putK ns ⟨1, n, 0, 0⟩ :=
    ⟨putA ns ⟨1, n, 0, 0⟩, putK ns ⟨1, n, 0, 0⟩, putA ns ⟨1, n, 0, 0⟩, fun B g wz hwB hwz h hB => specAtomP_any B g ns n wz hl h hB, putK_neg, putA_neg, fun _ => rfl, rfl, rfl⟩
  rw [← hEA, ← hEK]
  clear hEA hEK
  have hb0 : Below w.heap.size w ((w.alloc (.cells #[.slice a ns.length cap] 28)).alloc (.cells #[.slice none 0 0] 28)) := ((Below.refl _ _).alloc (Nat.le_refl _) _).alloc (by simp) _
  have hs0 : ((w.alloc (.cells #[.slice a ns.length cap] 28)).alloc (.cells #[.slice none 0 0] 28)).heap.size = w.heap.size + 2 := by simp
  have hA0 : ((w.alloc (.cells #[.slice a ns.length cap] 28)).alloc (.cells #[.slice none 0 0] 28)).heap[w.heap.size]? = some (.cells #[.slice a ns.length cap] 28 (0, 0)) := (heap_alloc_old _ _ (by simp)).trans (heap_alloc_new w _)
  have hr0 : ((w.alloc (.cells #[.slice a ns.length cap] 28)).alloc (.cells #[.slice none 0 0] 28)).heap[w.heap.size + 1]? = some (.cells #[.slice none 0 0] 28 (0, 0)) := by
    have := heap_alloc_new (w.alloc (.cells #[.slice a ns.length cap] 28)) (.cells #[.slice none 0 0] 28)
    simpa using this
  have HR : Hid (RowN w.heap.size w a ns) := hr
  have HA : Hid (AddrN a cap) := ha
  clear hr ha
  go_enter Try.func42, Try.ntmps42
  go_wp2_with fail
  generalize (w.alloc (.cells #[.slice a ns.length cap] 28)).alloc (.cells #[.slice none 0 0] 28) = w0 at hb0 hs0 hA0 hr0 ⊢
  refine (specCopy_any a cap ns w0 hl HA.out (HR.out.grown hb0)).mono ?_
  rintro e w1 ⟨v, rfl, hown, hb1⟩
  obtain ⟨a1, cap1, rfl, ha1, hr1⟩ := hown.row
  have hA1 := (hb1.block w.heap.size (by omega)).trans hA0
  have hr1' := (hb1.block (w.heap.size + 1) (by omega)).trans hr0
  have hs1 := hb1.size
  have hbA : Below w1.heap.size w1 (w1.alloc (.cells #[.slice a1 ns.length cap1] 28)) := (Below.refl _ _).alloc (Nat.le_refl _) _
  have hAt : ArenaAt w0.heap.size (w1.alloc (.cells #[.slice a1 ns.length cap1] 28)) w1.heap.size ns := ⟨hs1, by simp, _, heap_alloc_new w1 _, hown.later hbA, fun h => by have := (hown.lt _ h).2; omega⟩
  have HB1 : Hid (Below w.heap.size w w1) := hb0.trans (hb1.mono (by omega))
  have HA1 : Hid (w1.heap[w.heap.size]? = some (.cells #[.slice a ns.length cap] 28 (0, 0))) := hA1
  have HR1 : Hid (w1.heap[w.heap.size + 1]? = some (.cells #[.slice none 0 0] 28 (0, 0))) := hr1'
  have HAt : Hid _ := hAt
  clear hAt hown hA1 hr1' hb0 hb1 hA0 hr0 ha1 hr1
  go_wp2_with fail
  refine Calls.mono (HP.out _ _ _ (show w.heap.size ≤ w0.heap.size by omega) (HB1.out.trans (hbA.mono (by omega))) HAt.out (by simp; omega)) ?_
  rintro e w2 ⟨rfl, hat, hb2⟩
  obtain ⟨t1, t2, v2, t3, t4, t5⟩ := hat
  obtain ⟨a2, cap2, rfl, _, _⟩ := t4.row
  have hB2 : Below w.heap.size w w2 := HB1.out.trans ((hbA.mono (by omega)).trans (hb2.mono (by omega)))
  have hA2 : w2.heap[w.heap.size]? = some (.cells #[.slice a ns.length cap] 28 (0, 0)) := (hb2.block _ (by omega)).trans ((hbA.block _ (by omega)).trans HA1.out)
  have hR2 : w2.heap[w.heap.size + 1]? = some (.cells #[.slice none 0 0] 28 (0, 0)) := (hb2.block _ (by omega)).trans ((hbA.block _ (by omega)).trans HR1.out)
  have hs2 : w1.heap.size < w2.heap.size := t2
  clear HP HAt hb2 hbA HB1 HA1 HR1 t1 t2 t5
  by_cases hk : K < 0
  · have o0 : w2.cell? ⟨w.heap.size, 0, none⟩ = some (.slice a ns.length cap) := (cell_of_row w2 _ 0 _ _ _ hA2).trans rfl
    have HB2 : Hid (Below w.heap.size w w2) := hB2
    have HR2 : Hid (w2.heap[w.heap.size + 1]? = some (.cells #[.slice none 0 0] 28 (0, 0))) := hR2
    clear t3 t4 hA2 hR2 hB2
    go_wp2_with fail
    refine (specCopy_any a cap ns w2 hl HA.out (HR.out.grown HB2.out)).mono ?_
    rintro e w3 ⟨v3, rfl, ho3, hb3⟩
    obtain ⟨a3, cap3, rfl, _, _⟩ := ho3.row
    have hR3 := (hb3.block (w.heap.size + 1) (by omega)).trans HR2.out
    have r0 : w3.cell? ⟨w.heap.size + 1, 0, none⟩ = some (.slice none 0 0) := (cell_of_row w3 _ 0 _ _ _ hR3).trans rfl
    have f0 : w3.frozen? ⟨w.heap.size + 1, 0, none⟩ = false := frozen_of_row w3 _ 0 _ _ hR3
    have HBL : Hid ((w3.setCell ⟨w.heap.size + 1, 0, none⟩ (.slice a3 ns.length cap3)).heap[w.heap.size + 1]? = some (.cells #[.slice a3 ns.length cap3] 28 (0, 0))) := (heap_setCell_same w3 _ 0 _ _ _ hR3).trans rfl
    have HO3 : Hid (OwnN w.heap.size (w3.setCell ⟨w.heap.size + 1, 0, none⟩ (.slice a3 ns.length cap3)) (.slice a3 ns.length cap3) ns) := OwnN.base (ownsRow_setCell_below ho3 (show w.heap.size + 1 < w2.heap.size by omega) _) (by omega)
    have HB3 : Hid (Below w.heap.size w (w3.setCell ⟨w.heap.size + 1, 0, none⟩ (.slice a3 ns.length cap3))) := (HB2.out.trans (hb3.mono (by omega))).setCell (show w.heap.size ≤ w.heap.size + 1 by omega) _
    clear ho3 hb3 hR3 o0
    go_wp2
    refine bodyPost_ret (res_cell2 rfl _ _ (w.heap.size + 1) 28 #[.slice a3 ns.length cap3] (0, 0) _ rfl ?_ Try.underlying28 rfl arenaSize) rfl ?_
    · exact HBL.out
    · exact ⟨_, by rw [HN1.out hk]; rfl, by rw [HN2.out hk]; exact HO3.out, HB3.out⟩
  · have o0 : w2.cell? ⟨w1.heap.size, 0, none⟩ = some (.slice a2 A.length cap2) := (cell_of_row w2 _ 0 _ _ _ t3).trans rfl
    have r0 : w2.cell? ⟨w.heap.size + 1, 0, none⟩ = some (.slice none 0 0) := (cell_of_row w2 _ 0 _ _ _ hR2).trans rfl
    have f0 : w2.frozen? ⟨w.heap.size + 1, 0, none⟩ = false := frozen_of_row w2 _ 0 _ _ hR2
    have HBL : Hid ((w2.setCell ⟨w.heap.size + 1, 0, none⟩ (.slice a2 A.length cap2)).heap[w.heap.size + 1]? = some (.cells #[.slice a2 A.length cap2] 28 (0, 0))) := (heap_setCell_same w2 _ 0 _ _ _ hR2).trans rfl
    have HO2 : Hid (OwnN w.heap.size (w2.setCell ⟨w.heap.size + 1, 0, none⟩ (.slice a2 A.length cap2)) (.slice a2 A.length cap2) A) := OwnN.base (ownsRow_setCell_below t4 (show w.heap.size + 1 < w0.heap.size by omega) _) (by omega)
    have HB2 : Hid (Below w.heap.size w (w2.setCell ⟨w.heap.size + 1, 0, none⟩ (.slice a2 A.length cap2))) := hB2.setCell (show w.heap.size ≤ w.heap.size + 1 by omega) _
    clear t3 t4 hA2 hR2 hB2
    go_wp2
    refine bodyPost_ret (res_cell2 rfl _ _ (w.heap.size + 1) 28 #[.slice a2 A.length cap2] (0, 0) _ rfl ?_ Try.underlying28 rfl arenaSize) rfl ?_
    · exact HBL.out
    · exact ⟨_, rfl, by rw [HN3.out hk]; exact HO2.out, HB2.out⟩

set_option maxHeartbeats 800000 in
/-- spec.Make, the specification's. -/
theorem specMake_any (a : Option Addr) (cap : Nat) (ns : List Nd) (kind x y : Int) (w : World) (hl : ns.length ≤ 1048576) (ha : AddrN a cap) (hr : RowN w.heap.size w a ns) :
    Calls Try.prog 66 #[.agg #[.slice a ns.length cap], .int .i64 kind, .int .i64 x, .int .i64 y] w fun e w' => ∃ v, e = .returned (.tuple #[.agg #[v], .int .i64 (makeK ns kind x y)]) ∧ OwnN w.heap.size w' v (makeA ns kind x y) ∧ Below w.heap.size w w' := by
  obtain ⟨A, K, R, HP, HN1, HN2, HN3, hEA, hEK⟩ : ∃ (A : List Nd) (K : Int) (R : List Nd), Hid (∀ (B g : Nat) (wz : World), w.heap.size ≤ B → Below w.heap.size w wz → ArenaAt B wz g ns → B ≤ wz.heap.size → Calls Try.prog 135 #[.pointer (some ⟨g, 0, none⟩), .int .i64 kind, .int .i64 x, .int .i64 y] wz fun e w' => e = .returned (.int .i64 K) ∧ ArenaAt B w' g A ∧ Below B wz w') ∧ Hid (K < 0 → K = -1) ∧ Hid (K < 0 → R = ns) ∧ Hid (¬ K < 0 → R = A) ∧ R = makeA ns kind x y ∧ K = makeK ns kind x y :=
    ⟨makeA ns kind x y, makeK ns kind x y, makeA ns kind x y, fun B g wz hwB hwz h hB => specMakeP_any B g ns kind x y wz hl h hB, makeK_neg, makeA_neg, fun _ => rfl, rfl, rfl⟩
  rw [← hEA, ← hEK]
  clear hEA hEK
  have hb0 : Below w.heap.size w ((w.alloc (.cells #[.slice a ns.length cap] 28)).alloc (.cells #[.slice none 0 0] 28)) := ((Below.refl _ _).alloc (Nat.le_refl _) _).alloc (by simp) _
  have hs0 : ((w.alloc (.cells #[.slice a ns.length cap] 28)).alloc (.cells #[.slice none 0 0] 28)).heap.size = w.heap.size + 2 := by simp
  have hA0 : ((w.alloc (.cells #[.slice a ns.length cap] 28)).alloc (.cells #[.slice none 0 0] 28)).heap[w.heap.size]? = some (.cells #[.slice a ns.length cap] 28 (0, 0)) := (heap_alloc_old _ _ (by simp)).trans (heap_alloc_new w _)
  have hr0 : ((w.alloc (.cells #[.slice a ns.length cap] 28)).alloc (.cells #[.slice none 0 0] 28)).heap[w.heap.size + 1]? = some (.cells #[.slice none 0 0] 28 (0, 0)) := by
    have := heap_alloc_new (w.alloc (.cells #[.slice a ns.length cap] 28)) (.cells #[.slice none 0 0] 28)
    simpa using this
  have HR : Hid (RowN w.heap.size w a ns) := hr
  have HA : Hid (AddrN a cap) := ha
  clear hr ha
  go_enter Try.func66, Try.ntmps66
  go_wp2_with fail
  generalize (w.alloc (.cells #[.slice a ns.length cap] 28)).alloc (.cells #[.slice none 0 0] 28) = w0 at hb0 hs0 hA0 hr0 ⊢
  refine (specCopy_any a cap ns w0 hl HA.out (HR.out.grown hb0)).mono ?_
  rintro e w1 ⟨v, rfl, hown, hb1⟩
  obtain ⟨a1, cap1, rfl, ha1, hr1⟩ := hown.row
  have hA1 := (hb1.block w.heap.size (by omega)).trans hA0
  have hr1' := (hb1.block (w.heap.size + 1) (by omega)).trans hr0
  have hs1 := hb1.size
  have hbA : Below w1.heap.size w1 (w1.alloc (.cells #[.slice a1 ns.length cap1] 28)) := (Below.refl _ _).alloc (Nat.le_refl _) _
  have hAt : ArenaAt w0.heap.size (w1.alloc (.cells #[.slice a1 ns.length cap1] 28)) w1.heap.size ns := ⟨hs1, by simp, _, heap_alloc_new w1 _, hown.later hbA, fun h => by have := (hown.lt _ h).2; omega⟩
  have HB1 : Hid (Below w.heap.size w w1) := hb0.trans (hb1.mono (by omega))
  have HA1 : Hid (w1.heap[w.heap.size]? = some (.cells #[.slice a ns.length cap] 28 (0, 0))) := hA1
  have HR1 : Hid (w1.heap[w.heap.size + 1]? = some (.cells #[.slice none 0 0] 28 (0, 0))) := hr1'
  have HAt : Hid _ := hAt
  clear hAt hown hA1 hr1' hb0 hb1 hA0 hr0 ha1 hr1
  go_wp2_with fail
  refine Calls.mono (HP.out _ _ _ (show w.heap.size ≤ w0.heap.size by omega) (HB1.out.trans (hbA.mono (by omega))) HAt.out (by simp; omega)) ?_
  rintro e w2 ⟨rfl, hat, hb2⟩
  obtain ⟨t1, t2, v2, t3, t4, t5⟩ := hat
  obtain ⟨a2, cap2, rfl, _, _⟩ := t4.row
  have hB2 : Below w.heap.size w w2 := HB1.out.trans ((hbA.mono (by omega)).trans (hb2.mono (by omega)))
  have hA2 : w2.heap[w.heap.size]? = some (.cells #[.slice a ns.length cap] 28 (0, 0)) := (hb2.block _ (by omega)).trans ((hbA.block _ (by omega)).trans HA1.out)
  have hR2 : w2.heap[w.heap.size + 1]? = some (.cells #[.slice none 0 0] 28 (0, 0)) := (hb2.block _ (by omega)).trans ((hbA.block _ (by omega)).trans HR1.out)
  have hs2 : w1.heap.size < w2.heap.size := t2
  clear HP HAt hb2 hbA HB1 HA1 HR1 t1 t2 t5
  by_cases hk : K < 0
  · have o0 : w2.cell? ⟨w.heap.size, 0, none⟩ = some (.slice a ns.length cap) := (cell_of_row w2 _ 0 _ _ _ hA2).trans rfl
    have HB2 : Hid (Below w.heap.size w w2) := hB2
    have HR2 : Hid (w2.heap[w.heap.size + 1]? = some (.cells #[.slice none 0 0] 28 (0, 0))) := hR2
    clear t3 t4 hA2 hR2 hB2
    go_wp2_with fail
    refine (specCopy_any a cap ns w2 hl HA.out (HR.out.grown HB2.out)).mono ?_
    rintro e w3 ⟨v3, rfl, ho3, hb3⟩
    obtain ⟨a3, cap3, rfl, _, _⟩ := ho3.row
    have hR3 := (hb3.block (w.heap.size + 1) (by omega)).trans HR2.out
    have r0 : w3.cell? ⟨w.heap.size + 1, 0, none⟩ = some (.slice none 0 0) := (cell_of_row w3 _ 0 _ _ _ hR3).trans rfl
    have f0 : w3.frozen? ⟨w.heap.size + 1, 0, none⟩ = false := frozen_of_row w3 _ 0 _ _ hR3
    have HBL : Hid ((w3.setCell ⟨w.heap.size + 1, 0, none⟩ (.slice a3 ns.length cap3)).heap[w.heap.size + 1]? = some (.cells #[.slice a3 ns.length cap3] 28 (0, 0))) := (heap_setCell_same w3 _ 0 _ _ _ hR3).trans rfl
    have HO3 : Hid (OwnN w.heap.size (w3.setCell ⟨w.heap.size + 1, 0, none⟩ (.slice a3 ns.length cap3)) (.slice a3 ns.length cap3) ns) := OwnN.base (ownsRow_setCell_below ho3 (show w.heap.size + 1 < w2.heap.size by omega) _) (by omega)
    have HB3 : Hid (Below w.heap.size w (w3.setCell ⟨w.heap.size + 1, 0, none⟩ (.slice a3 ns.length cap3))) := (HB2.out.trans (hb3.mono (by omega))).setCell (show w.heap.size ≤ w.heap.size + 1 by omega) _
    clear ho3 hb3 hR3 o0
    go_wp2
    refine bodyPost_ret (res_cell2 rfl _ _ (w.heap.size + 1) 28 #[.slice a3 ns.length cap3] (0, 0) _ rfl ?_ Try.underlying28 rfl arenaSize) rfl ?_
    · exact HBL.out
    · exact ⟨_, by rw [HN1.out hk]; rfl, by rw [HN2.out hk]; exact HO3.out, HB3.out⟩
  · have o0 : w2.cell? ⟨w1.heap.size, 0, none⟩ = some (.slice a2 A.length cap2) := (cell_of_row w2 _ 0 _ _ _ t3).trans rfl
    have r0 : w2.cell? ⟨w.heap.size + 1, 0, none⟩ = some (.slice none 0 0) := (cell_of_row w2 _ 0 _ _ _ hR2).trans rfl
    have f0 : w2.frozen? ⟨w.heap.size + 1, 0, none⟩ = false := frozen_of_row w2 _ 0 _ _ hR2
    have HBL : Hid ((w2.setCell ⟨w.heap.size + 1, 0, none⟩ (.slice a2 A.length cap2)).heap[w.heap.size + 1]? = some (.cells #[.slice a2 A.length cap2] 28 (0, 0))) := (heap_setCell_same w2 _ 0 _ _ _ hR2).trans rfl
    have HO2 : Hid (OwnN w.heap.size (w2.setCell ⟨w.heap.size + 1, 0, none⟩ (.slice a2 A.length cap2)) (.slice a2 A.length cap2) A) := OwnN.base (ownsRow_setCell_below t4 (show w.heap.size + 1 < w0.heap.size by omega) _) (by omega)
    have HB2 : Hid (Below w.heap.size w (w2.setCell ⟨w.heap.size + 1, 0, none⟩ (.slice a2 A.length cap2))) := hB2.setCell (show w.heap.size ≤ w.heap.size + 1 by omega) _
    clear t3 t4 hA2 hR2 hB2
    go_wp2
    refine bodyPost_ret (res_cell2 rfl _ _ (w.heap.size + 1) 28 #[.slice a2 A.length cap2] (0, 0) _ rfl ?_ Try.underlying28 rfl arenaSize) rfl ?_
    · exact HBL.out
    · exact ⟨_, rfl, by rw [HN3.out hk]; exact HO2.out, HB2.out⟩
end Go.Proofs.Ytffnadnndmmliaa
