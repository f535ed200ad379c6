/- The contract of chapter 16's PacketTerm, the specification's. -/
import Derived.Test.YtclnhjkmhemebaaPack16
namespace Go.Proofs.Ytclnhjkmhemebaa
open Go.RowKit
set_option linter.unusedVariables false
theorem specPack4D_any (D : Nat → Prop) (g : Nat) (ns : List Nd) (mo na no pu : Int) (w : World) (hl : ns.length ≤ 1048576) (h : ArD D w g ns) (hB : ∀ k, D k → k < w.heap.size) :
    Calls Try.prog 97 #[.pointer (some ⟨g, 0, none⟩), .agg #[.int .i64 mo, .int .i64 na, .int .i64 no, .int .i64 pu]] w fun e w' => e = .returned (.int .i64 (pkK ns ⟨mo, na, no, pu⟩)) ∧ ArD D w' g (pkA ns ⟨mo, na, no, pu⟩) ∧ Safe D w w' := specPackD_any D g ns ⟨mo, na, no, pu⟩ w hl h hB
set_option maxHeartbeats 1600000 in
theorem specPacket4_any (a : Option Addr) (cap : Nat) (ns : List Nd) (mo : Int) (na : Int) (no : Int) (pu : Int) (w : World) (hl : ns.length ≤ 1048576) (ha : AddrN a cap) (hr : RowN w.heap.size w a ns) :
    Calls Try.prog 42 #[.agg #[.slice a ns.length cap], .agg #[.int .i64 mo, .int .i64 na, .int .i64 no, .int .i64 pu]] w fun e w' => ∃ v, e = .returned (.tuple #[.agg #[v], .int .i64 (pkK ns ⟨mo, na, no, pu⟩)]) ∧ OwnN w.heap.size w' v (keptA ns (pkA ns ⟨mo, na, no, pu⟩) (pkK ns ⟨mo, na, no, pu⟩)) ∧ Below w.heap.size w w' := by
  obtain ⟨A, K, HP, HN, hEK, hEA⟩ : ∃ (A : List Nd) (K : Int), Hid (∀ (B g : Nat) (wz : World), ArenaAt B wz g ns → B ≤ wz.heap.size → Calls Try.prog 97 #[.pointer (some ⟨g, 0, none⟩), .agg #[.int .i64 mo, .int .i64 na, .int .i64 no, .int .i64 pu]] wz fun e w' => e = .returned (.int .i64 K) ∧ ArenaAt B w' g A ∧ Below B wz w') ∧ Hid True ∧ K = pkK ns ⟨mo, na, no, pu⟩ ∧ A = pkA ns ⟨mo, na, no, pu⟩ := ⟨_, _, fun B g wz h hB => (specPack4D_any (fun k => k < B) g ns mo na no pu wz hl h.toD (fun k hk => Nat.lt_of_lt_of_le hk hB)).mono fun _ _ ⟨he, ha, hs⟩ => ⟨he, ha.toB, hs.below (fun k hk => hk)⟩, trivial, rfl, rfl⟩
  rw [← hEK, ← hEA]
  clear hEK hEA HN
  have hb0 : Below w.heap.size w (((w.alloc (.cells #[.slice a ns.length cap] 50)).alloc (.cells #[.int .i64 mo, .int .i64 na, .int .i64 no, .int .i64 pu] 52)).alloc (.cells #[.slice none 0 0] 50)) := (((Below.refl _ _).alloc (Nat.le_refl _) _).alloc (by simp) _).alloc (by simp; omega) _
  have hs0 : (((w.alloc (.cells #[.slice a ns.length cap] 50)).alloc (.cells #[.int .i64 mo, .int .i64 na, .int .i64 no, .int .i64 pu] 52)).alloc (.cells #[.slice none 0 0] 50)).heap.size = w.heap.size + 3 := by simp
  have hA0 : (((w.alloc (.cells #[.slice a ns.length cap] 50)).alloc (.cells #[.int .i64 mo, .int .i64 na, .int .i64 no, .int .i64 pu] 52)).alloc (.cells #[.slice none 0 0] 50)).heap[w.heap.size]? = some (.cells #[.slice a ns.length cap] 50 (0, 0)) := (heap_alloc_old _ _ (by simp; omega)).trans ((heap_alloc_old _ _ (by simp)).trans (heap_alloc_new w _))
  have hr0 : (((w.alloc (.cells #[.slice a ns.length cap] 50)).alloc (.cells #[.int .i64 mo, .int .i64 na, .int .i64 no, .int .i64 pu] 52)).alloc (.cells #[.slice none 0 0] 50)).heap[w.heap.size + 2]? = some (.cells #[.slice none 0 0] 50 (0, 0)) := by
    have := heap_alloc_new ((w.alloc (.cells #[.slice a ns.length cap] 50)).alloc (.cells #[.int .i64 mo, .int .i64 na, .int .i64 no, .int .i64 pu] 52)) (.cells #[.slice none 0 0] 50)
    simpa using this
  have hh0 : (((w.alloc (.cells #[.slice a ns.length cap] 50)).alloc (.cells #[.int .i64 mo, .int .i64 na, .int .i64 no, .int .i64 pu] 52)).alloc (.cells #[.slice none 0 0] 50)).heap[w.heap.size + 1]? = some (.cells #[.int .i64 mo, .int .i64 na, .int .i64 no, .int .i64 pu] 52 (0, 0)) := by
    have := heap_alloc_new (w.alloc (.cells #[.slice a ns.length cap] 50)) (.cells #[.int .i64 mo, .int .i64 na, .int .i64 no, .int .i64 pu] 52)
    exact (heap_alloc_old _ _ (by simp)).trans (by simpa using this)
  have HR : Hid (RowN w.heap.size w a ns) := hr
  have HA : Hid (AddrN a cap) := ha
  clear hr ha
  go_enter Try.func42, Try.ntmps42
  go_wp2_with fail
  generalize ((w.alloc (.cells #[.slice a ns.length cap] 50)).alloc (.cells #[.int .i64 mo, .int .i64 na, .int .i64 no, .int .i64 pu] 52)).alloc (.cells #[.slice none 0 0] 50) = w0 at hb0 hs0 hA0 hr0 hh0 ⊢
  refine (specCopy_any a cap ns w0 hl HA.out (HR.out.grown hb0)).mono ?_
  rintro e w1 ⟨v, rfl, hown, hb1⟩
  obtain ⟨a1, cap1, rfl, ha1, hr1⟩ := hown.row
  have hs1 := hb1.size
  have hbA : Below w1.heap.size w1 (w1.alloc (.cells #[.slice a1 ns.length cap1] 50)) := (Below.refl _ _).alloc (Nat.le_refl _) _
  have HAt : Hid (ArenaAt w0.heap.size (w1.alloc (.cells #[.slice a1 ns.length cap1] 50)) w1.heap.size ns) := ⟨hs1, by simp, _, heap_alloc_new w1 _, hown.later hbA, fun h => by have := (hown.lt _ h).2; omega⟩
  have HB1 : Hid (Below w.heap.size w (w1.alloc (.cells #[.slice a1 ns.length cap1] 50))) := (hb0.trans (hb1.mono (by omega))).trans (hbA.mono (by omega))
  have HA1 : Hid ((w1.alloc (.cells #[.slice a1 ns.length cap1] 50)).heap[w.heap.size]? = some (.cells #[.slice a ns.length cap] 50 (0, 0))) := (hbA.block _ (by omega)).trans ((hb1.block w.heap.size (by omega)).trans hA0)
  have HR1 : Hid ((w1.alloc (.cells #[.slice a1 ns.length cap1] 50)).heap[w.heap.size + 2]? = some (.cells #[.slice none 0 0] 50 (0, 0))) := (hbA.block _ (by omega)).trans ((hb1.block (w.heap.size + 2) (by omega)).trans hr0)
  have hh1 : (w1.alloc (.cells #[.slice a1 ns.length cap1] 50)).heap[w.heap.size + 1]? = some (.cells #[.int .i64 mo, .int .i64 na, .int .i64 no, .int .i64 pu] 52 (0, 0)) := (hbA.block _ (by omega)).trans ((hb1.block (w.heap.size + 1) (by omega)).trans hh0)
  have g0 : (w1.alloc (.cells #[.slice a1 ns.length cap1] 50)).cell? ⟨w.heap.size + 1, 0, none⟩ = some (.int .i64 mo) := (cell_of_row _ _ 0 _ _ _ hh1).trans rfl
  have g1 : (w1.alloc (.cells #[.slice a1 ns.length cap1] 50)).cell? ⟨w.heap.size + 1, 1, none⟩ = some (.int .i64 na) := (cell_of_row _ _ 1 _ _ _ hh1).trans rfl
  have g2 : (w1.alloc (.cells #[.slice a1 ns.length cap1] 50)).cell? ⟨w.heap.size + 1, 2, none⟩ = some (.int .i64 no) := (cell_of_row _ _ 2 _ _ _ hh1).trans rfl
  have g3 : (w1.alloc (.cells #[.slice a1 ns.length cap1] 50)).cell? ⟨w.heap.size + 1, 3, none⟩ = some (.int .i64 pu) := (cell_of_row _ _ 3 _ _ _ hh1).trans rfl
  clear hown hb0 hb1 hA0 hr0 ha1 hr1 hbA hh0 hh1
  go_wp2_with fail
  clear g0 g1 g2 g3
  refine Calls.mono (HP.out _ _ _ HAt.out (by simp; omega)) ?_
  rintro e w2 ⟨rfl, hat, hb2⟩
  obtain ⟨t1, t2, v2, t3, t4, t5⟩ := hat
  obtain ⟨a2, cap2, rfl, -, -⟩ := t4.row
  have HB2 : Hid (Below w.heap.size w w2) := HB1.out.trans (hb2.mono (by omega))
  have hA2 := (hb2.block w.heap.size (by omega)).trans HA1.out
  have hR2 := (hb2.block (w.heap.size + 2) (by omega)).trans HR1.out
  have o0 : w2.cell? ⟨w.heap.size, 0, none⟩ = some (.slice a ns.length cap) := (cell_of_row w2 _ 0 _ _ _ hA2).trans rfl
  have o1 : w2.cell? ⟨w1.heap.size, 0, none⟩ = some (.slice a2 A.length cap2) := (cell_of_row w2 _ 0 _ _ _ t3).trans rfl
  have HR2 : Hid (w2.heap[w.heap.size + 2]? = some (.cells #[.slice none 0 0] 50 (0, 0))) := hR2
  have HO2 : Hid (OwnN w0.heap.size w2 (.slice a2 A.length cap2) A) := t4
  have hs2 : w1.heap.size < w2.heap.size := t2
  clear HP HAt hb2 HB1 HA1 HR1 t1 t2 t3 t4 t5 hA2 hR2
  go_wp2_with fail
  refine (kept_any a a2 cap cap2 ns A K w2 hl HA.out (HR.out.grown HB2.out)).mono ?_
  rintro e w3 ⟨v3, rfl, hb3, hn3, hp3⟩
  obtain ⟨a3, n3, c3, rfl⟩ : ∃ a n c, v3 = .slice a n c := by
    by_cases hk : K < 0
    · obtain ⟨a3, c3, rfl, -, -⟩ := (hn3 hk).row; exact ⟨_, _, _, rfl⟩
    · exact ⟨_, _, _, hp3 hk⟩
  have hR3 := (hb3.block (w.heap.size + 2) (by omega)).trans HR2.out
  have r0 : w3.cell? ⟨w.heap.size + 2, 0, none⟩ = some (.slice none 0 0) := (cell_of_row w3 _ 0 _ _ _ hR3).trans rfl
  have f0 : w3.frozen? ⟨w.heap.size + 2, 0, none⟩ = false := frozen_of_row w3 _ 0 _ _ hR3
  have HBL : Hid ((w3.setCell ⟨w.heap.size + 2, 0, none⟩ (.slice a3 n3 c3)).heap[w.heap.size + 2]? = some (.cells #[.slice a3 n3 c3] 50 (0, 0))) := (heap_setCell_same w3 _ 0 _ _ _ hR3).trans rfl
  have HO3 : Hid (OwnN w.heap.size (w3.setCell ⟨w.heap.size + 2, 0, none⟩ (.slice a3 n3 c3)) (.slice a3 n3 c3) (keptA ns A K)) := by
    by_cases hk : K < 0
    · show OwnN _ _ _ _; rw [keptA_neg hk]; exact OwnN.base (ownsRow_setCell_below (hn3 hk) (show w.heap.size + 2 < w2.heap.size by omega) _) (by omega)
    · show OwnN _ _ _ _; rw [keptA_pos hk, hp3 hk]; exact OwnN.base (ownsRow_setCell_below (HO2.out.later hb3) (show w.heap.size + 2 < w0.heap.size by omega) _) (by omega)
  have HB3 : Hid (Below w.heap.size w (w3.setCell ⟨w.heap.size + 2, 0, none⟩ (.slice a3 n3 c3))) := (HB2.out.trans (hb3.mono (by omega))).setCell (show w.heap.size ≤ w.heap.size + 2 by omega) _
  clear hb3 hn3 hp3 hR3 o0 o1 HO2 HR2 HB2
  go_wp2
  refine bodyPost_ret (res_cell2 rfl _ _ (w.heap.size + 2) 50 #[.slice a3 n3 c3] (0, 0) _ rfl ?_ Try.underlying50 rfl arenaSize) rfl ?_
  · exact HBL.out
  · exact ⟨_, rfl, HO3.out, HB3.out⟩
theorem specPacket_any (a : Option Addr) (cap : Nat) (ns : List Nd) (p : Nd) (w : World) (hl : ns.length ≤ 1048576) (ha : AddrN a cap) (hr : RowN w.heap.size w a ns) :
    Calls Try.prog 42 #[.agg #[.slice a ns.length cap], .agg #[.int .i64 p.k, .int .i64 p.n, .int .i64 p.a, .int .i64 p.b]] w fun e w' => ∃ v, e = .returned (.tuple #[.agg #[v], .int .i64 (pkK ns p)]) ∧ OwnN w.heap.size w' v (keptA ns (pkA ns p) (pkK ns p)) ∧ Below w.heap.size w w' := specPacket4_any a cap ns p.k p.n p.a p.b w hl ha hr
end Go.Proofs.Ytclnhjkmhemebaa
