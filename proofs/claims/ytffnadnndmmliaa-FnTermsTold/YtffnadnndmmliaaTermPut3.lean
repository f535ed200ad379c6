/- The contract of chapter 3's Put, the specification's. -/
import Derived.Test.YtffnadnndmmliaaTermPut2
import Derived.WalkKit
import Derived.WalkLawsBesides
import Derived.WalkSpells
import Derived.Laws.Rows
namespace Go.Proofs.Ytffnadnndmmliaa
open Go.RowKit

theorem specPut_any (a : Option Addr) (cap : Nat) (ns : List Nd) (x : Nd) (w : World) (hl : ns.length ≤ 1048576) (ha : AddrN a cap) (hr : RowN w.heap.size w a ns) :
    Calls Try.prog 34 #[.agg #[.slice a ns.length cap], .agg #[.int .i64 x.k, .int .i64 x.n, .int .i64 x.a, .int .i64 x.b]] w fun e w' => ∃ v, e = .returned (.tuple #[.agg #[v], .int .i64 (putK ns x)]) ∧ OwnN w.heap.size w' v (putA ns x) ∧ Below w.heap.size w w' := by
  have HR : Hid (RowN w.heap.size w a ns) := hr
  have HA : Hid (AddrN a cap) := ha
  clear hr ha
  go_enter Try.func34, Try.ntmps34
  go_wp2_with fail
  have hb0 : Below w.heap.size w (((w.alloc (.cells #[.slice a ns.length cap] 28)).alloc (.cells #[.int .i64 x.k, .int .i64 x.n, .int .i64 x.a, .int .i64 x.b] 45)).alloc (.cells #[.slice none 0 0] 28)) := (((Below.refl _ _).alloc (Nat.le_refl _) _).alloc (by simp) _).alloc (by simp; omega) _
  have hs0 : (((w.alloc (.cells #[.slice a ns.length cap] 28)).alloc (.cells #[.int .i64 x.k, .int .i64 x.n, .int .i64 x.a, .int .i64 x.b] 45)).alloc (.cells #[.slice none 0 0] 28)).heap.size = w.heap.size + 3 := by simp
  have hn0 : (((w.alloc (.cells #[.slice a ns.length cap] 28)).alloc (.cells #[.int .i64 x.k, .int .i64 x.n, .int .i64 x.a, .int .i64 x.b] 45)).alloc (.cells #[.slice none 0 0] 28)).heap[w.heap.size + 1]? = some (.cells #[.int .i64 x.k, .int .i64 x.n, .int .i64 x.a, .int .i64 x.b] 45 (0, 0)) := by
    rw [heap_alloc_old _ _ (by simp)]
    have := heap_alloc_new (w.alloc (.cells #[.slice a ns.length cap] 28)) (.cells #[.int .i64 x.k, .int .i64 x.n, .int .i64 x.a, .int .i64 x.b] 45)
    simpa using this
  have hr0 : (((w.alloc (.cells #[.slice a ns.length cap] 28)).alloc (.cells #[.int .i64 x.k, .int .i64 x.n, .int .i64 x.a, .int .i64 x.b] 45)).alloc (.cells #[.slice none 0 0] 28)).heap[w.heap.size + 1 + 1]? = some (.cells #[.slice none 0 0] 28 (0, 0)) := by
    have := heap_alloc_new ((w.alloc (.cells #[.slice a ns.length cap] 28)).alloc (.cells #[.int .i64 x.k, .int .i64 x.n, .int .i64 x.a, .int .i64 x.b] 45)) (.cells #[.slice none 0 0] 28)
    simpa using this
  generalize ((w.alloc (.cells #[.slice a ns.length cap] 28)).alloc (.cells #[.int .i64 x.k, .int .i64 x.n, .int .i64 x.a, .int .i64 x.b] 45)).alloc (.cells #[.slice none 0 0] 28) = w0 at hb0 hs0 hn0 hr0 ⊢
  refine (specCopy_any a cap ns w0 hl HA.out (HR.out.grown hb0)).mono ?_
  rintro e w1 ⟨v, rfl, hown, hb1⟩
  obtain ⟨a1, cap1, rfl, ha1, hr1⟩ := hown.row
  have hn1 := (hb1.block (w.heap.size + 1) (by omega)).trans hn0
  have hr1' := (hb1.block (w.heap.size + 1 + 1) (by omega)).trans hr0
  have hs1 := hb1.size
  have hbA : Below w1.heap.size w1 (w1.alloc (.cells #[.slice a1 ns.length cap1] 28)) := (Below.refl _ _).alloc (Nat.le_refl _) _
  have n0 : (w1.alloc (.cells #[.slice a1 ns.length cap1] 28)).cell? ⟨w.heap.size + 1, 0, none⟩ = some (.int .i64 x.k) := (hbA.cell (p := ⟨w.heap.size + 1, 0, none⟩) (show w.heap.size + 1 < w1.heap.size by omega)).trans (by rw [cell_of_row w1 _ 0 _ _ _ hn1]; rfl)
  have n1 : (w1.alloc (.cells #[.slice a1 ns.length cap1] 28)).cell? ⟨w.heap.size + 1, 1, none⟩ = some (.int .i64 x.n) := (hbA.cell (p := ⟨w.heap.size + 1, 1, none⟩) (show w.heap.size + 1 < w1.heap.size by omega)).trans (by rw [cell_of_row w1 _ 1 _ _ _ hn1]; rfl)
  have n2 : (w1.alloc (.cells #[.slice a1 ns.length cap1] 28)).cell? ⟨w.heap.size + 1, 2, none⟩ = some (.int .i64 x.a) := (hbA.cell (p := ⟨w.heap.size + 1, 2, none⟩) (show w.heap.size + 1 < w1.heap.size by omega)).trans (by rw [cell_of_row w1 _ 2 _ _ _ hn1]; rfl)
  have n3 : (w1.alloc (.cells #[.slice a1 ns.length cap1] 28)).cell? ⟨w.heap.size + 1, 3, none⟩ = some (.int .i64 x.b) := (hbA.cell (p := ⟨w.heap.size + 1, 3, none⟩) (show w.heap.size + 1 < w1.heap.size by omega)).trans (by rw [cell_of_row w1 _ 3 _ _ _ hn1]; rfl)
  have hAt : ArenaAt w0.heap.size (w1.alloc (.cells #[.slice a1 ns.length cap1] 28)) w1.heap.size ns := ⟨hs1, by simp, _, heap_alloc_new w1 _, hown.later hbA, fun h => by have := (hown.lt _ h).2; omega⟩
  have HP : Hid _ := specPutP_any w0.heap.size w1.heap.size ns x (w1.alloc (.cells #[.slice a1 ns.length cap1] 28)) hl hAt (by simp; omega)
  clear hAt
  have HX : Hid _ := And.intro hown (And.intro hn1 (And.intro hr1' (And.intro hb0 hb1)))
  clear hown hn1 hr1' hb0 hb1 hn0 hr0 ha1 hr1
  go_wp2_with fail
  refine Calls.mono HP.out ?_
  rintro e w2 ⟨rfl, hat, hb2⟩
  obtain ⟨t1, t2, v2, t3, t4, t5⟩ := hat
  obtain ⟨a2, cap2, rfl, _, _⟩ := t4.row
  have o0 : w2.cell? ⟨w1.heap.size, 0, none⟩ = some (.slice a2 (putA ns x).length cap2) := by rw [cell_of_row w2 _ 0 _ _ _ t3]; rfl
  have hrb : w2.heap[w.heap.size + 1 + 1]? = some (.cells #[.slice none 0 0] 28 (0, 0)) := (hb2.block _ (by omega)).trans ((hbA.block _ (by omega)).trans HX.out.2.2.1)
  have r0 : w2.cell? ⟨w.heap.size + 1 + 1, 0, none⟩ = some (.slice none 0 0) := by rw [cell_of_row w2 _ 0 _ _ _ hrb]; rfl
  have f0 : w2.frozen? ⟨w.heap.size + 1 + 1, 0, none⟩ = false := frozen_of_row w2 _ 0 _ _ hrb
  have HBL : Hid ((w2.setCell ⟨w.heap.size + 1 + 1, 0, none⟩ (.slice a2 (putA ns x).length cap2)).heap[w.heap.size + 1 + 1]? = some (.cells #[.slice a2 (putA ns x).length cap2] 28 (0, 0))) := by
    show _ = _
    rw [heap_setCell_same w2 _ 0 _ _ _ hrb]; rfl
  have HO2 : Hid (OwnN w.heap.size (w2.setCell ⟨w.heap.size + 1 + 1, 0, none⟩ (.slice a2 (putA ns x).length cap2)) (.slice a2 (putA ns x).length cap2) (putA ns x)) := OwnN.base (ownsRow_setCell_below t4 (show w.heap.size + 1 + 1 < w0.heap.size by omega) _) (by omega)
  have HB2 : Hid (Below w.heap.size w (w2.setCell ⟨w.heap.size + 1 + 1, 0, none⟩ (.slice a2 (putA ns x).length cap2))) := ((HX.out.2.2.2.1.trans (HX.out.2.2.2.2.mono (by omega))).trans ((hbA.mono (by omega)).trans (hb2.mono (by omega)))).setCell (show w.heap.size ≤ w.heap.size + 1 + 1 by omega) _
  clear t3 t4 t5 hrb hb2 HP HX hbA
  go_wp2
  refine bodyPost_ret (res_cell2 rfl _ _ (w.heap.size + 1 + 1) 28 #[.slice a2 (putA ns x).length cap2] (0, 0) _ rfl ?_ Try.underlying28 rfl arenaSize) rfl ?_
  · exact HBL.out
  · exact ⟨_, rfl, HO2.out, HB2.out⟩
end Go.Proofs.Ytffnadnndmmliaa
