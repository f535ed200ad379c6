/- The contracts of chapter 3's terms behind their interface, the program's: the three node methods, termOf, isAhead, rightTerm, NodeOk. -/
import Derived.Test.YtffnadnndmmliaaTermPut
import Derived.WalkKit
import Derived.WalkLawsBesides
import Derived.WalkSpells
import Derived.Laws.ResultCell
import Derived.Laws.Rows
import Derived.Deep.RegionHeld3
import Derived.Deep.QuietTactic
import Derived.BigQuiet
import Derived.Deep.RegionWith
namespace Go.Proofs.Ytffnadnndmmliaa
open Go.RowKit

theorem nodeSizeI : (Try.prog.info? 45).map (·.size) = some 4 := by kernel_rfl
theorem atomNode_any (n : Int) (w : World) :
    Calls Try.prog 217 #[.agg #[.int .i64 n]] w fun e w' => e = .returned (.agg #[.int .i64 1, .int .i64 n, .int .i64 0, .int .i64 0]) ∧ Below w.heap.size w w' := by
  go_enter Try.func217, Try.ntmps217
  go_wp2
  refine bodyPost_ret (results_cell_row rfl _ _ (w.heap.size + 1) 45 #[.int .i64 1, .int .i64 n, .int .i64 0, .int .i64 0] (0, 0) _ rfl ?_ Try.underlying45 rfl nodeSizeI) rfl ?_
  · have := heap_alloc_new (w.alloc (.cells #[.int .i64 n] 154)) (.cells #[.int .i64 1, .int .i64 n, .int .i64 0, .int .i64 0] 45)
    simpa using this
  · exact ⟨rfl, ((Below.refl _ _).alloc (Nat.le_refl _) _).alloc (by simp) _⟩
theorem oneNode_any (k a : Int) (w : World) :
    Calls Try.prog 218 #[.agg #[.int .i64 k, .int .i64 a]] w fun e w' => e = .returned (.agg #[.int .i64 k, .int .i64 0, .int .i64 a, .int .i64 0]) ∧ Below w.heap.size w w' := by
  go_enter Try.func218, Try.ntmps218
  go_wp2
  refine bodyPost_ret (results_cell_row rfl _ _ (w.heap.size + 1) 45 #[.int .i64 k, .int .i64 0, .int .i64 a, .int .i64 0] (0, 0) _ rfl ?_ Try.underlying45 rfl nodeSizeI) rfl ?_
  · have := heap_alloc_new (w.alloc (.cells #[.int .i64 k, .int .i64 a] 156)) (.cells #[.int .i64 k, .int .i64 0, .int .i64 a, .int .i64 0] 45)
    simpa using this
  · exact ⟨rfl, ((Below.refl _ _).alloc (Nat.le_refl _) _).alloc (by simp) _⟩
theorem twoNode_any (k a b : Int) (w : World) :
    Calls Try.prog 219 #[.agg #[.int .i64 k, .int .i64 a, .int .i64 b]] w fun e w' => e = .returned (.agg #[.int .i64 k, .int .i64 0, .int .i64 a, .int .i64 b]) ∧ Below w.heap.size w w' := by
  go_enter Try.func219, Try.ntmps219
  go_wp2
  refine bodyPost_ret (results_cell_row rfl _ _ (w.heap.size + 1) 45 #[.int .i64 k, .int .i64 0, .int .i64 a, .int .i64 b] (0, 0) _ rfl ?_ Try.underlying45 rfl nodeSizeI) rfl ?_
  · have := heap_alloc_new (w.alloc (.cells #[.int .i64 k, .int .i64 a, .int .i64 b] 158)) (.cells #[.int .i64 k, .int .i64 0, .int .i64 a, .int .i64 b] 45)
    simpa using this
  · exact ⟨rfl, ((Below.refl _ _).alloc (Nat.le_refl _) _).alloc (by simp) _⟩
theorem inB_false' {x lo hi : Int} (h : inB x lo hi = false) : x < lo ∨ hi < x := by
  unfold inB at h; simp at h; omega
theorem ahead_any (x k : Int) (w : World) :
    Calls Try.prog 94 #[.int .i64 x, .int .i64 k] w fun e w' => e = .returned (.bool (inB x 0 (k - 1))) ∧ w = w' := by
  unfold inB
  by_cases h1 : 0 ≤ x <;> by_cases h2 : x < k
  all_goals
    have e2 : decide (x ≤ k - 1) = decide (x < k) := by simp; omega
    rw [e2]
    clear e2
    go_enter Try.func94, Try.ntmps94
    go_wp2
    go_ret
    exact ⟨by simp [h1, h2], rfl⟩

/-- The worlds in which a node that was boxed stands as it did: a class that calls keep. -/
theorem box_class (w : World) (k n a b : Int) : ∃ S : World → Prop, S (w.alloc (.cells #[.int .i64 k, .int .i64 n, .int .i64 a, .int .i64 b] 45)).drew ∧ Nonempty (Hw S) ∧ (∀ s : Hw S, s.w.cell? ⟨w.heap.size, 0, none⟩ = some (.int .i64 k)) ∧ (∀ s : Hw S, s.w.cell? ⟨w.heap.size, 1, none⟩ = some (.int .i64 n)) ∧ (∀ s : Hw S, s.w.cell? ⟨w.heap.size, 2, none⟩ = some (.int .i64 a)) ∧ (∀ s : Hw S, s.w.cell? ⟨w.heap.size, 3, none⟩ = some (.int .i64 b)) ∧
    Hid ((∀ (s : Hw S) w', Below s.w.heap.size s.w w' → S w') ∧ (∀ w', S w' → Below w.heap.size w w')) := by
  have hb : Below w.heap.size w (w.alloc (.cells #[.int .i64 k, .int .i64 n, .int .i64 a, .int .i64 b] 45)) := (Below.refl _ _).alloc (Nat.le_refl _) _
  have hn := heap_alloc_new w (.cells #[.int .i64 k, .int .i64 n, .int .i64 a, .int .i64 b] 45)
  refine ⟨fun w' => (w'.cell? ⟨w.heap.size, 0, none⟩ = some (.int .i64 k) ∧ w'.cell? ⟨w.heap.size, 1, none⟩ = some (.int .i64 n) ∧ w'.cell? ⟨w.heap.size, 2, none⟩ = some (.int .i64 a) ∧ w'.cell? ⟨w.heap.size, 3, none⟩ = some (.int .i64 b)) ∧ w.heap.size < w'.heap.size ∧ Below w.heap.size w w', ?_, ?_, fun s => s.ok.1.1, fun s => s.ok.1.2.1, fun s => s.ok.1.2.2.1, fun s => s.ok.1.2.2.2, ⟨fun s w' h1 => ?_, fun _ h => h.2.2⟩⟩
  · exact ⟨⟨(cell_of_row _ w.heap.size 0 _ _ _ hn).trans rfl, (cell_of_row _ w.heap.size 1 _ _ _ hn).trans rfl, (cell_of_row _ w.heap.size 2 _ _ _ hn).trans rfl, (cell_of_row _ w.heap.size 3 _ _ _ hn).trans rfl⟩, by simp, hb.drew⟩
  · exact ⟨⟨_, ⟨(cell_of_row _ w.heap.size 0 _ _ _ hn).trans rfl, (cell_of_row _ w.heap.size 1 _ _ _ hn).trans rfl, (cell_of_row _ w.heap.size 2 _ _ _ hn).trans rfl, (cell_of_row _ w.heap.size 3 _ _ _ hn).trans rfl⟩, by simp, hb⟩⟩
  · obtain ⟨⟨e0, e1, e2, e3⟩, e5, e6⟩ := s.ok
    exact ⟨⟨(h1.cell (p := ⟨w.heap.size, 0, none⟩) e5).trans e0, (h1.cell (p := ⟨w.heap.size, 1, none⟩) e5).trans e1, (h1.cell (p := ⟨w.heap.size, 2, none⟩) e5).trans e2, (h1.cell (p := ⟨w.heap.size, 3, none⟩) e5).trans e3⟩, Nat.lt_of_lt_of_le e5 h1.size, e6.trans (h1.mono e6.size)⟩

/-- termOf of an atom. -/
theorem termOf_atom (k n a b : Int) (w : World) (hk : k = 1) :
    Calls Try.prog 151 #[.agg #[.int .i64 k, .int .i64 n, .int .i64 a, .int .i64 b]] w fun e w' => e = .returned (.tuple #[.iface 154 (.agg #[.int .i64 n]), .bool (decide (0 = a) && decide (0 = b))]) ∧ Below w.heap.size w w' := by
  rcases hk with rfl
  all_goals
    obtain ⟨S, hS0, hNE, q0, q1, q2, q3, HK⟩ := box_class w _ n a b
    have hgd := nodeGuard
    have hel := node_eql ⟨1, n, 0, 0⟩ ⟨1, n, a, b⟩
    have hm : ∀ (w : World), (method 313 154 (.agg #[.int .i64 n]) "loop.example/g00466/impl.node").run Try.prog w = .ok (217, .agg #[.int .i64 n]) w := fun _ => by kernel_rfl
    go_enter Try.func151, Try.ntmps151
    go_wp2_with fail
    refine wp_region_held (S := S) (by kernel_rfl) (by kernel_rfl) hS0 ?_
    repeat (go_big_quiet_step ((go_at_call 217; exact Calls.held (atomNode_any n _) (HK.out.1 _))))
    refine wpQuiet_nil ?_
    rintro _ ⟨sw, rfl⟩
    have hB := HK.out.2 _ sw.ok
    clear HK q0 q1 q2 q3 hS0
    go_wp2
    go_ret2
    exact ⟨rfl, hB⟩

/-- termOf of a term with one. -/
theorem termOf_one (k n a b : Int) (w : World) (hk : k = 3 ∨ k = 6) :
    Calls Try.prog 151 #[.agg #[.int .i64 k, .int .i64 n, .int .i64 a, .int .i64 b]] w fun e w' => e = .returned (.tuple #[.iface 156 (.agg #[.int .i64 k, .int .i64 a]), .bool (decide (0 = n) && decide (0 = b))]) ∧ Below w.heap.size w w' := by
  rcases hk with rfl | rfl
  all_goals
    obtain ⟨S, hS0, hNE, q0, q1, q2, q3, HK⟩ := box_class w _ n a b
    have hgd := nodeGuard
    have hel := fun k => node_eql ⟨k, 0, a, 0⟩ ⟨k, n, a, b⟩
    have hm : ∀ (k : Int) (w : World), (method 313 156 (.agg #[.int .i64 k, .int .i64 a]) "loop.example/g00466/impl.node").run Try.prog w = .ok (218, .agg #[.int .i64 k, .int .i64 a]) w := fun _ _ => by kernel_rfl
    go_enter Try.func151, Try.ntmps151
    go_wp2_with fail
    refine wp_region_held (S := S) (by kernel_rfl) (by kernel_rfl) hS0 ?_
    repeat (go_big_quiet_step ((go_at_call 218; exact Calls.held (oneNode_any _ a _) (HK.out.1 _))))
    refine wpQuiet_nil ?_
    rintro _ ⟨sw, rfl⟩
    have hB := HK.out.2 _ sw.ok
    clear HK q0 q1 q2 q3 hS0
    go_wp2
    go_ret2
    exact ⟨rfl, hB⟩
set_option maxHeartbeats 1600000 in
theorem termOf_two (k n a b : Int) (w : World) (hk : k = 2 ∨ k = 4 ∨ k = 5 ∨ k = 7 ∨ k = 8 ∨ k = 9) :
    Calls Try.prog 151 #[.agg #[.int .i64 k, .int .i64 n, .int .i64 a, .int .i64 b]] w fun e w' => e = .returned (.tuple #[.iface 158 (.agg #[.int .i64 k, .int .i64 a, .int .i64 b]), .bool (decide (0 = n))]) ∧ Below w.heap.size w w' := by
  rcases hk with rfl | rfl | rfl | rfl | rfl | rfl
  all_goals
    obtain ⟨S, hS0, hNE, q0, q1, q2, q3, HK⟩ := box_class w _ n a b
    have hgd := nodeGuard
    have hel := fun k => node_eql ⟨k, 0, a, b⟩ ⟨k, n, a, b⟩
    have hm : ∀ (k : Int) (w : World), (method 313 158 (.agg #[.int .i64 k, .int .i64 a, .int .i64 b]) "loop.example/g00466/impl.node").run Try.prog w = .ok (219, .agg #[.int .i64 k, .int .i64 a, .int .i64 b]) w := fun _ _ => by kernel_rfl
    go_enter Try.func151, Try.ntmps151
    go_wp2_with fail
    refine wp_region_held (S := S) (by kernel_rfl) (by kernel_rfl) hS0 ?_
    repeat (go_big_quiet_step ((go_at_call 219; exact Calls.held (twoNode_any _ a b _) (HK.out.1 _))))
    refine wpQuiet_nil ?_
    rintro _ ⟨sw, rfl⟩
    have hB := HK.out.2 _ sw.ok
    clear HK q0 q1 q2 q3 hS0
    go_wp2
    go_ret2
    exact ⟨rfl, hB⟩

/-- termOf of no term. -/
theorem termOf_none (k n a b : Int) (w : World) (hk : inB k 1 9 = false) :
    Calls Try.prog 151 #[.agg #[.int .i64 k, .int .i64 n, .int .i64 a, .int .i64 b]] w fun e w' => e = .returned (.tuple #[.nilIface, .bool false]) ∧ Below w.heap.size w w' := by
  have hr := inB_false' hk
  have h1 : (k == 1) = false := by simp; omega
  have h2 : (k == 2) = false := by simp; omega
  have h3 : (k == 3) = false := by simp; omega
  have h4 : (k == 4) = false := by simp; omega
  have h5 : (k == 5) = false := by simp; omega
  have h6 : (k == 6) = false := by simp; omega
  have h7 : (k == 7) = false := by simp; omega
  have h8 : (k == 8) = false := by simp; omega
  have h9 : (k == 9) = false := by simp; omega
  clear hr hk
  go_enter Try.func151, Try.ntmps151
  go_wp2_with fail
  go_ret2
  exact ⟨rfl, (Below.refl _ _).alloc (Nat.le_refl _) _⟩
end Go.Proofs.Ytffnadnndmmliaa
