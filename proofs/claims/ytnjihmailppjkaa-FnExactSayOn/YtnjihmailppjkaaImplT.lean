/- The contracts of chapter 3's terms behind their interface, the program's: the three node methods, termOf, isAhead, rightTerm, NodeOk. -/
import Derived.Test.YtnjihmailppjkaaTermPut
import Derived.WalkKit
import Derived.WalkLawsBesides
import Derived.WalkSpells
import Derived.Laws.ResultCell
import Derived.Laws.Rows
import Derived.Deep.RegionHeld3
import Derived.Deep.QuietTactic
import Derived.BigQuiet
import Derived.Deep.RegionWith
namespace Go.Proofs.Ytnjihmailppjkaa
open Go.RowKit

theorem nodeSizeI : (Try.prog.info? 87).map (·.size) = some 4 := by kernel_rfl
theorem atomNode_any (n : Int) (w : World) :
    Calls Try.prog 121 #[.agg #[.int .i64 n]] w fun e w' => e = .returned (.agg #[.int .i64 1, .int .i64 n, .int .i64 0, .int .i64 0]) ∧ Below w.heap.size w w' := by
  go_enter Try.func121, Try.ntmps121
  go_wp2
  refine bodyPost_ret (results_cell_row rfl _ _ (w.heap.size + 1) 87 #[.int .i64 1, .int .i64 n, .int .i64 0, .int .i64 0] (0, 0) _ rfl ?_ Try.underlying87 rfl nodeSizeI) rfl ?_
  · have := heap_alloc_new (w.alloc (.cells #[.int .i64 n] 129)) (.cells #[.int .i64 1, .int .i64 n, .int .i64 0, .int .i64 0] 87)
    simpa using this
  · exact ⟨rfl, ((Below.refl _ _).alloc (Nat.le_refl _) _).alloc (by simp) _⟩
theorem oneNode_any (k a : Int) (w : World) :
    Calls Try.prog 122 #[.agg #[.int .i64 k, .int .i64 a]] w fun e w' => e = .returned (.agg #[.int .i64 k, .int .i64 0, .int .i64 a, .int .i64 0]) ∧ Below w.heap.size w w' := by
  go_enter Try.func122, Try.ntmps122
  go_wp2
  refine bodyPost_ret (results_cell_row rfl _ _ (w.heap.size + 1) 87 #[.int .i64 k, .int .i64 0, .int .i64 a, .int .i64 0] (0, 0) _ rfl ?_ Try.underlying87 rfl nodeSizeI) rfl ?_
  · have := heap_alloc_new (w.alloc (.cells #[.int .i64 k, .int .i64 a] 131)) (.cells #[.int .i64 k, .int .i64 0, .int .i64 a, .int .i64 0] 87)
    simpa using this
  · exact ⟨rfl, ((Below.refl _ _).alloc (Nat.le_refl _) _).alloc (by simp) _⟩
theorem twoNode_any (k a b : Int) (w : World) :
    Calls Try.prog 123 #[.agg #[.int .i64 k, .int .i64 a, .int .i64 b]] w fun e w' => e = .returned (.agg #[.int .i64 k, .int .i64 0, .int .i64 a, .int .i64 b]) ∧ Below w.heap.size w w' := by
  go_enter Try.func123, Try.ntmps123
  go_wp2
  refine bodyPost_ret (results_cell_row rfl _ _ (w.heap.size + 1) 87 #[.int .i64 k, .int .i64 0, .int .i64 a, .int .i64 b] (0, 0) _ rfl ?_ Try.underlying87 rfl nodeSizeI) rfl ?_
  · have := heap_alloc_new (w.alloc (.cells #[.int .i64 k, .int .i64 a, .int .i64 b] 133)) (.cells #[.int .i64 k, .int .i64 0, .int .i64 a, .int .i64 b] 87)
    simpa using this
  · exact ⟨rfl, ((Below.refl _ _).alloc (Nat.le_refl _) _).alloc (by simp) _⟩
theorem inB_false' {x lo hi : Int} (h : inB x lo hi = false) : x < lo ∨ hi < x := by
  unfold inB at h; simp at h; omega
theorem ahead_any (x k : Int) (w : World) :
    Calls Try.prog 69 #[.int .i64 x, .int .i64 k] w fun e w' => e = .returned (.bool (inB x 0 (k - 1))) ∧ w = w' := by
  unfold inB
  by_cases h1 : 0 ≤ x <;> by_cases h2 : x < k
  all_goals
    have e2 : decide (x ≤ k - 1) = decide (x < k) := by simp; omega
    rw [e2]
    clear e2
    go_enter Try.func69, Try.ntmps69
    go_wp2
    go_ret
    exact ⟨by simp [h1, h2], rfl⟩

/-- The worlds in which a node that was boxed stands as it did: a class that calls keep. -/
theorem box_class (w : World) (k n a b : Int) : ∃ S : World → Prop, S (w.alloc (.cells #[.int .i64 k, .int .i64 n, .int .i64 a, .int .i64 b] 87)).drew ∧ Nonempty (Hw S) ∧ (∀ s : Hw S, s.w.cell? ⟨w.heap.size, 0, none⟩ = some (.int .i64 k)) ∧ (∀ s : Hw S, s.w.cell? ⟨w.heap.size, 1, none⟩ = some (.int .i64 n)) ∧ (∀ s : Hw S, s.w.cell? ⟨w.heap.size, 2, none⟩ = some (.int .i64 a)) ∧ (∀ s : Hw S, s.w.cell? ⟨w.heap.size, 3, none⟩ = some (.int .i64 b)) ∧
    Hid ((∀ (s : Hw S) w', Below s.w.heap.size s.w w' → S w') ∧ (∀ w', S w' → Below w.heap.size w w')) := by
  have hb : Below w.heap.size w (w.alloc (.cells #[.int .i64 k, .int .i64 n, .int .i64 a, .int .i64 b] 87)) := (Below.refl _ _).alloc (Nat.le_refl _) _
  have hn := heap_alloc_new w (.cells #[.int .i64 k, .int .i64 n, .int .i64 a, .int .i64 b] 87)
  refine ⟨fun w' => (w'.cell? ⟨w.heap.size, 0, none⟩ = some (.int .i64 k) ∧ w'.cell? ⟨w.heap.size, 1, none⟩ = some (.int .i64 n) ∧ w'.cell? ⟨w.heap.size, 2, none⟩ = some (.int .i64 a) ∧ w'.cell? ⟨w.heap.size, 3, none⟩ = some (.int .i64 b)) ∧ w.heap.size < w'.heap.size ∧ Below w.heap.size w w', ?_, ?_, fun s => s.ok.1.1, fun s => s.ok.1.2.1, fun s => s.ok.1.2.2.1, fun s => s.ok.1.2.2.2, ⟨fun s w' h1 => ?_, fun _ h => h.2.2⟩⟩
  · exact ⟨⟨(cell_of_row _ w.heap.size 0 _ _ _ hn).trans rfl, (cell_of_row _ w.heap.size 1 _ _ _ hn).trans rfl, (cell_of_row _ w.heap.size 2 _ _ _ hn).trans rfl, (cell_of_row _ w.heap.size 3 _ _ _ hn).trans rfl⟩, by simp, hb.drew⟩
  · exact ⟨⟨_, ⟨(cell_of_row _ w.heap.size 0 _ _ _ hn).trans rfl, (cell_of_row _ w.heap.size 1 _ _ _ hn).trans rfl, (cell_of_row _ w.heap.size 2 _ _ _ hn).trans rfl, (cell_of_row _ w.heap.size 3 _ _ _ hn).trans rfl⟩, by simp, hb⟩⟩
  · obtain ⟨⟨e0, e1, e2, e3⟩, e5, e6⟩ := s.ok
    exact ⟨⟨(h1.cell (p := ⟨w.heap.size, 0, none⟩) e5).trans e0, (h1.cell (p := ⟨w.heap.size, 1, none⟩) e5).trans e1, (h1.cell (p := ⟨w.heap.size, 2, none⟩) e5).trans e2, (h1.cell (p := ⟨w.heap.size, 3, none⟩) e5).trans e3⟩, Nat.lt_of_lt_of_le e5 h1.size, e6.trans (h1.mono e6.size)⟩

/-- termOf of an atom. -/
theorem termOf_atom (k n a b : Int) (w : World) (hk : k = 1) :
    Calls Try.prog 87 #[.agg #[.int .i64 k, .int .i64 n, .int .i64 a, .int .i64 b]] w fun e w' => e = .returned (.tuple #[.iface 129 (.agg #[.int .i64 n]), .bool (decide (0 = a) && decide (0 = b))]) ∧ Below w.heap.size w w' := by
  rcases hk with rfl
  all_goals
    obtain ⟨S, hS0, hNE, q0, q1, q2, q3, HK⟩ := box_class w _ n a b
    have hgd := nodeGuard
    have hel := node_eql ⟨1, n, 0, 0⟩ ⟨1, n, a, b⟩
    have hm : ∀ (w : World), (method 264 129 (.agg #[.int .i64 n]) "loop.example/g00466/impl.node").run Try.prog w = .ok (121, .agg #[.int .i64 n]) w := fun _ => by kernel_rfl
    go_enter Try.func87, Try.ntmps87
    go_wp2_with fail
    refine wp_region_held (S := S) (by kernel_rfl) (by kernel_rfl) hS0 ?_
    repeat (go_big_quiet_step ((go_at_call 121; exact Calls.held (atomNode_any n _) (HK.out.1 _))))
    refine wpQuiet_nil ?_
    rintro _ ⟨sw, rfl⟩
    have hB := HK.out.2 _ sw.ok
    clear HK q0 q1 q2 q3 hS0
    go_wp2
    go_ret2
    exact ⟨rfl, hB⟩

/-- termOf of a term with one. -/
theorem termOf_one (k n a b : Int) (w : World) (hk : k = 3 ∨ k = 6) :
    Calls Try.prog 87 #[.agg #[.int .i64 k, .int .i64 n, .int .i64 a, .int .i64 b]] w fun e w' => e = .returned (.tuple #[.iface 131 (.agg #[.int .i64 k, .int .i64 a]), .bool (decide (0 = n) && decide (0 = b))]) ∧ Below w.heap.size w w' := by
  rcases hk with rfl | rfl
  all_goals
    obtain ⟨S, hS0, hNE, q0, q1, q2, q3, HK⟩ := box_class w _ n a b
    have hgd := nodeGuard
    have hel := fun k => node_eql ⟨k, 0, a, 0⟩ ⟨k, n, a, b⟩
    have hm : ∀ (k : Int) (w : World), (method 264 131 (.agg #[.int .i64 k, .int .i64 a]) "loop.example/g00466/impl.node").run Try.prog w = .ok (122, .agg #[.int .i64 k, .int .i64 a]) w := fun _ _ => by kernel_rfl
    go_enter Try.func87, Try.ntmps87
    go_wp2_with fail
    refine wp_region_held (S := S) (by kernel_rfl) (by kernel_rfl) hS0 ?_
    repeat (go_big_quiet_step ((go_at_call 122; exact Calls.held (oneNode_any _ a _) (HK.out.1 _))))
    refine wpQuiet_nil ?_
    rintro _ ⟨sw, rfl⟩
    have hB := HK.out.2 _ sw.ok
    clear HK q0 q1 q2 q3 hS0
    go_wp2
    go_ret2
    exact ⟨rfl, hB⟩
set_option maxHeartbeats 1600000 in
theorem termOf_two (k n a b : Int) (w : World) (hk : k = 2 ∨ k = 4 ∨ k = 5 ∨ k = 7 ∨ k = 8 ∨ k = 9) :
    Calls Try.prog 87 #[.agg #[.int .i64 k, .int .i64 n, .int .i64 a, .int .i64 b]] w fun e w' => e = .returned (.tuple #[.iface 133 (.agg #[.int .i64 k, .int .i64 a, .int .i64 b]), .bool (decide (0 = n))]) ∧ Below w.heap.size w w' := by
  rcases hk with rfl | rfl | rfl | rfl | rfl | rfl
  all_goals
    obtain ⟨S, hS0, hNE, q0, q1, q2, q3, HK⟩ := box_class w _ n a b
    have hgd := nodeGuard
    have hel := fun k => node_eql ⟨k, 0, a, b⟩ ⟨k, n, a, b⟩
    have hm : ∀ (k : Int) (w : World), (method 264 133 (.agg #[.int .i64 k, .int .i64 a, .int .i64 b]) "loop.example/g00466/impl.node").run Try.prog w = .ok (123, .agg #[.int .i64 k, .int .i64 a, .int .i64 b]) w := fun _ _ => by kernel_rfl
    go_enter Try.func87, Try.ntmps87
    go_wp2_with fail
    refine wp_region_held (S := S) (by kernel_rfl) (by kernel_rfl) hS0 ?_
    repeat (go_big_quiet_step ((go_at_call 123; exact Calls.held (twoNode_any _ a b _) (HK.out.1 _))))
    refine wpQuiet_nil ?_
    rintro _ ⟨sw, rfl⟩
    have hB := HK.out.2 _ sw.ok
    clear HK q0 q1 q2 q3 hS0
    go_wp2
    go_ret2
    exact ⟨rfl, hB⟩

/-- termOf of no term. -/
theorem termOf_none (k n a b : Int) (w : World) (hk : inB k 1 9 = false) :
    Calls Try.prog 87 #[.agg #[.int .i64 k, .int .i64 n, .int .i64 a, .int .i64 b]] w fun e w' => e = .returned (.tuple #[.nilIface, .bool false]) ∧ Below w.heap.size w w' := by
  have hr := inB_false' hk
  have h1 : (k == 1) = false := by simp; omega
  have h2 : (k == 2) = false := by simp; omega
  have h3 : (k == 3) = false := by simp; omega
  have h4 : (k == 4) = false := by simp; omega
  have h5 : (k == 5) = false := by simp; omega
  have h6 : (k == 6) = false := by simp; omega
  have h7 : (k == 7) = false := by simp; omega
  have h8 : (k == 8) = false := by simp; omega
  have h9 : (k == 9) = false := by simp; omega
  clear hr hk
  go_enter Try.func87, Try.ntmps87
  go_wp2_with fail
  go_ret2
  exact ⟨rfl, (Below.refl _ _).alloc (Nat.le_refl _) _⟩
end Go.Proofs.Ytnjihmailppjkaa

namespace Go.Proofs.Ytnjihmailppjkaa
open Go.RowKit

theorem as_atomTerm_atomTerm (v : Value) (w : World) : (Instr.typeAssert (.iface 129 v) 111 129 true).run Try.prog w = .ok (.tuple #[v, .bool true]) w := by kernel_rfl
theorem as_atomTerm_oneTerm (v : Value) (w : World) : (Instr.typeAssert (.iface 129 v) 111 131 true).run Try.prog w = .ok (.tuple #[.agg #[.int .i64 0, .int .i64 0], .bool false]) w := by kernel_rfl
theorem as_atomTerm_twoTerm (v : Value) (w : World) : (Instr.typeAssert (.iface 129 v) 111 133 true).run Try.prog w = .ok (.tuple #[.agg #[.int .i64 0, .int .i64 0, .int .i64 0], .bool false]) w := by kernel_rfl
theorem as_oneTerm_atomTerm (v : Value) (w : World) : (Instr.typeAssert (.iface 131 v) 111 129 true).run Try.prog w = .ok (.tuple #[.agg #[.int .i64 0], .bool false]) w := by kernel_rfl
theorem as_oneTerm_oneTerm (v : Value) (w : World) : (Instr.typeAssert (.iface 131 v) 111 131 true).run Try.prog w = .ok (.tuple #[v, .bool true]) w := by kernel_rfl
theorem as_oneTerm_twoTerm (v : Value) (w : World) : (Instr.typeAssert (.iface 131 v) 111 133 true).run Try.prog w = .ok (.tuple #[.agg #[.int .i64 0, .int .i64 0, .int .i64 0], .bool false]) w := by kernel_rfl
theorem as_twoTerm_atomTerm (v : Value) (w : World) : (Instr.typeAssert (.iface 133 v) 111 129 true).run Try.prog w = .ok (.tuple #[.agg #[.int .i64 0], .bool false]) w := by kernel_rfl
theorem as_twoTerm_oneTerm (v : Value) (w : World) : (Instr.typeAssert (.iface 133 v) 111 131 true).run Try.prog w = .ok (.tuple #[.agg #[.int .i64 0, .int .i64 0], .bool false]) w := by kernel_rfl
theorem as_twoTerm_twoTerm (v : Value) (w : World) : (Instr.typeAssert (.iface 133 v) 111 133 true).run Try.prog w = .ok (.tuple #[v, .bool true]) w := by kernel_rfl
theorem as_nil_atomTerm (w : World) : (Instr.typeAssert .nilIface 111 129 true).run Try.prog w = .ok (.tuple #[.agg #[.int .i64 0], .bool false]) w := by kernel_rfl
theorem as_nil_oneTerm (w : World) : (Instr.typeAssert .nilIface 111 131 true).run Try.prog w = .ok (.tuple #[.agg #[.int .i64 0, .int .i64 0], .bool false]) w := by kernel_rfl
theorem as_nil_twoTerm (w : World) : (Instr.typeAssert .nilIface 111 133 true).run Try.prog w = .ok (.tuple #[.agg #[.int .i64 0, .int .i64 0, .int .i64 0], .bool false]) w := by kernel_rfl

/-- rightTerm of an atom. -/
theorem right_atom (k n a b p : Int) (w : World) (hk : k = 1) :
    Calls Try.prog 70 #[.agg #[.int .i64 k, .int .i64 n, .int .i64 a, .int .i64 b], .int .i64 p] w fun e w' => e = .returned (.tuple #[.iface 129 (.agg #[.int .i64 n]), .bool (nodeB ⟨k, n, a, b⟩ p)]) ∧ Below w.heap.size w w' := by
  have HV : Hid (nodeB ⟨k, n, a, b⟩ p = ((decide (0 = a) && decide (0 = b)) && (decide (0 ≤ n) && decide (n ≤ 999999)))) := by
    show _ = _
    subst hk
    unfold nodeB
    simp only [inB]
    by_cases ha : a = 0 <;> by_cases hb : b = 0 <;> simp [ha, hb, eq_comm]
  subst hk
  have fin : ∀ r : Bool, (decide (0 ≤ n) && decide (n ≤ 999999)) = r → ((r = true ∧ 0 ≤ n ∧ n ≤ 999999) ∨ (r = false ∧ n < 0) ∨ (r = false ∧ 0 ≤ n ∧ decide (n ≤ 999999) = false)) := fun r h => by
    subst h; simp; omega
  obtain ⟨d, HD⟩ : ∃ d, Hid ((decide (0 = a) && decide (0 = b)) = d) := ⟨_, rfl⟩
  obtain ⟨r, HE⟩ : ∃ r, Hid ((decide (0 ≤ n) && decide (n ≤ 999999)) = r) := ⟨_, rfl⟩
  have ha := as_atomTerm_atomTerm
  cases d
  all_goals
    rcases fin r HE.out with ⟨rfl, h0, h1⟩ | ⟨rfl, h0⟩ | ⟨rfl, h0, h1⟩
    all_goals
      clear fin
      go_enter Try.func70, Try.ntmps70
      go_wp2_with fail
      refine (termOf_atom 1 n a b _ rfl).mono ?_
      rintro e w1 ⟨rfl, hb1⟩
      rw [HD.out]
      go_wp2_with fail
      go_ret2
      exact ⟨by rw [HV.out, HD.out, HE.out]; rfl, (((Below.refl _ _).alloc (Nat.le_refl _) _).trans (hb1.mono (by simp))).alloc (by have := hb1.size; simp at this; omega) _⟩

/-- rightTerm of a term with one. -/
theorem right_one (k n a b p : Int) (w : World) (hk : oneK k = true) :
    Calls Try.prog 70 #[.agg #[.int .i64 k, .int .i64 n, .int .i64 a, .int .i64 b], .int .i64 p] w fun e w' => e = .returned (.tuple #[.iface 131 (.agg #[.int .i64 k, .int .i64 a]), .bool (nodeB ⟨k, n, a, b⟩ p)]) ∧ Below w.heap.size w w' := by
  have hk' : k = 3 ∨ k = 6 := by unfold oneK at hk; simpa using hk
  have HV : Hid (nodeB ⟨k, n, a, b⟩ p = ((decide (0 = n) && decide (0 = b)) && inB a 0 (p - 1))) := by
    show _ = _
    have h1 : inB k 1 9 = true := by unfold inB; simp; omega
    have h2 : ¬ k = 1 := by omega
    unfold nodeB
    simp only [h1, h2, hk]
    cases h3 : inB a 0 (p - 1) <;> by_cases hb : b = 0 <;> by_cases hn : n = 0 <;> simp [hb, hn, eq_comm]
  clear hk
  obtain ⟨d, HD⟩ : ∃ d, Hid ((decide (0 = n) && decide (0 = b)) = d) := ⟨_, rfl⟩
  obtain ⟨r, HE⟩ : ∃ r, Hid (inB a 0 (p - 1) = r) := ⟨_, rfl⟩
  have ha := as_oneTerm_atomTerm
  have ho := as_oneTerm_oneTerm
  cases d
  all_goals
    cases r
    all_goals
      go_enter Try.func70, Try.ntmps70
      go_wp2_with fail
      refine (termOf_one k n a b _ hk').mono ?_
      rintro e w1 ⟨rfl, hb1⟩
      rw [HD.out]
      clear hk'
      go_wp2_with (go_at_call 69; refine (ahead_any _ _ _).mono ?_; rintro e w' ⟨rfl, rfl⟩; rw [HE.out])
      go_ret2
      exact ⟨by rw [HV.out, HD.out, HE.out]; rfl, (((Below.refl _ _).alloc (Nat.le_refl _) _).trans (hb1.mono (by simp))).alloc (by have := hb1.size; simp at this; omega) _⟩

set_option maxHeartbeats 2000000 in
theorem right_two (k n a b p : Int) (w : World) (h1 : inB k 1 9 = true) (h2 : ¬ k = 1) (hk : oneK k = false) :
    Calls Try.prog 70 #[.agg #[.int .i64 k, .int .i64 n, .int .i64 a, .int .i64 b], .int .i64 p] w fun e w' => e = .returned (.tuple #[.iface 133 (.agg #[.int .i64 k, .int .i64 a, .int .i64 b]), .bool (nodeB ⟨k, n, a, b⟩ p)]) ∧ Below w.heap.size w w' := by
  have hk' : k = 2 ∨ k = 4 ∨ k = 5 ∨ k = 7 ∨ k = 8 ∨ k = 9 := by unfold oneK at hk; unfold inB at h1; simp at hk h1; omega
  have HV : Hid (nodeB ⟨k, n, a, b⟩ p = (decide (0 = n) && (inB a 0 (p - 1) && inB b 0 (p - 1)))) := by
    show _ = _
    unfold nodeB
    simp only [h1, h2, hk]
    cases h3 : inB a 0 (p - 1) <;> cases h4 : inB b 0 (p - 1) <;> by_cases hn : n = 0 <;> simp [hn, eq_comm]
  clear hk h1 h2
  obtain ⟨d, HD⟩ : ∃ d, Hid ((decide (0 = n)) = d) := ⟨_, rfl⟩
  obtain ⟨r, HE⟩ : ∃ r, Hid (inB a 0 (p - 1) = r) := ⟨_, rfl⟩
  obtain ⟨q, HF⟩ : ∃ q, Hid (inB b 0 (p - 1) = q) := ⟨_, rfl⟩
  have ha := as_twoTerm_atomTerm
  have ho := as_twoTerm_oneTerm
  have ht := as_twoTerm_twoTerm
  cases d
  all_goals
    cases r
    all_goals
      cases q
      all_goals
        go_enter Try.func70, Try.ntmps70
        go_wp2_with fail
        refine (termOf_two k n a b _ hk').mono ?_
        rintro e w1 ⟨rfl, hb1⟩
        rw [HD.out]
        clear hk'
        go_wp2_with (go_at_call 69; refine (ahead_any _ _ _).mono ?_; rintro e w' ⟨rfl, rfl⟩; first | rw [HE.out] | rw [HF.out])
        go_ret2
        exact ⟨by rw [HV.out, HD.out, HE.out, HF.out]; rfl, (((Below.refl _ _).alloc (Nat.le_refl _) _).trans (hb1.mono (by simp))).alloc (by have := hb1.size; simp at this; omega) _⟩

/-- rightTerm of no term. -/
theorem right_none (k n a b p : Int) (w : World) (hk : inB k 1 9 = false) :
    Calls Try.prog 70 #[.agg #[.int .i64 k, .int .i64 n, .int .i64 a, .int .i64 b], .int .i64 p] w fun e w' => e = .returned (.tuple #[.nilIface, .bool (nodeB ⟨k, n, a, b⟩ p)]) ∧ Below w.heap.size w w' := by
  have HV : Hid (nodeB ⟨k, n, a, b⟩ p = false) := by
    show _ = _
    unfold nodeB
    simp only [hk]; rfl
  have HK : Hid _ := hk
  clear hk
  have ha := as_nil_atomTerm
  have ho := as_nil_oneTerm
  have ht := as_nil_twoTerm
  go_enter Try.func70, Try.ntmps70
  go_wp2_with fail
  refine (termOf_none k n a b _ HK.out).mono ?_
  rintro e w1 ⟨rfl, hb1⟩
  go_wp2_with fail
  go_ret2
  exact ⟨by rw [HV.out]; rfl, ((Below.refl _ _).alloc (Nat.le_refl _) _).trans (hb1.mono (by simp))⟩

/-- rightTerm, whatever the node: its second answer. -/
theorem right_any (x : Nd) (p : Int) (w : World) :
    Calls Try.prog 70 #[.agg #[.int .i64 x.k, .int .i64 x.n, .int .i64 x.a, .int .i64 x.b], .int .i64 p] w fun e w' => ∃ v, e = .returned (.tuple #[v, .bool (nodeB x p)]) ∧ Below w.heap.size w w' := by
  cases h1 : inB x.k 1 9 with
  | false => exact (right_none x.k x.n x.a x.b p w h1).mono fun _ _ ⟨he, hb⟩ => ⟨_, he, hb⟩
  | true =>
    by_cases h2 : x.k = 1
    · exact (right_atom x.k x.n x.a x.b p w h2).mono fun _ _ ⟨he, hb⟩ => ⟨_, he, hb⟩
    · cases h3 : oneK x.k with
      | true => exact (right_one x.k x.n x.a x.b p w h3).mono fun _ _ ⟨he, hb⟩ => ⟨_, he, hb⟩
      | false => exact (right_two x.k x.n x.a x.b p w h1 h2 h3).mono fun _ _ ⟨he, hb⟩ => ⟨_, he, hb⟩
end Go.Proofs.Ytnjihmailppjkaa
