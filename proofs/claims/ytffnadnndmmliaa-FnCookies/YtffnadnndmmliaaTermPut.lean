/- The contracts of chapter 3's l03Copy, l03Put and Put, the specification's. -/
import Derived.Test.YtffnadnndmmliaaHeldQ
import Derived.WalkKit
import Derived.WalkLawsBesides
import Derived.WalkSpells
import Derived.Laws.OwnMore
import Derived.Laws.AppendOwnNone
import Derived.Laws.Rows
import Derived.Laws.ResultCell
import Derived.Deep.QuietTactic
import Derived.BigQuiet
import Derived.Deep.RegionHeld3
import Derived.Deep.RegionWith
namespace Go.Proofs.Ytffnadnndmmliaa
open Go.RowKit

/-- Nodes in a row that the call owns. -/
def OwnN (base : Nat) (w : World) (v : Value) (ns : List Nd) : Prop := w.ownsRow base 45 4 v ns.length (cellsN ns)
theorem infoNode : (Try.prog.info? 45).map (fun i => (i.zero, i.size, i.bytes)) = some (some (.agg #[.int .i64 0, .int .i64 0, .int .i64 0, .int .i64 0]), 4, 32) := by kernel_rfl
theorem cells_one (ns : List Nd) : ∀ u ∈ cellsN ns, u.oneCell' = true := by
  intro u hu
  simp only [cellsN, List.mem_flatMap, Nd.cells] at hu
  obtain ⟨x, _, hx⟩ := hu
  simp only [List.mem_cons, List.not_mem_nil, or_false] at hx
  rcases hx with rfl | rfl | rfl | rfl <;> rfl
theorem add_off (b off j : Nat) : (⟨b, off, none⟩ : Addr).add j = ⟨b, off + j, none⟩ := by unfold Addr.add; split <;> simp_all
theorem cellsN_mod (ns : List Nd) (j : Nat) (hj : j < ns.length * 4) : (cellsN ns)[j]? = ((ns.getD (j / 4) Nd.zero).cells)[j % 4]? := by
  have hi : j / 4 < ns.length := by omega
  have h := cellsN_at ns (j / 4) (j % 4) (ns.getD (j / 4) Nd.zero) (by rw [List.getD_eq_getElem?_getD, List.getElem?_eq_getElem hi]; rfl) (by omega)
  rw [← h]
  congr 1; omega
/-- The cells of a row of nodes in memory, one by one. -/
theorem RowN.cells {B : Nat} {w : World} {b off : Nat} {ns : List Nd} (h : RowN B w (some ⟨b, off, none⟩) ns) : ∀ j u, (cellsN ns)[j]? = some u → w.cell? ((⟨b, off, none⟩ : Addr).add j) = some u := by
  intro j u hu
  have hj : j < ns.length * 4 := by
    have := (List.getElem?_eq_some_iff.1 hu).1
    rw [cellsN_len] at this; exact this
  rw [cellsN_mod ns j hj] at hu
  obtain ⟨_, c0, c1, c2, c3⟩ := h.at (Below.refl _ _) (i := j / 4) (by omega)
  rw [add_off]
  have e : off + j = off + j / 4 * 4 + j % 4 := by omega
  rw [e]
  rcases (show j % 4 = 0 ∨ j % 4 = 1 ∨ j % 4 = 2 ∨ j % 4 = 3 by omega) with h4 | h4 | h4 | h4 <;> rw [h4] at hu ⊢ <;> simp [Nd.cells] at hu <;> subst hu <;> assumption
/-- A slice's address: nil, or a place. -/
def AddrN (a : Option Addr) (cap : Nat) : Prop := (a = none ∧ cap = 0) ∨ ∃ b off, a = some ⟨b, off, none⟩
/-- An owned row, as a row in memory. -/
theorem OwnN.row {base : Nat} {w : World} {v : Value} {ns : List Nd} (h : OwnN base w v ns) : ∃ a cap, v = .slice a ns.length cap ∧ AddrN a cap ∧ RowN w.heap.size w a ns := by
  have h' := h
  rcases h.2 with ⟨rfl, h0⟩ | ⟨g, cap, cur, rfl, hg, hb, hc, hm, hsz, htake⟩
  · exact ⟨none, 0, by rw [h0], .inl ⟨rfl, rfl⟩, .inl (List.length_eq_zero_iff.1 h0)⟩
  · refine ⟨some ⟨g, 0, none⟩, cap, rfl, .inr ⟨g, 0, rfl⟩, ?_⟩
    rcases Nat.eq_zero_or_pos ns.length with h0 | h0
    · exact .inl (List.length_eq_zero_iff.1 h0)
    · refine .inr ⟨g, 0, rfl, (Array.getElem?_eq_some_iff.1 hb).1, fun i hi => ?_⟩
      have hx : ns[i]? = some (ns.getD i Nd.zero) := by rw [List.getD_eq_getElem?_getD, List.getElem?_eq_getElem hi]; rfl
      have key : ∀ j u, j < 4 → (ns.getD i Nd.zero).cells[j]? = some u → w.cell? ⟨g, 0 + i * 4 + j, none⟩ = some u := fun j u hj hu => by
        have := h'.cells (g := g) rfl (i * 4 + j) u (by rw [cellsN_at ns i j _ hx hj]; exact hu)
        rw [add_off] at this
        rw [show 0 + i * 4 + j = 0 + (i * 4 + j) by omega]; exact this
      exact ⟨key 0 _ (by omega) rfl, key 1 _ (by omega) rfl, key 2 _ (by omega) rfl, key 3 _ (by omega) rfl⟩

theorem own_new {base : Nat} (w : World) (h : base ≤ w.heap.size) : OwnN base (w.alloc (.cells #[] 45)) (.slice (some ⟨w.heap.size, 0, none⟩) 0 0) [] :=
  ⟨rfl, .inr ⟨w.heap.size, 0, #[], rfl, h, heap_alloc_new w _, Nat.le_refl _, by decide, rfl, rfl⟩⟩
/-- What a function hands back whose first result is a struct in memory. -/
theorem res_cell2 {P : Program} {fn : Func} {p u : Tmp} {ty : TypeId} (h : fn.results = #[.cell p ty, .tmp u]) (tmps : Array Value) (w : World) (g : Nat) (t : TypeId) (cs : Array Value) (fr : Nat × Nat) (d : TypeDesc)
    (hp : tmps.getD p undef = .pointer (some ⟨g, 0, none⟩)) (hg : w.heap[g]? = some (.cells cs t fr))
    (hu : P.underlying ty = some d) (hd : (match d with | .struct _ | .array _ _ => true | _ => false) = true) (hi : (P.info? ty).map (·.size) = some cs.size) :
    (results fn tmps).run P w = .ok (.tuple #[.agg cs, tmps.getD u undef]) w := by
  rw [results_cell_tmp h, hp]
  simp [asAddr, run_loadVar_row w g t ty cs fr d hg hu hd hi]
theorem res_cell3 {P : Program} {fn : Func} {p u v : Tmp} {ty : TypeId} (h : fn.results = #[.cell p ty, .tmp u, .tmp v]) (tmps : Array Value) (w : World) (g : Nat) (t : TypeId) (cs : Array Value) (fr : Nat × Nat) (d : TypeDesc)
    (hp : tmps.getD p undef = .pointer (some ⟨g, 0, none⟩)) (hg : w.heap[g]? = some (.cells cs t fr))
    (hu : P.underlying ty = some d) (hd : (match d with | .struct _ | .array _ _ => true | _ => false) = true) (hi : (P.info? ty).map (·.size) = some cs.size) :
    (results fn tmps).run P w = .ok (.tuple #[.agg cs, tmps.getD u undef, tmps.getD v undef]) w := by
  have hp' : tmps[p]?.getD undef = .pointer (some ⟨g, 0, none⟩) := by simpa using hp
  simp [results, h, hp', asAddr, run_loadVar_row w g t ty cs fr d hg hu hd hi]
theorem arenaSize : (Try.prog.info? 28).map (·.size) = some 1 := by kernel_rfl
theorem OwnN.base {base base' : Nat} {w : World} {v : Value} {ns : List Nd} (h : OwnN base w v ns) (hb : base' ≤ base) : OwnN base' w v ns := by
  refine ⟨h.1, ?_⟩
  rcases h.2 with h0 | ⟨g, cap, cur, e, hg, rest⟩
  · exact .inl h0
  · exact .inr ⟨g, cap, cur, e, Nat.le_trans hb hg, rest⟩
set_option maxHeartbeats 400000 in
theorem specCopy_any (a : Option Addr) (cap : Nat) (ns : List Nd) (w : World) (hl : ns.length ≤ 1048576) (ha : AddrN a cap) (hr : RowN w.heap.size w a ns) :
    Calls Try.prog 76 #[.agg #[.slice a ns.length cap]] w fun e w' => ∃ v, e = .returned (.agg #[v]) ∧ OwnN w.heap.size w' v ns ∧ Below w.heap.size w w' := by
  obtain ⟨i0, hi, hz0, hz1, hz2⟩ := info_parts infoNode
  have HR : Hid (RowN w.heap.size w a ns) := hr
  clear hr
  have HB0 : Hid (∀ r : Value, Below w.heap.size w (((w.alloc (.cells #[.slice a ns.length cap] 28)).alloc (.cells #[r] 28)).alloc (.cells #[] 45))) := fun r => (((Below.refl _ _).alloc (Nat.le_refl _) _).alloc (by simp) _).alloc (by simp; omega) _
  have HO : Hid (∀ r : Value, OwnN (w.heap.size + 1 + 1) (((w.alloc (.cells #[.slice a ns.length cap] 28)).alloc (.cells #[r] 28)).alloc (.cells #[] 45)) (.slice (some ⟨w.heap.size + 1 + 1, 0, none⟩) 0 0) []) := fun r => by
    have := own_new (base := w.heap.size + 1 + 1) ((w.alloc (.cells #[.slice a ns.length cap] 28)).alloc (.cells #[r] 28)) (by simp)
    simpa using this
  rcases ha with ⟨rfl, rfl⟩ | ⟨b, off, rfl⟩
  · rcases HR.out with h0 | ⟨_, _, e, _⟩
    · subst h0
      go_enter Try.func76, Try.ntmps76
      go_wp2_with fail
      refine bodyPost_ret (results_cell_row rfl _ _ (w.heap.size + 1) 28 #[.slice (some ⟨w.heap.size + 1 + 1, 0, none⟩) 0 0] (0, 0) _ rfl ?_ Try.underlying28 rfl arenaSize) rfl ?_
      · rw [heap_alloc_old _ _ (by simp)]
        have := heap_alloc_new (w.alloc (.cells #[.slice none 0 0] 28)) (.cells #[.slice (some ⟨w.heap.size + 1 + 1, 0, none⟩) 0 0] 28)
        simpa using this
      · exact ⟨_, rfl, (HO.out _).base (by omega), HB0.out _⟩
    · cases e
  · go_enter Try.func76, Try.ntmps76
    go_wp2_with (at_builtin; refine wpList_append_own _ rfl _ _ 26 rfl (w.heap.size + 1 + 1) 45 i0 _ 4 32 Try.underlying26 hi hz0 hz1 hz2 rfl (by decide) _ 0 _ rfl (HO.out _) ⟨b, off, none⟩ ns.length cap (cellsN ns) rfl (cellsN_len ns) ?c1 (cells_one ns) ?c3 ?c4 ?c5 ?_)
    case c1 => exact (HR.out.later (HB0.out _)).cells
    case c3 => unfold maxLen; omega
    case c4 => omega
    case c5 => simp
    · intro v' w2 hown' hgrow _
      have hown2 : OwnN (w.heap.size + 1 + 1) w2 v' ns := by
        have e : cellsN [] ++ cellsN ns = cellsN ns := rfl
        rw [e] at hown'; unfold OwnN; simpa using hown'
      obtain ⟨a2, cap2, rfl, _, _⟩ := hown2.row
      have hblk : w2.heap[w.heap.size + 1]? = some (.cells #[.slice none 0 0] 28 (0, 0)) := by
        rw [hgrow.block (w.heap.size + 1) (by simp) (by simp [Value.ownBlock]), heap_alloc_old _ _ (by simp)]
        have := heap_alloc_new (w.alloc (.cells #[.slice (some ⟨b, off, none⟩) ns.length cap] 28)) (.cells #[.slice none 0 0] 28)
        simpa using this
      have hc0 : w2.cell? ⟨w.heap.size + 1, 0, none⟩ = some (.slice none 0 0) := by rw [cell_of_row w2 (w.heap.size + 1) 0 _ _ _ hblk]; rfl
      have hf0 : w2.frozen? ⟨w.heap.size + 1, 0, none⟩ = false := frozen_of_row w2 (w.heap.size + 1) 0 _ _ hblk
      have hB2 : Below w.heap.size w w2 := (HB0.out _).grown hgrow (by simp; omega) (fun k hk => by simp [Value.ownBlock] at hk; omega)
      have HB2 : Hid (Below w.heap.size w (w2.setCell ⟨w.heap.size + 1, 0, none⟩ (.slice a2 ns.length cap2))) := hB2.setCell (by simp) _
      have HO2 : Hid (OwnN w.heap.size (w2.setCell ⟨w.heap.size + 1, 0, none⟩ (.slice a2 ns.length cap2)) (.slice a2 ns.length cap2) ns) := OwnN.base (ownsRow_setCell_below hown2 (by simp) _) (by omega)
      have HBL : Hid ((w2.setCell ⟨w.heap.size + 1, 0, none⟩ (.slice a2 ns.length cap2)).heap[w.heap.size + 1]? = some (.cells #[.slice a2 ns.length cap2] 28 (0, 0))) := by
        show _ = _
        rw [heap_setCell_same w2 (w.heap.size + 1) 0 _ _ _ hblk]; rfl
      clear hown' hgrow hblk hown2 hB2
      go_wp2
      refine bodyPost_ret (results_cell_row rfl _ _ (w.heap.size + 1) 28 #[.slice a2 ns.length cap2] (0, 0) _ rfl ?_ Try.underlying28 rfl arenaSize) rfl ?_
      · exact HBL.out
      · exact ⟨_, rfl, HO2.out, HB2.out⟩
end Go.Proofs.Ytffnadnndmmliaa

namespace Go.Proofs.Ytffnadnndmmliaa
open Go.RowKit

theorem nodeSizeI : (Try.prog.info? 45).map (·.size) = some 4 := by kernel_rfl
theorem atomNode_any (n : Int) (w : World) :
    Calls Try.prog 217 #[.agg #[.int .i64 n]] w fun e w' => e = .returned (.agg #[.int .i64 1, .int .i64 n, .int .i64 0, .int .i64 0]) ∧ Below w.heap.size w w' := by
  go_enter Try.func217, Try.ntmps217
  go_wp2
  refine bodyPost_ret (results_cell_row rfl _ _ (w.heap.size + 1) 45 #[.int .i64 1, .int .i64 n, .int .i64 0, .int .i64 0] (0, 0) _ rfl ?_ Try.underlying45 rfl nodeSizeI) rfl ?_
  · have := heap_alloc_new (w.alloc (.cells #[.int .i64 n] 154)) (.cells #[.int .i64 1, .int .i64 n, .int .i64 0, .int .i64 0] 45)
    simpa using this
  · exact ⟨rfl, ((Below.refl _ _).alloc (Nat.le_refl _) _).alloc (by simp) _⟩
theorem oneNode_any (k a : Int) (w : World) :
    Calls Try.prog 218 #[.agg #[.int .i64 k, .int .i64 a]] w fun e w' => e = .returned (.agg #[.int .i64 k, .int .i64 0, .int .i64 a, .int .i64 0]) ∧ Below w.heap.size w w' := by
  go_enter Try.func218, Try.ntmps218
  go_wp2
  refine bodyPost_ret (results_cell_row rfl _ _ (w.heap.size + 1) 45 #[.int .i64 k, .int .i64 0, .int .i64 a, .int .i64 0] (0, 0) _ rfl ?_ Try.underlying45 rfl nodeSizeI) rfl ?_
  · have := heap_alloc_new (w.alloc (.cells #[.int .i64 k, .int .i64 a] 156)) (.cells #[.int .i64 k, .int .i64 0, .int .i64 a, .int .i64 0] 45)
    simpa using this
  · exact ⟨rfl, ((Below.refl _ _).alloc (Nat.le_refl _) _).alloc (by simp) _⟩
theorem twoNode_any (k a b : Int) (w : World) :
    Calls Try.prog 219 #[.agg #[.int .i64 k, .int .i64 a, .int .i64 b]] w fun e w' => e = .returned (.agg #[.int .i64 k, .int .i64 0, .int .i64 a, .int .i64 b]) ∧ Below w.heap.size w w' := by
  go_enter Try.func219, Try.ntmps219
  go_wp2
  refine bodyPost_ret (results_cell_row rfl _ _ (w.heap.size + 1) 45 #[.int .i64 k, .int .i64 0, .int .i64 a, .int .i64 b] (0, 0) _ rfl ?_ Try.underlying45 rfl nodeSizeI) rfl ?_
  · have := heap_alloc_new (w.alloc (.cells #[.int .i64 k, .int .i64 a, .int .i64 b] 158)) (.cells #[.int .i64 k, .int .i64 0, .int .i64 a, .int .i64 b] 45)
    simpa using this
  · exact ⟨rfl, ((Below.refl _ _).alloc (Nat.le_refl _) _).alloc (by simp) _⟩
theorem inB_false' {x lo hi : Int} (h : inB x lo hi = false) : x < lo ∨ hi < x := by
  unfold inB at h; simp at h; omega
theorem ahead_any (x k : Int) (w : World) :
    Calls Try.prog 94 #[.int .i64 x, .int .i64 k] w fun e w' => e = .returned (.bool (inB x 0 (k - 1))) ∧ w = w' := by
  unfold inB
  by_cases h1 : 0 ≤ x <;> by_cases h2 : x < k
  all_goals
    have e2 : decide (x ≤ k - 1) = decide (x < k) := by simp; omega
    rw [e2]
    clear e2
    go_enter Try.func94, Try.ntmps94
    go_wp2
    go_ret
    exact ⟨by simp [h1, h2], rfl⟩

/-- The worlds in which a node that was boxed stands as it did: a class that calls keep. -/
theorem box_class (w : World) (k n a b : Int) : ∃ S : World → Prop, S (w.alloc (.cells #[.int .i64 k, .int .i64 n, .int .i64 a, .int .i64 b] 45)).drew ∧ Nonempty (Hw S) ∧ (∀ s : Hw S, s.w.cell? ⟨w.heap.size, 0, none⟩ = some (.int .i64 k)) ∧ (∀ s : Hw S, s.w.cell? ⟨w.heap.size, 1, none⟩ = some (.int .i64 n)) ∧ (∀ s : Hw S, s.w.cell? ⟨w.heap.size, 2, none⟩ = some (.int .i64 a)) ∧ (∀ s : Hw S, s.w.cell? ⟨w.heap.size, 3, none⟩ = some (.int .i64 b)) ∧
    Hid ((∀ (s : Hw S) w', Below s.w.heap.size s.w w' → S w') ∧ (∀ w', S w' → Below w.heap.size w w')) := by
  have hb : Below w.heap.size w (w.alloc (.cells #[.int .i64 k, .int .i64 n, .int .i64 a, .int .i64 b] 45)) := (Below.refl _ _).alloc (Nat.le_refl _) _
  have hn := heap_alloc_new w (.cells #[.int .i64 k, .int .i64 n, .int .i64 a, .int .i64 b] 45)
  refine ⟨fun w' => (w'.cell? ⟨w.heap.size, 0, none⟩ = some (.int .i64 k) ∧ w'.cell? ⟨w.heap.size, 1, none⟩ = some (.int .i64 n) ∧ w'.cell? ⟨w.heap.size, 2, none⟩ = some (.int .i64 a) ∧ w'.cell? ⟨w.heap.size, 3, none⟩ = some (.int .i64 b)) ∧ w.heap.size < w'.heap.size ∧ Below w.heap.size w w', ?_, ?_, fun s => s.ok.1.1, fun s => s.ok.1.2.1, fun s => s.ok.1.2.2.1, fun s => s.ok.1.2.2.2, ⟨fun s w' h1 => ?_, fun _ h => h.2.2⟩⟩
  · exact ⟨⟨(cell_of_row _ w.heap.size 0 _ _ _ hn).trans rfl, (cell_of_row _ w.heap.size 1 _ _ _ hn).trans rfl, (cell_of_row _ w.heap.size 2 _ _ _ hn).trans rfl, (cell_of_row _ w.heap.size 3 _ _ _ hn).trans rfl⟩, by simp, hb.drew⟩
  · exact ⟨⟨_, ⟨(cell_of_row _ w.heap.size 0 _ _ _ hn).trans rfl, (cell_of_row _ w.heap.size 1 _ _ _ hn).trans rfl, (cell_of_row _ w.heap.size 2 _ _ _ hn).trans rfl, (cell_of_row _ w.heap.size 3 _ _ _ hn).trans rfl⟩, by simp, hb⟩⟩
  · obtain ⟨⟨e0, e1, e2, e3⟩, e5, e6⟩ := s.ok
    exact ⟨⟨(h1.cell (p := ⟨w.heap.size, 0, none⟩) e5).trans e0, (h1.cell (p := ⟨w.heap.size, 1, none⟩) e5).trans e1, (h1.cell (p := ⟨w.heap.size, 2, none⟩) e5).trans e2, (h1.cell (p := ⟨w.heap.size, 3, none⟩) e5).trans e3⟩, Nat.lt_of_lt_of_le e5 h1.size, e6.trans (h1.mono e6.size)⟩

/-- termOf of an atom. -/
theorem termOf_atom (k n a b : Int) (w : World) (hk : k = 1) :
    Calls Try.prog 151 #[.agg #[.int .i64 k, .int .i64 n, .int .i64 a, .int .i64 b]] w fun e w' => e = .returned (.tuple #[.iface 154 (.agg #[.int .i64 n]), .bool (decide (0 = a) && decide (0 = b))]) ∧ Below w.heap.size w w' := by
  rcases hk with rfl
  all_goals
    obtain ⟨S, hS0, hNE, q0, q1, q2, q3, HK⟩ := box_class w _ n a b
    have hgd := nodeGuard
    have hel := node_eql ⟨1, n, 0, 0⟩ ⟨1, n, a, b⟩
    have hm : ∀ (w : World), (method 313 154 (.agg #[.int .i64 n]) "loop.example/g00466/impl.node").run Try.prog w = .ok (217, .agg #[.int .i64 n]) w := fun _ => by kernel_rfl
    go_enter Try.func151, Try.ntmps151
    go_wp2_with fail
    refine wp_region_held (S := S) (by kernel_rfl) (by kernel_rfl) hS0 ?_
    repeat (go_big_quiet_step ((go_at_call 217; exact Calls.held (atomNode_any n _) (HK.out.1 _))))
    refine wpQuiet_nil ?_
    rintro _ ⟨sw, rfl⟩
    have hB := HK.out.2 _ sw.ok
    clear HK q0 q1 q2 q3 hS0
    go_wp2
    go_ret2
    exact ⟨rfl, hB⟩

/-- termOf of a term with one. -/
theorem termOf_one (k n a b : Int) (w : World) (hk : k = 3 ∨ k = 6) :
    Calls Try.prog 151 #[.agg #[.int .i64 k, .int .i64 n, .int .i64 a, .int .i64 b]] w fun e w' => e = .returned (.tuple #[.iface 156 (.agg #[.int .i64 k, .int .i64 a]), .bool (decide (0 = n) && decide (0 = b))]) ∧ Below w.heap.size w w' := by
  rcases hk with rfl | rfl
  all_goals
    obtain ⟨S, hS0, hNE, q0, q1, q2, q3, HK⟩ := box_class w _ n a b
    have hgd := nodeGuard
    have hel := fun k => node_eql ⟨k, 0, a, 0⟩ ⟨k, n, a, b⟩
    have hm : ∀ (k : Int) (w : World), (method 313 156 (.agg #[.int .i64 k, .int .i64 a]) "loop.example/g00466/impl.node").run Try.prog w = .ok (218, .agg #[.int .i64 k, .int .i64 a]) w := fun _ _ => by kernel_rfl
    go_enter Try.func151, Try.ntmps151
    go_wp2_with fail
    refine wp_region_held (S := S) (by kernel_rfl) (by kernel_rfl) hS0 ?_
    repeat (go_big_quiet_step ((go_at_call 218; exact Calls.held (oneNode_any _ a _) (HK.out.1 _))))
    refine wpQuiet_nil ?_
    rintro _ ⟨sw, rfl⟩
    have hB := HK.out.2 _ sw.ok
    clear HK q0 q1 q2 q3 hS0
    go_wp2
    go_ret2
    exact ⟨rfl, hB⟩
set_option maxHeartbeats 1600000 in
theorem termOf_two (k n a b : Int) (w : World) (hk : k = 2 ∨ k = 4 ∨ k = 5 ∨ k = 7 ∨ k = 8 ∨ k = 9) :
    Calls Try.prog 151 #[.agg #[.int .i64 k, .int .i64 n, .int .i64 a, .int .i64 b]] w fun e w' => e = .returned (.tuple #[.iface 158 (.agg #[.int .i64 k, .int .i64 a, .int .i64 b]), .bool (decide (0 = n))]) ∧ Below w.heap.size w w' := by
  rcases hk with rfl | rfl | rfl | rfl | rfl | rfl
  all_goals
    obtain ⟨S, hS0, hNE, q0, q1, q2, q3, HK⟩ := box_class w _ n a b
    have hgd := nodeGuard
    have hel := fun k => node_eql ⟨k, 0, a, b⟩ ⟨k, n, a, b⟩
    have hm : ∀ (k : Int) (w : World), (method 313 158 (.agg #[.int .i64 k, .int .i64 a, .int .i64 b]) "loop.example/g00466/impl.node").run Try.prog w = .ok (219, .agg #[.int .i64 k, .int .i64 a, .int .i64 b]) w := fun _ _ => by kernel_rfl
    go_enter Try.func151, Try.ntmps151
    go_wp2_with fail
    refine wp_region_held (S := S) (by kernel_rfl) (by kernel_rfl) hS0 ?_
    repeat (go_big_quiet_step ((go_at_call 219; exact Calls.held (twoNode_any _ a b _) (HK.out.1 _))))
    refine wpQuiet_nil ?_
    rintro _ ⟨sw, rfl⟩
    have hB := HK.out.2 _ sw.ok
    clear HK q0 q1 q2 q3 hS0
    go_wp2
    go_ret2
    exact ⟨rfl, hB⟩

/-- termOf of no term. -/
theorem termOf_none (k n a b : Int) (w : World) (hk : inB k 1 9 = false) :
    Calls Try.prog 151 #[.agg #[.int .i64 k, .int .i64 n, .int .i64 a, .int .i64 b]] w fun e w' => e = .returned (.tuple #[.nilIface, .bool false]) ∧ Below w.heap.size w w' := by
  have hr := inB_false' hk
  have h1 : (k == 1) = false := by simp; omega
  have h2 : (k == 2) = false := by simp; omega
  have h3 : (k == 3) = false := by simp; omega
  have h4 : (k == 4) = false := by simp; omega
  have h5 : (k == 5) = false := by simp; omega
  have h6 : (k == 6) = false := by simp; omega
  have h7 : (k == 7) = false := by simp; omega
  have h8 : (k == 8) = false := by simp; omega
  have h9 : (k == 9) = false := by simp; omega
  clear hr hk
  go_enter Try.func151, Try.ntmps151
  go_wp2_with fail
  go_ret2
  exact ⟨rfl, (Below.refl _ _).alloc (Nat.le_refl _) _⟩
end Go.Proofs.Ytffnadnndmmliaa
