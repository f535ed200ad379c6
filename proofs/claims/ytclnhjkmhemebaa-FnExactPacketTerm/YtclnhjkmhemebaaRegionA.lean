/- What the regions of the laws over arenas keep: rows of nodes that were made, boxes of arenas, the store into one. -/
import Derived.Test.YtclnhjkmhemebaaRegionK
import Derived.Test.YtclnhjkmhemebaaTermPut2
import Derived.Test.YtclnhjkmhemebaaLawKeep
import Derived.WalkKit
import Derived.Test.YtclnhjkmhemebaaArgArena
import Derived.Test.YtclnhjkmhemebaaLawArena
import Derived.Test.YtclnhjkmhemebaaLawClip
namespace Go.Proofs.Ytclnhjkmhemebaa
open Go.RowKit

/-- What operation i does to the world: number s stores into a box of an arena that was made from B on; all others make memory at most. -/
def Rst (B s : Nat) (i : Nat) (w w' : World) : Prop := if i = s then ∃ g u v, w' = w.setCell ⟨g, 0, none⟩ v ∧ B ≤ g ∧ w.heap[g]? = some (.cells #[u] 50 (0, 0)) else Below w.heap.size w w'
theorem Rst.of {B s i : Nat} {w w' : World} (h : i ≠ s) (hb : Below w.heap.size w w') : Rst B s i w w' := by unfold Rst; rw [if_neg h]; exact hb
theorem Rst.refl {B s i : Nat} {w : World} (h : i ≠ s) : Rst B s i w w := Rst.of h (Below.refl _ _)
theorem Rst.other {B s i : Nat} {w w' : World} (h : i ≠ s) (hr : Rst B s i w w') : Below w.heap.size w w' := by unfold Rst at hr; rw [if_neg h] at hr; exact hr
theorem own_store {B g : Nat} {w : World} {v u : Value} {cs : Array Value} {ns : List Nd} (h : OwnN B w v ns) (hg : w.heap[g]? = some (.cells cs 50 (0, 0))) : OwnN B (w.setCell ⟨g, 0, none⟩ u) v ns := by
  refine ⟨h.1, ?_⟩
  rcases h.2 with h0 | ⟨gv, cap, cur, e, hb, hh, rest⟩
  · exact .inl h0
  · refine .inr ⟨gv, cap, cur, e, hb, ?_, rest⟩
    rw [Below.heap_setCell _ _ _ _ (fun e => ?_)]
    · exact hh
    · have e' : gv = g := e
      rw [e', hg] at hh
      simp at hh
theorem Rst.own {B s i : Nat} {w w' : World} {v : Value} {ns : List Nd} (hr : Rst B s i w w') (h : OwnN B w v ns) : OwnN B w' v ns := by
  unfold Rst at hr
  split at hr
  · obtain ⟨g, u, x, rfl, _, hu⟩ := hr
    exact own_store h hu
  · exact h.later hr
theorem Rst.inv {B s i : Nat} {wb w w' : World} (hs : B ≤ wb.heap.size) (hr : Rst B s i w w') (h : Below B wb w) : Below B wb w' := by
  unfold Rst at hr
  split at hr
  · obtain ⟨g, u, x, rfl, hg, _⟩ := hr
    exact h.setCell hg _
  · exact h.trans (hr.mono (Nat.le_trans hs h.size))
theorem Rst.box {B s i g : Nat} {w w' : World} (hr : Rst B s i w w') (h : ∃ u, w.heap[g]? = some (.cells #[u] 50 (0, 0))) : ∃ u, w'.heap[g]? = some (.cells #[u] 50 (0, 0)) := by
  obtain ⟨u, hu⟩ := h
  unfold Rst at hr
  split at hr
  · obtain ⟨g', u', x, rfl, hg, hu'⟩ := hr
    by_cases e : g = g'
    · subst e
      exact ⟨x, (heap_setCell_same w g 0 _ _ _ hu).trans rfl⟩
    · exact ⟨u, (Below.heap_setCell _ _ _ _ e).trans hu⟩
  · exact ⟨u, (hr.block g (Array.getElem?_eq_some_iff.1 hu).1).trans hu⟩
/-- An owned row and a box of an arena are two blocks. -/
theorem own_box_ne {B g : Nat} {w : World} {v : Value} {cs : Array Value} {ns : List Nd} (h : OwnN B w v ns) (hg : w.heap[g]? = some (.cells cs 50 (0, 0))) : v.ownBlock ≠ some g := by
  intro e
  rcases h.2 with ⟨rfl, _⟩ | ⟨gv, cap, cur, rfl, hb, hh, _⟩
  · cases e
  · simp [Value.ownBlock] at e
    rw [e, hg] at hh
    simp at hh
theorem putA_len {ns : List Nd} {x : Nd} (h : ns.length ≤ 1048576) : (putA ns x).length ≤ 1048577 := by
  unfold putA
  split
  · simp; omega
  · omega
end Go.Proofs.Ytclnhjkmhemebaa

namespace Go.Proofs.Ytclnhjkmhemebaa
open Go.ChangeShapes Go.WideShapes Go.ChangeAt Go.RowKit Go.Joins Go.Deep
theorem Rst.ownC {B s i : Nat} {w w' : World} {v : Value} {ns : List Nd} (hr : Rst B s i w w') (h : OwnC B w v ns) : OwnC B w' v ns := by
  obtain ⟨a, cap, cp, e, ha, ho⟩ := h
  exact ⟨a, cap, cp, e, ha, hr.own ho⟩
theorem ownC_base {B B' : Nat} {w : World} {v : Value} {ns : List Nd} (h : OwnC B w v ns) (hle : B' ≤ B) : OwnC B' w v ns := by
  obtain ⟨a, cap, cp, e, ha, ho⟩ := h
  exact ⟨a, cap, cp, e, ha, OwnN.base ho hle⟩
theorem ownC_row {B : Nat} {w : World} {v : Value} {ns : List Nd} (h : OwnC B w v ns) : ∃ a cap, v = .slice a ns.length cap := by
  obtain ⟨a, cap, cp, e, ha, ho⟩ := h
  exact ⟨a, cap, e⟩
theorem own_storeC {B g : Nat} {w : World} {v u : Value} {cs : Array Value} {ns : List Nd} (h : OwnC B w v ns) (hg : w.heap[g]? = some (.cells cs 50 (0, 0))) : OwnC B (w.setCell ⟨g, 0, none⟩ u) v ns := by
  obtain ⟨a, cap, cp, e, ha, ho⟩ := h
  exact ⟨a, cap, cp, e, ha, own_store ho hg⟩
end Go.Proofs.Ytclnhjkmhemebaa

namespace Go.Proofs.Ytclnhjkmhemebaa
open Go.ChangeShapes Go.WideShapes Go.ChangeAt Go.RowKit Go.Joins Go.Deep
theorem cellsLPacket : Try.prog.cellsOf 67 = 4 := by kernel_rfl
theorem packetSize : (Try.prog.info? 52).map (·.size) = some 4 := by kernel_rfl
set_option maxRecDepth 100000 in
theorem packet_cells {H : Type} {enc : TypeId × Value → H} {W : World} {base : Nat} {sp : Nat → Bool} {held : Bool} {fuel : Nat} {cs : List Value} {x : DataW H × List MemPlace} (h : DataW.trod enc Try.prog W base sp held fuel 67 cs = some x) :
    ∃ y : Nd, cs = [.int .i64 y.k, .int .i64 y.n, .int .i64 y.a, .int .i64 y.b] ∧ y.Fits := by
  obtain ⟨y0, y1, y2, y3, n, _, hl, h0, h1, h2, h3⟩ := trod_struct4 Try.underlying67 h
  rw [cellsLPacket] at hl
  match cs, hl with
  | [c0, c1, c2, c3], _ =>
    simp only [cellsLInt, List.drop_zero, List.drop_succ_cons, List.take_succ_cons, List.take_zero] at h0 h1 h2 h3
    obtain ⟨z0, e0, _, w0⟩ := DataW.trod_int Try.underlying3 h0
    obtain ⟨z1, e1, _, w1⟩ := DataW.trod_int Try.underlying3 h1
    obtain ⟨z2, e2, _, w2⟩ := DataW.trod_int Try.underlying3 h2
    obtain ⟨z3, e3, _, w3⟩ := DataW.trod_int Try.underlying3 h3
    simp only [List.cons.injEq, and_true] at e0 e1 e2 e3
    subst e0 e1 e2 e3
    exact ⟨⟨z0, z1, z2, z3⟩, rfl, bounds_i64 w0, bounds_i64 w1, bounds_i64 w2, bounds_i64 w3⟩
set_option maxRecDepth 100000 in
theorem packet_of {H : Type} {enc : TypeId × Value → H} {W : World} {base b0 : Nat} {sp : Nat → Bool} {held : Bool} {r : Reach} {v : Value} {d : DataW H} {p : List MemPlace} (hv : Value.okWide Try.prog W r b0 67 v) (h : DataW.Trod enc Try.prog W base sp held 67 v d p) :
    ∃ y : Nd, v = .agg #[.int .i64 y.k, .int .i64 y.n, .int .i64 y.a, .int .i64 y.b] ∧ y.Fits := by
  obtain ⟨cs, rfl, hsz⟩ := okWide_struct Try.underlying67 hv
  obtain ⟨fuel, hf⟩ := h
  obtain ⟨y, he, hfit⟩ := packet_cells hf
  refine ⟨y, ?_, hfit⟩
  congr 1
  apply Array.ext'
  exact he

theorem toPacket_any (x : Nd) (w : World) :
    Calls Try.prog 56 #[.agg #[.int .i64 x.k, .int .i64 x.n, .int .i64 x.a, .int .i64 x.b]] w fun e w' => e = .returned (.agg #[.int .i64 x.k, .int .i64 x.n, .int .i64 x.a, .int .i64 x.b]) ∧ Below w.heap.size w w' := by
  go_enter Try.func56, Try.ntmps56
  go_wp2
  refine bodyPost_ret (results_cell_row rfl _ _ (w.heap.size + 1) 52 #[.int .i64 x.k, .int .i64 x.n, .int .i64 x.a, .int .i64 x.b] (0, 0) _ rfl ?_ Try.underlying52 rfl packetSize) rfl ?_
  · rw [heap_alloc_old _ _ (by simp)]
    have := heap_alloc_new (w.alloc (.cells #[.int .i64 x.k, .int .i64 x.n, .int .i64 x.a, .int .i64 x.b] 67)) (.cells #[.int .i64 x.k, .int .i64 x.n, .int .i64 x.a, .int .i64 x.b] 52)
    simpa using this
  · exact ⟨rfl, (((Below.refl _ _).alloc (Nat.le_refl _) _).alloc (by simp) _).alloc (by simp; omega) _⟩

theorem eqPacket_any (x y : Nd) (w : World) :
    Calls Try.prog 62 #[.agg #[.int .i64 x.k, .int .i64 x.n, .int .i64 x.a, .int .i64 x.b], .agg #[.int .i64 y.k, .int .i64 y.n, .int .i64 y.a, .int .i64 y.b]] w fun e w' => e = .returned (.bool (decide (x = y))) ∧ Below w.heap.size w w' := by
  have HE := nd_eq x y
  by_cases h0 : x.k = y.k
  · by_cases h1 : x.n = y.n
    · by_cases h2 : x.a = y.a
      · by_cases h3 : x.b = y.b
        · have HV : Hid (decide (x = y) = true) := decide_eq_true (HE.mpr ⟨h0, h1, h2, h3⟩)
          clear HE
          go_enter Try.func62, Try.ntmps62
          go_wp2
          go_ret
          exact ⟨by rw [HV.out]; rfl, ((Below.refl _ _).alloc (Nat.le_refl _) _).alloc (by simp) _⟩
        · have HV : Hid (decide (x = y) = false) := decide_eq_false (fun h => h3 (HE.mp h).2.2.2)
          have h3' : (x.b != y.b) = true := by simp [h3]
          clear HE
          go_enter Try.func62, Try.ntmps62
          go_wp2
          go_ret
          exact ⟨by rw [HV.out]; rfl, ((Below.refl _ _).alloc (Nat.le_refl _) _).alloc (by simp) _⟩
      · have HV : Hid (decide (x = y) = false) := decide_eq_false (fun h => h2 (HE.mp h).2.2.1)
        have h3' : (x.a != y.a) = true := by simp [h2]
        clear HE
        go_enter Try.func62, Try.ntmps62
        go_wp2
        go_ret
        exact ⟨by rw [HV.out]; rfl, ((Below.refl _ _).alloc (Nat.le_refl _) _).alloc (by simp) _⟩
    · have HV : Hid (decide (x = y) = false) := decide_eq_false (fun h => h1 (HE.mp h).2.1)
      have h3' : (x.n != y.n) = true := by simp [h1]
      clear HE
      go_enter Try.func62, Try.ntmps62
      go_wp2
      go_ret
      exact ⟨by rw [HV.out]; rfl, ((Below.refl _ _).alloc (Nat.le_refl _) _).alloc (by simp) _⟩
  · have HV : Hid (decide (x = y) = false) := decide_eq_false (fun h => h0 (HE.mp h).1)
    have h3' : (x.k != y.k) = true := by simp [h0]
    clear HE
    go_enter Try.func62, Try.ntmps62
    go_wp2
    go_ret
    exact ⟨by rw [HV.out]; rfl, ((Below.refl _ _).alloc (Nat.le_refl _) _).alloc (by simp) _⟩
end Go.Proofs.Ytclnhjkmhemebaa
