/- What an argument of the laws' types Arena and Node holds: opened from the row's reading. -/
import Derived.Test.YtlecpjgeaigjkaaTermAt
import Derived.Lib.SmallJoins
import Derived.Deep.Slices
import Derived.OpenShut
import Derived.ProofKit
import Derived.Test.YtlecpjgeaigjkaaRegionK
import Derived.Test.YtlecpjgeaigjkaaTermPut2
import Derived.Test.YtlecpjgeaigjkaaLawArena3
import Derived.WalkKit
import Derived.Test.YtlecpjgeaigjkaaTermPut
namespace Go.Proofs.Ytlecpjgeaigjkaa
open Go.ChangeShapes Go.WideShapes Go.ChangeAt Go.RowKit Go.Joins Go.Deep

theorem cellsLNode : Try.prog.cellsOf 129 = 4 := by kernel_rfl
theorem cellsLArena : Try.prog.cellsOf 24 = 1 := by kernel_rfl
theorem cellsLNodes : Try.prog.cellsOf 22 = 1 := by kernel_rfl
theorem cellsLInt : Try.prog.cellsOf 3 = 1 := by kernel_rfl

set_option maxRecDepth 100000 in
theorem node_cells {H : Type} {enc : TypeId × Value → H} {W : World} {base : Nat} {sp : Nat → Bool} {held : Bool} {fuel : Nat} {cs : List Value} {x : DataW H × List MemPlace} (h : DataW.trod enc Try.prog W base sp held fuel 129 cs = some x) :
    ∃ y : Nd, cs = [.int .i64 y.k, .int .i64 y.n, .int .i64 y.a, .int .i64 y.b] ∧ y.Fits := by
  obtain ⟨y0, y1, y2, y3, n, _, hl, h0, h1, h2, h3⟩ := trod_struct4 Try.underlying129 h
  rw [cellsLNode] at hl
  match cs, hl with
  | [c0, c1, c2, c3], _ =>
    simp only [cellsLInt, List.drop_zero, List.drop_succ_cons, List.take_succ_cons, List.take_zero] at h0 h1 h2 h3
    obtain ⟨z0, e0, _, w0⟩ := DataW.trod_int Try.underlying3 h0
    obtain ⟨z1, e1, _, w1⟩ := DataW.trod_int Try.underlying3 h1
    obtain ⟨z2, e2, _, w2⟩ := DataW.trod_int Try.underlying3 h2
    obtain ⟨z3, e3, _, w3⟩ := DataW.trod_int Try.underlying3 h3
    simp only [List.cons.injEq, and_true] at e0 e1 e2 e3
    subst e0 e1 e2 e3
    exact ⟨⟨z0, z1, z2, z3⟩, rfl, bounds_i64 w0, bounds_i64 w1, bounds_i64 w2, bounds_i64 w3⟩
set_option maxRecDepth 100000 in
theorem node_of {H : Type} {enc : TypeId × Value → H} {W : World} {base b0 : Nat} {sp : Nat → Bool} {held : Bool} {r : Reach} {v : Value} {d : DataW H} {p : List MemPlace} (hv : Value.okWide Try.prog W r b0 129 v) (h : DataW.Trod enc Try.prog W base sp held 129 v d p) :
    ∃ y : Nd, v = .agg #[.int .i64 y.k, .int .i64 y.n, .int .i64 y.a, .int .i64 y.b] ∧ y.Fits := by
  obtain ⟨cs, rfl, hsz⟩ := okWide_struct Try.underlying129 hv
  obtain ⟨fuel, hf⟩ := h
  obtain ⟨y, he, hfit⟩ := node_cells hf
  refine ⟨y, ?_, hfit⟩
  congr 1
  apply Array.ext'
  exact he

set_option maxRecDepth 100000 in
theorem arena_of {H : Type} {enc : TypeId × Value → H} {W : World} {b0 : Nat} {r : Reach} {v : Value} {d : DataW H} {p : List MemPlace} (hv : Value.okWide Try.prog W r b0 24 v) (h : DataW.Trod enc Try.prog W 0 (fun _ => true) true 24 v d p) :
    ∃ (a : Option Addr) (cap : Nat) (ns : List Nd), v = .agg #[.slice a ns.length cap] ∧ ns.length ≤ maxLen ∧ RowN W.heap.size W a ns ∧ ∀ y ∈ ns, y.Fits := by
  obtain ⟨cs, rfl, hsz⟩ := okWide_struct Try.underlying24 hv
  rw [cellsLArena] at hsz
  obtain ⟨fuel, hf⟩ := h
  obtain ⟨y0, n, _, hl, h0⟩ := trod_struct1 Try.underlying24 hf
  simp only [Value.cells] at h0 hl
  obtain ⟨c, hc⟩ : ∃ c, cs.toList = [c] := List.length_eq_one_iff.1 (by simpa using hsz)
  have hcs : cs = #[c] := by apply Array.ext'; exact hc
  subst hcs
  simp only [cellsLNodes, List.drop_zero, List.take_succ_cons, List.take_zero] at h0
  rcases open_slice Try.underlying22 h0 with ⟨hn, _⟩ | ⟨ad, len, cap, m, f, D, Pl, hn, _, hlc, hcm, hm, _, hel⟩
  · simp only [List.cons.injEq, and_true] at hn
    subst hn
    exact ⟨none, 0, [], rfl, by simp, .inl rfl, by simp⟩
  · simp only [List.cons.injEq, and_true] at hn
    subst hn
    simp only [if_true] at hm
    subst hm
    rw [cellsLNode] at hel
    have each : ∀ i, i < len → ∃ y : Nd, y.Fits ∧ W.cells? 0 (ad.add (i * 4)) 4 = some [.int .i64 y.k, .int .i64 y.n, .int .i64 y.a, .int .i64 y.b] := fun i hi => by
      obtain ⟨cs', h1, h2⟩ := hel i (by omega)
      obtain ⟨y, rfl, hfit⟩ := node_cells h2
      exact ⟨y, hfit, h1⟩
    obtain ⟨Y, hY⟩ := choose_lt each
    have hlen : ((List.range len).map Y).length = len := by simp
    have hget : ∀ i, i < len → ((List.range len).map Y).getD i Nd.zero = Y i := fun i hi => by
      rw [List.getD_eq_getElem?_getD, List.getElem?_map, List.getElem?_range hi]; rfl
    refine ⟨some ad, m, (List.range len).map Y, by rw [hlen], by rw [hlen]; omega, ?_, ?_⟩
    · rcases Nat.eq_zero_or_pos len with h00 | h00
      · exact .inl (by rw [h00]; rfl)
      · have key : ∀ i, i < len → ∀ j u, [Value.int .i64 (Y i).k, .int .i64 (Y i).n, .int .i64 (Y i).a, .int .i64 (Y i).b][j]? = some u → W.cell? ((ad.add (i * 4)).add j) = some u := fun i hi j u hu => by
          obtain ⟨_, hl4, hcell⟩ := World.cells?_some (hY i hi).2
          have hj : j < 4 := by
            have := (List.getElem?_eq_some_iff.1 hu).1
            simpa using this
          rw [hcell j hj]; exact hu
        obtain ⟨b, off, spot⟩ := ad
        have hc0 := key 0 h00 0 _ rfl
        have hspot : spot = none := by simpa [Addr.add] using World.cell?_spot hc0
        subst hspot
        have hadd : ∀ i j : Nat, ((⟨b, off, none⟩ : Addr).add i).add j = ⟨b, off + i + j, none⟩ := fun i j => by
          have e1 : (⟨b, off, none⟩ : Addr).add i = ⟨b, off + i, none⟩ := by unfold Addr.add; split <;> simp_all
          rw [e1]; unfold Addr.add; split <;> simp_all
        refine .inr ⟨b, off, rfl, ?_, fun i hi => ?_⟩
        · have := World.block_lt_of_cell? W _ hc0
          rw [hadd] at this; exact this
        · rw [hlen] at hi
          rw [hget i hi]
          have k0 := key i hi 0 _ rfl
          have k1 := key i hi 1 _ rfl
          have k2 := key i hi 2 _ rfl
          have k3 := key i hi 3 _ rfl
          rw [hadd] at k0 k1 k2 k3
          exact ⟨k0, k1, k2, k3⟩
    · intro y hy
      simp only [List.mem_map, List.mem_range] at hy
      obtain ⟨i, hi, rfl⟩ := hy
      exact (hY i hi).1
end Go.Proofs.Ytlecpjgeaigjkaa

namespace Go.Proofs.Ytlecpjgeaigjkaa
open Go.RowKit

/-- What operation i does to the world: number s stores into a box of an arena that was made from B on; all others make memory at most. -/
def Rst (B s : Nat) (i : Nat) (w w' : World) : Prop := if i = s then ∃ g u v, w' = w.setCell ⟨g, 0, none⟩ v ∧ B ≤ g ∧ w.heap[g]? = some (.cells #[u] 30 (0, 0)) else Below w.heap.size w w'
theorem Rst.of {B s i : Nat} {w w' : World} (h : i ≠ s) (hb : Below w.heap.size w w') : Rst B s i w w' := by unfold Rst; rw [if_neg h]; exact hb
theorem Rst.refl {B s i : Nat} {w : World} (h : i ≠ s) : Rst B s i w w := Rst.of h (Below.refl _ _)
theorem Rst.other {B s i : Nat} {w w' : World} (h : i ≠ s) (hr : Rst B s i w w') : Below w.heap.size w w' := by unfold Rst at hr; rw [if_neg h] at hr; exact hr
theorem own_store {B g : Nat} {w : World} {v u : Value} {cs : Array Value} {ns : List Nd} (h : OwnN B w v ns) (hg : w.heap[g]? = some (.cells cs 30 (0, 0))) : OwnN B (w.setCell ⟨g, 0, none⟩ u) v ns := by
  refine ⟨h.1, ?_⟩
  rcases h.2 with h0 | ⟨gv, cap, cur, e, hb, hh, rest⟩
  · exact .inl h0
  · refine .inr ⟨gv, cap, cur, e, hb, ?_, rest⟩
    rw [Below.heap_setCell _ _ _ _ (fun e => ?_)]
    · exact hh
    · have e' : gv = g := e
      rw [e', hg] at hh
      simp at hh
theorem Rst.own {B s i : Nat} {w w' : World} {v : Value} {ns : List Nd} (hr : Rst B s i w w') (h : OwnN B w v ns) : OwnN B w' v ns := by
  unfold Rst at hr
  split at hr
  · obtain ⟨g, u, x, rfl, _, hu⟩ := hr
    exact own_store h hu
  · exact h.later hr
theorem Rst.inv {B s i : Nat} {wb w w' : World} (hs : B ≤ wb.heap.size) (hr : Rst B s i w w') (h : Below B wb w) : Below B wb w' := by
  unfold Rst at hr
  split at hr
  · obtain ⟨g, u, x, rfl, hg, _⟩ := hr
    exact h.setCell hg _
  · exact h.trans (hr.mono (Nat.le_trans hs h.size))
theorem Rst.box {B s i g : Nat} {w w' : World} (hr : Rst B s i w w') (h : ∃ u, w.heap[g]? = some (.cells #[u] 30 (0, 0))) : ∃ u, w'.heap[g]? = some (.cells #[u] 30 (0, 0)) := by
  obtain ⟨u, hu⟩ := h
  unfold Rst at hr
  split at hr
  · obtain ⟨g', u', x, rfl, hg, hu'⟩ := hr
    by_cases e : g = g'
    · subst e
      exact ⟨x, (heap_setCell_same w g 0 _ _ _ hu).trans rfl⟩
    · exact ⟨u, (Below.heap_setCell _ _ _ _ e).trans hu⟩
  · exact ⟨u, (hr.block g (Array.getElem?_eq_some_iff.1 hu).1).trans hu⟩
/-- An owned row and a box of an arena are two blocks. -/
theorem own_box_ne {B g : Nat} {w : World} {v : Value} {cs : Array Value} {ns : List Nd} (h : OwnN B w v ns) (hg : w.heap[g]? = some (.cells cs 30 (0, 0))) : v.ownBlock ≠ some g := by
  intro e
  rcases h.2 with ⟨rfl, _⟩ | ⟨gv, cap, cur, rfl, hb, hh, _⟩
  · cases e
  · simp [Value.ownBlock] at e
    rw [e, hg] at hh
    simp at hh
theorem putA_len {ns : List Nd} {x : Nd} (h : ns.length ≤ 1048576) : (putA ns x).length ≤ 1048577 := by
  unfold putA
  split
  · simp; omega
  · omega
end Go.Proofs.Ytlecpjgeaigjkaa

namespace Go.Proofs.Ytlecpjgeaigjkaa
open Go.ChangeShapes Go.WideShapes Go.ChangeAt Go.RowKit Go.Joins Go.Deep
theorem cellsLHello : Try.prog.cellsOf 26 = 4 := by kernel_rfl
theorem helloSize : (Try.prog.info? 34).map (·.size) = some 4 := by kernel_rfl
set_option maxRecDepth 100000 in
theorem hello_cells {H : Type} {enc : TypeId × Value → H} {W : World} {base : Nat} {sp : Nat → Bool} {held : Bool} {fuel : Nat} {cs : List Value} {x : DataW H × List MemPlace} (h : DataW.trod enc Try.prog W base sp held fuel 26 cs = some x) :
    ∃ y : Nd, cs = [.int .i64 y.k, .int .i64 y.n, .int .i64 y.a, .int .i64 y.b] ∧ y.Fits := by
  obtain ⟨y0, y1, y2, y3, n, _, hl, h0, h1, h2, h3⟩ := trod_struct4 Try.underlying26 h
  rw [cellsLHello] at hl
  match cs, hl with
  | [c0, c1, c2, c3], _ =>
    simp only [cellsLInt, List.drop_zero, List.drop_succ_cons, List.take_succ_cons, List.take_zero] at h0 h1 h2 h3
    obtain ⟨z0, e0, _, w0⟩ := DataW.trod_int Try.underlying3 h0
    obtain ⟨z1, e1, _, w1⟩ := DataW.trod_int Try.underlying3 h1
    obtain ⟨z2, e2, _, w2⟩ := DataW.trod_int Try.underlying3 h2
    obtain ⟨z3, e3, _, w3⟩ := DataW.trod_int Try.underlying3 h3
    simp only [List.cons.injEq, and_true] at e0 e1 e2 e3
    subst e0 e1 e2 e3
    exact ⟨⟨z0, z1, z2, z3⟩, rfl, bounds_i64 w0, bounds_i64 w1, bounds_i64 w2, bounds_i64 w3⟩
set_option maxRecDepth 100000 in
theorem hello_of {H : Type} {enc : TypeId × Value → H} {W : World} {base b0 : Nat} {sp : Nat → Bool} {held : Bool} {r : Reach} {v : Value} {d : DataW H} {p : List MemPlace} (hv : Value.okWide Try.prog W r b0 26 v) (h : DataW.Trod enc Try.prog W base sp held 26 v d p) :
    ∃ y : Nd, v = .agg #[.int .i64 y.k, .int .i64 y.n, .int .i64 y.a, .int .i64 y.b] ∧ y.Fits := by
  obtain ⟨cs, rfl, hsz⟩ := okWide_struct Try.underlying26 hv
  obtain ⟨fuel, hf⟩ := h
  obtain ⟨y, he, hfit⟩ := hello_cells hf
  refine ⟨y, ?_, hfit⟩
  congr 1
  apply Array.ext'
  exact he

theorem toHello_any (x : Nd) (w : World) :
    Calls Try.prog 12 #[.agg #[.int .i64 x.k, .int .i64 x.n, .int .i64 x.a, .int .i64 x.b]] w fun e w' => e = .returned (.agg #[.int .i64 x.k, .int .i64 x.n, .int .i64 x.a, .int .i64 x.b]) ∧ Below w.heap.size w w' := by
  go_enter Try.func12, Try.ntmps12
  go_wp2
  refine bodyPost_ret (results_cell_row rfl _ _ (w.heap.size + 1) 34 #[.int .i64 x.k, .int .i64 x.n, .int .i64 x.a, .int .i64 x.b] (0, 0) _ rfl ?_ Try.underlying34 rfl helloSize) rfl ?_
  · rw [heap_alloc_old _ _ (by simp)]
    have := heap_alloc_new (w.alloc (.cells #[.int .i64 x.k, .int .i64 x.n, .int .i64 x.a, .int .i64 x.b] 26)) (.cells #[.int .i64 x.k, .int .i64 x.n, .int .i64 x.a, .int .i64 x.b] 34)
    simpa using this
  · exact ⟨rfl, (((Below.refl _ _).alloc (Nat.le_refl _) _).alloc (by simp) _).alloc (by simp; omega) _⟩

theorem Rst.ownC {B s i : Nat} {w w' : World} {v : Value} {ns : List Nd} (hr : Rst B s i w w') (h : OwnC B w v ns) : OwnC B w' v ns := by
  obtain ⟨a, cap, cp, e, ha, ho⟩ := h
  exact ⟨a, cap, cp, e, ha, hr.own ho⟩
theorem ownC_base {B B' : Nat} {w : World} {v : Value} {ns : List Nd} (h : OwnC B w v ns) (hle : B' ≤ B) : OwnC B' w v ns := by
  obtain ⟨a, cap, cp, e, ha, ho⟩ := h
  exact ⟨a, cap, cp, e, ha, OwnN.base ho hle⟩
theorem ownC_row {B : Nat} {w : World} {v : Value} {ns : List Nd} (h : OwnC B w v ns) : ∃ a cap, v = .slice a ns.length cap := by
  obtain ⟨a, cap, cp, e, ha, ho⟩ := h
  exact ⟨a, cap, e⟩
theorem own_storeC {B g : Nat} {w : World} {v u : Value} {cs : Array Value} {ns : List Nd} (h : OwnC B w v ns) (hg : w.heap[g]? = some (.cells cs 30 (0, 0))) : OwnC B (w.setCell ⟨g, 0, none⟩ u) v ns := by
  obtain ⟨a, cap, cp, e, ha, ho⟩ := h
  exact ⟨a, cap, cp, e, ha, own_store ho hg⟩
end Go.Proofs.Ytlecpjgeaigjkaa
