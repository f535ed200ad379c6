/- The laws' own helpers over hellos: a hello is four integers, as a node is; opened from the row's reading, toHello, eqHello. -/
import Derived.Test.YtlecpjgeaigjkaaArgArena
import Derived.Test.YtlecpjgeaigjkaaLawArena
import Derived.Test.YtlecpjgeaigjkaaLawClip
import Derived.Test.YtlecpjgeaigjkaaRegionA
namespace Go.Proofs.Ytlecpjgeaigjkaa
open Go.ChangeShapes Go.WideShapes Go.ChangeAt Go.RowKit Go.Joins Go.Deep
theorem cellsLHello : Try.prog.cellsOf 26 = 4 := by kernel_rfl
theorem helloSize : (Try.prog.info? 34).map (·.size) = some 4 := by kernel_rfl
set_option maxRecDepth 100000 in
theorem hello_cells {H : Type} {enc : TypeId × Value → H} {W : World} {base : Nat} {sp : Nat → Bool} {held : Bool} {fuel : Nat} {cs : List Value} {x : DataW H × List MemPlace} (h : DataW.trod enc Try.prog W base sp held fuel 26 cs = some x) :
    ∃ y : Nd, cs = [.int .i64 y.k, .int .i64 y.n, .int .i64 y.a, .int .i64 y.b] ∧ y.Fits := by
  obtain ⟨y0, y1, y2, y3, n, _, hl, h0, h1, h2, h3⟩ := trod_struct4 Try.underlying26 h
  rw [cellsLHello] at hl
  match cs, hl with
  | [c0, c1, c2, c3], _ =>
    simp only [cellsLInt, List.drop_zero, List.drop_succ_cons, List.take_succ_cons, List.take_zero] at h0 h1 h2 h3
    obtain ⟨z0, e0, _, w0⟩ := DataW.trod_int Try.underlying3 h0
    obtain ⟨z1, e1, _, w1⟩ := DataW.trod_int Try.underlying3 h1
    obtain ⟨z2, e2, _, w2⟩ := DataW.trod_int Try.underlying3 h2
    obtain ⟨z3, e3, _, w3⟩ := DataW.trod_int Try.underlying3 h3
    simp only [List.cons.injEq, and_true] at e0 e1 e2 e3
    subst e0 e1 e2 e3
    exact ⟨⟨z0, z1, z2, z3⟩, rfl, bounds_i64 w0, bounds_i64 w1, bounds_i64 w2, bounds_i64 w3⟩
set_option maxRecDepth 100000 in
theorem hello_of {H : Type} {enc : TypeId × Value → H} {W : World} {base b0 : Nat} {sp : Nat → Bool} {held : Bool} {r : Reach} {v : Value} {d : DataW H} {p : List MemPlace} (hv : Value.okWide Try.prog W r b0 26 v) (h : DataW.Trod enc Try.prog W base sp held 26 v d p) :
    ∃ y : Nd, v = .agg #[.int .i64 y.k, .int .i64 y.n, .int .i64 y.a, .int .i64 y.b] ∧ y.Fits := by
  obtain ⟨cs, rfl, hsz⟩ := okWide_struct Try.underlying26 hv
  obtain ⟨fuel, hf⟩ := h
  obtain ⟨y, he, hfit⟩ := hello_cells hf
  refine ⟨y, ?_, hfit⟩
  congr 1
  apply Array.ext'
  exact he

theorem toHello_any (x : Nd) (w : World) :
    Calls Try.prog 12 #[.agg #[.int .i64 x.k, .int .i64 x.n, .int .i64 x.a, .int .i64 x.b]] w fun e w' => e = .returned (.agg #[.int .i64 x.k, .int .i64 x.n, .int .i64 x.a, .int .i64 x.b]) ∧ Below w.heap.size w w' := by
  go_enter Try.func12, Try.ntmps12
  go_wp2
  refine bodyPost_ret (results_cell_row rfl _ _ (w.heap.size + 1) 34 #[.int .i64 x.k, .int .i64 x.n, .int .i64 x.a, .int .i64 x.b] (0, 0) _ rfl ?_ Try.underlying34 rfl helloSize) rfl ?_
  · rw [heap_alloc_old _ _ (by simp)]
    have := heap_alloc_new (w.alloc (.cells #[.int .i64 x.k, .int .i64 x.n, .int .i64 x.a, .int .i64 x.b] 26)) (.cells #[.int .i64 x.k, .int .i64 x.n, .int .i64 x.a, .int .i64 x.b] 34)
    simpa using this
  · exact ⟨rfl, (((Below.refl _ _).alloc (Nat.le_refl _) _).alloc (by simp) _).alloc (by simp; omega) _⟩

theorem Rst.ownC {B s i : Nat} {w w' : World} {v : Value} {ns : List Nd} (hr : Rst B s i w w') (h : OwnC B w v ns) : OwnC B w' v ns := by
  obtain ⟨a, cap, cp, e, ha, ho⟩ := h
  exact ⟨a, cap, cp, e, ha, hr.own ho⟩
theorem ownC_base {B B' : Nat} {w : World} {v : Value} {ns : List Nd} (h : OwnC B w v ns) (hle : B' ≤ B) : OwnC B' w v ns := by
  obtain ⟨a, cap, cp, e, ha, ho⟩ := h
  exact ⟨a, cap, cp, e, ha, OwnN.base ho hle⟩
theorem ownC_row {B : Nat} {w : World} {v : Value} {ns : List Nd} (h : OwnC B w v ns) : ∃ a cap, v = .slice a ns.length cap := by
  obtain ⟨a, cap, cp, e, ha, ho⟩ := h
  exact ⟨a, cap, e⟩
theorem own_storeC {B g : Nat} {w : World} {v u : Value} {cs : Array Value} {ns : List Nd} (h : OwnC B w v ns) (hg : w.heap[g]? = some (.cells cs 30 (0, 0))) : OwnC B (w.setCell ⟨g, 0, none⟩ u) v ns := by
  obtain ⟨a, cap, cp, e, ha, ho⟩ := h
  exact ⟨a, cap, cp, e, ha, own_store ho hg⟩
end Go.Proofs.Ytlecpjgeaigjkaa
