/- The laws' marks on an arena whose slice shows less room than its block has (slices.Clip). -/
import Derived.Test.YtnjihmailppjkaaLawArena3
import Derived.Test.YtnjihmailppjkaaLawKeep
import Derived.WalkKit
import Derived.WalkLawsBesides
import Derived.OwnWalk
import Derived.Test.YtnjihmailppjkaaTermAt
import Derived.Lib.SmallJoins
import Derived.Deep.Slices
import Derived.OpenShut
import Derived.ProofKit
import Derived.Test.YtnjihmailppjkaaRegionK
import Derived.Test.YtnjihmailppjkaaTermPut2
import Derived.Test.YtnjihmailppjkaaLawArena
namespace Go.Proofs.Ytnjihmailppjkaa
open Go.RowKit
/-- A row of nodes that the call owns, shown with whatever room. -/
def OwnC (base : Nat) (w : World) (v : Value) (ns : List Nd) : Prop := ∃ a cap cp, v = .slice a ns.length cap ∧ AddrN a cap ∧ OwnN base w (.slice a ns.length cp) ns
theorem OwnN.clip {base : Nat} {w : World} {v : Value} {ns : List Nd} (h : OwnN base w v ns) : OwnC base w v ns := by
  obtain ⟨a, cap, rfl, ha, _⟩ := h.row
  exact ⟨a, cap, cap, rfl, ha, h⟩
set_option maxHeartbeats 1600000 in
theorem markNodeSC_any (base g cap cp n k0 : Nat) (xs0 : List Value) (w : World) (hn : n ≤ 2097152) (hk : k0 ≤ 1000) (hown : w.ownsRow base 87 4 (.slice (some ⟨g, 0, none⟩) n cp) n xs0) :
    Calls Try.prog 42 #[.slice (some ⟨g, 0, none⟩) n cap, .int .i64 (k0 : Int)] w fun e w' => e = .returned (.int .i64 ((k0 : Int) + 4 * (n : Int))) ∧ OwnN base w' (.slice (some ⟨g, 0, none⟩) n cp) (marksN k0 n) ∧ w.grownBy w' (some g) := by
  go_enter Try.func42, Try.ntmps42
  go_wp2
  go_loopw [1, 5] (fun kk i wr => ∃ (j : Nat) (xs : List Value), j ≤ n ∧ i = .int .i64 (j : Int) ∧ kk = .int .i64 ((k0 : Int) + 4 * (j : Int)) ∧ wr.ownsRow base 87 4 (.slice (some ⟨g, 0, none⟩) n cp) n xs ∧ Hid (xs.take (j * 4) = cellsN (marksN k0 j)) ∧ Hid (w.grownBy wr (some g)))
    (fun _ i _ => n - (intOf i).toNat)
  case atStart => exact ⟨0, _, Nat.zero_le _, rfl, by simp, hown, (by show _ = _; simp [cellsN, marksN]), gb_refl _ _⟩
  case round =>
    obtain ⟨j, xs, hj, rfl, rfl, ho, HT, HG⟩ := hrel
    have hxl : xs.length = n * 4 := ho.1
    by_cases hlt : j < n
    · have hi0 : (0 : Int) ≤ (j : Int) := by omega
      have hi1 : (j : Int) < (n : Int) := by omega
      obtain ⟨u0, e0⟩ : ∃ u, wr.cell? ⟨g, j * 4, none⟩ = some u := by rw [ho.cellAt (j * 4) (by omega)]; exact ⟨_, List.getElem?_eq_getElem (by omega)⟩
      obtain ⟨u1, e1⟩ : ∃ u, wr.cell? ⟨g, j * 4 + 1, none⟩ = some u := by rw [ho.cellAt (j * 4 + 1) (by omega)]; exact ⟨_, List.getElem?_eq_getElem (by omega)⟩
      obtain ⟨u2, e2⟩ : ∃ u, wr.cell? ⟨g, j * 4 + 2, none⟩ = some u := by rw [ho.cellAt (j * 4 + 2) (by omega)]; exact ⟨_, List.getElem?_eq_getElem (by omega)⟩
      obtain ⟨u3, e3⟩ : ∃ u, wr.cell? ⟨g, j * 4 + 3, none⟩ = some u := by rw [ho.cellAt (j * 4 + 3) (by omega)]; exact ⟨_, List.getElem?_eq_getElem (by omega)⟩
      have f0 := ho.frozenAt (j * 4)
      have f1 := ho.frozenAt (j * 4 + 1)
      have f2 := ho.frozenAt (j * 4 + 2)
      have f3 := ho.frozenAt (j * 4 + 3)
      have HS : Hid _ := ((((ho.stored (j * 4) (.int .i64 ((k0 : Int) + 4 * (j : Int)))).1.stored (j * 4 + 1) (.int .i64 ((k0 : Int) + 4 * (j : Int) + 1))).1.stored (j * 4 + 2) (.int .i64 ((k0 : Int) + 4 * (j : Int) + 1 + 1))).1.stored (j * 4 + 3) (.int .i64 ((k0 : Int) + 4 * (j : Int) + 1 + 1 + 1))).1
      have HG4 : Hid _ := gb_set (gb_set (gb_set (gb_set HG.out (j * 4) (.int .i64 ((k0 : Int) + 4 * (j : Int)))) (j * 4 + 1) (.int .i64 ((k0 : Int) + 4 * (j : Int) + 1))) (j * 4 + 2) (.int .i64 ((k0 : Int) + 4 * (j : Int) + 1 + 1))) (j * 4 + 3) (.int .i64 ((k0 : Int) + 4 * (j : Int) + 1 + 1 + 1))
      have HT4 : Hid (((((xs.set (j * 4) (.int .i64 ((k0 : Int) + 4 * (j : Int)))).set (j * 4 + 1) (.int .i64 ((k0 : Int) + 4 * (j : Int) + 1))).set (j * 4 + 2) (.int .i64 ((k0 : Int) + 4 * (j : Int) + 1 + 1))).set (j * 4 + 3) (.int .i64 ((k0 : Int) + 4 * (j : Int) + 1 + 1 + 1))).take ((j + 1) * 4) = cellsN (marksN k0 (j + 1))) := by
        show _ = _
        rw [show (j + 1) * 4 = j * 4 + 4 by omega, set4_take xs (j * 4) _ _ _ _ (by omega), HT.out, marksN, cellsN_append]; rfl
      clear ho HT HG
      go_wp2
      go_roundw
      case rel => exact ⟨j + 1, _, by omega, by go_num, by go_num, HS.out, HT4, HG4⟩
      case measure => simp [intOf]; omega
    · obtain rfl : j = n := by omega
      have HE : Hid (xs = cellsN (marksN k0 j)) := by
        show _ = _
        have := HT.out
        rw [List.take_of_length_le (by omega)] at this
        exact this
      clear HT
      go_wp2
      go_ret
      exact ⟨rfl, by unfold OwnN; rw [← HE.out, marksN_len]; exact ho, HG.out⟩
/-- markArena on an arena that the call owns, whatever room it shows. -/
theorem markArenaC_any (base k0 : Nat) (a : Option Addr) (cap cp : Nat) (ns : List Nd) (w : World) (hn : ns.length ≤ 2097152) (hk : k0 ≤ 1000) (ha : AddrN a cap) (hown : OwnN base w (.slice a ns.length cp) ns) :
    Calls Try.prog 19 #[.agg #[.slice a ns.length cap], .int .i64 (k0 : Int)] w fun e w' => e = .returned (.int .i64 ((k0 : Int) + 4 * (ns.length : Int))) ∧ OwnN base w' (.slice a ns.length cp) (marksN k0 ns.length) ∧ w.grownBy w' (Value.slice a ns.length cp).ownBlock := by
  rcases hown.2 with ⟨e, h0⟩ | ⟨g, cp', cur, e, hg, hh, _⟩
  · obtain ⟨rfl, h1, rfl⟩ : a = none ∧ ns.length = 0 ∧ cp = 0 := by simpa using e
    rcases ha with ⟨_, rfl⟩ | ⟨b, off, e⟩
    · have := markArena_any base k0 (.slice none ns.length 0) ns w hn hk hown
      exact this
    · cases e
  · obtain ⟨rfl, rfl⟩ : a = some ⟨g, 0, none⟩ ∧ cp = cp' := by simpa using e
    have HM : Hid _ := markNodeSC_any base g cap cp ns.length k0 (cellsN ns) (w.alloc (.cells #[.slice (some ⟨g, 0, none⟩) ns.length cap] 39)) hn hk (hown.alloc _)
    clear hown hh ha
    go_enter Try.func19, Try.ntmps19
    go_wp2_with fail
    refine Calls.mono HM.out ?_
    rintro e w1 ⟨rfl, ho, hgr⟩
    have hgb : w.grownBy w1 (Value.slice (some ⟨g, 0, none⟩) ns.length cp).ownBlock := gb_alloc hgr
    clear HM hgr
    go_wp2
    go_ret
    exact ⟨rfl, ho, hgb⟩
end Go.Proofs.Ytnjihmailppjkaa

namespace Go.Proofs.Ytnjihmailppjkaa
open Go.ChangeShapes Go.WideShapes Go.ChangeAt Go.RowKit Go.Joins Go.Deep

theorem cellsLNode : Try.prog.cellsOf 90 = 4 := by kernel_rfl
theorem cellsLArena : Try.prog.cellsOf 31 = 1 := by kernel_rfl
theorem cellsLNodes : Try.prog.cellsOf 29 = 1 := by kernel_rfl
theorem cellsLInt : Try.prog.cellsOf 3 = 1 := by kernel_rfl

set_option maxRecDepth 100000 in
theorem node_cells {H : Type} {enc : TypeId × Value → H} {W : World} {base : Nat} {sp : Nat → Bool} {held : Bool} {fuel : Nat} {cs : List Value} {x : DataW H × List MemPlace} (h : DataW.trod enc Try.prog W base sp held fuel 90 cs = some x) :
    ∃ y : Nd, cs = [.int .i64 y.k, .int .i64 y.n, .int .i64 y.a, .int .i64 y.b] ∧ y.Fits := by
  obtain ⟨y0, y1, y2, y3, n, _, hl, h0, h1, h2, h3⟩ := trod_struct4 Try.underlying90 h
  rw [cellsLNode] at hl
  match cs, hl with
  | [c0, c1, c2, c3], _ =>
    simp only [cellsLInt, List.drop_zero, List.drop_succ_cons, List.take_succ_cons, List.take_zero] at h0 h1 h2 h3
    obtain ⟨z0, e0, _, w0⟩ := DataW.trod_int Try.underlying3 h0
    obtain ⟨z1, e1, _, w1⟩ := DataW.trod_int Try.underlying3 h1
    obtain ⟨z2, e2, _, w2⟩ := DataW.trod_int Try.underlying3 h2
    obtain ⟨z3, e3, _, w3⟩ := DataW.trod_int Try.underlying3 h3
    simp only [List.cons.injEq, and_true] at e0 e1 e2 e3
    subst e0 e1 e2 e3
    exact ⟨⟨z0, z1, z2, z3⟩, rfl, bounds_i64 w0, bounds_i64 w1, bounds_i64 w2, bounds_i64 w3⟩
set_option maxRecDepth 100000 in
theorem node_of {H : Type} {enc : TypeId × Value → H} {W : World} {base b0 : Nat} {sp : Nat → Bool} {held : Bool} {r : Reach} {v : Value} {d : DataW H} {p : List MemPlace} (hv : Value.okWide Try.prog W r b0 90 v) (h : DataW.Trod enc Try.prog W base sp held 90 v d p) :
    ∃ y : Nd, v = .agg #[.int .i64 y.k, .int .i64 y.n, .int .i64 y.a, .int .i64 y.b] ∧ y.Fits := by
  obtain ⟨cs, rfl, hsz⟩ := okWide_struct Try.underlying90 hv
  obtain ⟨fuel, hf⟩ := h
  obtain ⟨y, he, hfit⟩ := node_cells hf
  refine ⟨y, ?_, hfit⟩
  congr 1
  apply Array.ext'
  exact he

set_option maxRecDepth 100000 in
theorem arena_of {H : Type} {enc : TypeId × Value → H} {W : World} {b0 : Nat} {r : Reach} {v : Value} {d : DataW H} {p : List MemPlace} (hv : Value.okWide Try.prog W r b0 31 v) (h : DataW.Trod enc Try.prog W 0 (fun _ => true) true 31 v d p) :
    ∃ (a : Option Addr) (cap : Nat) (ns : List Nd), v = .agg #[.slice a ns.length cap] ∧ ns.length ≤ maxLen ∧ RowN W.heap.size W a ns ∧ ∀ y ∈ ns, y.Fits := by
  obtain ⟨cs, rfl, hsz⟩ := okWide_struct Try.underlying31 hv
  rw [cellsLArena] at hsz
  obtain ⟨fuel, hf⟩ := h
  obtain ⟨y0, n, _, hl, h0⟩ := trod_struct1 Try.underlying31 hf
  simp only [Value.cells] at h0 hl
  obtain ⟨c, hc⟩ : ∃ c, cs.toList = [c] := List.length_eq_one_iff.1 (by simpa using hsz)
  have hcs : cs = #[c] := by apply Array.ext'; exact hc
  subst hcs
  simp only [cellsLNodes, List.drop_zero, List.take_succ_cons, List.take_zero] at h0
  rcases open_slice Try.underlying29 h0 with ⟨hn, _⟩ | ⟨ad, len, cap, m, f, D, Pl, hn, _, hlc, hcm, hm, _, hel⟩
  · simp only [List.cons.injEq, and_true] at hn
    subst hn
    exact ⟨none, 0, [], rfl, by simp, .inl rfl, by simp⟩
  · simp only [List.cons.injEq, and_true] at hn
    subst hn
    simp only [if_true] at hm
    subst hm
    rw [cellsLNode] at hel
    have each : ∀ i, i < len → ∃ y : Nd, y.Fits ∧ W.cells? 0 (ad.add (i * 4)) 4 = some [.int .i64 y.k, .int .i64 y.n, .int .i64 y.a, .int .i64 y.b] := fun i hi => by
      obtain ⟨cs', h1, h2⟩ := hel i (by omega)
      obtain ⟨y, rfl, hfit⟩ := node_cells h2
      exact ⟨y, hfit, h1⟩
    obtain ⟨Y, hY⟩ := choose_lt each
    have hlen : ((List.range len).map Y).length = len := by simp
    have hget : ∀ i, i < len → ((List.range len).map Y).getD i Nd.zero = Y i := fun i hi => by
      rw [List.getD_eq_getElem?_getD, List.getElem?_map, List.getElem?_range hi]; rfl
    refine ⟨some ad, m, (List.range len).map Y, by rw [hlen], by rw [hlen]; omega, ?_, ?_⟩
    · rcases Nat.eq_zero_or_pos len with h00 | h00
      · exact .inl (by rw [h00]; rfl)
      · have key : ∀ i, i < len → ∀ j u, [Value.int .i64 (Y i).k, .int .i64 (Y i).n, .int .i64 (Y i).a, .int .i64 (Y i).b][j]? = some u → W.cell? ((ad.add (i * 4)).add j) = some u := fun i hi j u hu => by
          obtain ⟨_, hl4, hcell⟩ := World.cells?_some (hY i hi).2
          have hj : j < 4 := by
            have := (List.getElem?_eq_some_iff.1 hu).1
            simpa using this
          rw [hcell j hj]; exact hu
        obtain ⟨b, off, spot⟩ := ad
        have hc0 := key 0 h00 0 _ rfl
        have hspot : spot = none := by simpa [Addr.add] using World.cell?_spot hc0
        subst hspot
        have hadd : ∀ i j : Nat, ((⟨b, off, none⟩ : Addr).add i).add j = ⟨b, off + i + j, none⟩ := fun i j => by
          have e1 : (⟨b, off, none⟩ : Addr).add i = ⟨b, off + i, none⟩ := by unfold Addr.add; split <;> simp_all
          rw [e1]; unfold Addr.add; split <;> simp_all
        refine .inr ⟨b, off, rfl, ?_, fun i hi => ?_⟩
        · have := World.block_lt_of_cell? W _ hc0
          rw [hadd] at this; exact this
        · rw [hlen] at hi
          rw [hget i hi]
          have k0 := key i hi 0 _ rfl
          have k1 := key i hi 1 _ rfl
          have k2 := key i hi 2 _ rfl
          have k3 := key i hi 3 _ rfl
          rw [hadd] at k0 k1 k2 k3
          exact ⟨k0, k1, k2, k3⟩
    · intro y hy
      simp only [List.mem_map, List.mem_range] at hy
      obtain ⟨i, hi, rfl⟩ := hy
      exact (hY i hi).1
end Go.Proofs.Ytnjihmailppjkaa

namespace Go.Proofs.Ytnjihmailppjkaa
open Go.RowKit

/-- What operation i does to the world: number s stores into a box of an arena that was made from B on; all others make memory at most. -/
def Rst (B s : Nat) (i : Nat) (w w' : World) : Prop := if i = s then ∃ g u v, w' = w.setCell ⟨g, 0, none⟩ v ∧ B ≤ g ∧ w.heap[g]? = some (.cells #[u] 39 (0, 0)) else Below w.heap.size w w'
theorem Rst.of {B s i : Nat} {w w' : World} (h : i ≠ s) (hb : Below w.heap.size w w') : Rst B s i w w' := by unfold Rst; rw [if_neg h]; exact hb
theorem Rst.refl {B s i : Nat} {w : World} (h : i ≠ s) : Rst B s i w w := Rst.of h (Below.refl _ _)
theorem Rst.other {B s i : Nat} {w w' : World} (h : i ≠ s) (hr : Rst B s i w w') : Below w.heap.size w w' := by unfold Rst at hr; rw [if_neg h] at hr; exact hr
theorem own_store {B g : Nat} {w : World} {v u : Value} {cs : Array Value} {ns : List Nd} (h : OwnN B w v ns) (hg : w.heap[g]? = some (.cells cs 39 (0, 0))) : OwnN B (w.setCell ⟨g, 0, none⟩ u) v ns := by
  refine ⟨h.1, ?_⟩
  rcases h.2 with h0 | ⟨gv, cap, cur, e, hb, hh, rest⟩
  · exact .inl h0
  · refine .inr ⟨gv, cap, cur, e, hb, ?_, rest⟩
    rw [Below.heap_setCell _ _ _ _ (fun e => ?_)]
    · exact hh
    · have e' : gv = g := e
      rw [e', hg] at hh
      simp at hh
theorem Rst.own {B s i : Nat} {w w' : World} {v : Value} {ns : List Nd} (hr : Rst B s i w w') (h : OwnN B w v ns) : OwnN B w' v ns := by
  unfold Rst at hr
  split at hr
  · obtain ⟨g, u, x, rfl, _, hu⟩ := hr
    exact own_store h hu
  · exact h.later hr
theorem Rst.inv {B s i : Nat} {wb w w' : World} (hs : B ≤ wb.heap.size) (hr : Rst B s i w w') (h : Below B wb w) : Below B wb w' := by
  unfold Rst at hr
  split at hr
  · obtain ⟨g, u, x, rfl, hg, _⟩ := hr
    exact h.setCell hg _
  · exact h.trans (hr.mono (Nat.le_trans hs h.size))
theorem Rst.box {B s i g : Nat} {w w' : World} (hr : Rst B s i w w') (h : ∃ u, w.heap[g]? = some (.cells #[u] 39 (0, 0))) : ∃ u, w'.heap[g]? = some (.cells #[u] 39 (0, 0)) := by
  obtain ⟨u, hu⟩ := h
  unfold Rst at hr
  split at hr
  · obtain ⟨g', u', x, rfl, hg, hu'⟩ := hr
    by_cases e : g = g'
    · subst e
      exact ⟨x, (heap_setCell_same w g 0 _ _ _ hu).trans rfl⟩
    · exact ⟨u, (Below.heap_setCell _ _ _ _ e).trans hu⟩
  · exact ⟨u, (hr.block g (Array.getElem?_eq_some_iff.1 hu).1).trans hu⟩
/-- An owned row and a box of an arena are two blocks. -/
theorem own_box_ne {B g : Nat} {w : World} {v : Value} {cs : Array Value} {ns : List Nd} (h : OwnN B w v ns) (hg : w.heap[g]? = some (.cells cs 39 (0, 0))) : v.ownBlock ≠ some g := by
  intro e
  rcases h.2 with ⟨rfl, _⟩ | ⟨gv, cap, cur, rfl, hb, hh, _⟩
  · cases e
  · simp [Value.ownBlock] at e
    rw [e, hg] at hh
    simp at hh
theorem putA_len {ns : List Nd} {x : Nd} (h : ns.length ≤ 1048576) : (putA ns x).length ≤ 1048577 := by
  unfold putA
  split
  · simp; omega
  · omega
end Go.Proofs.Ytnjihmailppjkaa

namespace Go.Proofs.Ytnjihmailppjkaa
open Go.ChangeShapes Go.WideShapes Go.ChangeAt Go.RowKit Go.Joins Go.Deep
theorem Rst.ownC {B s i : Nat} {w w' : World} {v : Value} {ns : List Nd} (hr : Rst B s i w w') (h : OwnC B w v ns) : OwnC B w' v ns := by
  obtain ⟨a, cap, cp, e, ha, ho⟩ := h
  exact ⟨a, cap, cp, e, ha, hr.own ho⟩
theorem ownC_base {B B' : Nat} {w : World} {v : Value} {ns : List Nd} (h : OwnC B w v ns) (hle : B' ≤ B) : OwnC B' w v ns := by
  obtain ⟨a, cap, cp, e, ha, ho⟩ := h
  exact ⟨a, cap, cp, e, ha, OwnN.base ho hle⟩
theorem ownC_row {B : Nat} {w : World} {v : Value} {ns : List Nd} (h : OwnC B w v ns) : ∃ a cap, v = .slice a ns.length cap := by
  obtain ⟨a, cap, cp, e, ha, ho⟩ := h
  exact ⟨a, cap, e⟩
theorem own_storeC {B g : Nat} {w : World} {v u : Value} {cs : Array Value} {ns : List Nd} (h : OwnC B w v ns) (hg : w.heap[g]? = some (.cells cs 39 (0, 0))) : OwnC B (w.setCell ⟨g, 0, none⟩ u) v ns := by
  obtain ⟨a, cap, cp, e, ha, ho⟩ := h
  exact ⟨a, cap, cp, e, ha, own_store ho hg⟩
end Go.Proofs.Ytnjihmailppjkaa
