/- The drawing function DrawPut, the specification's. -/
import Derived.Test.YtffnadnndmmliaaDrawTold
import Derived.WalkKit
import Derived.WalkLawsBesides
import Derived.WalkSpells
import Derived.Laws.Rows
import Derived.Laws.OwnMore
import Derived.Laws.ResultCell
import Derived.BigRegion
import Derived.Deep.RegionLaw
import Derived.OneCell
namespace Go.Proofs.Ytffnadnndmmliaa
open Go.RowKit
set_option linter.unusedVariables false

set_option maxRecDepth 100000 in
set_option maxHeartbeats 400000 in
set_option maxRecDepth 20000 in
theorem newB_any (B : Nat) (a : Option Addr) (len cap : Nat) (w : World) (hB : B ≤ w.heap.size) (hc : CodeIn B w a len) :
    Calls Try.prog 87 #[.slice a len cap] w fun e w' => ∃ g, e = .returned (.pointer (some ⟨g, 0, none⟩)) ∧ Cur B w' g ∧ Below w.heap.size w w' ∧ w.heap.size ≤ g := by
  have hl := hc.1
  have HC : Hid (CodeIn B w a len) := hc
  clear hc
  go_enter Try.func87, Try.ntmps87
  go_wp2
  go_loop [3, 4] (fun h i => ∃ (k : Nat) (x : Int), k ≤ len ∧ k ≤ 4000 ∧ i = .int .i64 (k : Int) ∧ h = .int .i64 x ∧ 0 ≤ x ∧ x ≤ 1073741823)
    (fun _ i => len - (intOf i).toNat)
  case atStart => exact ⟨0, 94701 + (len : Int), by omega, by omega, rfl, rfl, by omega, by omega⟩
  case round =>
    obtain ⟨k, x, hk, hk4, rfl, rfl, hx0, hx1⟩ := hrel
    have fin : ∀ x' : Int, Cur B (w.alloc (.cells #[.slice a len cap, .int .i64 0, .int .i64 x'] 163)) w.heap.size ∧ Below w.heap.size w (w.alloc (.cells #[.slice a len cap, .int .i64 0, .int .i64 x'] 163)) := fun x' => by
      have hb : Below w.heap.size w (w.alloc (.cells #[.slice a len cap, .int .i64 0, .int .i64 x'] 163)) := (Below.refl _ _).alloc (Nat.le_refl _) _
      exact ⟨⟨hB, by simp, a, len, cap, 0, x', by omega, HC.out.grown hB (grown_below hb _), heap_alloc_new w _⟩, hb⟩
    have FIN : Hid _ := fin
    clear fin
    by_cases hlt : k < len
    · by_cases h4 : k < 4000
      · have hcd := HC.out
        rcases hcd.2 with h0 | ⟨b, off, rfl, hbB, hcs⟩
        · exact absurd h0 (by omega)
        obtain ⟨z, hz, hz0, hz1⟩ := hcs k hlt
        clear hcd hcs
        have hi0 : (0 : Int) ≤ (k : Int) := by omega
        have hi1 : (k : Int) < (len : Int) := by omega
        have HA : Hid _ := and_bd (x * 131 + z + 7) 1073741823 (by decide) (by decide)
        go_wp2
        go_round
        case rel => exact ⟨k + 1, _, by omega, by omega, by go_num, rfl, HA.out.1, HA.out.2⟩
        case measure => simp [intOf]; omega
      · have hd : decide ((k : Int) < 4000) = false := by simp; omega
        go_wp2
        go_ret
        exact ⟨_, rfl, (FIN.out _).1, (FIN.out _).2, Nat.le_refl _⟩
    · have hd : decide ((k : Int) < (len : Int)) = false := by simp; omega
      go_wp2
      go_ret
      exact ⟨_, rfl, (FIN.out _).1, (FIN.out _).2, Nat.le_refl _⟩


theorem Cur.by {B g q : Nat} {w w' : World} (h : Cur B w g) (hg : w.grownBy w' (some q)) (hq : B ≤ q) (hne : g ≠ q) : Cur B w' g := by
  obtain ⟨h1, h2, a, len, cap, i, hh, h3, h4, h5⟩ := h
  exact ⟨h1, Nat.lt_of_lt_of_le h2 hg.size, a, len, cap, i, hh, h3, h4.grown hq hg, (hg.block g h2 (by simpa using hne)).trans h5⟩
theorem res_cells2 {P : Program} {fn : Func} {p u : Tmp} {ty ty2 : TypeId} (h : fn.results = #[.cell p ty, .cell u ty2]) (tmps : Array Value) (w : World) (g : Nat) (t : TypeId) (cs : Array Value) (fr : Nat × Nat) (d : TypeDesc) (g2 : Nat) (t2 : TypeId) (cs2 : Array Value) (fr2 : Nat × Nat) (d2 : TypeDesc)
    (hp : tmps.getD p undef = .pointer (some ⟨g, 0, none⟩)) (hg : w.heap[g]? = some (.cells cs t fr))
    (hu : P.underlying ty = some d) (hd : (match d with | .struct _ | .array _ _ => true | _ => false) = true) (hi : (P.info? ty).map (·.size) = some cs.size)
    (hp2 : tmps.getD u undef = .pointer (some ⟨g2, 0, none⟩)) (hg2 : w.heap[g2]? = some (.cells cs2 t2 fr2))
    (hu2 : P.underlying ty2 = some d2) (hd2 : (match d2 with | .struct _ | .array _ _ => true | _ => false) = true) (hi2 : (P.info? ty2).map (·.size) = some cs2.size) :
    (results fn tmps).run P w = .ok (.tuple #[.agg cs, .agg cs2]) w := by
  have hp' : tmps[p]?.getD undef = .pointer (some ⟨g, 0, none⟩) := by simpa using hp
  have hp2' : tmps[u]?.getD undef = .pointer (some ⟨g2, 0, none⟩) := by simpa using hp2
  simp [results, h, hp', hp2', asAddr, run_loadVar_row w g t ty cs fr d hg hu hd hi, run_loadVar_row w g2 t2 ty2 cs2 fr2 d2 hg2 hu2 hd2 hi2]
/-- What DrawPut carries: the results' boxes, the node's box gn, the arena's box ga, the cursor g. -/
structure Dp (w : World) (g gn ga gv cv Bv : Nat) (ns : List Nd) (x : Nd) (wr : World) : Prop where
  rA : ∃ u, wr.heap[w.heap.size]? = some (.cells #[u] 28 (0, 0))
  rN : ∃ u0 u1 u2 u3, wr.heap[w.heap.size + 1]? = some (.cells #[u0, u1, u2, u3] 45 (0, 0))
  bn : wr.heap[gn]? = some (.cells #[.int .i64 x.k, .int .i64 x.n, .int .i64 x.a, .int .i64 x.b] 45 (0, 0))
  ba : wr.heap[ga]? = some (.cells #[.slice (some ⟨gv, 0, none⟩) ns.length cv] 28 (0, 0))
  own : OwnN Bv wr (.slice (some ⟨gv, 0, none⟩) ns.length cv) ns
  cur : Cur w.heap.size wr g
  bel : Below w.heap.size w wr
  lg : w.heap.size + 2 ≤ g ∧ g < gn ∧ gn < Bv ∧ Bv ≤ ga ∧ gv ≠ ga
theorem Dp.by {w : World} {g gn ga gv cv Bv q : Nat} {ns : List Nd} {x x' : Nd} {wr w1 : World} (h : Dp w g gn ga gv cv Bv ns x wr) (hg : wr.grownBy w1 (some q)) (hq : w.heap.size ≤ q) (hqB : q < Bv) (cur : Cur w.heap.size w1 g)
    (rA : ∃ u, w1.heap[w.heap.size]? = some (.cells #[u] 28 (0, 0))) (rN : ∃ u0 u1 u2 u3, w1.heap[w.heap.size + 1]? = some (.cells #[u0, u1, u2, u3] 45 (0, 0)))
    (bn : w1.heap[gn]? = some (.cells #[.int .i64 x'.k, .int .i64 x'.n, .int .i64 x'.a, .int .i64 x'.b] 45 (0, 0))) : Dp w g gn ga gv cv Bv ns x' w1 := by
  have hgl := h.lg
  have hal : ga < wr.heap.size := (Array.getElem?_eq_some_iff.1 h.ba).1
  exact ⟨rA, rN, bn, (hg.block ga hal (by simp; omega)).trans h.ba, own_grown h.own hg hqB, cur, h.bel.grown hg (by omega) (fun k hk => by cases hk; exact hq), hgl⟩
theorem Dp.draw {w : World} {g gn ga gv cv Bv : Nat} {ns : List Nd} {x : Nd} {wr w1 : World} (h : Dp w g gn ga gv cv Bv ns x wr) (hg : wr.grownBy w1 (some g)) (cur : Cur w.heap.size w1 g) : Dp w g gn ga gv cv Bv ns x w1 ∧ w1.heap[w.heap.size]? = wr.heap[w.heap.size]? ∧ w1.heap[w.heap.size + 1]? = wr.heap[w.heap.size + 1]? := by
  have hgl := h.lg
  have hs : ga < wr.heap.size := (Array.getElem?_eq_some_iff.1 h.ba).1
  have e1 := hg.block w.heap.size (by omega) (by simp; omega)
  have e2 := hg.block (w.heap.size + 1) (by omega) (by simp; omega)
  exact ⟨h.by hg (by omega) (by omega) cur (by rw [e1]; exact h.rA) (by rw [e2]; exact h.rN) ((hg.block gn (by omega) (by simp; omega)).trans h.bn), e1, e2⟩
theorem Dp.made {w : World} {g gn ga gv cv Bv : Nat} {ns : List Nd} {x : Nd} {wr w1 : World} (h : Dp w g gn ga gv cv Bv ns x wr) (hb : Below wr.heap.size wr w1) : Dp w g gn ga gv cv Bv ns x w1 := (h.draw (grown_below hb _) (h.cur.grown hb)).1
theorem Dp.setA {w : World} {g gn ga gv cv Bv : Nat} {ns : List Nd} {x : Nd} {wr : World} (h : Dp w g gn ga gv cv Bv ns x wr) (u : Value) : Dp w g gn ga gv cv Bv ns x (wr.setCell ⟨w.heap.size, 0, none⟩ u) ∧ (wr.setCell ⟨w.heap.size, 0, none⟩ u).heap[w.heap.size]? = some (.cells #[u] 28 (0, 0)) ∧ (wr.setCell ⟨w.heap.size, 0, none⟩ u).heap[w.heap.size + 1]? = wr.heap[w.heap.size + 1]? := by
  have hgl := h.lg
  have hg := grown_setCell wr w.heap.size 0 u
  obtain ⟨u0, h0⟩ := h.rA
  have e1 : (wr.setCell ⟨w.heap.size, 0, none⟩ u).heap[w.heap.size]? = some (.cells #[u] 28 (0, 0)) := (heap_setCell_same _ _ 0 _ _ _ h0).trans rfl
  have e2 : (wr.setCell ⟨w.heap.size, 0, none⟩ u).heap[w.heap.size + 1]? = wr.heap[w.heap.size + 1]? := Below.heap_setCell _ _ _ _ (by simp)
  exact ⟨h.by hg (Nat.le_refl _) (by omega) (h.cur.by hg (Nat.le_refl _) (by omega)) ⟨u, e1⟩ (by rw [e2]; exact h.rN) ((Below.heap_setCell _ _ _ _ (by simp; omega)).trans h.bn), e1, e2⟩
def setN (w : World) (p : Nat) (x : Nd) : World := (((w.setCell ⟨p, 0, none⟩ (.int .i64 x.k)).setCell ⟨p, 1, none⟩ (.int .i64 x.n)).setCell ⟨p, 2, none⟩ (.int .i64 x.a)).setCell ⟨p, 3, none⟩ (.int .i64 x.b)
theorem setN_grown (w : World) (p : Nat) (x : Nd) : w.grownBy (setN w p x) (some p) := grown_trans (grown_trans (grown_trans (grown_setCell w p 0 _) (grown_setCell _ p 1 _)) (grown_setCell _ p 2 _)) (grown_setCell _ p 3 _)
theorem setN_same {w : World} {p : Nat} {x : Nd} {u0 u1 u2 u3 : Value} {t : TypeId} (h : w.heap[p]? = some (.cells #[u0, u1, u2, u3] t (0, 0))) : (setN w p x).heap[p]? = some (.cells #[.int .i64 x.k, .int .i64 x.n, .int .i64 x.a, .int .i64 x.b] t (0, 0)) := by
  have h1 : (w.setCell ⟨p, 0, none⟩ (.int .i64 x.k)).heap[p]? = some (.cells #[.int .i64 x.k, u1, u2, u3] t (0, 0)) := (heap_setCell_same w p 0 _ _ _ h).trans rfl
  have h2 : ((w.setCell ⟨p, 0, none⟩ (.int .i64 x.k)).setCell ⟨p, 1, none⟩ (.int .i64 x.n)).heap[p]? = some (.cells #[.int .i64 x.k, .int .i64 x.n, u2, u3] t (0, 0)) := (heap_setCell_same _ p 1 _ _ _ h1).trans rfl
  have h3 : (((w.setCell ⟨p, 0, none⟩ (.int .i64 x.k)).setCell ⟨p, 1, none⟩ (.int .i64 x.n)).setCell ⟨p, 2, none⟩ (.int .i64 x.a)).heap[p]? = some (.cells #[.int .i64 x.k, .int .i64 x.n, .int .i64 x.a, u3] t (0, 0)) := (heap_setCell_same _ p 2 _ _ _ h2).trans rfl
  unfold setN
  exact (heap_setCell_same _ p 3 _ _ _ h3).trans rfl
theorem nodeSizeD : (Try.prog.info? 45).map (·.size) = some 4 := by kernel_rfl
theorem Dp.setN {w : World} {g gn ga gv cv Bv : Nat} {ns : List Nd} {x : Nd} {wr : World} (h : Dp w g gn ga gv cv Bv ns x wr) (z : Nd) : Dp w g gn ga gv cv Bv ns x (setN wr (w.heap.size + 1) z) ∧ (setN wr (w.heap.size + 1) z).heap[w.heap.size + 1]? = some (.cells #[.int .i64 z.k, .int .i64 z.n, .int .i64 z.a, .int .i64 z.b] 45 (0, 0)) ∧ (setN wr (w.heap.size + 1) z).heap[w.heap.size]? = wr.heap[w.heap.size]? := by
  have hgl := h.lg
  have hs : ga < wr.heap.size := (Array.getElem?_eq_some_iff.1 h.ba).1
  have hg := setN_grown wr (w.heap.size + 1) z
  obtain ⟨u0, u1, u2, u3, h0⟩ := h.rN
  have e1 := setN_same (x := z) h0
  have e2 := hg.block w.heap.size (by omega) (by simp)
  exact ⟨h.by hg (by omega) (by omega) (h.cur.by hg (by omega) (by omega)) (by rw [e2]; exact h.rA) ⟨_, _, _, _, e1⟩ ((hg.block gn (by omega) (by simp; omega)).trans h.bn), e1, e2⟩
theorem Dp.node {w : World} {g gn ga gv cv Bv : Nat} {ns : List Nd} {x : Nd} {wr : World} (h : Dp w g gn ga gv cv Bv ns x wr) (z : Nd) : Dp w g gn ga gv cv Bv ns z (Go.Proofs.Ytffnadnndmmliaa.setN wr gn z) := by
  have hgl := h.lg
  have hs : ga < wr.heap.size := (Array.getElem?_eq_some_iff.1 h.ba).1
  have hg := setN_grown wr gn z
  exact h.by hg (by omega) (by omega) (h.cur.by hg (by omega) (by omega)) (by rw [hg.block w.heap.size (by omega) (by simp; omega)]; exact h.rA) (by rw [hg.block (w.heap.size + 1) (by omega) (by simp; omega)]; exact h.rN) (setN_same h.bn)
theorem Dp.setB {w : World} {g gn ga gv cv Bv : Nat} {ns : List Nd} {x : Nd} {wr : World} (h : Dp w g gn ga gv cv Bv ns x wr) (z : Int) : Dp w g gn ga gv cv Bv ns ⟨x.k, x.n, x.a, z⟩ (wr.setCell ⟨gn, 3, none⟩ (.int .i64 z)) := by
  have hgl := h.lg
  have hs : ga < wr.heap.size := (Array.getElem?_eq_some_iff.1 h.ba).1
  have hg := grown_setCell wr gn 3 (.int .i64 z)
  exact h.by hg (by omega) (by omega) (h.cur.by hg (by omega) (by omega)) (by rw [hg.block w.heap.size (by omega) (by simp; omega)]; exact h.rA) (by rw [hg.block (w.heap.size + 1) (by omega) (by simp; omega)]; exact h.rN) ((heap_setCell_same _ _ 3 _ _ _ h.bn).trans rfl)
theorem Dp.fin {w : World} {g gn ga gv cv Bv : Nat} {ns : List Nd} {x : Nd} {wr : World} (h : Dp w g gn ga gv cv Bv ns x wr) (z : Nd) :
    (Go.Proofs.Ytffnadnndmmliaa.setN (wr.setCell ⟨w.heap.size, 0, none⟩ (.slice (some ⟨gv, 0, none⟩) ns.length cv)) (w.heap.size + 1) z).drew.heap[w.heap.size]? = some (.cells #[.slice (some ⟨gv, 0, none⟩) ns.length cv] 28 (0, 0)) ∧
    (Go.Proofs.Ytffnadnndmmliaa.setN (wr.setCell ⟨w.heap.size, 0, none⟩ (.slice (some ⟨gv, 0, none⟩) ns.length cv)) (w.heap.size + 1) z).drew.heap[w.heap.size + 1]? = some (.cells #[.int .i64 z.k, .int .i64 z.n, .int .i64 z.a, .int .i64 z.b] 45 (0, 0)) ∧
    OwnN w.heap.size (Go.Proofs.Ytffnadnndmmliaa.setN (wr.setCell ⟨w.heap.size, 0, none⟩ (.slice (some ⟨gv, 0, none⟩) ns.length cv)) (w.heap.size + 1) z).drew (.slice (some ⟨gv, 0, none⟩) ns.length cv) ns ∧ Below w.heap.size w (Go.Proofs.Ytffnadnndmmliaa.setN (wr.setCell ⟨w.heap.size, 0, none⟩ (.slice (some ⟨gv, 0, none⟩) ns.length cv)) (w.heap.size + 1) z).drew := by
  obtain ⟨h1, h2, h3⟩ := h.setA (.slice (some ⟨gv, 0, none⟩) ns.length cv)
  obtain ⟨h4, h5, h6⟩ := h1.setN z
  have hgl := h.lg
  have e := h6.trans h2
  have o := h4.own
  have b := h4.bel
  clear h6 h2 h3 h4 h1
  generalize Go.Proofs.Ytffnadnndmmliaa.setN (wr.setCell ⟨w.heap.size, 0, none⟩ (.slice (some ⟨gv, 0, none⟩) ns.length cv)) (w.heap.size + 1) z = F at e o b h5 ⊢
  refine ⟨e, h5, OwnN.base (base := Bv) ?_ (by omega), b.drew⟩
  exact World.ownsRow.drew o
theorem list7 {α : Type} (l : List α) (h : l.length = 7) : ∃ a0 a1 a2 a3 a4 a5 a6, l = [a0, a1, a2, a3, a4, a5, a6] := by
  match l, h with
  | [a0, a1, a2, a3, a4, a5, a6], _ => exact ⟨_, _, _, _, _, _, _, rfl⟩

set_option maxHeartbeats 3200000 in
set_option maxRecDepth 20000 in
theorem drawPut_any (a : Option Addr) (len cap : Nat) (w : World) (hc : CodeIn w.heap.size w a len) :
    Calls Try.prog 33 #[.slice a len cap] w fun e w' => ∃ v ns, ∃ x : Nd, e = .returned (.tuple #[.agg #[v], .agg #[.int .i64 x.k, .int .i64 x.n, .int .i64 x.a, .int .i64 x.b]]) ∧ 1 ≤ ns.length ∧ ns.length ≤ 14 ∧ (∀ y ∈ ns, y.Fits) ∧ x.Fits ∧ OwnN w.heap.size w' v ns ∧ Below w.heap.size w w' := by
  have hb00 : Below w.heap.size w (w.alloc (.cells #[.slice none 0 0] 28)) := (Below.refl _ _).alloc (Nat.le_refl _) _
  have hb0 : Below w.heap.size w ((w.alloc (.cells #[.slice none 0 0] 28)).alloc (.cells #[.int .i64 0, .int .i64 0, .int .i64 0, .int .i64 0] 45)) := hb00.alloc hb00.size _
  have hs00 : (w.alloc (.cells #[.slice none 0 0] 28)).heap.size = w.heap.size + 1 := by simp
  have hs0 : ((w.alloc (.cells #[.slice none 0 0] 28)).alloc (.cells #[.int .i64 0, .int .i64 0, .int .i64 0, .int .i64 0] 45)).heap.size = w.heap.size + 2 := by simp
  have hA0 := (heap_alloc_old (w.alloc (.cells #[.slice none 0 0] 28)) (.cells #[.int .i64 0, .int .i64 0, .int .i64 0, .int .i64 0] 45) (show w.heap.size < (w.alloc (.cells #[.slice none 0 0] 28)).heap.size by omega)).trans (heap_alloc_new w (.cells #[.slice none 0 0] 28))
  have hN0 := heap_alloc_new (w.alloc (.cells #[.slice none 0 0] 28)) (.cells #[.int .i64 0, .int .i64 0, .int .i64 0, .int .i64 0] 45)
  rw [hs00] at hN0
  have hc0 := hc.grown (Nat.le_refl _) (grown_below hb0 (some w.heap.size))
  clear hc hb00 hs00
  go_enter Try.func33, Try.ntmps33
  go_wp2_with fail
  generalize (w.alloc (.cells #[.slice none 0 0] 28)).alloc (.cells #[.int .i64 0, .int .i64 0, .int .i64 0, .int .i64 0] 45) = w0 at hb0 hA0 hN0 hc0 hs0 ⊢
  refine (newB_any w.heap.size _ _ _ _ hb0.size hc0).mono ?_
  rintro e w1 ⟨g, rfl, hc1, hb1, hge⟩
  have hgl := hc1.2.1
  go_wp2_with fail
  refine (below_any w.heap.size g 3 _ (by omega) (by omega) hc1).mono ?_
  rintro e w2 ⟨k, rfl, hk, hc2, hg2⟩
  go_wp2_with fail
  refine (below_any w.heap.size g 9 _ (by omega) (by omega) hc2).mono ?_
  rintro e w3 ⟨y, rfl, hy, hc3, hg3⟩
  go_wp2_with fail
  refine (below_any w.heap.size g 6 _ (by omega) (by omega) hc3).mono ?_
  rintro e w4 ⟨y2, rfl, hy2, hc4, hg4⟩
  go_wp2_with fail
  refine (below_any w.heap.size g 6 _ (by omega) (by omega) hc4).mono ?_
  rintro e w5 ⟨y3, rfl, hy3, hc5, hg5⟩
  have hG5 := grown_trans (grown_trans hg2 hg3) (grown_trans hg4 hg5)
  have hs1 := hb1.size
  have hs5 := hG5.size
  have hb5 : Below w0.heap.size w0 w5 := hb1.grown hG5 hb1.size (fun k hk => by cases hk; exact hge)
  obtain ⟨x, hx⟩ : ∃ x : Nd, x = ⟨1 + (y : Int), 0, (y2 : Int), (y3 : Int)⟩ := ⟨_, rfl⟩
  have hbx : Below w5.heap.size w5 (w5.alloc (.cells #[.int .i64 x.k, .int .i64 x.n, .int .i64 x.a, .int .i64 x.b] 45)) := (Below.refl _ _).alloc (Nat.le_refl _) _
  have hc6 := hc5.grown hbx
  have hx6 := heap_alloc_new w5 (.cells #[.int .i64 x.k, .int .i64 x.n, .int .i64 x.a, .int .i64 x.b] 45)
  have hs6 : (w5.alloc (.cells #[.int .i64 x.k, .int .i64 x.n, .int .i64 x.a, .int .i64 x.b] 45)).heap.size = w5.heap.size + 1 := by simp
  have hb6 := hb5.trans (hbx.mono (Nat.le_trans hs1 hs5))
  have hgl5 : g < w5.heap.size := hc5.2.1
  clear hc1 hc2 hc3 hc4 hc5 hg2 hg3 hg4 hg5 hG5 hb1 hc0 hbx hb5
  rw [hx] at hc6 hx6 hs6 hb6
  simp only at hc6 hx6 hs6 hb6
  go_wp2_with fail
  generalize w5.alloc (.cells #[.int .i64 (1 + (y : Int)), .int .i64 0, .int .i64 (y2 : Int), .int .i64 (y3 : Int)] 45) = w6 at hc6 hx6 hs6 hb6 ⊢
  refine (anyArena_any w.heap.size g _ hc6).mono ?_
  rintro e w7 ⟨v7, ns, rfl, hn1, hn2, hfit, ho7, hc7, hg7⟩
  obtain ⟨a7, cap7, rfl, hA7, _⟩ := ho7.row
  have hs7 := hg7.size
  have hb7 : Below w0.heap.size w0 w7 := hb6.grown hg7 (by omega) (fun k hk => by cases hk; exact hge)
  have hb8 : Below w7.heap.size w7 (w7.alloc (.cells #[.slice a7 ns.length cap7] 28)) := (Below.refl _ _).alloc (Nat.le_refl _) _
  have hx7 := (hg7.block w5.heap.size (by omega) (by simp; omega)).trans hx6
  obtain ⟨gv, rfl⟩ : ∃ gv, a7 = some ⟨gv, 0, none⟩ := by
    rcases ho7.2 with ⟨_, h0⟩ | ⟨gv, cv, cur, hv, _⟩
    · omega
    · cases hv; exact ⟨gv, rfl⟩
  have hgv := ho7.lt gv rfl
  have hD : Dp w g w5.heap.size w7.heap.size gv cap7 w6.heap.size ns ⟨1 + (y : Int), 0, (y2 : Int), (y3 : Int)⟩ (w7.alloc (.cells #[.slice (some ⟨gv, 0, none⟩) ns.length cap7] 28)) :=
    ⟨⟨_, (hb8.block _ (by omega)).trans ((hb7.block _ (by omega)).trans hA0)⟩, ⟨_, _, _, _, (hb8.block _ (by omega)).trans ((hb7.block _ (by omega)).trans hN0)⟩, (hb8.block _ (by omega)).trans hx7, heap_alloc_new w7 _, ho7.later hb8, hc7.grown hb8, (hb0.trans (hb7.mono (by omega))).trans (hb8.mono (by omega)), by omega, by omega, by omega, by omega, by omega⟩
  have HFI : Hid (∀ y ∈ ns, y.Fits) := hfit
  clear hfit hb8 hb7 hb6 hb0 hg7 hc7 hc6 hx6 hx7 ho7 hA0 hN0
  have hgn5 : w5.heap.size < w7.heap.size := by omega
  have hgg := hD.lg
  by_cases hk0 : k = 0
  · obtain rfl := hk0
    go_wp2_with fail
    generalize w7.alloc (.cells #[.slice (some ⟨gv, 0, none⟩) ns.length cap7] 28) = w8 at hD ⊢
    refine wp_region_list (I := Dp w g w5.heap.size w7.heap.size gv cap7 w6.heap.size ns ⟨1 + (y : Int), 0, (y2 : Int), (y3 : Int)⟩) (R := fun i wa wb => (Dp w g w5.heap.size w7.heap.size gv cap7 w6.heap.size ns ⟨1 + (y : Int), 0, (y2 : Int), (y3 : Int)⟩ wa → Dp w g w5.heap.size w7.heap.size gv cap7 w6.heap.size ns ⟨1 + (y : Int), 0, (y2 : Int), (y3 : Int)⟩ wb) ∧ (i ≠ 10 → wb.heap[w.heap.size]? = wa.heap[w.heap.size]?) ∧ (i ≠ 11 → wb.heap[w.heap.size + 1]? = wa.heap[w.heap.size + 1]?))
      (fs := #[⟨[24], fun vs _ => vs = [.agg #[.slice (some ⟨gv, 0, none⟩) ns.length cap7]]⟩, ⟨[25], fun vs _ => vs = [.pointer (some ⟨w7.heap.size, 0, none⟩)]⟩, ⟨[26], fun vs _ => vs = [.slice (some ⟨gv, 0, none⟩) ns.length cap7]⟩, ⟨[27], fun vs _ => vs = [.pointer (some ⟨g, 0, none⟩)]⟩, ⟨[28], fun vs _ => vs = [.pointer (some ⟨w7.heap.size, 0, none⟩)]⟩, ⟨[29], fun vs _ => vs = [.slice (some ⟨gv, 0, none⟩) ns.length cap7]⟩, ⟨[30], fun vs _ => vs = [.int .i64 (ns.length : Int)]⟩, ⟨[31], fun vs _ => ∃ z : Nat, z < ns.length ∧ vs = [.int .i64 (z : Int)]⟩, ⟨[32], fun vs _ => ∃ z : Nat, z < ns.length ∧ vs = [.pointer (some ⟨gv, z * 4, none⟩)]⟩, ⟨[33], fun vs _ => ∃ q : Nd, q.Fits ∧ vs = [.agg #[.int .i64 q.k, .int .i64 q.n, .int .i64 q.a, .int .i64 q.b]]⟩, ⟨[], fun _ w' => w'.heap[w.heap.size]? = some (.cells #[.slice (some ⟨gv, 0, none⟩) ns.length cap7] 28 (0, 0))⟩, ⟨[], fun _ w' => ∃ q : Nd, q.Fits ∧ w'.heap[w.heap.size + 1]? = some (.cells #[.int .i64 q.k, .int .i64 q.n, .int .i64 q.a, .int .i64 q.b] 45 (0, 0))⟩])
      (by kernel_rfl) 49 rfl (by kernel_rfl) ?stab ?istab ?start ?exec ?fin
    case stab =>
      intro k i f hki hf
      have hk : k < 12 := (Array.getElem?_eq_some_iff.1 hf).1
      rcases (show k = 0 ∨ k = 1 ∨ k = 2 ∨ k = 3 ∨ k = 4 ∨ k = 5 ∨ k = 6 ∨ k = 7 ∨ k = 8 ∨ k = 9 ∨ k = 10 ∨ k = 11 by omega) with rfl | rfl | rfl | rfl | rfl | rfl | rfl | rfl | rfl | rfl | rfl | rfl
      all_goals
        simp only [List.getElem?_toArray, List.getElem?_cons_succ, List.getElem?_cons_zero, Option.some.injEq] at hf
        subst hf
      · exact fun vs _ _ _ h => h
      · exact fun vs _ _ _ h => h
      · exact fun vs _ _ _ h => h
      · exact fun vs _ _ _ h => h
      · exact fun vs _ _ _ h => h
      · exact fun vs _ _ _ h => h
      · exact fun vs _ _ _ h => h
      · exact fun vs _ _ _ h => h
      · exact fun vs _ _ _ h => h
      · exact fun vs _ _ _ h => h
      · exact fun vs w' w'' hR h => (hR.2.1 (Ne.symm hki)).trans h
      · exact fun vs w' w'' hR ⟨q, h1, h2⟩ => ⟨q, h1, (hR.2.2 (Ne.symm hki)).trans h2⟩
    case istab => exact fun i w' w'' hR h => hR.1 h
    case start => exact hD.draw (grown_drewN _ 1 _) (hD.cur.grown (below_dn (Below.refl _ _) 1)) |>.1
    case exec =>
      intro i o f hi hf a wq hsz hI hold hpre
      have hi11 : i < 12 := (Array.getElem?_eq_some_iff.1 hi).1
      rcases (show i = 0 ∨ i = 1 ∨ i = 2 ∨ i = 3 ∨ i = 4 ∨ i = 5 ∨ i = 6 ∨ i = 7 ∨ i = 8 ∨ i = 9 ∨ i = 10 ∨ i = 11 by omega) with rfl | rfl | rfl | rfl | rfl | rfl | rfl | rfl | rfl | rfl | rfl | rfl
      all_goals
        simp only [List.getElem?_toArray, List.getElem?_cons_succ, List.getElem?_cons_zero, Option.some.injEq] at hi hf
        subst hi hf
      · have h7 : a.tmps.getD 7 undef = .pointer (some ⟨w7.heap.size, 0, none⟩) := hold 7 (free_spec (by kernel_rfl))
        have hc : wq.cell? ⟨w7.heap.size, 0, none⟩ = some (.slice (some ⟨gv, 0, none⟩) ns.length cap7) := (cell_of_row _ _ 0 _ _ _ hI.ba).trans rfl
        refine exec_same (v := .agg #[.slice (some ⟨gv, 0, none⟩) ns.length cap7]) ?_ ⟨_, rfl, ⟨fun h => h, fun _ => rfl, fun _ => rfl⟩, at_one (by omega) rfl⟩
        simp [go_sem, Act.eval, h7, hc]
      · have h7 : a.tmps.getD 7 undef = .pointer (some ⟨w7.heap.size, 0, none⟩) := hold 7 (free_spec (by kernel_rfl))
        refine exec_same (v := .pointer (some ⟨w7.heap.size, 0, none⟩)) ?_ ⟨_, rfl, ⟨fun h => h, fun _ => rfl, fun _ => rfl⟩, at_one (by omega) rfl⟩
        simp [go_sem, Act.eval, h7]
      · have p1 := of_one (hpre ⟨1, .data⟩ (by simp) rfl _ rfl)
        have h25 : a.tmps.getD 25 undef = .pointer (some ⟨w7.heap.size, 0, none⟩) := by simpa using p1
        have hc : wq.cell? ⟨w7.heap.size, 0, none⟩ = some (.slice (some ⟨gv, 0, none⟩) ns.length cap7) := (cell_of_row _ _ 0 _ _ _ hI.ba).trans rfl
        refine exec_same (v := .slice (some ⟨gv, 0, none⟩) ns.length cap7) ?_ ⟨_, rfl, ⟨fun h => h, fun _ => rfl, fun _ => rfl⟩, at_one (by omega) rfl⟩
        simp [go_sem, Act.eval, h25, hc]
      · have h4 : a.tmps.getD 4 undef = .pointer (some ⟨g, 0, none⟩) := hold 4 (free_spec (by kernel_rfl))
        refine exec_same (v := .pointer (some ⟨g, 0, none⟩)) ?_ ⟨_, rfl, ⟨fun h => h, fun _ => rfl, fun _ => rfl⟩, at_one (by omega) rfl⟩
        simp [go_sem, Act.eval, h4]
      · have h7 : a.tmps.getD 7 undef = .pointer (some ⟨w7.heap.size, 0, none⟩) := hold 7 (free_spec (by kernel_rfl))
        refine exec_same (v := .pointer (some ⟨w7.heap.size, 0, none⟩)) ?_ ⟨_, rfl, ⟨fun h => h, fun _ => rfl, fun _ => rfl⟩, at_one (by omega) rfl⟩
        simp [go_sem, Act.eval, h7]
      · have p4 := of_one (hpre ⟨4, .data⟩ (by simp) rfl _ rfl)
        have h28 : a.tmps.getD 28 undef = .pointer (some ⟨w7.heap.size, 0, none⟩) := by simpa using p4
        have hc : wq.cell? ⟨w7.heap.size, 0, none⟩ = some (.slice (some ⟨gv, 0, none⟩) ns.length cap7) := (cell_of_row _ _ 0 _ _ _ hI.ba).trans rfl
        refine exec_same (v := .slice (some ⟨gv, 0, none⟩) ns.length cap7) ?_ ⟨_, rfl, ⟨fun h => h, fun _ => rfl, fun _ => rfl⟩, at_one (by omega) rfl⟩
        simp [go_sem, Act.eval, h28, hc]
      · have p5 := of_one (hpre ⟨5, .data⟩ (by simp) rfl _ rfl)
        have h29 : a.tmps.getD 29 undef = .slice (some ⟨gv, 0, none⟩) ns.length cap7 := by simpa using p5
        refine exec_same (v := .int .i64 (ns.length : Int)) ?_ ⟨_, rfl, ⟨fun h => h, fun _ => rfl, fun _ => rfl⟩, at_one (by omega) rfl⟩
        simp [go_sem, Act.eval, h29]
      · have p3 := of_one (hpre ⟨3, .data⟩ (by simp) rfl _ rfl)
        have h27 : a.tmps.getD 27 undef = .pointer (some ⟨g, 0, none⟩) := by simpa using p3
        have p6 := of_one (hpre ⟨6, .data⟩ (by simp) rfl _ rfl)
        have h30 : a.tmps.getD 30 undef = .int .i64 (ns.length : Int) := by simpa using p6
        refine exec_call (f := 89) (args := #[.pointer (some ⟨g, 0, none⟩), .int .i64 (ns.length : Int)]) (by simp [go_sem, Act.eval, h27, h30]) ?_
        refine (below_any w.heap.size g ns.length wq (by omega) (by omega) hI.cur).mono ?_
        rintro e w2 ⟨z, rfl, hz, hc', hg'⟩
        have hd := hI.draw hg' hc'
        exact ⟨_, rfl, _, rfl, ⟨fun h => (h.draw hg' hc').1, fun _ => hd.2.1, fun _ => hd.2.2⟩, at_one (by omega) ⟨z, hz, rfl⟩⟩
      · have p2 := of_one (hpre ⟨2, .data⟩ (by simp) rfl _ rfl)
        have h26 : a.tmps.getD 26 undef = .slice (some ⟨gv, 0, none⟩) ns.length cap7 := by simpa using p2
        obtain ⟨z, hz, h31⟩ := of_one (hpre ⟨7, .data⟩ (by simp) rfl _ rfl)
        have h31' : a.tmps.getD 31 undef = .int .i64 (z : Int) := by simpa using h31
        have hz1 : (z : Int) < (ns.length : Int) := by omega
        have hz0 : (0 : Int) ≤ (z : Int) := by omega
        refine exec_same (v := .pointer (some ⟨gv, z * 4, none⟩)) ?_ ⟨_, rfl, ⟨fun h => h, fun _ => rfl, fun _ => rfl⟩, at_one (by omega) ⟨z, hz, rfl⟩⟩
        simp [go_sem, Act.eval, h26, h31', hz0, hz1]
      · obtain ⟨z, hz, h32⟩ := of_one (hpre ⟨8, .data⟩ (by simp) rfl _ rfl)
        have h32' : a.tmps.getD 32 undef = .pointer (some ⟨gv, z * 4, none⟩) := by simpa using h32
        obtain ⟨ar, cr, hre, _, hrow⟩ := hI.own.row
        cases hre
        obtain ⟨_, c0, c1, c2, c3⟩ := hrow.at (Below.refl _ _) (i := z) hz
        simp only [Nat.zero_add] at c0 c1 c2 c3
        have hq := getD_fits HFI.out hz
        generalize ns.getD z Nd.zero = q at c0 c1 c2 c3 hq
        refine exec_same (v := .agg #[.int .i64 q.k, .int .i64 q.n, .int .i64 q.a, .int .i64 q.b]) ?_ ⟨_, rfl, ⟨fun h => h, fun _ => rfl, fun _ => rfl⟩, at_one (by omega) ⟨q, hq, rfl⟩⟩
        simp [go_sem, Act.eval, h32', c0, c1, c2, c3]
      · have p0 := of_one (hpre ⟨0, .data⟩ (by simp) rfl _ rfl)
        have h24 : a.tmps.getD 24 undef = .agg #[.slice (some ⟨gv, 0, none⟩) ns.length cap7] := by simpa using p0
        have h2 : a.tmps.getD 2 undef = .pointer (some ⟨w.heap.size, 0, none⟩) := hold 2 (free_spec (by kernel_rfl))
        obtain ⟨ua, hA⟩ := hI.rA
        have r0 : wq.cell? ⟨w.heap.size, 0, none⟩ = some ua := (cell_of_row _ _ 0 _ _ _ hA).trans rfl
        have r1 : wq.frozen? ⟨w.heap.size, 0, none⟩ = false := frozen_of_row _ _ 0 _ _ hA
        have hs := hI.setA (.slice (some ⟨gv, 0, none⟩) ns.length cap7)
        refine exec_skip (w' := wq.setCell ⟨w.heap.size, 0, none⟩ (.slice (some ⟨gv, 0, none⟩) ns.length cap7)) ?_ ⟨_, rfl, ⟨fun h => (h.setA _).1, fun h => absurd rfl h, fun _ => hs.2.2⟩, hs.2.1⟩
        simp [go_sem, Act.eval, h2, h24, r0, r1]
      · obtain ⟨q, hq, h33⟩ := of_one (hpre ⟨9, .data⟩ (by simp) rfl _ rfl)
        have h33' : a.tmps.getD 33 undef = .agg #[.int .i64 q.k, .int .i64 q.n, .int .i64 q.a, .int .i64 q.b] := by simpa using h33
        have h3 : a.tmps.getD 3 undef = .pointer (some ⟨w.heap.size + 1, 0, none⟩) := hold 3 (free_spec (by kernel_rfl))
        obtain ⟨u0, u1, u2, u3, hN⟩ := hI.rN
        have n0 : wq.cell? ⟨w.heap.size + 1, 0, none⟩ = some u0 := (cell_of_row _ _ 0 _ _ _ hN).trans rfl
        have n1 : wq.cell? ⟨w.heap.size + 1, 1, none⟩ = some u1 := (cell_of_row _ _ 1 _ _ _ hN).trans rfl
        have n2 : wq.cell? ⟨w.heap.size + 1, 2, none⟩ = some u2 := (cell_of_row _ _ 2 _ _ _ hN).trans rfl
        have n3 : wq.cell? ⟨w.heap.size + 1, 3, none⟩ = some u3 := (cell_of_row _ _ 3 _ _ _ hN).trans rfl
        have m0 : wq.frozen? ⟨w.heap.size + 1, 0, none⟩ = false := frozen_of_row _ _ 0 _ _ hN
        have m1 : wq.frozen? ⟨w.heap.size + 1, 1, none⟩ = false := frozen_of_row _ _ 1 _ _ hN
        have m2 : wq.frozen? ⟨w.heap.size + 1, 2, none⟩ = false := frozen_of_row _ _ 2 _ _ hN
        have m3 : wq.frozen? ⟨w.heap.size + 1, 3, none⟩ = false := frozen_of_row _ _ 3 _ _ hN
        have hs := hI.setN q
        refine exec_skip (w' := Go.Proofs.Ytffnadnndmmliaa.setN wq (w.heap.size + 1) q) ?_ ⟨_, rfl, ⟨fun h => (h.setN q).1, fun _ => hs.2.2, fun h => absurd rfl h⟩, ⟨q, hq, hs.2.1⟩⟩
        unfold Go.Proofs.Ytffnadnndmmliaa.setN
        simp [go_sem, Act.eval, h3, h33', n0, n1, n2, n3, m0, m1, m2, m3]
    case fin =>
      intro zs w9 hzl hI hF
      obtain ⟨z0, z1, z2, z3, z4, z5, z6, z7, z8, z9, z10, z11, rfl⟩ := list12 zs hzl
      have hA9 : w9.heap[w.heap.size]? = some (.cells #[.slice (some ⟨gv, 0, none⟩) ns.length cap7] 28 (0, 0)) := hF 10 _ rfl
      obtain ⟨q, hq, hN9⟩ : ∃ q : Nd, q.Fits ∧ w9.heap[w.heap.size + 1]? = some (.cells #[.int .i64 q.k, .int .i64 q.n, .int .i64 q.a, .int .i64 q.b] 45 (0, 0)) := hF 11 _ rfl
      clear hF
      simp only [putAll, Act.put, List.setIfInBounds_toArray, List.set_cons_succ, List.set_cons_zero]
      have HE : Hid (w9.heap[w.heap.size]? = some (.cells #[.slice (some ⟨gv, 0, none⟩) ns.length cap7] 28 (0, 0)) ∧ w9.heap[w.heap.size + 1]? = some (.cells #[.int .i64 q.k, .int .i64 q.n, .int .i64 q.a, .int .i64 q.b] 45 (0, 0)) ∧ OwnN w.heap.size w9 (.slice (some ⟨gv, 0, none⟩) ns.length cap7) ns ∧ Below w.heap.size w w9 ∧ q.Fits) := ⟨hA9, hN9, OwnN.base hI.own (by omega), hI.bel, hq⟩
      clear hA9 hN9 hI hq
      go_wp2
      refine bodyPost_ret (res_cells2 rfl _ _ w.heap.size 28 #[.slice (some ⟨gv, 0, none⟩) ns.length cap7] (0, 0) _ (w.heap.size + 1) 45 #[.int .i64 q.k, .int .i64 q.n, .int .i64 q.a, .int .i64 q.b] (0, 0) _ rfl ?_ Try.underlying28 rfl arenaSize rfl ?_ Try.underlying45 rfl nodeSizeD) rfl ?_
      · exact HE.out.1
      · exact HE.out.2.1
      · exact ⟨_, ns, q, rfl, hn1, hn2, HFI.out, HE.out.2.2.2.2, HE.out.2.2.1, HE.out.2.2.2.1⟩
  · have hkf : ((k : Int) == 0) = false := by simp; omega
    have ck := cell_of_row _ _ 0 _ _ _ hD.bn
    have cb := cell_of_row _ _ 3 _ _ _ hD.bn
    have f3 := frozen_of_row _ _ 3 _ _ hD.bn
    simp at ck cb
    have HD : Hid (Dp w g w5.heap.size w7.heap.size gv cap7 w6.heap.size ns ⟨1 + (y : Int), 0, (y2 : Int), (y3 : Int)⟩ (w7.alloc (.cells #[.slice (some ⟨gv, 0, none⟩) ns.length cap7] 28))) := hD
    clear hD
    by_cases hy0 : y = 0
    · obtain rfl := hy0
      clear cb f3
      go_wp2_with fail
      have hD := HD.out
      clear HD ck
      generalize w7.alloc (.cells #[.slice (some ⟨gv, 0, none⟩) ns.length cap7] 28) = w8 at hD ⊢
      refine wp_region_list (I := fun w' => ∃ xx : Nd, xx.k = 1 ∧ Dp w g w5.heap.size w7.heap.size gv cap7 w6.heap.size ns xx w') (R := fun i wa wb => ((∃ xx : Nd, xx.k = 1 ∧ Dp w g w5.heap.size w7.heap.size gv cap7 w6.heap.size ns xx wa) → ∃ xx : Nd, xx.k = 1 ∧ Dp w g w5.heap.size w7.heap.size gv cap7 w6.heap.size ns xx wb) ∧ (∀ b, b < wa.heap.size → b ≠ g → (b ≠ w5.heap.size ∨ i ≠ 6) → wb.heap[b]? = wa.heap[b]?))
        (fs := #[⟨[37], fun vs _ => vs = [.pointer (some ⟨w5.heap.size, 0, none⟩)]⟩, ⟨[38], fun vs _ => vs = [.int .i64 1]⟩, ⟨[39], fun vs _ => vs = [.pointer (some ⟨g, 0, none⟩)]⟩, ⟨[40], fun vs w' => ∃ gl, vs = [.slice (some ⟨gl, 0, none⟩) 4 4] ∧ gl ≠ g ∧ gl ≠ w5.heap.size ∧ w'.heap[gl]? = some (.cells #[.int .i64 0, .int .i64 7, .int .i64 999999, .int .i64 1000000] 3 (0, 0))⟩, ⟨[41], fun vs _ => ∃ z : Int, 0 ≤ z ∧ z ≤ 1000000 ∧ vs = [.int .i64 z]⟩, ⟨[42], fun vs _ => ∃ z : Int, 0 ≤ z ∧ z ≤ 1000000 ∧ vs = [.agg #[.int .i64 1, .int .i64 z, .int .i64 0, .int .i64 0]]⟩, ⟨[], fun _ w' => ∃ z : Int, 0 ≤ z ∧ z ≤ 1000000 ∧ w'.heap[w5.heap.size]? = some (.cells #[.int .i64 1, .int .i64 z, .int .i64 0, .int .i64 0] 45 (0, 0))⟩])
        (by kernel_rfl) 49 rfl (by kernel_rfl) ?stab ?istab ?start ?exec ?fin
      case stab =>
        intro k i f hki hf
        have hk : k < 7 := (Array.getElem?_eq_some_iff.1 hf).1
        rcases (show k = 0 ∨ k = 1 ∨ k = 2 ∨ k = 3 ∨ k = 4 ∨ k = 5 ∨ k = 6 by omega) with rfl | rfl | rfl | rfl | rfl | rfl | rfl
        all_goals
          simp only [List.getElem?_toArray, List.getElem?_cons_succ, List.getElem?_cons_zero, Option.some.injEq] at hf
          subst hf
        · exact fun vs _ _ _ h => h
        · exact fun vs _ _ _ h => h
        · exact fun vs _ _ _ h => h
        · exact fun vs w' w'' hR ⟨gl, h1, h2, h3, h4⟩ => ⟨gl, h1, h2, h3, (hR.2 gl (Array.getElem?_eq_some_iff.1 h4).1 h2 (.inl h3)).trans h4⟩
        · exact fun vs _ _ _ h => h
        · exact fun vs _ _ _ h => h
        · exact fun vs w' w'' hR ⟨z, h1, h2, h3⟩ => ⟨z, h1, h2, (hR.2 _ (Array.getElem?_eq_some_iff.1 h3).1 (by omega) (.inr (Ne.symm hki))).trans h3⟩
      case istab => exact fun i w' w'' hR h => hR.1 h
      case start => exact ⟨_, rfl, (hD.draw (grown_drewN _ 1 _) (hD.cur.grown (below_dn (Below.refl _ _) 1))).1⟩
      case exec =>
        intro i o f hi hf a wq hsz hI hold hpre
        have hi11 : i < 7 := (Array.getElem?_eq_some_iff.1 hi).1
        rcases (show i = 0 ∨ i = 1 ∨ i = 2 ∨ i = 3 ∨ i = 4 ∨ i = 5 ∨ i = 6 by omega) with rfl | rfl | rfl | rfl | rfl | rfl | rfl
        all_goals
          simp only [List.getElem?_toArray, List.getElem?_cons_succ, List.getElem?_cons_zero, Option.some.injEq] at hi hf
          subst hi hf
        · have h6 : a.tmps.getD 6 undef = .pointer (some ⟨w5.heap.size, 0, none⟩) := hold 6 (free_spec (by kernel_rfl))
          refine exec_same (v := .pointer (some ⟨w5.heap.size, 0, none⟩)) ?_ ⟨_, rfl, ⟨fun h => h, fun _ _ _ _ => rfl⟩, at_one (by omega) rfl⟩
          simp [go_sem, Act.eval, h6]
        · have p0 := of_one (hpre ⟨0, .data⟩ (by simp) rfl _ rfl)
          have h37 : a.tmps.getD 37 undef = .pointer (some ⟨w5.heap.size, 0, none⟩) := by simpa using p0
          obtain ⟨xx, hk1, hI⟩ := hI
          have hc : wq.cell? ⟨w5.heap.size, 0, none⟩ = some (.int .i64 1) := by rw [← hk1]; exact (cell_of_row _ _ 0 _ _ _ hI.bn).trans rfl
          refine exec_same (v := .int .i64 1) ?_ ⟨_, rfl, ⟨fun h => h, fun _ _ _ _ => rfl⟩, at_one (by omega) rfl⟩
          simp [go_sem, Act.eval, h37, hc]
        · have h4 : a.tmps.getD 4 undef = .pointer (some ⟨g, 0, none⟩) := hold 4 (free_spec (by kernel_rfl))
          refine exec_same (v := .pointer (some ⟨g, 0, none⟩)) ?_ ⟨_, rfl, ⟨fun h => h, fun _ _ _ _ => rfl⟩, at_one (by omega) rfl⟩
          simp [go_sem, Act.eval, h4]
        · obtain ⟨xx, hk1, hI⟩ := hI
          have hs : w7.heap.size < wq.heap.size := (Array.getElem?_eq_some_iff.1 hI.ba).1
          have hb : Below wq.heap.size wq (wq.alloc (.cells #[.int .i64 0, .int .i64 7, .int .i64 999999, .int .i64 1000000] 3)) := (Below.refl _ _).alloc (Nat.le_refl _) _
          have hlg := hI.lg
          refine exec_made (v := .slice (some ⟨wq.heap.size, 0, none⟩) 4 4) (w' := wq.alloc (.cells #[.int .i64 0, .int .i64 7, .int .i64 999999, .int .i64 1000000] 3)) ?_ ⟨_, rfl, ⟨fun ⟨x2, h1, h2⟩ => ⟨x2, h1, h2.made hb⟩, fun b hb1 _ _ => hb.block b hb1⟩, at_one (by omega) ⟨wq.heap.size, rfl, by omega, by omega, heap_alloc_new wq _⟩⟩
          simp [go_sem, Act.eval]
        · have p2 := of_one (hpre ⟨2, .data⟩ (by simp) rfl _ rfl)
          have h39 : a.tmps.getD 39 undef = .pointer (some ⟨g, 0, none⟩) := by simpa using p2
          obtain ⟨gl, h40, hl1, hl2, hl3⟩ := of_one (hpre ⟨3, .data⟩ (by simp) rfl _ rfl)
          have h40' : a.tmps.getD 40 undef = .slice (some ⟨gl, 0, none⟩) 4 4 := by simpa using h40
          obtain ⟨xx, hk1, hI⟩ := hI
          refine exec_call (f := 101) (args := #[.pointer (some ⟨g, 0, none⟩), .slice (some ⟨gl, 0, none⟩) 4 4]) (by simp [go_sem, Act.eval, h39, h40']) ?_
          refine (pickInt_any w.heap.size g gl 4 4 [0, 7, 999999, 1000000] wq (by omega) (by omega) rfl hl1 (fun i hi => ?_) hI.cur).mono ?_
          · rcases (show i = 0 ∨ i = 1 ∨ i = 2 ∨ i = 3 by omega) with rfl | rfl | rfl | rfl
            all_goals exact (cell_of_row _ _ _ _ _ _ hl3).trans rfl
          rintro e w2 ⟨z, hz, rfl, hc', hg'⟩
          have hzz : 0 ≤ z ∧ z ≤ 1000000 := by simp at hz; omega
          exact ⟨_, rfl, _, rfl, ⟨fun ⟨x2, h1, h2⟩ => ⟨x2, h1, (h2.draw hg' hc').1⟩, fun b hb1 hb2 _ => hg'.block b hb1 (by simpa using hb2)⟩, at_one (by omega) ⟨z, hzz.1, hzz.2, rfl⟩⟩
        · have p1 := of_one (hpre ⟨1, .data⟩ (by simp) rfl _ rfl)
          have h38 : a.tmps.getD 38 undef = .int .i64 1 := by simpa using p1
          obtain ⟨z, hz0, hz1, h41⟩ := of_one (hpre ⟨4, .data⟩ (by simp) rfl _ rfl)
          have h41' : a.tmps[41]?.getD undef = .int .i64 z := by simpa using h41
          have h38' : a.tmps[38]?.getD undef = .int .i64 1 := by simpa using h38
          refine exec_same (v := .agg #[.int .i64 1, .int .i64 z, .int .i64 0, .int .i64 0]) ?_ ⟨_, rfl, ⟨fun h => h, fun _ _ _ _ => rfl⟩, at_one (by omega) ⟨z, hz0, hz1, rfl⟩⟩
          simp [go_sem, Act.eval, h38', h41']
        · obtain ⟨z, hz0, hz1, h42⟩ := of_one (hpre ⟨5, .data⟩ (by simp) rfl _ rfl)
          have h42' : a.tmps.getD 42 undef = .agg #[.int .i64 1, .int .i64 z, .int .i64 0, .int .i64 0] := by simpa using h42
          have h6 : a.tmps.getD 6 undef = .pointer (some ⟨w5.heap.size, 0, none⟩) := hold 6 (free_spec (by kernel_rfl))
          obtain ⟨xx, hk1, hI⟩ := hI
          have n0 : wq.cell? ⟨w5.heap.size, 0, none⟩ = some (.int .i64 xx.k) := (cell_of_row _ _ 0 _ _ _ hI.bn).trans rfl
          have n1 : wq.cell? ⟨w5.heap.size, 1, none⟩ = some (.int .i64 xx.n) := (cell_of_row _ _ 1 _ _ _ hI.bn).trans rfl
          have n2 : wq.cell? ⟨w5.heap.size, 2, none⟩ = some (.int .i64 xx.a) := (cell_of_row _ _ 2 _ _ _ hI.bn).trans rfl
          have n3 : wq.cell? ⟨w5.heap.size, 3, none⟩ = some (.int .i64 xx.b) := (cell_of_row _ _ 3 _ _ _ hI.bn).trans rfl
          have m0 : wq.frozen? ⟨w5.heap.size, 0, none⟩ = false := frozen_of_row _ _ 0 _ _ hI.bn
          have m1 : wq.frozen? ⟨w5.heap.size, 1, none⟩ = false := frozen_of_row _ _ 1 _ _ hI.bn
          have m2 : wq.frozen? ⟨w5.heap.size, 2, none⟩ = false := frozen_of_row _ _ 2 _ _ hI.bn
          have m3 : wq.frozen? ⟨w5.heap.size, 3, none⟩ = false := frozen_of_row _ _ 3 _ _ hI.bn
          have hs := (hI.node ⟨1, z, 0, 0⟩).bn
          have hgr := setN_grown wq w5.heap.size ⟨1, z, 0, 0⟩
          refine exec_skip (w' := Go.Proofs.Ytffnadnndmmliaa.setN wq w5.heap.size ⟨1, z, 0, 0⟩) ?_ ⟨_, rfl, ⟨fun ⟨x2, h1, h2⟩ => ⟨⟨1, z, 0, 0⟩, rfl, h2.node _⟩, fun b hb1 hb2 hb3 => hgr.block b hb1 (by simp; omega)⟩, ⟨z, hz0, hz1, hs⟩⟩
          unfold Go.Proofs.Ytffnadnndmmliaa.setN
          simp [go_sem, Act.eval, h6, h42', n0, n1, n2, n3, m0, m1, m2, m3]
      case fin =>
        intro zs w9 hzl hI hF
        obtain ⟨z0, z1, z2, z3, z4, z5, z6, rfl⟩ := list7 zs hzl
        obtain ⟨z, hz0, hz1, hN9⟩ : ∃ z : Int, 0 ≤ z ∧ z ≤ 1000000 ∧ w9.heap[w5.heap.size]? = some (.cells #[.int .i64 1, .int .i64 z, .int .i64 0, .int .i64 0] 45 (0, 0)) := hF 6 _ rfl
        clear hF
        simp only [putAll, Act.put, List.setIfInBounds_toArray, List.set_cons_succ, List.set_cons_zero]
        obtain ⟨xx, hk1, hI⟩ := hI
        obtain ⟨x9, hx9⟩ : ∃ x9 : Nd, x9 = ⟨1, z, 0, 0⟩ := ⟨_, rfl⟩
        have hX : Dp w g w5.heap.size w7.heap.size gv cap7 w6.heap.size ns x9 w9 := ⟨hI.rA, hI.rN, by rw [hx9]; exact hN9, hI.ba, hI.own, hI.cur, hI.bel, hI.lg⟩
        have hfx : x9.Fits := by rw [hx9]; unfold Nd.Fits; simp only; omega
        have hk9 : x9.k = 1 := by rw [hx9]
        clear hI hk1 hN9 hx9
        have ck : w9.cell? ⟨w5.heap.size, 0, none⟩ = some (.int .i64 1) := by rw [← hk9]; exact (cell_of_row _ _ 0 _ _ _ hX.bn).trans rfl
        have HXX : Hid (Dp w g w5.heap.size w7.heap.size gv cap7 w6.heap.size ns x9 w9) := hX
        clear hX hk9
        go_wp2_with fail
        refine (specOne_any _ _).mono ?_
        rintro e w10 ⟨rfl, rfl⟩
        rw [show oneK 1 = false from rfl]
        clear ck
        go_wp2_with fail
        have hX := HXX.out
        clear HXX
        have c0 := cell_of_row _ _ 0 _ _ _ hX.bn
        have c1 := cell_of_row _ _ 1 _ _ _ hX.bn
        have c2 := cell_of_row _ _ 2 _ _ _ hX.bn
        have c3 := cell_of_row _ _ 3 _ _ _ hX.bn
        obtain ⟨ua, hA⟩ := hX.rA
        obtain ⟨u0, u1, u2, u3, hN⟩ := hX.rN
        have r0 := cell_of_row _ _ 0 _ _ _ hA
        have r1 := frozen_of_row _ _ 0 _ _ hA
        have n0 := cell_of_row _ _ 0 _ _ _ hN
        have n1 := cell_of_row _ _ 1 _ _ _ hN
        have n2 := cell_of_row _ _ 2 _ _ _ hN
        have n3 := cell_of_row _ _ 3 _ _ _ hN
        have m0 := frozen_of_row _ _ 0 _ _ hN
        have m1 := frozen_of_row _ _ 1 _ _ hN
        have m2 := frozen_of_row _ _ 2 _ _ hN
        have m3 := frozen_of_row _ _ 3 _ _ hN
        have ac := cell_of_row _ _ 0 _ _ _ hX.ba
        simp at c0 c1 c2 c3 r0 n0 n1 n2 n3 ac
        have hne1 : w7.heap.size ≠ w.heap.size := by omega
        have hne2 : w5.heap.size ≠ w.heap.size := by omega
        have HE : Hid _ := hX.fin x9
        have HX9 : Hid x9.Fits := hfx
        clear hX hA hN hfx
        go_region
        all_goals
          go_wp2
          refine bodyPost_ret (res_cells2 rfl _ _ w.heap.size 28 #[.slice (some ⟨gv, 0, none⟩) ns.length cap7] (0, 0) _ (w.heap.size + 1) 45 #[.int .i64 x9.k, .int .i64 x9.n, .int .i64 x9.a, .int .i64 x9.b] (0, 0) _ rfl ?_ Try.underlying28 rfl arenaSize rfl ?_ Try.underlying45 rfl nodeSizeD) rfl ?_
          · exact HE.out.1
          · exact HE.out.2.1
          · exact ⟨_, ns, x9, rfl, hn1, hn2, HFI.out, HX9.out, HE.out.2.2.1, HE.out.2.2.2⟩
    · have hkk : ((1 + (y : Int)) == 1) = false := by simp; omega
      go_wp2_with fail
      refine (specOne_any _ _).mono ?_
      rintro e w9 ⟨rfl, rfl⟩
      generalize w7.alloc (.cells #[.slice (some ⟨gv, 0, none⟩) ns.length cap7] 28) = w8 at HD ck cb f3 ⊢
      by_cases ho : oneK (1 + (y : Int)) = true
      · rw [ho]
        go_wp2_with fail
        have hX := HD.out.setB 0
        obtain ⟨x9, hx9⟩ : ∃ x9 : Nd, x9 = ⟨1 + (y : Int), 0, (y2 : Int), 0⟩ := ⟨_, rfl⟩
        have hfx : x9.Fits := by rw [hx9]; unfold Nd.Fits; simp only; omega
        simp only [← hx9] at hX
        clear HD hx9 ck cb f3
        generalize w8.setCell ⟨w5.heap.size, 3, none⟩ (.int .i64 0) = w8 at hX ⊢
        have c0 := cell_of_row _ _ 0 _ _ _ hX.bn
        have c1 := cell_of_row _ _ 1 _ _ _ hX.bn
        have c2 := cell_of_row _ _ 2 _ _ _ hX.bn
        have c3 := cell_of_row _ _ 3 _ _ _ hX.bn
        obtain ⟨ua, hA⟩ := hX.rA
        obtain ⟨u0, u1, u2, u3, hN⟩ := hX.rN
        have r0 := cell_of_row _ _ 0 _ _ _ hA
        have r1 := frozen_of_row _ _ 0 _ _ hA
        have n0 := cell_of_row _ _ 0 _ _ _ hN
        have n1 := cell_of_row _ _ 1 _ _ _ hN
        have n2 := cell_of_row _ _ 2 _ _ _ hN
        have n3 := cell_of_row _ _ 3 _ _ _ hN
        have m0 := frozen_of_row _ _ 0 _ _ hN
        have m1 := frozen_of_row _ _ 1 _ _ hN
        have m2 := frozen_of_row _ _ 2 _ _ hN
        have m3 := frozen_of_row _ _ 3 _ _ hN
        have ac := cell_of_row _ _ 0 _ _ _ hX.ba
        simp at c0 c1 c2 c3 r0 n0 n1 n2 n3 ac
        have hne1 : w7.heap.size ≠ w.heap.size := by omega
        have hne2 : w5.heap.size ≠ w.heap.size := by omega
        have HE : Hid _ := hX.fin x9
        have HX9 : Hid x9.Fits := hfx
        clear hX hA hN hfx
        go_region
        all_goals
          go_wp2
          refine bodyPost_ret (res_cells2 rfl _ _ w.heap.size 28 #[.slice (some ⟨gv, 0, none⟩) ns.length cap7] (0, 0) _ (w.heap.size + 1) 45 #[.int .i64 x9.k, .int .i64 x9.n, .int .i64 x9.a, .int .i64 x9.b] (0, 0) _ rfl ?_ Try.underlying28 rfl arenaSize rfl ?_ Try.underlying45 rfl nodeSizeD) rfl ?_
          · exact HE.out.1
          · exact HE.out.2.1
          · exact ⟨_, ns, x9, rfl, hn1, hn2, HFI.out, HX9.out, HE.out.2.2.1, HE.out.2.2.2⟩
      · have ho' : oneK (1 + (y : Int)) = false := by simpa using ho
        rw [ho']
        go_wp2_with fail
        have hX := HD.out
        obtain ⟨x9, hx9⟩ : ∃ x9 : Nd, x9 = ⟨1 + (y : Int), 0, (y2 : Int), (y3 : Int)⟩ := ⟨_, rfl⟩
        have hfx : x9.Fits := by rw [hx9]; unfold Nd.Fits; simp only; omega
        simp only [← hx9] at hX
        clear HD hx9 ck cb f3
        have c0 := cell_of_row _ _ 0 _ _ _ hX.bn
        have c1 := cell_of_row _ _ 1 _ _ _ hX.bn
        have c2 := cell_of_row _ _ 2 _ _ _ hX.bn
        have c3 := cell_of_row _ _ 3 _ _ _ hX.bn
        obtain ⟨ua, hA⟩ := hX.rA
        obtain ⟨u0, u1, u2, u3, hN⟩ := hX.rN
        have r0 := cell_of_row _ _ 0 _ _ _ hA
        have r1 := frozen_of_row _ _ 0 _ _ hA
        have n0 := cell_of_row _ _ 0 _ _ _ hN
        have n1 := cell_of_row _ _ 1 _ _ _ hN
        have n2 := cell_of_row _ _ 2 _ _ _ hN
        have n3 := cell_of_row _ _ 3 _ _ _ hN
        have m0 := frozen_of_row _ _ 0 _ _ hN
        have m1 := frozen_of_row _ _ 1 _ _ hN
        have m2 := frozen_of_row _ _ 2 _ _ hN
        have m3 := frozen_of_row _ _ 3 _ _ hN
        have ac := cell_of_row _ _ 0 _ _ _ hX.ba
        simp at c0 c1 c2 c3 r0 n0 n1 n2 n3 ac
        have hne1 : w7.heap.size ≠ w.heap.size := by omega
        have hne2 : w5.heap.size ≠ w.heap.size := by omega
        have HE : Hid _ := hX.fin x9
        have HX9 : Hid x9.Fits := hfx
        clear hX hA hN hfx
        go_region
        all_goals
          go_wp2
          refine bodyPost_ret (res_cells2 rfl _ _ w.heap.size 28 #[.slice (some ⟨gv, 0, none⟩) ns.length cap7] (0, 0) _ (w.heap.size + 1) 45 #[.int .i64 x9.k, .int .i64 x9.n, .int .i64 x9.a, .int .i64 x9.b] (0, 0) _ rfl ?_ Try.underlying28 rfl arenaSize rfl ?_ Try.underlying45 rfl nodeSizeD) rfl ?_
          · exact HE.out.1
          · exact HE.out.2.1
          · exact ⟨_, ns, x9, rfl, hn1, hn2, HFI.out, HX9.out, HE.out.2.2.1, HE.out.2.2.2⟩
end Go.Proofs.Ytffnadnndmmliaa
