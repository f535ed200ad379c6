/- Chapter 6's terms that are told of others (the program's): toldHand, toldSideKey, toldDone. -/
import Derived.Test.YtffnadnndmmliaaTold7
import Derived.Test.YtffnadnndmmliaaBldPut2
import Derived.Test.YtffnadnndmmliaaTermPut
import Derived.Test.YtffnadnndmmliaaDhNode
import Derived.Test.YtffnadnndmmliaaImplT10
import Derived.Test.YtffnadnndmmliaaHeldQ
namespace Go.Proofs.Ytffnadnndmmliaa
open Go.RowKit Go.Maps
set_option linter.unusedVariables false
/-- Terms that are told stay so. -/
theorem ToldIs.nx {L : Nat} {w w' : World} {t : Tl} {v : Value} (hb : Below w.heap.size w w') (h : ToldIs L w.heap.size w t v) : ToldIs L w'.heap.size w' t v := ToldIs.base hb.size t (ToldIs.later hb t h)
set_option maxHeartbeats 1600000 in
set_option maxRecDepth 20000 in
theorem toldSideKey_any {L : Nat} (x : Tl) (v : Value) (n : Int) (w : World) (hL : L ≤ w.heap.size) (hx : ToldIs L w.heap.size w x v)  :
    Calls Try.prog 114 #[v, .int .i64 n] w (ToldP L (.two 4 x (.atom n)) w) := by
  have HB0 : Hid (Below w.heap.size w w ∧ L ≤ w.heap.size) := ⟨Below.refl _ _, hL⟩
  obtain ⟨Fx, cx, rfl⟩ := hx.fn
  have Tx : Hid (ToldIs L w.heap.size w x (.func (.func Fx) #[] cx)) := hx
  clear hL hx
  go_enter Try.func114, Try.ntmps114
  go_wp2_with fail
  refine Calls.mono (toldAtom_any (L := L) n w HB0.out.2) ?_
  rintro e w1 ⟨v1, rfl, t1, b1⟩
  have HB1 : Hid (Below w.heap.size w w1 ∧ L ≤ w1.heap.size) := ⟨HB0.out.1.trans (b1.mono HB0.out.1.size), Nat.le_trans HB0.out.2 b1.size⟩
  replace Tx : Hid (ToldIs L w1.heap.size w1 _ (.func (.func Fx) #[] cx)) := ToldIs.nx b1 Tx.out
  obtain ⟨Fa, ca, rfl⟩ := t1.fn
  have Ta : Hid (ToldIs L w1.heap.size w1 _ (.func (.func Fa) #[] ca)) := t1
  clear t1 b1 HB0
  go_wp2_with fail
  refine Calls.mono (toldKdf_any (L := L) _ _ _ _ w1 HB1.out.2 Tx.out Ta.out) ?_
  rintro e w2 ⟨v2, rfl, t2, b2⟩
  have HE : Hid (ToldP L (.two 4 x (.atom n)) w (.returned v2) w2) := ⟨v2, rfl, t2, HB1.out.1.trans (b2.mono HB1.out.1.size)⟩
  clear t2 b2
  go_wp2
  go_ret
  exact HE.out
set_option maxHeartbeats 1600000 in
set_option maxRecDepth 20000 in
theorem toldDone_any {L : Nat} (x : Tl) (v : Value) (n : Int) (y : Tl) (u : Value) (w : World) (hL : L ≤ w.heap.size) (hx : ToldIs L w.heap.size w x v) (hy : ToldIs L w.heap.size w y u) {m : Int} (hm : IntKind.i64.wrap (10 + n) = m) :
    Calls Try.prog 119 #[v, .int .i64 n, u] w (ToldP L (.two 9 (.two 4 x (.atom m)) (.hash y)) w) := by
  have HB0 : Hid (Below w.heap.size w w ∧ L ≤ w.heap.size) := ⟨Below.refl _ _, hL⟩
  obtain ⟨Fx, cx, rfl⟩ := hx.fn
  have Tx : Hid (ToldIs L w.heap.size w x (.func (.func Fx) #[] cx)) := hx
  obtain ⟨Fy, cy, rfl⟩ := hy.fn
  have Ty : Hid (ToldIs L w.heap.size w y (.func (.func Fy) #[] cy)) := hy
  clear hL hx hy
  go_enter Try.func119, Try.ntmps119
  go_wp2_with fail
  refine Calls.mono (toldAtom_any (L := L) m w HB0.out.2) ?_
  rintro e w1 ⟨v1, rfl, t1, b1⟩
  have HB1 : Hid (Below w.heap.size w w1 ∧ L ≤ w1.heap.size) := ⟨HB0.out.1.trans (b1.mono HB0.out.1.size), Nat.le_trans HB0.out.2 b1.size⟩
  replace Tx : Hid (ToldIs L w1.heap.size w1 _ (.func (.func Fx) #[] cx)) := ToldIs.nx b1 Tx.out
  replace Ty : Hid (ToldIs L w1.heap.size w1 _ (.func (.func Fy) #[] cy)) := ToldIs.nx b1 Ty.out
  obtain ⟨Fa, ca, rfl⟩ := t1.fn
  have Ta : Hid (ToldIs L w1.heap.size w1 _ (.func (.func Fa) #[] ca)) := t1
  clear t1 b1 HB0
  go_wp2_with fail
  refine Calls.mono (toldKdf_any (L := L) _ _ _ _ w1 HB1.out.2 Tx.out Ta.out) ?_
  rintro e w2 ⟨v2, rfl, t2, b2⟩
  have HB2 : Hid (Below w.heap.size w w2 ∧ L ≤ w2.heap.size) := ⟨HB1.out.1.trans (b2.mono HB1.out.1.size), Nat.le_trans HB1.out.2 b2.size⟩
  replace Tx : Hid (ToldIs L w2.heap.size w2 _ (.func (.func Fx) #[] cx)) := ToldIs.nx b2 Tx.out
  replace Ty : Hid (ToldIs L w2.heap.size w2 _ (.func (.func Fy) #[] cy)) := ToldIs.nx b2 Ty.out
  replace Ta : Hid (ToldIs L w2.heap.size w2 _ (.func (.func Fa) #[] ca)) := ToldIs.nx b2 Ta.out
  obtain ⟨Fk, ck, rfl⟩ := t2.fn
  have Tk : Hid (ToldIs L w2.heap.size w2 _ (.func (.func Fk) #[] ck)) := t2
  clear t2 b2 HB1
  go_wp2_with fail
  refine Calls.mono (toldHash_any (L := L) _ _ w2 HB2.out.2 Ty.out) ?_
  rintro e w3 ⟨v3, rfl, t3, b3⟩
  have HB3 : Hid (Below w.heap.size w w3 ∧ L ≤ w3.heap.size) := ⟨HB2.out.1.trans (b3.mono HB2.out.1.size), Nat.le_trans HB2.out.2 b3.size⟩
  replace Tx : Hid (ToldIs L w3.heap.size w3 _ (.func (.func Fx) #[] cx)) := ToldIs.nx b3 Tx.out
  replace Ty : Hid (ToldIs L w3.heap.size w3 _ (.func (.func Fy) #[] cy)) := ToldIs.nx b3 Ty.out
  replace Ta : Hid (ToldIs L w3.heap.size w3 _ (.func (.func Fa) #[] ca)) := ToldIs.nx b3 Ta.out
  replace Tk : Hid (ToldIs L w3.heap.size w3 _ (.func (.func Fk) #[] ck)) := ToldIs.nx b3 Tk.out
  obtain ⟨Fh, ch, rfl⟩ := t3.fn
  have Th : Hid (ToldIs L w3.heap.size w3 _ (.func (.func Fh) #[] ch)) := t3
  clear t3 b3 HB2
  go_wp2_with fail
  refine Calls.mono (toldTwo_any (L := L) 9 _ _ _ _ w3 HB3.out.2 Tk.out Th.out) ?_
  rintro e w4 ⟨v4, rfl, t4, b4⟩
  have HE : Hid (ToldP L (.two 9 (.two 4 x (.atom m)) (.hash y)) w (.returned v4) w4) := ⟨v4, rfl, t4, HB3.out.1.trans (b4.mono HB3.out.1.size)⟩
  clear t4 b4
  go_wp2
  go_ret
  exact HE.out
set_option maxHeartbeats 1600000 in
set_option maxRecDepth 20000 in
theorem toldHand_any {L : Nat} (x : Tl) (v : Value) (y : Tl) (u : Value) (z : Tl) (t : Value) (w : World) (hL : L ≤ w.heap.size) (hx : ToldIs L w.heap.size w x v) (hy : ToldIs L w.heap.size w y u) (hz : ToldIs L w.heap.size w z t)  :
    Calls Try.prog 120 #[v, u, t] w (ToldP L (.two 4 (.two 2 x y) (.hash z)) w) := by
  have HB0 : Hid (Below w.heap.size w w ∧ L ≤ w.heap.size) := ⟨Below.refl _ _, hL⟩
  obtain ⟨Fx, cx, rfl⟩ := hx.fn
  have Tx : Hid (ToldIs L w.heap.size w x (.func (.func Fx) #[] cx)) := hx
  obtain ⟨Fy, cy, rfl⟩ := hy.fn
  have Ty : Hid (ToldIs L w.heap.size w y (.func (.func Fy) #[] cy)) := hy
  obtain ⟨Fz, cz, rfl⟩ := hz.fn
  have Tz : Hid (ToldIs L w.heap.size w z (.func (.func Fz) #[] cz)) := hz
  clear hL hx hy hz
  go_enter Try.func120, Try.ntmps120
  go_wp2_with fail
  refine Calls.mono (toldTwo_any (L := L) 2 _ _ _ _ w HB0.out.2 Tx.out Ty.out) ?_
  rintro e w1 ⟨v1, rfl, t1, b1⟩
  have HB1 : Hid (Below w.heap.size w w1 ∧ L ≤ w1.heap.size) := ⟨HB0.out.1.trans (b1.mono HB0.out.1.size), Nat.le_trans HB0.out.2 b1.size⟩
  replace Tx : Hid (ToldIs L w1.heap.size w1 _ (.func (.func Fx) #[] cx)) := ToldIs.nx b1 Tx.out
  replace Ty : Hid (ToldIs L w1.heap.size w1 _ (.func (.func Fy) #[] cy)) := ToldIs.nx b1 Ty.out
  replace Tz : Hid (ToldIs L w1.heap.size w1 _ (.func (.func Fz) #[] cz)) := ToldIs.nx b1 Tz.out
  obtain ⟨Fp, cp, rfl⟩ := t1.fn
  have Tp : Hid (ToldIs L w1.heap.size w1 _ (.func (.func Fp) #[] cp)) := t1
  clear t1 b1 HB0
  go_wp2_with fail
  refine Calls.mono (toldHash_any (L := L) _ _ w1 HB1.out.2 Tz.out) ?_
  rintro e w2 ⟨v2, rfl, t2, b2⟩
  have HB2 : Hid (Below w.heap.size w w2 ∧ L ≤ w2.heap.size) := ⟨HB1.out.1.trans (b2.mono HB1.out.1.size), Nat.le_trans HB1.out.2 b2.size⟩
  replace Tx : Hid (ToldIs L w2.heap.size w2 _ (.func (.func Fx) #[] cx)) := ToldIs.nx b2 Tx.out
  replace Ty : Hid (ToldIs L w2.heap.size w2 _ (.func (.func Fy) #[] cy)) := ToldIs.nx b2 Ty.out
  replace Tz : Hid (ToldIs L w2.heap.size w2 _ (.func (.func Fz) #[] cz)) := ToldIs.nx b2 Tz.out
  replace Tp : Hid (ToldIs L w2.heap.size w2 _ (.func (.func Fp) #[] cp)) := ToldIs.nx b2 Tp.out
  obtain ⟨Fh, ch, rfl⟩ := t2.fn
  have Th : Hid (ToldIs L w2.heap.size w2 _ (.func (.func Fh) #[] ch)) := t2
  clear t2 b2 HB1
  go_wp2_with fail
  refine Calls.mono (toldKdf_any (L := L) _ _ _ _ w2 HB2.out.2 Tp.out Th.out) ?_
  rintro e w3 ⟨v3, rfl, t3, b3⟩
  have HE : Hid (ToldP L (.two 4 (.two 2 x y) (.hash z)) w (.returned v3) w3) := ⟨v3, rfl, t3, HB2.out.1.trans (b3.mono HB2.out.1.size)⟩
  clear t3 b3
  go_wp2
  go_ret
  exact HE.out
end Go.Proofs.Ytffnadnndmmliaa

namespace Go.Proofs.Ytffnadnndmmliaa
open Go.RowKit
set_option linter.unusedVariables false
set_option maxHeartbeats 800000 in
theorem soFar_any (mx B gb gm f : Nat) (ns : List Nd) (av : Option Addr) (cv : Nat) (w : World) (hb : BldM mx B gb gm ns.length f ns (.slice av ns.length cv) w) :
    Calls Try.prog 81 #[.pointer (some ⟨gb, 0, none⟩)] w fun e w' => e = .returned (.agg #[.slice av ns.length cv]) ∧ Below w.heap.size w w' := by
  obtain ⟨D, hc, hv, hrest⟩ := hb
  have hlt : gb < w.heap.size := (Array.getElem?_eq_some_iff.1 hc).1
  have c0 : w.cell? ⟨gb, 0, none⟩ = some (.slice av ns.length cv) := (cell_of_row _ _ 0 _ _ _ hc).trans rfl
  have hA := heap_alloc_new w (.cells #[.slice none 0 0] 28)
  have HST : Hid (((w.alloc (.cells #[.slice none 0 0] 28)).setCell ⟨w.heap.size, 0, none⟩ (.slice av ns.length cv)).heap[w.heap.size]? = some (.cells #[.slice av ns.length cv] 28 (0, 0))) := (heap_setCell_same _ _ 0 _ _ _ hA).trans rfl
  have HBE : Hid (Below w.heap.size w ((w.alloc (.cells #[.slice none 0 0] 28)).setCell ⟨w.heap.size, 0, none⟩ (.slice av ns.length cv))) := ((Below.refl _ _).alloc (Nat.le_refl _) _).setCell (show w.heap.size ≤ w.heap.size from Nat.le_refl _) _
  have HS1 : Hid ((w.alloc (.cells #[.slice av ns.length cv] 28)).heap[w.heap.size]? = some (.cells #[.slice av ns.length cv] 28 (0, 0))) := heap_alloc_new w _
  have HB1 : Hid (Below w.heap.size w (w.alloc (.cells #[.slice av ns.length cv] 28))) := (Below.refl _ _).alloc (Nat.le_refl _) _
  clear hc hv hrest hA
  go_enter Try.func81, Try.ntmps81
  go_wp2
  refine bodyPost_ret (results_cell_row rfl _ _ w.heap.size 28 #[.slice av ns.length cv] (0, 0) _ rfl ?_ Try.underlying28 rfl arenaSize) rfl ?_
  · first | exact HS1.out | exact HST.out
  · exact ⟨rfl, by first | exact HB1.out | exact HBE.out⟩
end Go.Proofs.Ytffnadnndmmliaa

namespace Go.Proofs.Ytffnadnndmmliaa
open Go.RowKit Go.Maps
set_option linter.unusedVariables false
def Tl.dh (x p : Int) : Tl := ⟨fun mx ns => (putAm mx ns (dhM ns x p), putKm mx ns (dhM ns x p)), (Lit.int .i64 x).wf = true ∧ (Lit.int .i64 p).wf = true⟩
theorem Tl.dh_f (x p : Int) (ns : List Nd) : (Tl.dh x p).f ns = (dhA ns x p, dhK ns x p) := by
  show (putA ns (dhM ns x p), putK ns (dhM ns x p)) = _
  rw [(dhM_put ns x p).1, (dhM_put ns x p).2]
theorem dhM_fits {ns : List Nd} {x p : Int} (hl : ns.length ≤ 1048576) (hx : (Lit.int .i64 x).wf = true) : (dhM ns x p).Fits := by
  have hx' := wf_bd hx
  unfold dhM
  split
  · rename_i h
    unfold dhB at h
    rw [Bool.and_eq_true] at h
    obtain ⟨h1, h2⟩ := isK_ok h.1
    unfold okAt at h1
    rw [Bool.and_eq_true] at h1
    have h4 := inB_true h1.1
    have h5 : nodeB (ndAt ns p) p = true := h1.2
    have h6 : 0 ≤ (ndAt ns p).a ∧ (ndAt ns p).a < p := by
      rcases nodeB_true h5 with h | h | h
      · omega
      · omega
      · omega
    unfold dhN Nd.Fits
    simp only
    refine ⟨by omega, by omega, ?_, ?_⟩
    · split <;> omega
    · split <;> omega
  · unfold Nd.Fits; simp
theorem TlOk.dh {x p : Int} : TlOk (.dh x p) := ⟨fun hm h => putAm_le hm h, fun _ ns => putAm_pre _ _ _, fun _ h => putKm_bdT _ h⟩
set_option maxHeartbeats 1600000 in
set_option maxRecDepth 20000 in
theorem tl_dh (mx B gb gm f g1 g2 : Nat) (x p : Int) (ns : List Nd) (u : Value) (w : World) (hx : (Lit.int .i64 x).wf = true) (hmx : mx ≤ 1048576) (hl : ns.length ≤ 1048576) (h1 : w.heap[g1]? = some (.cells #[.int .i64 x] 3 (0, 0))) (h2 : w.heap[g2]? = some (.cells #[.int .i64 p] 3 (0, 0))) (hb : BldM mx B gb gm ns.length f ns u w) :
    Calls Try.prog 180 #[.pointer (some ⟨gb, 0, none⟩), .pointer (some ⟨g1, 0, none⟩), .pointer (some ⟨g2, 0, none⟩)] w (TlPost mx B gb gm f ((Tl.dh x p).g mx ns) u w) := by
  have c1 : w.cell? ⟨g1, 0, none⟩ = some (.int .i64 x) := (cell_of_row _ _ 0 _ _ _ h1).trans rfl
  have c2 : w.cell? ⟨g2, 0, none⟩ = some (.int .i64 p) := (cell_of_row _ _ 0 _ _ _ h2).trans rfl
  have hb' := hb
  have hsz := hb.size
  obtain ⟨D, hc, hv, hrest⟩ := hb
  obtain ⟨av, cv, rfl, hav, hrow⟩ := hv.row
  have hl1 : g1 < w.heap.size := (Array.getElem?_eq_some_iff.1 h1).1
  have hl2 : g2 < w.heap.size := (Array.getElem?_eq_some_iff.1 h2).1
  have HC1 : Hid (∀ wz, Below w.heap.size w wz → wz.cell? ⟨g1, 0, none⟩ = some (.int .i64 x) ∧ wz.cell? ⟨g2, 0, none⟩ = some (.int .i64 p)) := fun wz hz => ⟨(hz.cell (p := ⟨g1, 0, none⟩) hl1).trans c1, (hz.cell (p := ⟨g2, 0, none⟩) hl2).trans c2⟩
  have HSF : Hid (Calls Try.prog 81 #[.pointer (some ⟨gb, 0, none⟩)] w.drew fun e w' => e = .returned (.agg #[.slice av ns.length cv]) ∧ Below w.heap.size w w') := by
    have hd : Below w.heap.size w w.drew := (Below.refl _ _).drew
    exact (soFar_any mx B gb gm f ns av cv w.drew (hb'.later hd)).mono fun e w' ⟨q1, q2⟩ => ⟨q1, hd.trans (q2.mono hd.size)⟩
  have HD : Hid (∀ wz, Below w.heap.size w wz → Calls Try.prog 181 #[.agg #[.slice av ns.length cv], .int .i64 x, .int .i64 p] wz fun e w' => e = .returned (.agg #[.int .i64 (dhM ns x p).k, .int .i64 (dhM ns x p).n, .int .i64 (dhM ns x p).a, .int .i64 (dhM ns x p).b]) ∧ Below w.heap.size w w') := fun wz hz => (dhNode_any av cv ns x p wz hl (hrow.grown hz)).mono fun e w' ⟨q1, q2⟩ => ⟨q1, hz.trans (q2.mono hz.size)⟩
  have HP : Hid (∀ w3 : World, Below w.heap.size w w3 → Calls Try.prog 152 #[.pointer (some ⟨gb, 0, none⟩), .agg #[.int .i64 (dhM ns x p).k, .int .i64 (dhM ns x p).n, .int .i64 (dhM ns x p).a, .int .i64 (dhM ns x p).b]] w3 (fun e w4 => e = .returned (.int .i64 (putKm mx ns (dhM ns x p))) ∧ Hid (TlPost mx B gb gm f ((Tl.dh x p).g mx ns) (.slice av ns.length cv) w e w4))) := fun w3 hb3 => by
    refine (bputM_any mx B gb gm f ns (dhM ns x p) _ w3 hl (dhM_fits hl hx) (hb'.later hb3)).mono ?_
    rintro e w4 ⟨rfl, v4, hbl4, hk4, hb4⟩
    exact ⟨rfl, rfl, v4, hbl4, (Keep.below hb3).trans hk4, (hb3.mono hsz).trans hb4⟩
  generalize putKm mx ns (dhM ns x p) = ky at HP
  generalize dhM ns x p = y at HD HP
  clear hb' hc hv hrest h1 h2 hrow hav hsz
  go_enter Try.func180, Try.ntmps180
  go_wp2_with fail
  go_region_with (first | (go_at_call 81; refine Calls.mono HSF.out ?_; rintro e wS ⟨rfl, hbS⟩; have z1 := (HC1.out wS hbS).1; have z2 := (HC1.out wS hbS).2) | (go_at_call 181; refine Calls.mono (HD.out _ hbS) ?_; rintro e w3 ⟨rfl, hb3⟩) | (go_at_call 152; refine Calls.mono (HP.out _ hb3) ?_; rintro e w4 ⟨rfl, h4⟩))
  all_goals
    go_wp2
    go_ret
    exact h4.out
theorem toldIs_dh {L B g1 g2 : Nat} {w : World} (x p : Int) (h1 : L ≤ g1 ∧ g1 < B) (h2 : L ≤ g2 ∧ g2 < B) (h3 : w.heap[g1]? = some (.cells #[.int .i64 x] 3 (0, 0))) (h4 : w.heap[g2]? = some (.cells #[.int .i64 p] 3 (0, 0))) : ToldIs L B w (.dh x p) (.func (.func 180) #[] #[.pointer (some ⟨g1, 0, none⟩), .pointer (some ⟨g2, 0, none⟩)]) :=
  ⟨fun hw => .dh, _, _, rfl, Try.call180, fun hw w' mx B' gb gm fl ns u hmx ha hp hl hb => tl_dh mx B' gb gm fl g1 g2 x p ns u w' hw.1 hmx hl ((ha g1 h1.1 h1.2).trans h3) ((ha g2 h2.1 h2.2).trans h4) hb⟩
set_option maxHeartbeats 1600000 in
theorem toldDh_any {L : Nat} (x p : Int) (w : World) (hL : L ≤ w.heap.size) : Calls Try.prog 145 #[.int .i64 x, .int .i64 p] w (ToldP L (.dh x p) w) := by
  have HF : Hid (ToldP L (.dh x p) w (.returned (.func (.func 180) #[] #[.pointer (some ⟨w.heap.size, 0, none⟩), .pointer (some ⟨w.heap.size + 1, 0, none⟩)])) ((w.alloc (.cells #[.int .i64 x] 3)).alloc (.cells #[.int .i64 p] 3))) := by
    have hb : Below w.heap.size w ((w.alloc (.cells #[.int .i64 x] 3)).alloc (.cells #[.int .i64 p] 3)) := ((Below.refl _ _).alloc (Nat.le_refl _) _).alloc (by simp) _
    have e0 := heap_alloc_new w (.cells #[.int .i64 x] 3)
    have e1 := heap_alloc_new (w.alloc (.cells #[.int .i64 x] 3)) (.cells #[.int .i64 p] 3)
    have s1 : (w.alloc (.cells #[.int .i64 x] 3)).heap.size = w.heap.size + 1 := by simp
    have s2 : ((w.alloc (.cells #[.int .i64 x] 3)).alloc (.cells #[.int .i64 p] 3)).heap.size = w.heap.size + 2 := by simp
    rw [s1] at e1
    exact ⟨_, rfl, toldIs_dh x p ⟨by omega, by rw [s2]; omega⟩ ⟨by omega, by rw [s2]; omega⟩ ((heap_alloc_old _ _ (by rw [s1]; omega)).trans e0) e1, hb⟩
  clear hL
  go_enter Try.func145, Try.ntmps145
  go_wp2
  go_ret
  exact HF.out
/-- The secret of two, or Atom 0. -/
def shT (mo x y : Int) : Tl := if mo = 2 then pskT x y else .atom 0
set_option maxHeartbeats 1600000 in
set_option maxRecDepth 20000 in
theorem toldShared_any {L : Nat} (mo x y : Int) (w : World) (hL : L ≤ w.heap.size) (hx : (Lit.int .i64 x).wf = true) (hy : (Lit.int .i64 y).wf = true) : Calls Try.prog 146 #[.int .i64 mo, .int .i64 x, .int .i64 y] w (ToldP L (shT mo x y) w) := by
  unfold shT
  by_cases hm : mo = 2
  · rw [if_pos hm]
    have HC : Hid _ := toldPsk_any (L := L) x y w hL hx hy
    subst hm
    clear hL hx hy
    go_enter Try.func146, Try.ntmps146
    go_wp2_with fail
    refine Calls.mono HC.out ?_
    rintro e w2 h2
    have H2 : Hid (ToldP L (pskT x y) w e w2) := h2
    obtain ⟨v2, rfl, -⟩ := h2
    go_wp2
    go_ret
    exact H2.out
  · rw [if_neg hm]
    have HC : Hid _ := toldAtom_any (L := L) 0 w hL
    have hm' : (mo == 2) = false := by simp [hm]
    clear hL hx hy hm
    go_enter Try.func146, Try.ntmps146
    go_wp2_with fail
    refine Calls.mono HC.out ?_
    rintro e w2 h2
    have H2 : Hid (ToldP L (.atom 0) w e w2) := h2
    obtain ⟨v2, rfl, -⟩ := h2
    go_wp2
    go_ret
    exact H2.out
end Go.Proofs.Ytffnadnndmmliaa
