/- Chapter 6's terms that are told of others (the program's): toldHand, toldSideKey, toldDone. -/
import Derived.Test.YtaanophnnkmkbaaGreatTold7
import Derived.Test.YtaanophnnkmkbaaGreatDhNode
import Derived.Test.YtaanophnnkmkbaaGreatNameW10
import Derived.Test.YtaanophnnkmkbaaGreatBldOf
namespace Go.Proofs.YtaanophnnkmkbaaGreat
open Go.RowKit Go.Maps
set_option linter.unusedVariables false
/-- Terms that are told stay so. -/
theorem ToldIs.nx {L : Nat} {w w' : World} {t : Tl} {v : Value} (hb : Below w.heap.size w w') (h : ToldIs L w.heap.size w t v) : ToldIs L w'.heap.size w' t v := ToldIs.base hb.size t (ToldIs.later hb t h)
set_option maxHeartbeats 1600000 in
set_option maxRecDepth 20000 in
theorem toldSideKey_any {L : Nat} (x : Tl) (v : Value) (n : Int) (w : World) (hL : L ≤ w.heap.size) (hx : ToldIs L w.heap.size w x v)  :
    Calls Tryz.prog 91 #[v, .int .i64 n] w (ToldP L (.two 4 x (.atom n)) w) := by
  have HB0 : Hid (Below w.heap.size w w ∧ L ≤ w.heap.size) := ⟨Below.refl _ _, hL⟩
  obtain ⟨Fx, cx, rfl⟩ := hx.fn
  have Tx : Hid (ToldIs L w.heap.size w x (.func (.func Fx) #[] cx)) := hx
  clear hL hx
  go_enter Tryz.func91, Tryz.ntmps91
  go_wp2_with fail
  refine Calls.mono (toldAtom_any (L := L) n w HB0.out.2) ?_
  rintro e w1 ⟨v1, rfl, t1, b1⟩
  have HB1 : Hid (Below w.heap.size w w1 ∧ L ≤ w1.heap.size) := ⟨HB0.out.1.trans (b1.mono HB0.out.1.size), Nat.le_trans HB0.out.2 b1.size⟩
  replace Tx : Hid (ToldIs L w1.heap.size w1 _ (.func (.func Fx) #[] cx)) := ToldIs.nx b1 Tx.out
  obtain ⟨Fa, ca, rfl⟩ := t1.fn
  have Ta : Hid (ToldIs L w1.heap.size w1 _ (.func (.func Fa) #[] ca)) := t1
  clear t1 b1 HB0
  go_wp2_with fail
  refine Calls.mono (toldKdf_any (L := L) _ _ _ _ w1 HB1.out.2 Tx.out Ta.out) ?_
  rintro e w2 ⟨v2, rfl, t2, b2⟩
  have HE : Hid (ToldP L (.two 4 x (.atom n)) w (.returned v2) w2) := ⟨v2, rfl, t2, HB1.out.1.trans (b2.mono HB1.out.1.size)⟩
  clear t2 b2
  go_wp2
  go_ret
  exact HE.out
set_option maxHeartbeats 1600000 in
set_option maxRecDepth 20000 in
theorem toldDone_any {L : Nat} (x : Tl) (v : Value) (n : Int) (y : Tl) (u : Value) (w : World) (hL : L ≤ w.heap.size) (hx : ToldIs L w.heap.size w x v) (hy : ToldIs L w.heap.size w y u) {m : Int} (hm : IntKind.i64.wrap (10 + n) = m) :
    Calls Tryz.prog 92 #[v, .int .i64 n, u] w (ToldP L (.two 9 (.two 4 x (.atom m)) (.hash y)) w) := by
  have HB0 : Hid (Below w.heap.size w w ∧ L ≤ w.heap.size) := ⟨Below.refl _ _, hL⟩
  obtain ⟨Fx, cx, rfl⟩ := hx.fn
  have Tx : Hid (ToldIs L w.heap.size w x (.func (.func Fx) #[] cx)) := hx
  obtain ⟨Fy, cy, rfl⟩ := hy.fn
  have Ty : Hid (ToldIs L w.heap.size w y (.func (.func Fy) #[] cy)) := hy
  clear hL hx hy
  go_enter Tryz.func92, Tryz.ntmps92
  go_wp2_with fail
  refine Calls.mono (toldAtom_any (L := L) m w HB0.out.2) ?_
  rintro e w1 ⟨v1, rfl, t1, b1⟩
  have HB1 : Hid (Below w.heap.size w w1 ∧ L ≤ w1.heap.size) := ⟨HB0.out.1.trans (b1.mono HB0.out.1.size), Nat.le_trans HB0.out.2 b1.size⟩
  replace Tx : Hid (ToldIs L w1.heap.size w1 _ (.func (.func Fx) #[] cx)) := ToldIs.nx b1 Tx.out
  replace Ty : Hid (ToldIs L w1.heap.size w1 _ (.func (.func Fy) #[] cy)) := ToldIs.nx b1 Ty.out
  obtain ⟨Fa, ca, rfl⟩ := t1.fn
  have Ta : Hid (ToldIs L w1.heap.size w1 _ (.func (.func Fa) #[] ca)) := t1
  clear t1 b1 HB0
  go_wp2_with fail
  refine Calls.mono (toldKdf_any (L := L) _ _ _ _ w1 HB1.out.2 Tx.out Ta.out) ?_
  rintro e w2 ⟨v2, rfl, t2, b2⟩
  have HB2 : Hid (Below w.heap.size w w2 ∧ L ≤ w2.heap.size) := ⟨HB1.out.1.trans (b2.mono HB1.out.1.size), Nat.le_trans HB1.out.2 b2.size⟩
  replace Tx : Hid (ToldIs L w2.heap.size w2 _ (.func (.func Fx) #[] cx)) := ToldIs.nx b2 Tx.out
  replace Ty : Hid (ToldIs L w2.heap.size w2 _ (.func (.func Fy) #[] cy)) := ToldIs.nx b2 Ty.out
  replace Ta : Hid (ToldIs L w2.heap.size w2 _ (.func (.func Fa) #[] ca)) := ToldIs.nx b2 Ta.out
  obtain ⟨Fk, ck, rfl⟩ := t2.fn
  have Tk : Hid (ToldIs L w2.heap.size w2 _ (.func (.func Fk) #[] ck)) := t2
  clear t2 b2 HB1
  go_wp2_with fail
  refine Calls.mono (toldHash_any (L := L) _ _ w2 HB2.out.2 Ty.out) ?_
  rintro e w3 ⟨v3, rfl, t3, b3⟩
  have HB3 : Hid (Below w.heap.size w w3 ∧ L ≤ w3.heap.size) := ⟨HB2.out.1.trans (b3.mono HB2.out.1.size), Nat.le_trans HB2.out.2 b3.size⟩
  replace Tx : Hid (ToldIs L w3.heap.size w3 _ (.func (.func Fx) #[] cx)) := ToldIs.nx b3 Tx.out
  replace Ty : Hid (ToldIs L w3.heap.size w3 _ (.func (.func Fy) #[] cy)) := ToldIs.nx b3 Ty.out
  replace Ta : Hid (ToldIs L w3.heap.size w3 _ (.func (.func Fa) #[] ca)) := ToldIs.nx b3 Ta.out
  replace Tk : Hid (ToldIs L w3.heap.size w3 _ (.func (.func Fk) #[] ck)) := ToldIs.nx b3 Tk.out
  obtain ⟨Fh, ch, rfl⟩ := t3.fn
  have Th : Hid (ToldIs L w3.heap.size w3 _ (.func (.func Fh) #[] ch)) := t3
  clear t3 b3 HB2
  go_wp2_with fail
  refine Calls.mono (toldTwo_any (L := L) 9 _ _ _ _ w3 HB3.out.2 Tk.out Th.out) ?_
  rintro e w4 ⟨v4, rfl, t4, b4⟩
  have HE : Hid (ToldP L (.two 9 (.two 4 x (.atom m)) (.hash y)) w (.returned v4) w4) := ⟨v4, rfl, t4, HB3.out.1.trans (b4.mono HB3.out.1.size)⟩
  clear t4 b4
  go_wp2
  go_ret
  exact HE.out
set_option maxHeartbeats 1600000 in
set_option maxRecDepth 20000 in
theorem toldHand_any {L : Nat} (x : Tl) (v : Value) (y : Tl) (u : Value) (z : Tl) (t : Value) (w : World) (hL : L ≤ w.heap.size) (hx : ToldIs L w.heap.size w x v) (hy : ToldIs L w.heap.size w y u) (hz : ToldIs L w.heap.size w z t)  :
    Calls Tryz.prog 46 #[v, u, t] w (ToldP L (.two 4 (.two 2 x y) (.hash z)) w) := by
  have HB0 : Hid (Below w.heap.size w w ∧ L ≤ w.heap.size) := ⟨Below.refl _ _, hL⟩
  obtain ⟨Fx, cx, rfl⟩ := hx.fn
  have Tx : Hid (ToldIs L w.heap.size w x (.func (.func Fx) #[] cx)) := hx
  obtain ⟨Fy, cy, rfl⟩ := hy.fn
  have Ty : Hid (ToldIs L w.heap.size w y (.func (.func Fy) #[] cy)) := hy
  obtain ⟨Fz, cz, rfl⟩ := hz.fn
  have Tz : Hid (ToldIs L w.heap.size w z (.func (.func Fz) #[] cz)) := hz
  clear hL hx hy hz
  go_enter Tryz.func46, Tryz.ntmps46
  go_wp2_with fail
  refine Calls.mono (toldTwo_any (L := L) 2 _ _ _ _ w HB0.out.2 Tx.out Ty.out) ?_
  rintro e w1 ⟨v1, rfl, t1, b1⟩
  have HB1 : Hid (Below w.heap.size w w1 ∧ L ≤ w1.heap.size) := ⟨HB0.out.1.trans (b1.mono HB0.out.1.size), Nat.le_trans HB0.out.2 b1.size⟩
  replace Tx : Hid (ToldIs L w1.heap.size w1 _ (.func (.func Fx) #[] cx)) := ToldIs.nx b1 Tx.out
  replace Ty : Hid (ToldIs L w1.heap.size w1 _ (.func (.func Fy) #[] cy)) := ToldIs.nx b1 Ty.out
  replace Tz : Hid (ToldIs L w1.heap.size w1 _ (.func (.func Fz) #[] cz)) := ToldIs.nx b1 Tz.out
  obtain ⟨Fp, cp, rfl⟩ := t1.fn
  have Tp : Hid (ToldIs L w1.heap.size w1 _ (.func (.func Fp) #[] cp)) := t1
  clear t1 b1 HB0
  go_wp2_with fail
  refine Calls.mono (toldHash_any (L := L) _ _ w1 HB1.out.2 Tz.out) ?_
  rintro e w2 ⟨v2, rfl, t2, b2⟩
  have HB2 : Hid (Below w.heap.size w w2 ∧ L ≤ w2.heap.size) := ⟨HB1.out.1.trans (b2.mono HB1.out.1.size), Nat.le_trans HB1.out.2 b2.size⟩
  replace Tx : Hid (ToldIs L w2.heap.size w2 _ (.func (.func Fx) #[] cx)) := ToldIs.nx b2 Tx.out
  replace Ty : Hid (ToldIs L w2.heap.size w2 _ (.func (.func Fy) #[] cy)) := ToldIs.nx b2 Ty.out
  replace Tz : Hid (ToldIs L w2.heap.size w2 _ (.func (.func Fz) #[] cz)) := ToldIs.nx b2 Tz.out
  replace Tp : Hid (ToldIs L w2.heap.size w2 _ (.func (.func Fp) #[] cp)) := ToldIs.nx b2 Tp.out
  obtain ⟨Fh, ch, rfl⟩ := t2.fn
  have Th : Hid (ToldIs L w2.heap.size w2 _ (.func (.func Fh) #[] ch)) := t2
  clear t2 b2 HB1
  go_wp2_with fail
  refine Calls.mono (toldKdf_any (L := L) _ _ _ _ w2 HB2.out.2 Tp.out Th.out) ?_
  rintro e w3 ⟨v3, rfl, t3, b3⟩
  have HE : Hid (ToldP L (.two 4 (.two 2 x y) (.hash z)) w (.returned v3) w3) := ⟨v3, rfl, t3, HB2.out.1.trans (b3.mono HB2.out.1.size)⟩
  clear t3 b3
  go_wp2
  go_ret
  exact HE.out
end Go.Proofs.YtaanophnnkmkbaaGreat

namespace Go.Proofs.YtaanophnnkmkbaaGreat
open Go.RowKit Go.Maps
set_option linter.unusedVariables false
def Tl.dh (x p : Int) : Tl := ⟨fun mx ns => (putAm mx ns (dhM ns x p), putKm mx ns (dhM ns x p)), (Lit.int .i64 x).wf = true ∧ (Lit.int .i64 p).wf = true⟩
theorem Tl.dh_f (x p : Int) (ns : List Nd) : (Tl.dh x p).f ns = (dhA ns x p, dhK ns x p) := by
  show (putA ns (dhM ns x p), putK ns (dhM ns x p)) = _
  rw [(dhM_put ns x p).1, (dhM_put ns x p).2]
theorem dhM_fits {ns : List Nd} {x p : Int} (hl : ns.length ≤ 1048576) (hx : (Lit.int .i64 x).wf = true) : (dhM ns x p).Fits := by
  have hx' := wf_bd hx
  unfold dhM
  split
  · rename_i h
    unfold dhB at h
    rw [Bool.and_eq_true] at h
    obtain ⟨h1, h2⟩ := isK_ok h.1
    unfold okAt at h1
    rw [Bool.and_eq_true] at h1
    have h4 := inB_true h1.1
    have h5 : nodeB (ndAt ns p) p = true := h1.2
    have h6 : 0 ≤ (ndAt ns p).a ∧ (ndAt ns p).a < p := by
      rcases nodeB_true h5 with h | h | h
      · omega
      · omega
      · omega
    unfold dhN Nd.Fits
    simp only
    refine ⟨by omega, by omega, ?_, ?_⟩
    · split <;> omega
    · split <;> omega
  · unfold Nd.Fits; simp
theorem TlOk.dh {x p : Int} : TlOk (.dh x p) := ⟨fun hm h => putAm_le hm h, fun _ ns => putAm_pre _ _ _, fun _ h => putKm_bdT _ h⟩
set_option maxHeartbeats 1600000 in
set_option maxRecDepth 20000 in
theorem tl_dh (mx B gb gm f g1 g2 : Nat) (x p : Int) (ns : List Nd) (u : Value) (w : World) (hx : (Lit.int .i64 x).wf = true) (hmx : mx ≤ 1048576) (hl : ns.length ≤ 1048576) (h1 : w.heap[g1]? = some (.cells #[.int .i64 x] 3 (0, 0))) (h2 : w.heap[g2]? = some (.cells #[.int .i64 p] 3 (0, 0))) (hb : BldM mx B gb gm ns.length f ns u w) :
    Calls Tryz.prog 82 #[.pointer (some ⟨gb, 0, none⟩), .pointer (some ⟨g1, 0, none⟩), .pointer (some ⟨g2, 0, none⟩)] w (TlPost mx B gb gm f ((Tl.dh x p).g mx ns) u w) := by
  have c1 : w.cell? ⟨g1, 0, none⟩ = some (.int .i64 x) := (cell_of_row _ _ 0 _ _ _ h1).trans rfl
  have c2 : w.cell? ⟨g2, 0, none⟩ = some (.int .i64 p) := (cell_of_row _ _ 0 _ _ _ h2).trans rfl
  have hb' := hb
  have hsz := hb.size
  obtain ⟨D, hc, hv, hrest⟩ := hb
  obtain ⟨av, cv, rfl, hav, hrow⟩ := hv.row
  have c0 : w.cell? ⟨gb, 0, none⟩ = some (.slice av ns.length cv) := (cell_of_row _ _ 0 _ _ _ hc).trans rfl
  have HD : Hid (Calls Tryz.prog 83 #[.agg #[.slice av ns.length cv], .int .i64 x, .int .i64 p] w.drew fun e w' => e = .returned (.agg #[.int .i64 (dhM ns x p).k, .int .i64 (dhM ns x p).n, .int .i64 (dhM ns x p).a, .int .i64 (dhM ns x p).b]) ∧ Below w.heap.size w w') := by
    have hd : Below w.heap.size w w.drew := (Below.refl _ _).drew
    exact (dhNode_any av cv ns x p w.drew hl (hrow.grown hd)).mono fun e w' ⟨q1, q2⟩ => ⟨q1, hd.trans (q2.mono hd.size)⟩
  have HP : Hid (∀ w3 : World, Below w.heap.size w w3 → Calls Tryz.prog 63 #[.pointer (some ⟨gb, 0, none⟩), .agg #[.int .i64 (dhM ns x p).k, .int .i64 (dhM ns x p).n, .int .i64 (dhM ns x p).a, .int .i64 (dhM ns x p).b]] w3 (fun e w4 => e = .returned (.int .i64 (putKm mx ns (dhM ns x p))) ∧ Hid (TlPost mx B gb gm f ((Tl.dh x p).g mx ns) (.slice av ns.length cv) w e w4))) := fun w3 hb3 => by
    refine (bputM_any mx B gb gm f ns (dhM ns x p) _ w3 hl (dhM_fits hl hx) (hb'.later hb3)).mono ?_
    rintro e w4 ⟨rfl, v4, hbl4, hk4, hb4⟩
    exact ⟨rfl, rfl, v4, hbl4, (Keep.below hb3).trans hk4, (hb3.mono hsz).trans hb4⟩
  generalize putKm mx ns (dhM ns x p) = ky at HP
  generalize dhM ns x p = y at HD HP
  clear hb' hc hv hrest h1 h2 hrow hav hsz
  go_enter Tryz.func82, Tryz.ntmps82
  go_wp2_with fail
  go_region_with (first | (go_at_call 83; refine Calls.mono HD.out ?_; rintro e w3 ⟨rfl, hb3⟩) | (go_at_call 63; refine Calls.mono (HP.out _ hb3) ?_; rintro e w4 ⟨rfl, h4⟩))
  all_goals
    go_wp2
    go_ret
    exact h4.out
theorem toldIs_dh {L B g1 g2 : Nat} {w : World} (x p : Int) (h1 : L ≤ g1 ∧ g1 < B) (h2 : L ≤ g2 ∧ g2 < B) (h3 : w.heap[g1]? = some (.cells #[.int .i64 x] 3 (0, 0))) (h4 : w.heap[g2]? = some (.cells #[.int .i64 p] 3 (0, 0))) : ToldIs L B w (.dh x p) (.func (.func 82) #[] #[.pointer (some ⟨g1, 0, none⟩), .pointer (some ⟨g2, 0, none⟩)]) :=
  ⟨fun hw => .dh, _, _, rfl, Tryz.call82, fun hw w' mx B' gb gm fl ns u hmx ha hp hl hb => tl_dh mx B' gb gm fl g1 g2 x p ns u w' hw.1 hmx hl ((ha g1 h1.1 h1.2).trans h3) ((ha g2 h2.1 h2.2).trans h4) hb⟩
set_option maxHeartbeats 1600000 in
theorem toldDh_any {L : Nat} (x p : Int) (w : World) (hL : L ≤ w.heap.size) : Calls Tryz.prog 47 #[.int .i64 x, .int .i64 p] w (ToldP L (.dh x p) w) := by
  have HF : Hid (ToldP L (.dh x p) w (.returned (.func (.func 82) #[] #[.pointer (some ⟨w.heap.size, 0, none⟩), .pointer (some ⟨w.heap.size + 1, 0, none⟩)])) ((w.alloc (.cells #[.int .i64 x] 3)).alloc (.cells #[.int .i64 p] 3))) := by
    have hb : Below w.heap.size w ((w.alloc (.cells #[.int .i64 x] 3)).alloc (.cells #[.int .i64 p] 3)) := ((Below.refl _ _).alloc (Nat.le_refl _) _).alloc (by simp) _
    have e0 := heap_alloc_new w (.cells #[.int .i64 x] 3)
    have e1 := heap_alloc_new (w.alloc (.cells #[.int .i64 x] 3)) (.cells #[.int .i64 p] 3)
    have s1 : (w.alloc (.cells #[.int .i64 x] 3)).heap.size = w.heap.size + 1 := by simp
    have s2 : ((w.alloc (.cells #[.int .i64 x] 3)).alloc (.cells #[.int .i64 p] 3)).heap.size = w.heap.size + 2 := by simp
    rw [s1] at e1
    exact ⟨_, rfl, toldIs_dh x p ⟨by omega, by rw [s2]; omega⟩ ⟨by omega, by rw [s2]; omega⟩ ((heap_alloc_old _ _ (by rw [s1]; omega)).trans e0) e1, hb⟩
  clear hL
  go_enter Tryz.func47, Tryz.ntmps47
  go_wp2
  go_ret
  exact HF.out
/-- The secret of two, or Atom 0. -/
def shT (mo x y : Int) : Tl := if mo = 2 then pskT x y else .atom 0
set_option maxHeartbeats 1600000 in
set_option maxRecDepth 20000 in
theorem toldShared_any {L : Nat} (mo x y : Int) (w : World) (hL : L ≤ w.heap.size) (hx : (Lit.int .i64 x).wf = true) (hy : (Lit.int .i64 y).wf = true) : Calls Tryz.prog 48 #[.int .i64 mo, .int .i64 x, .int .i64 y] w (ToldP L (shT mo x y) w) := by
  unfold shT
  by_cases hm : mo = 2
  · rw [if_pos hm]
    have HC : Hid _ := toldPsk_any (L := L) x y w hL hx hy
    subst hm
    clear hL hx hy
    go_enter Tryz.func48, Tryz.ntmps48
    go_wp2_with fail
    refine Calls.mono HC.out ?_
    rintro e w2 h2
    have H2 : Hid (ToldP L (pskT x y) w e w2) := h2
    obtain ⟨v2, rfl, -⟩ := h2
    go_wp2
    go_ret
    exact H2.out
  · rw [if_neg hm]
    have HC : Hid _ := toldAtom_any (L := L) 0 w hL
    have hm' : (mo == 2) = false := by simp [hm]
    clear hL hx hy hm
    go_enter Tryz.func48, Tryz.ntmps48
    go_wp2_with fail
    refine Calls.mono HC.out ?_
    rintro e w2 h2
    have H2 : Hid (ToldP L (.atom 0) w e w2) := h2
    obtain ⟨v2, rfl, -⟩ := h2
    go_wp2
    go_ret
    exact H2.out
set_option maxHeartbeats 1600000 in
set_option maxRecDepth 20000 in
theorem toldAckKey_any {L : Nat} (n : Int) (w : World) (hL : L ≤ w.heap.size)   :
    Calls Tryz.prog 35 #[.int .i64 n] w (ToldP L (.two 4 (.pl n) (.atom 40)) w) := by
  have HB0 : Hid (Below w.heap.size w w ∧ L ≤ w.heap.size) := ⟨Below.refl _ _, hL⟩
  clear hL 
  go_enter Tryz.func35, Tryz.ntmps35
  go_wp2_with fail
  refine Calls.mono (toldAt_any (L := L) n w HB0.out.2) ?_
  rintro e w1 ⟨v1, rfl, t1, b1⟩
  have HB1 : Hid (Below w.heap.size w w1 ∧ L ≤ w1.heap.size) := ⟨HB0.out.1.trans (b1.mono HB0.out.1.size), Nat.le_trans HB0.out.2 b1.size⟩
  obtain ⟨Fx, cx, rfl⟩ := t1.fn
  have Tx : Hid (ToldIs L w1.heap.size w1 _ (.func (.func Fx) #[] cx)) := t1
  clear t1 b1 HB0
  go_wp2_with fail
  refine Calls.mono (toldAtom_any (L := L) 40 w1 HB1.out.2) ?_
  rintro e w2 ⟨v2, rfl, t2, b2⟩
  have HB2 : Hid (Below w.heap.size w w2 ∧ L ≤ w2.heap.size) := ⟨HB1.out.1.trans (b2.mono HB1.out.1.size), Nat.le_trans HB1.out.2 b2.size⟩
  replace Tx : Hid (ToldIs L w2.heap.size w2 _ (.func (.func Fx) #[] cx)) := ToldIs.nx b2 Tx.out
  obtain ⟨Fa, ca, rfl⟩ := t2.fn
  have Ta : Hid (ToldIs L w2.heap.size w2 _ (.func (.func Fa) #[] ca)) := t2
  clear t2 b2 HB1
  go_wp2_with fail
  refine Calls.mono (toldKdf_any (L := L) _ _ _ _ w2 HB2.out.2 Tx.out Ta.out) ?_
  rintro e w3 ⟨v3, rfl, t3, b3⟩
  have HE : Hid (ToldP L (.two 4 (.pl n) (.atom 40)) w (.returned v3) w3) := ⟨v3, rfl, t3, HB2.out.1.trans (b3.mono HB2.out.1.size)⟩
  clear t3 b3
  go_wp2
  go_ret
  exact HE.out
end Go.Proofs.YtaanophnnkmkbaaGreat

namespace Go.Proofs.YtaanophnnkmkbaaGreat
open Go.RowKit Go.Maps
set_option linter.unusedVariables false
set_option maxHeartbeats 1600000 in
set_option maxRecDepth 20000 in
theorem finderOf_any (a : Option Addr) (cap : Nat) (ns : List Nd) (w : World) (hl : ns.length ≤ 1048576) (hf : ∀ y ∈ ns, y.Fits) (ha : AddrN a cap) (hr : RowN w.heap.size w a ns) :
    Calls Tryz.prog 36 #[.agg #[.slice a ns.length cap]] w fun e w' => ∃ gb gm v, e = .returned (.pointer (some ⟨gb, 0, none⟩)) ∧ BldM ns.length w.heap.size gb gm ns.length ns.length ns v w' ∧ Below w.heap.size w w' := by
  have hb0 : Below w.heap.size w (w.alloc (.cells #[.slice a ns.length cap] 26)) := (Below.refl _ _).alloc (Nat.le_refl _) _
  have hA0 := heap_alloc_new w (.cells #[.slice a ns.length cap] 26)
  have c0 : (w.alloc (.cells #[.slice a ns.length cap] 26)).cell? ⟨w.heap.size, 0, none⟩ = some (.slice a ns.length cap) := (cell_of_row _ _ 0 _ _ _ hA0).trans rfl
  have HC : Hid _ := builderOf_any a cap ns _ hl hf ha (hr.grown hb0)
  have hs0 : (w.alloc (.cells #[.slice a ns.length cap] 26)).heap.size = w.heap.size + 1 := by simp
  clear hf ha hr hA0
  go_enter Tryz.func36, Tryz.ntmps36
  go_wp2_with fail
  generalize w.alloc (.cells #[.slice a ns.length cap] 26) = w0 at hb0 c0 HC hs0 ⊢
  refine Calls.mono HC.out ?_
  rintro e w1 ⟨gb, gm, v, rfl, hbld, hb1⟩
  obtain ⟨D, h1, h2, h3, h4, h5, h6, h7, h8, h9⟩ := hbld
  have c2 : w1.cell? ⟨gb, 2, none⟩ = some (.int .i64 (ns.length : Int)) := (cell_of_row _ _ 2 _ _ _ h1).trans rfl
  have c3 : w1.cell? ⟨gb, 3, none⟩ = some (.int .i64 ((3000 : Nat) : Int)) := (cell_of_row _ _ 3 _ _ _ h1).trans rfl
  have f3 : w1.frozen? ⟨gb, 3, none⟩ = false := frozen_of_row _ _ 3 _ _ h1
  have HE : Hid (BldM ns.length w.heap.size gb gm ns.length ns.length ns v (w1.setCell ⟨gb, 3, none⟩ (.int .i64 (ns.length : Int))) ∧ Below w.heap.size w (w1.setCell ⟨gb, 3, none⟩ (.int .i64 (ns.length : Int)))) := by
    refine ⟨⟨D, (heap_setCell_same w1 gb 3 _ _ _ h1).trans rfl, ?_, World.ownsMap.setCell h3 (by simpa using Ne.symm h7) _, h4, by omega, by omega, h7, h8, h9⟩, ?_⟩
    · exact OwnN.base (ownsRow_setCell_other h2 (a := ⟨gb, 3, none⟩) (by simpa using h8) _) (by omega)
    · exact (hb0.trans (hb1.mono (by omega))).setCell (show w.heap.size ≤ (⟨gb, 3, none⟩ : Addr).block by show w.heap.size ≤ gb; omega) _
  clear h1 h2 h3 h4 h5 h6 h7 h8 h9 hb0 hb1 c0 HC hs0
  go_wp2
  go_ret
  exact ⟨gb, gm, v, rfl, HE.out.1, HE.out.2⟩
/-- Without room nothing is put. -/
theorem putAm_full (ns : List Nd) (x : Nd) : putAm ns.length ns x = ns := by unfold putAm; rw [if_neg (by omega)]
def Tl.Still (t : Tl) : Prop := ∀ ns : List Nd, (t.g ns.length ns).1 = ns
theorem Tl.Still.pl (p : Int) : (Tl.pl p).Still := fun _ => rfl
theorem Tl.Still.atom (n : Int) : (Tl.atom n).Still := fun ns => putAm_full ns _
theorem Tl.Still.one {k : Int} {x : Tl} (h : x.Still) : (Tl.one k x).Still := fun ns => by
  show putAm ns.length (x.g ns.length ns).1 _ = ns
  rw [h ns]; exact putAm_full ns _
theorem Tl.Still.hash {x : Tl} (h : x.Still) : (Tl.hash x).Still := Tl.Still.one (k := 3) h
theorem Tl.Still.two {k : Int} {x y : Tl} (h : x.Still) (h' : y.Still) : (Tl.two k x y).Still := fun ns => by
  show putAm ns.length (y.g ns.length (x.g ns.length ns).1).1 _ = ns
  rw [h ns, h' ns]; exact putAm_full ns _
theorem Tl.gs_still : ∀ (xs : List Tl) (ns : List Nd), (∀ x ∈ xs, x.Still) → (Tl.gs ns.length xs ns).1 = ns
  | [], ns, _ => rfl
  | x :: xs, ns, h => by
    rw [Tl.gs_cons, h x (List.mem_cons_self ..) ns]
    exact Tl.gs_still xs ns fun y hy => h y (List.mem_cons_of_mem _ hy)
theorem listFm_still (ns : List Nd) : ∀ xs : List Int, (listFm ns.length xs ns).1 = ns
  | [] => putAm_full ns _
  | x :: xs => by rw [listFm_cons]; simp only; rw [listFm_still ns xs]; exact putAm_full ns _
theorem Tl.Still.list {xs : List Tl} (h : ∀ x ∈ xs, x.Still) : (Tl.list xs).Still := fun ns => by
  rw [Tl.g_list, Tl.gs_still xs ns h]; exact listFm_still ns _
/-- Where a term stands, or -1. -/
def Tl.look (t : Tl) (ns : List Nd) : Int := (t.g ns.length ns).2
theorem ToldIs.find {L B : Nat} {w : World} {t : Tl} {G : FuncId} {ds : Array Value} (h : ToldIs L B w t (.func (.func G) #[] ds)) (hw : t.Wf) (hs : t.Still) (w' : World) (B' gb gm fl : Nat) (ns : List Nd) (u : Value) (ha : ∀ k, L ≤ k → k < B → w'.heap[k]? = w.heap[k]?) (hB : B ≤ B') (hl : ns.length ≤ 1048576) (hb : BldM ns.length B' gb gm ns.length fl ns u w') :
    Calls Tryz.prog G (#[.pointer (some ⟨gb, 0, none⟩)] ++ ds) w' fun e w2 => e = .returned (.int .i64 (t.look ns)) ∧ (∃ u', BldM ns.length B' gb gm ns.length fl ns u' w2) ∧ Below B' w' w2 := by
  refine (h.callM hw w' ns.length B' gb gm fl ns u hl ha hB hl hb).mono ?_
  rintro e w2 ⟨h1, u', h2, h3, h4⟩
  rw [hs ns] at h2
  exact ⟨h1, ⟨u', h2⟩, h4⟩
theorem ToldIs.findA {B : Nat} {w : World} {t : Tl} {G : FuncId} {ds : Array Value} {L : Nat} (h : ToldIs L w.heap.size w t (.func (.func G) #[] ds)) (hw : t.Wf) (hs : t.Still) {gb gm fl : Nat} {ns : List Nd} {u : Value} (hl : ns.length ≤ 1048576) (hb : BldM ns.length B gb gm ns.length fl ns u w) (hL : gb < L ∧ gm < L ∧ ∀ k, u.ownBlock = some k → k < L) :
    Calls Tryz.prog G (#[.pointer (some ⟨gb, 0, none⟩)] ++ ds) w fun e w2 => e = .returned (.int .i64 (t.look ns)) ∧ (∃ u', BldM ns.length B gb gm ns.length fl ns u' w2) ∧ Below B w w2 := by
  refine (h.callA hw w ns.length B gb gm fl ns u hl (fun k _ _ => rfl) (fun k hk hk2 => ⟨hk2, by omega, by omega, fun e => by have := hL.2.2 k e; omega⟩) hl hb).mono ?_
  rintro e w2 ⟨h1, u', h2, h3, h4⟩
  rw [hs ns] at h2
  exact ⟨h1, ⟨u', h2⟩, h4⟩
theorem ToldIs.findK {B : Nat} {w : World} {t : Tl} {G : FuncId} {ds : Array Value} {L : Nat} (h : ToldIs L w.heap.size w t (.func (.func G) #[] ds)) (hw : t.Wf) (hs : t.Still) {gb gm fl : Nat} {ns : List Nd} {u : Value} (hl : ns.length ≤ 1048576) (hb : BldM ns.length B gb gm ns.length fl ns u w) (hL : gb < L ∧ gm < L ∧ ∀ k, u.ownBlock = some k → k < L) :
    Calls Tryz.prog G (#[.pointer (some ⟨gb, 0, none⟩)] ++ ds) w fun e w2 => e = .returned (.int .i64 (t.look ns)) ∧ (∃ u', BldM ns.length B gb gm ns.length fl ns u' w2 ∧ Keep gb gm u u' w w2) ∧ Below B w w2 := by
  refine (h.callA hw w ns.length B gb gm fl ns u hl (fun k _ _ => rfl) (fun k hk hk2 => ⟨hk2, by omega, by omega, fun e => by have := hL.2.2 k e; omega⟩) hl hb).mono ?_
  rintro e w2 ⟨h1, u', h2, h3, h4⟩
  rw [hs ns] at h2
  exact ⟨h1, ⟨u', h2, h3⟩, h4⟩
end Go.Proofs.YtaanophnnkmkbaaGreat
