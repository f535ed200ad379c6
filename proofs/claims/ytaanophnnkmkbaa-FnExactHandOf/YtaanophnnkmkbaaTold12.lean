/- Chapter 12's terms that are told (the program's): a Dh of what is there, a secret of two, an ack's key. -/
import Derived.Test.YtaanophnnkmkbaaTold8
import Derived.Test.YtaanophnnkmkbaaDhNode
import Derived.Test.YtaanophnnkmkbaaImplT10
namespace Go.Proofs.Ytaanophnnkmkbaa
open Go.RowKit Go.Maps
set_option linter.unusedVariables false
def Tl.dh (x p : Int) : Tl := ⟨fun mx ns => (putAm mx ns (dhM ns x p), putKm mx ns (dhM ns x p)), (Lit.int .i64 x).wf = true ∧ (Lit.int .i64 p).wf = true⟩
theorem Tl.dh_f (x p : Int) (ns : List Nd) : (Tl.dh x p).f ns = (dhA ns x p, dhK ns x p) := by
  show (putA ns (dhM ns x p), putK ns (dhM ns x p)) = _
  rw [(dhM_put ns x p).1, (dhM_put ns x p).2]
theorem dhM_fits {ns : List Nd} {x p : Int} (hl : ns.length ≤ 1048576) (hx : (Lit.int .i64 x).wf = true) : (dhM ns x p).Fits := by
  have hx' := wf_bd hx
  unfold dhM
  split
  · rename_i h
    unfold dhB at h
    rw [Bool.and_eq_true] at h
    obtain ⟨h1, h2⟩ := isK_ok h.1
    unfold okAt at h1
    rw [Bool.and_eq_true] at h1
    have h4 := inB_true h1.1
    have h5 : nodeB (ndAt ns p) p = true := h1.2
    have h6 : 0 ≤ (ndAt ns p).a ∧ (ndAt ns p).a < p := by
      rcases nodeB_true h5 with h | h | h
      · omega
      · omega
      · omega
    unfold dhN Nd.Fits
    simp only
    refine ⟨by omega, by omega, ?_, ?_⟩
    · split <;> omega
    · split <;> omega
  · unfold Nd.Fits; simp
theorem TlOk.dh {x p : Int} : TlOk (.dh x p) := ⟨fun hm h => putAm_le hm h, fun _ ns => putAm_pre _ _ _, fun _ h => putKm_bdT _ h⟩
set_option maxHeartbeats 1600000 in
set_option maxRecDepth 20000 in
theorem tl_dh (mx B gb gm f g1 g2 : Nat) (x p : Int) (ns : List Nd) (u : Value) (w : World) (hx : (Lit.int .i64 x).wf = true) (hmx : mx ≤ 1048576) (hl : ns.length ≤ 1048576) (h1 : w.heap[g1]? = some (.cells #[.int .i64 x] 3 (0, 0))) (h2 : w.heap[g2]? = some (.cells #[.int .i64 p] 3 (0, 0))) (hb : BldM mx B gb gm ns.length f ns u w) :
    Calls Try.prog 89 #[.pointer (some ⟨gb, 0, none⟩), .pointer (some ⟨g1, 0, none⟩), .pointer (some ⟨g2, 0, none⟩)] w (TlPost mx B gb gm f ((Tl.dh x p).g mx ns) u w) := by
  have c1 : w.cell? ⟨g1, 0, none⟩ = some (.int .i64 x) := (cell_of_row _ _ 0 _ _ _ h1).trans rfl
  have c2 : w.cell? ⟨g2, 0, none⟩ = some (.int .i64 p) := (cell_of_row _ _ 0 _ _ _ h2).trans rfl
  have hb' := hb
  have hsz := hb.size
  obtain ⟨D, hc, hv, hrest⟩ := hb
  obtain ⟨av, cv, rfl, hav, hrow⟩ := hv.row
  have c0 : w.cell? ⟨gb, 0, none⟩ = some (.slice av ns.length cv) := (cell_of_row _ _ 0 _ _ _ hc).trans rfl
  have HD : Hid (Calls Try.prog 90 #[.agg #[.slice av ns.length cv], .int .i64 x, .int .i64 p] w.drew fun e w' => e = .returned (.agg #[.int .i64 (dhM ns x p).k, .int .i64 (dhM ns x p).n, .int .i64 (dhM ns x p).a, .int .i64 (dhM ns x p).b]) ∧ Below w.heap.size w w') := by
    have hd : Below w.heap.size w w.drew := (Below.refl _ _).drew
    exact (dhNode_any av cv ns x p w.drew hl (hrow.grown hd)).mono fun e w' ⟨q1, q2⟩ => ⟨q1, hd.trans (q2.mono hd.size)⟩
  have HP : Hid (∀ w3 : World, Below w.heap.size w w3 → Calls Try.prog 70 #[.pointer (some ⟨gb, 0, none⟩), .agg #[.int .i64 (dhM ns x p).k, .int .i64 (dhM ns x p).n, .int .i64 (dhM ns x p).a, .int .i64 (dhM ns x p).b]] w3 (fun e w4 => e = .returned (.int .i64 (putKm mx ns (dhM ns x p))) ∧ Hid (TlPost mx B gb gm f ((Tl.dh x p).g mx ns) (.slice av ns.length cv) w e w4))) := fun w3 hb3 => by
    refine (bputM_any mx B gb gm f ns (dhM ns x p) _ w3 hl (dhM_fits hl hx) (hb'.later hb3)).mono ?_
    rintro e w4 ⟨rfl, v4, hbl4, hk4, hb4⟩
    exact ⟨rfl, rfl, v4, hbl4, (Keep.below hb3).trans hk4, (hb3.mono hsz).trans hb4⟩
  generalize putKm mx ns (dhM ns x p) = ky at HP
  generalize dhM ns x p = y at HD HP
  clear hb' hc hv hrest h1 h2 hrow hav hsz
  go_enter Try.func89, Try.ntmps89
  go_wp2_with fail
  go_region_with (first | (go_at_call 90; refine Calls.mono HD.out ?_; rintro e w3 ⟨rfl, hb3⟩) | (go_at_call 70; refine Calls.mono (HP.out _ hb3) ?_; rintro e w4 ⟨rfl, h4⟩))
  all_goals
    go_wp2
    go_ret
    exact h4.out
theorem toldIs_dh {L B g1 g2 : Nat} {w : World} (x p : Int) (h1 : L ≤ g1 ∧ g1 < B) (h2 : L ≤ g2 ∧ g2 < B) (h3 : w.heap[g1]? = some (.cells #[.int .i64 x] 3 (0, 0))) (h4 : w.heap[g2]? = some (.cells #[.int .i64 p] 3 (0, 0))) : ToldIs L B w (.dh x p) (.func (.func 89) #[] #[.pointer (some ⟨g1, 0, none⟩), .pointer (some ⟨g2, 0, none⟩)]) :=
  ⟨fun hw => .dh, _, _, rfl, Try.call89, fun hw w' mx B' gb gm fl ns u hmx ha hB hl hb => tl_dh mx B' gb gm fl g1 g2 x p ns u w' hw.1 hmx hl ((ha g1 h1.1 h1.2).trans h3) ((ha g2 h2.1 h2.2).trans h4) hb⟩
set_option maxHeartbeats 1600000 in
theorem toldDh_any {L : Nat} (x p : Int) (w : World) (hL : L ≤ w.heap.size) : Calls Try.prog 51 #[.int .i64 x, .int .i64 p] w (ToldP L (.dh x p) w) := by
  have HF : Hid (ToldP L (.dh x p) w (.returned (.func (.func 89) #[] #[.pointer (some ⟨w.heap.size, 0, none⟩), .pointer (some ⟨w.heap.size + 1, 0, none⟩)])) ((w.alloc (.cells #[.int .i64 x] 3)).alloc (.cells #[.int .i64 p] 3))) := by
    have hb : Below w.heap.size w ((w.alloc (.cells #[.int .i64 x] 3)).alloc (.cells #[.int .i64 p] 3)) := ((Below.refl _ _).alloc (Nat.le_refl _) _).alloc (by simp) _
    have e0 := heap_alloc_new w (.cells #[.int .i64 x] 3)
    have e1 := heap_alloc_new (w.alloc (.cells #[.int .i64 x] 3)) (.cells #[.int .i64 p] 3)
    have s1 : (w.alloc (.cells #[.int .i64 x] 3)).heap.size = w.heap.size + 1 := by simp
    have s2 : ((w.alloc (.cells #[.int .i64 x] 3)).alloc (.cells #[.int .i64 p] 3)).heap.size = w.heap.size + 2 := by simp
    rw [s1] at e1
    exact ⟨_, rfl, toldIs_dh x p ⟨by omega, by rw [s2]; omega⟩ ⟨by omega, by rw [s2]; omega⟩ ((heap_alloc_old _ _ (by rw [s1]; omega)).trans e0) e1, hb⟩
  clear hL
  go_enter Try.func51, Try.ntmps51
  go_wp2
  go_ret
  exact HF.out
/-- The secret of two, or Atom 0. -/
def shT (mo x y : Int) : Tl := if mo = 2 then pskT x y else .atom 0
set_option maxHeartbeats 1600000 in
set_option maxRecDepth 20000 in
theorem toldShared_any {L : Nat} (mo x y : Int) (w : World) (hL : L ≤ w.heap.size) (hx : (Lit.int .i64 x).wf = true) (hy : (Lit.int .i64 y).wf = true) : Calls Try.prog 52 #[.int .i64 mo, .int .i64 x, .int .i64 y] w (ToldP L (shT mo x y) w) := by
  unfold shT
  by_cases hm : mo = 2
  · rw [if_pos hm]
    have HC : Hid _ := toldPsk_any (L := L) x y w hL hx hy
    subst hm
    clear hL hx hy
    go_enter Try.func52, Try.ntmps52
    go_wp2_with fail
    refine Calls.mono HC.out ?_
    rintro e w2 h2
    have H2 : Hid (ToldP L (pskT x y) w e w2) := h2
    obtain ⟨v2, rfl, -⟩ := h2
    go_wp2
    go_ret
    exact H2.out
  · rw [if_neg hm]
    have HC : Hid _ := toldAtom_any (L := L) 0 w hL
    have hm' : (mo == 2) = false := by simp [hm]
    clear hL hx hy hm
    go_enter Try.func52, Try.ntmps52
    go_wp2_with fail
    refine Calls.mono HC.out ?_
    rintro e w2 h2
    have H2 : Hid (ToldP L (.atom 0) w e w2) := h2
    obtain ⟨v2, rfl, -⟩ := h2
    go_wp2
    go_ret
    exact H2.out
set_option maxHeartbeats 1600000 in
set_option maxRecDepth 20000 in
theorem toldAckKey_any {L : Nat} (n : Int) (w : World) (hL : L ≤ w.heap.size)   :
    Calls Try.prog 45 #[.int .i64 n] w (ToldP L (.two 4 (.pl n) (.atom 40)) w) := by
  have HB0 : Hid (Below w.heap.size w w ∧ L ≤ w.heap.size) := ⟨Below.refl _ _, hL⟩
  clear hL 
  go_enter Try.func45, Try.ntmps45
  go_wp2_with fail
  refine Calls.mono (toldAt_any (L := L) n w HB0.out.2) ?_
  rintro e w1 ⟨v1, rfl, t1, b1⟩
  have HB1 : Hid (Below w.heap.size w w1 ∧ L ≤ w1.heap.size) := ⟨HB0.out.1.trans (b1.mono HB0.out.1.size), Nat.le_trans HB0.out.2 b1.size⟩
  obtain ⟨Fx, cx, rfl⟩ := t1.fn
  have Tx : Hid (ToldIs L w1.heap.size w1 _ (.func (.func Fx) #[] cx)) := t1
  clear t1 b1 HB0
  go_wp2_with fail
  refine Calls.mono (toldAtom_any (L := L) 40 w1 HB1.out.2) ?_
  rintro e w2 ⟨v2, rfl, t2, b2⟩
  have HB2 : Hid (Below w.heap.size w w2 ∧ L ≤ w2.heap.size) := ⟨HB1.out.1.trans (b2.mono HB1.out.1.size), Nat.le_trans HB1.out.2 b2.size⟩
  replace Tx : Hid (ToldIs L w2.heap.size w2 _ (.func (.func Fx) #[] cx)) := ToldIs.nx b2 Tx.out
  obtain ⟨Fa, ca, rfl⟩ := t2.fn
  have Ta : Hid (ToldIs L w2.heap.size w2 _ (.func (.func Fa) #[] ca)) := t2
  clear t2 b2 HB1
  go_wp2_with fail
  refine Calls.mono (toldKdf_any (L := L) _ _ _ _ w2 HB2.out.2 Tx.out Ta.out) ?_
  rintro e w3 ⟨v3, rfl, t3, b3⟩
  have HE : Hid (ToldP L (.two 4 (.pl n) (.atom 40)) w (.returned v3) w3) := ⟨v3, rfl, t3, HB2.out.1.trans (b3.mono HB2.out.1.size)⟩
  clear t3 b3
  go_wp2
  go_ret
  exact HE.out
end Go.Proofs.Ytaanophnnkmkbaa
