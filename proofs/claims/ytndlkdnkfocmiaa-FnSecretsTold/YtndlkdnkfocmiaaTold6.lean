/- The program's terms that are told (chapter 6): closures over what they are made of. -/
import Derived.Test.YtndlkdnkfocmiaaRdAt
import Derived.Test.YtndlkdnkfocmiaaMakeI
import Derived.Test.YtndlkdnkfocmiaaSec6
namespace Go.Proofs.Ytndlkdnkfocmiaa
open Go.RowKit Go.Maps
set_option linter.unusedVariables false
/-- A term that is told. -/
inductive Tl where
  | pl (p : Int)
  | atom (n : Int)
  | hash (x : Tl)
  | two (k : Int) (x y : Tl)
/-- The arena with all that it is made of, and its place. -/
def Tl.f : Tl → List Nd → List Nd × Int
  | .pl p, ns => (ns, p)
  | .atom n, ns => (putA ns ⟨1, n, 0, 0⟩, putK ns ⟨1, n, 0, 0⟩)
  | .hash x, ns => (putA (x.f ns).1 (mkNd 3 (x.f ns).2 0), putK (x.f ns).1 (mkNd 3 (x.f ns).2 0))
  | .two k x y, ns => (putA (y.f (x.f ns).1).1 (mkNd k (x.f ns).2 (y.f (x.f ns).1).2), putK (y.f (x.f ns).1).1 (mkNd k (x.f ns).2 (y.f (x.f ns).1).2))
def Tl.Wf : Tl → Prop
  | .pl p => (Lit.int .i64 p).wf = true
  | .atom n => (Lit.int .i64 n).wf = true
  | .hash x => x.Wf
  | .two k x y => 1 ≤ k ∧ k ≤ 9 ∧ x.Wf ∧ y.Wf
theorem Tl.le : ∀ (t : Tl) {ns : List Nd}, ns.length ≤ 1048576 → (t.f ns).1.length ≤ 1048576
  | .pl p, ns, h => h
  | .atom n, ns, h => putA_le h
  | .hash x, ns, h => putA_le (x.le h)
  | .two k x y, ns, h => putA_le (y.le (x.le h))
theorem putA_preT (ns : List Nd) (x : Nd) : ns <+: putA ns x := by
  unfold putA; split
  · exact List.prefix_append _ _
  · exact List.prefix_refl _
theorem Tl.pre : ∀ (t : Tl) (ns : List Nd), ns <+: (t.f ns).1
  | .pl p, ns => List.prefix_refl _
  | .atom n, ns => putA_preT _ _
  | .hash x, ns => (x.pre ns).trans (putA_preT _ _)
  | .two k x y, ns => ((x.pre ns).trans (y.pre _)).trans (putA_preT _ _)
theorem wf_bd {p : Int} (h : (Lit.int .i64 p).wf = true) : -9223372036854775808 ≤ p ∧ p ≤ 9223372036854775807 := by
  simp [Lit.wf, IntKind.min, IntKind.max, IntKind.signed, IntKind.bits] at h
  omega
theorem Tl.bd : ∀ (t : Tl) {ns : List Nd}, t.Wf → ns.length ≤ 1048576 → -9223372036854775808 ≤ (t.f ns).2 ∧ (t.f ns).2 ≤ 9223372036854775807
  | .pl p, ns, hw, h => wf_bd hw
  | .atom n, ns, hw, h => by have := putK_bd ns ⟨1, n, 0, 0⟩; show -9223372036854775808 ≤ putK _ _ ∧ putK _ _ ≤ _; omega
  | .hash x, ns, hw, h => by
    have h1 := x.le h
    have := putK_bd (x.f ns).1 (mkNd 3 (x.f ns).2 0); show -9223372036854775808 ≤ putK _ _ ∧ putK _ _ ≤ _; omega
  | .two k x y, ns, hw, h => by
    have h1 := y.le (x.le h)
    have := putK_bd (y.f (x.f ns).1).1 (mkNd k (x.f ns).2 (y.f (x.f ns).1).2); show -9223372036854775808 ≤ putK _ _ ∧ putK _ _ ≤ _; omega
/-- A term that is told lies in memory, in boxes from L on and under B. -/
def Lies (L B : Nat) (w : World) : Tl → Value → Prop
  | .pl p, v => ∃ g, (L ≤ g ∧ g < B) ∧ v = .func (.func 63) #[] #[.pointer (some ⟨g, 0, none⟩)] ∧ w.heap[g]? = some (.cells #[.int .i64 p] 3 (0, 0))
  | .atom n, v => ∃ g, (L ≤ g ∧ g < B) ∧ v = .func (.func 64) #[] #[.pointer (some ⟨g, 0, none⟩)] ∧ w.heap[g]? = some (.cells #[.int .i64 n] 3 (0, 0))
  | .hash x, v => ∃ g u, (L ≤ g ∧ g < B) ∧ v = .func (.func 71) #[] #[.pointer (some ⟨g, 0, none⟩)] ∧ w.heap[g]? = some (.cells #[u] 56 (0, 0)) ∧ Lies L B w x u
  | .two k x y, v => ∃ gx gy gk ux uy, (L ≤ gx ∧ gx < B) ∧ (L ≤ gy ∧ gy < B) ∧ (L ≤ gk ∧ gk < B) ∧ v = .func (.func 73) #[] #[.pointer (some ⟨gx, 0, none⟩), .pointer (some ⟨gy, 0, none⟩), .pointer (some ⟨gk, 0, none⟩)] ∧ w.heap[gx]? = some (.cells #[ux] 56 (0, 0)) ∧ w.heap[gy]? = some (.cells #[uy] 56 (0, 0)) ∧ w.heap[gk]? = some (.cells #[.int .i64 k] 63 (0, 0)) ∧ Lies L B w x ux ∧ Lies L B w y uy
theorem Lies.kept {L B : Nat} {w w' : World} (hb : ∀ k, L ≤ k → k < B → w'.heap[k]? = w.heap[k]?) : ∀ (t : Tl) {v : Value}, Lies L B w t v → Lies L B w' t v
  | .pl p, v, ⟨g, h1, h2, h3⟩ => ⟨g, h1, h2, (hb g h1.1 h1.2).trans h3⟩
  | .atom p, v, ⟨g, h1, h2, h3⟩ => ⟨g, h1, h2, (hb g h1.1 h1.2).trans h3⟩
  | .hash x, v, ⟨g, u, h1, h2, h3, h4⟩ => ⟨g, u, h1, h2, (hb g h1.1 h1.2).trans h3, Lies.kept hb x h4⟩
  | .two k x y, v, ⟨gx, gy, gk, ux, uy, h1, h2, h3, h4, h5, h6, h7, h8, h9⟩ => ⟨gx, gy, gk, ux, uy, h1, h2, h3, h4, (hb _ h1.1 h1.2).trans h5, (hb _ h2.1 h2.2).trans h6, (hb _ h3.1 h3.2).trans h7, Lies.kept hb x h8, Lies.kept hb y h9⟩
theorem Lies.later {L B : Nat} {w w' : World} (hb : Below B w w') (t : Tl) {v : Value} (h : Lies L B w t v) : Lies L B w' t v := Lies.kept (fun k _ hk => hb.block k hk) t h
theorem Lies.base {L B B' : Nat} {w : World} (hb : B ≤ B') : ∀ (t : Tl) {v : Value}, Lies L B w t v → Lies L B' w t v
  | .pl p, v, ⟨g, h1, h2, h3⟩ => ⟨g, by omega, h2, h3⟩
  | .atom p, v, ⟨g, h1, h2, h3⟩ => ⟨g, by omega, h2, h3⟩
  | .hash x, v, ⟨g, u, h1, h2, h3, h4⟩ => ⟨g, u, by omega, h2, h3, Lies.base hb x h4⟩
  | .two k x y, v, ⟨gx, gy, gk, ux, uy, h1, h2, h3, h4, h5, h6, h7, h8, h9⟩ => ⟨gx, gy, gk, ux, uy, by omega, by omega, by omega, h4, h5, h6, h7, Lies.base hb x h8, Lies.base hb y h9⟩
/-- What it answers when it is called. -/
def TlPost (B gb gm f : Nat) (r : List Nd × Int) (w : World) (e : Ending) (w' : World) : Prop := e = .returned (.int .i64 r.2) ∧ ∃ u', BldAt B gb gm r.1.length f r.1 u' w' ∧ Below B w w'
set_option maxHeartbeats 1600000 in
theorem tl_pl (B gb gm f g : Nat) (p : Int) (ns : List Nd) (u : Value) (w : World) (hg : w.heap[g]? = some (.cells #[.int .i64 p] 3 (0, 0))) (hb : BldAt B gb gm ns.length f ns u w) :
    Calls Try.prog 63 #[.pointer (some ⟨gb, 0, none⟩), .pointer (some ⟨g, 0, none⟩)] w (TlPost B gb gm f (ns, p) w) := by
  have c0 : w.cell? ⟨g, 0, none⟩ = some (.int .i64 p) := (cell_of_row _ _ 0 _ _ _ hg).trans rfl
  go_enter Try.func63, Try.ntmps63
  go_wp2
  go_ret
  exact ⟨rfl, u, hb, Below.refl _ _⟩
set_option maxHeartbeats 1600000 in
theorem tl_atom (B gb gm f g : Nat) (n : Int) (ns : List Nd) (u : Value) (w : World) (hn : (Lit.int .i64 n).wf = true) (hl : ns.length ≤ 1048576) (hg : w.heap[g]? = some (.cells #[.int .i64 n] 3 (0, 0))) (hb : BldAt B gb gm ns.length f ns u w) :
    Calls Try.prog 64 #[.pointer (some ⟨gb, 0, none⟩), .pointer (some ⟨g, 0, none⟩)] w (TlPost B gb gm f ((Tl.atom n).f ns) w) := by
  have c0 : w.cell? ⟨g, 0, none⟩ = some (.int .i64 n) := (cell_of_row _ _ 0 _ _ _ hg).trans rfl
  have H1 : Hid _ := bput_any B gb gm f ns ⟨1, n, 0, 0⟩ u w hl (by unfold Nd.Fits; simp; have := wf_bd hn; omega) hb
  go_enter Try.func64, Try.ntmps64
  go_wp2_with fail
  refine Calls.mono H1.out ?_
  rintro e w2 ⟨rfl, v2, hbl2, -, hb2⟩
  go_wp2
  go_ret
  exact ⟨rfl, v2, hbl2, hb2⟩
theorem mkNd_fits {k x y : Int} (hk : 1 ≤ k ∧ k ≤ 9) (hx : -9223372036854775808 ≤ x ∧ x ≤ 9223372036854775807) (hy : -9223372036854775808 ≤ y ∧ y ≤ 9223372036854775807) : (mkNd k x y).Fits := by
  unfold Nd.Fits mkNd
  refine ⟨?_, ?_, ?_, ?_⟩ <;> simp only
  · omega
  · omega
  · exact hx
  · split <;> omega
set_option maxHeartbeats 1600000 in
theorem tl_hash (B gb gm f g : Nat) (x : Tl) (F : FuncId) (cs : Array Value) (ns : List Nd) (w : World) (hw : x.Wf) (hl : ns.length ≤ 1048576) (hg : w.heap[g]? = some (.cells #[.func (.func F) #[] cs] 56 (0, 0)))
    (eg : ∀ args w, (callFunc F args).run Try.prog w = .ok (.enter F args) w) (hx : Calls Try.prog F (#[.pointer (some ⟨gb, 0, none⟩)] ++ cs) w (TlPost B gb gm f (x.f ns) w)) :
    Calls Try.prog 71 #[.pointer (some ⟨gb, 0, none⟩), .pointer (some ⟨g, 0, none⟩)] w (TlPost B gb gm f ((Tl.hash x).f ns) w) := by
  have c0 : w.cell? ⟨g, 0, none⟩ = some (.func (.func F) #[] cs) := (cell_of_row _ _ 0 _ _ _ hg).trans rfl
  have HX : Hid (Calls Try.prog F (#[.pointer (some ⟨gb, 0, none⟩)] ++ cs) w (TlPost B gb gm f (x.f ns) w)) := hx
  have HP : Hid (∀ (v2 : Value) (w2 : World), BldAt B gb gm (x.f ns).1.length f (x.f ns).1 v2 w2 → Calls Try.prog 65 #[.pointer (some ⟨gb, 0, none⟩), .agg #[.int .i64 (mkNd 3 (x.f ns).2 0).k, .int .i64 (mkNd 3 (x.f ns).2 0).n, .int .i64 (mkNd 3 (x.f ns).2 0).a, .int .i64 (mkNd 3 (x.f ns).2 0).b]] w2 (TlPost B gb gm f ((Tl.hash x).f ns) w2)) := fun v2 w2 hb => by
    refine (bput_any B gb gm f (x.f ns).1 (mkNd 3 (x.f ns).2 0) v2 w2 (x.le hl) (mkNd_fits (by omega) (x.bd hw hl) (by omega)) hb).mono ?_
    rintro e w3 ⟨rfl, v3, hbl3, -, hb3⟩
    exact ⟨rfl, v3, hbl3, hb3⟩
  clear hx hg
  go_enter Try.func71, Try.ntmps71
  go_wp2_with fail
  refine Calls.mono HX.out ?_
  rintro e w2 ⟨rfl, v2, hbl2, hb2⟩
  have HB2 : Hid (BldAt B gb gm (x.f ns).1.length f (x.f ns).1 v2 w2) := hbl2
  clear hbl2 eg c0
  go_wp2_with fail
  refine (nodeOf_any 3 (x.f ns).2 0 w2).mono ?_
  rintro e w3 ⟨rfl, hb3⟩
  have HC : Hid _ := HP.out v2 w3 (HB2.out.later hb3)
  go_wp2_with fail
  refine Calls.mono HC.out ?_
  rintro e w4 ⟨rfl, v4, hbl4, hb4⟩
  have hsz := HB2.out.size
  go_wp2
  go_ret
  exact ⟨rfl, v4, hbl4, (hb2.trans (hb3.mono hsz)).trans hb4⟩
set_option maxHeartbeats 1600000 in
theorem tl_two (B gb gm f gx gy gk : Nat) (k : Int) (x y : Tl) (F G : FuncId) (cs ds : Array Value) (ns : List Nd) (w : World) (hk : 1 ≤ k ∧ k ≤ 9) (hw : x.Wf) (hwy : y.Wf) (hl : ns.length ≤ 1048576) (hgx : gx < B) (hgy : gy < B) (hgk : gk < B)
    (hx : w.heap[gx]? = some (.cells #[.func (.func F) #[] cs] 56 (0, 0))) (hy : w.heap[gy]? = some (.cells #[.func (.func G) #[] ds] 56 (0, 0))) (hgk' : w.heap[gk]? = some (.cells #[.int .i64 k] 63 (0, 0)))
    (eg : ∀ args w, (callFunc F args).run Try.prog w = .ok (.enter F args) w) (eh : ∀ args w, (callFunc G args).run Try.prog w = .ok (.enter G args) w)
    (cx : Calls Try.prog F (#[.pointer (some ⟨gb, 0, none⟩)] ++ cs) w (TlPost B gb gm f (x.f ns) w))
    (cy : ∀ (v2 : Value) (w2 : World), Below B w w2 → BldAt B gb gm (x.f ns).1.length f (x.f ns).1 v2 w2 → Calls Try.prog G (#[.pointer (some ⟨gb, 0, none⟩)] ++ ds) w2 (TlPost B gb gm f (y.f (x.f ns).1) w2)) :
    Calls Try.prog 73 #[.pointer (some ⟨gb, 0, none⟩), .pointer (some ⟨gx, 0, none⟩), .pointer (some ⟨gy, 0, none⟩), .pointer (some ⟨gk, 0, none⟩)] w (TlPost B gb gm f ((Tl.two k x y).f ns) w) := by
  have c0 : w.cell? ⟨gx, 0, none⟩ = some (.func (.func F) #[] cs) := (cell_of_row _ _ 0 _ _ _ hx).trans rfl
  have HX : Hid (Calls Try.prog F (#[.pointer (some ⟨gb, 0, none⟩)] ++ cs) w (TlPost B gb gm f (x.f ns) w)) := cx
  have HY : Hid (∀ (v2 : Value) (w2 : World), Below B w w2 → BldAt B gb gm (x.f ns).1.length f (x.f ns).1 v2 w2 → Calls Try.prog G (#[.pointer (some ⟨gb, 0, none⟩)] ++ ds) w2 (TlPost B gb gm f (y.f (x.f ns).1) w2)) := cy
  have HK : Hid (w.heap[gk]? = some (.cells #[.int .i64 k] 63 (0, 0))) := hgk'
  have HGY : Hid (w.heap[gy]? = some (.cells #[.func (.func G) #[] ds] 56 (0, 0))) := hy
  have HP : Hid (∀ (v2 : Value) (w2 : World), BldAt B gb gm (y.f (x.f ns).1).1.length f (y.f (x.f ns).1).1 v2 w2 → Calls Try.prog 65 #[.pointer (some ⟨gb, 0, none⟩), .agg #[.int .i64 (mkNd k (x.f ns).2 (y.f (x.f ns).1).2).k, .int .i64 (mkNd k (x.f ns).2 (y.f (x.f ns).1).2).n, .int .i64 (mkNd k (x.f ns).2 (y.f (x.f ns).1).2).a, .int .i64 (mkNd k (x.f ns).2 (y.f (x.f ns).1).2).b]] w2 (TlPost B gb gm f ((Tl.two k x y).f ns) w2)) := fun v2 w2 hb => by
    refine (bput_any B gb gm f _ (mkNd k (x.f ns).2 (y.f (x.f ns).1).2) v2 w2 (y.le (x.le hl)) (mkNd_fits hk (x.bd hw hl) (y.bd hwy (x.le hl))) hb).mono ?_
    rintro e w3 ⟨rfl, v3, hbl3, -, hb3⟩
    exact ⟨rfl, v3, hbl3, hb3⟩
  have HWH : Hid (1 ≤ k ∧ k ≤ 9) := hk
  clear cx cy hx hy hgk' hk
  go_enter Try.func73, Try.ntmps73
  go_wp2_with fail
  refine Calls.mono HX.out ?_
  rintro e w2 ⟨rfl, v2, hbl2, hb2⟩
  have hsz := hbl2.size
  have c1 : w2.cell? ⟨gy, 0, none⟩ = some (.func (.func G) #[] ds) := (cell_of_row _ _ 0 _ _ _ ((hb2.block _ hgy).trans HGY.out)).trans rfl
  have HC : Hid (Calls Try.prog G (#[.pointer (some ⟨gb, 0, none⟩)] ++ ds) w2 (TlPost B gb gm f (y.f (x.f ns).1) w2)) := HY.out v2 w2 hb2 hbl2
  have HB2 : Hid (Below B w w2) := hb2
  generalize (x.f ns).2 = kx at HP ⊢
  clear hbl2 hb2 c0 HX HY eg
  go_wp2_with fail
  refine Calls.mono HC.out ?_
  rintro e w3 ⟨rfl, v3, hbl3, hb3⟩
  have c2 : w3.cell? ⟨gk, 0, none⟩ = some (.int .i64 k) := (cell_of_row _ _ 0 _ _ _ ((hb3.block _ hgk).trans ((HB2.out.block _ hgk).trans HK.out))).trans rfl
  have HB3 : Hid (BldAt B gb gm (y.f (x.f ns).1).1.length f (y.f (x.f ns).1).1 v3 w3) := hbl3
  generalize (y.f (x.f ns).1).2 = ky at HP ⊢
  have hsz3 := hbl3.size
  clear hbl3 HC c1 eh
  go_wp2_with fail
  refine (nodeOf_any k kx ky w3).mono ?_
  rintro e w4 ⟨rfl, hb4⟩
  have HC : Hid _ := HP.out v3 w4 (HB3.out.later hb4)
  clear c2
  go_wp2_with fail
  refine Calls.mono HC.out ?_
  rintro e w5 ⟨rfl, v5, hbl5, hb5⟩
  go_wp2
  go_ret
  exact ⟨rfl, v5, hbl5, ((HB2.out.trans hb3).trans (hb4.mono hsz3)).trans hb5⟩
/-- A term that is told, called: it puts all that it is made of, then itself. -/
theorem told_any (L B gb gm f : Nat) : ∀ (t : Tl) (v : Value) (ns : List Nd) (u : Value) (w : World), t.Wf → ns.length ≤ 1048576 → Lies L B w t v → BldAt B gb gm ns.length f ns u w →
    ∃ (F : FuncId) (cs : Array Value), v = .func (.func F) #[] cs ∧ (∀ args w, (callFunc F args).run Try.prog w = .ok (.enter F args) w) ∧ Calls Try.prog F (#[.pointer (some ⟨gb, 0, none⟩)] ++ cs) w (TlPost B gb gm f (t.f ns) w)
  | .pl p, v, ns, u, w, hw, hl, ⟨g, h1, h2, h3⟩, hb => ⟨_, _, h2, Try.call63, tl_pl B gb gm f g p ns u w h3 hb⟩
  | .atom n, v, ns, u, w, hw, hl, ⟨g, h1, h2, h3⟩, hb => ⟨_, _, h2, Try.call64, tl_atom B gb gm f g n ns u w hw hl h3 hb⟩
  | .hash x, v, ns, u, w, hw, hl, ⟨g, ux, h1, h2, h3, h4⟩, hb => by
    obtain ⟨F, cs, rfl, eg, hx⟩ := told_any L B gb gm f x ux ns u w hw hl h4 hb
    exact ⟨_, _, h2, Try.call71, tl_hash B gb gm f g x F cs ns w hw hl h3 eg hx⟩
  | .two k x y, v, ns, u, w, ⟨hk1, hk2, hwx, hwy⟩, hl, ⟨gx, gy, gk, ux, uy, h1, h2, h3, h4, h5, h6, h7, h8, h9⟩, hb => by
    obtain ⟨F, cs, rfl, eg, hx⟩ := told_any L B gb gm f x ux ns u w hwx hl h8 hb
    have hy : ∃ (G : FuncId) (ds : Array Value), uy = .func (.func G) #[] ds ∧ (∀ args w, (callFunc G args).run Try.prog w = .ok (.enter G args) w) := by
      cases y
      · obtain ⟨g, _, e, _⟩ := h9; exact ⟨_, _, e, Try.call63⟩
      · obtain ⟨g, _, e, _⟩ := h9; exact ⟨_, _, e, Try.call64⟩
      · obtain ⟨g, _, _, e, _⟩ := h9; exact ⟨_, _, e, Try.call71⟩
      · obtain ⟨_, _, _, _, _, _, _, _, e, _⟩ := h9; exact ⟨_, _, e, Try.call73⟩
    obtain ⟨G, ds, rfl, eh⟩ := hy
    refine ⟨_, _, h4, Try.call73, tl_two B gb gm f gx gy gk k x y F G cs ds ns w ⟨hk1, hk2⟩ hwx hwy hl h1.2 h2.2 h3.2 h5 h6 h7 eg eh hx ?_⟩
    intro v2 w2 hb2 hbl2
    obtain ⟨G', ds', e, _, hc⟩ := told_any L B gb gm f y _ (x.f ns).1 v2 w2 hwy (x.le hl) (Lies.later hb2 y h9) hbl2
    simp at e
    obtain ⟨rfl, rfl⟩ := e
    exact hc
end Go.Proofs.Ytndlkdnkfocmiaa
