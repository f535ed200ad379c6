/- The program's terms that are told (chapter 6): closures over what they are made of. -/
import Derived.Test.YtcmmbehnihelcabRdAt
import Derived.Test.YtcmmbehnihelcabMakeI
import Derived.Test.YtcmmbehnihelcabListF
import Derived.WalkKit
import Derived.Deep.OwnRows
import Derived.Laws.OwnMore
import Derived.Test.YtcmmbehnihelcabSec6
namespace Go.Proofs.Ytcmmbehnihelcab
open Go.RowKit Go.Maps
set_option linter.unusedVariables false
/-- A term that is told: the arena with all that it is made of, and its place; and when it can be told at all. -/
structure Tl where
  f : List Nd → List Nd × Int
  Wf : Prop
def Tl.pl (p : Int) : Tl := ⟨fun ns => (ns, p), (Lit.int .i64 p).wf = true⟩
def Tl.atom (n : Int) : Tl := ⟨fun ns => (putA ns ⟨1, n, 0, 0⟩, putK ns ⟨1, n, 0, 0⟩), (Lit.int .i64 n).wf = true⟩
def Tl.hash (x : Tl) : Tl := ⟨fun ns => (putA (x.f ns).1 (mkNd 3 (x.f ns).2 0), putK (x.f ns).1 (mkNd 3 (x.f ns).2 0)), x.Wf⟩
def Tl.two (k : Int) (x y : Tl) : Tl := ⟨fun ns => (putA (y.f (x.f ns).1).1 (mkNd k (x.f ns).2 (y.f (x.f ns).1).2), putK (y.f (x.f ns).1).1 (mkNd k (x.f ns).2 (y.f (x.f ns).1).2)), 1 ≤ k ∧ k ≤ 9 ∧ x.Wf ∧ y.Wf⟩
/-- The terms of a list, one behind the other: the arena with all of them, and their places. -/
def Tl.fs : List Tl → List Nd → List Nd × List Int
  | [], ns => (ns, [])
  | x :: xs, ns => ((Tl.fs xs (x.f ns).1).1, (x.f ns).2 :: (Tl.fs xs (x.f ns).1).2)
def Tl.Wfs : List Tl → Prop
  | [] => True
  | x :: xs => x.Wf ∧ Tl.Wfs xs
def Tl.list (xs : List Tl) : Tl := ⟨fun ns => listF (Tl.fs xs ns).2 (Tl.fs xs ns).1, xs.length ≤ 1048576 ∧ Tl.Wfs xs⟩
theorem Tl.f_list (xs : List Tl) (ns : List Nd) : (Tl.list xs).f ns = listF (Tl.fs xs ns).2 (Tl.fs xs ns).1 := rfl
theorem Tl.fs_cons (x : Tl) (xs : List Tl) (ns : List Nd) : Tl.fs (x :: xs) ns = ((Tl.fs xs (x.f ns).1).1, (x.f ns).2 :: (Tl.fs xs (x.f ns).1).2) := rfl
theorem Tl.fs_nil (ns : List Nd) : Tl.fs [] ns = (ns, []) := rfl
/-- What every such term keeps to. -/
structure TlOk (t : Tl) : Prop where
  le : ∀ {ns : List Nd}, ns.length ≤ 1048576 → (t.f ns).1.length ≤ 1048576
  pre : ∀ ns : List Nd, ns <+: (t.f ns).1
  bd : ∀ {ns : List Nd}, ns.length ≤ 1048576 → -9223372036854775808 ≤ (t.f ns).2 ∧ (t.f ns).2 ≤ 9223372036854775807
theorem putA_preT (ns : List Nd) (x : Nd) : ns <+: putA ns x := by
  unfold putA; split
  · exact List.prefix_append _ _
  · exact List.prefix_refl _
theorem putK_bdT {ns : List Nd} (x : Nd) (h : ns.length ≤ 1048576) : -9223372036854775808 ≤ putK ns x ∧ putK ns x ≤ 9223372036854775807 := by
  have := putK_bd ns x; omega
theorem wf_bd {p : Int} (h : (Lit.int .i64 p).wf = true) : -9223372036854775808 ≤ p ∧ p ≤ 9223372036854775807 := by
  simp [Lit.wf, IntKind.min, IntKind.max, IntKind.signed, IntKind.bits] at h
  omega
theorem TlOk.pl {p : Int} (h : (Lit.int .i64 p).wf = true) : TlOk (.pl p) := ⟨fun h => h, fun ns => List.prefix_refl _, fun _ => wf_bd h⟩
theorem TlOk.atom (n : Int) : TlOk (.atom n) := ⟨fun h => putA_le h, fun ns => putA_preT _ _, fun h => putK_bdT _ h⟩
theorem TlOk.hash {x : Tl} (hx : TlOk x) : TlOk (.hash x) := ⟨fun h => putA_le (hx.le h), fun ns => (hx.pre ns).trans (putA_preT _ _), fun h => putK_bdT _ (hx.le h)⟩
theorem TlOk.two {k : Int} {x y : Tl} (hx : TlOk x) (hy : TlOk y) : TlOk (.two k x y) := ⟨fun h => putA_le (hy.le (hx.le h)), fun ns => ((hx.pre ns).trans (hy.pre _)).trans (putA_preT _ _), fun h => putK_bdT _ (hy.le (hx.le h))⟩
theorem Tl.fsle : ∀ (xs : List Tl) {ns : List Nd}, (∀ x ∈ xs, TlOk x) → ns.length ≤ 1048576 → (Tl.fs xs ns).1.length ≤ 1048576
  | [], ns, hx, h => h
  | x :: xs, ns, hx, h => Tl.fsle xs (fun y hy => hx y (List.mem_cons_of_mem _ hy)) ((hx x (List.mem_cons_self ..)).le h)
theorem Tl.fslen : ∀ (xs : List Tl) (ns : List Nd), (Tl.fs xs ns).2.length = xs.length
  | [], ns => rfl
  | x :: xs, ns => by rw [Tl.fs_cons]; simp [Tl.fslen xs (x.f ns).1]
theorem Tl.fspre : ∀ (xs : List Tl) (ns : List Nd), (∀ x ∈ xs, TlOk x) → ns <+: (Tl.fs xs ns).1
  | [], ns, hx => List.prefix_refl _
  | x :: xs, ns, hx => ((hx x (List.mem_cons_self ..)).pre ns).trans (Tl.fspre xs _ (fun y hy => hx y (List.mem_cons_of_mem _ hy)))
theorem Tl.fsbd : ∀ (xs : List Tl) {ns : List Nd}, (∀ x ∈ xs, TlOk x) → ns.length ≤ 1048576 → ∀ z ∈ (Tl.fs xs ns).2, -9223372036854775808 ≤ z ∧ z ≤ 9223372036854775807
  | [], ns, hx, h, z, hz => by rw [Tl.fs_nil] at hz; cases hz
  | x :: xs, ns, hx, h, z, hz => by
    rw [Tl.fs_cons] at hz
    rcases List.mem_cons.1 hz with rfl | hz
    · exact (hx x (List.mem_cons_self ..)).bd h
    · exact Tl.fsbd xs (fun y hy => hx y (List.mem_cons_of_mem _ hy)) ((hx x (List.mem_cons_self ..)).le h) z hz
theorem TlOk.list {xs : List Tl} (hx : ∀ x ∈ xs, TlOk x) : TlOk (.list xs) := by
  refine ⟨fun h => listF_le _ (Tl.fsle xs hx h), fun ns => (Tl.fspre xs ns hx).trans (listF_pre _ _), fun {ns} h => ?_⟩
  have := listF_bd (Tl.fs xs ns).2 (Tl.fs xs ns).1 (Tl.fsle xs hx h)
  rw [Tl.f_list]
  omega
theorem Tl.fs_take : ∀ (xs : List Tl) (ns : List Nd) (m : Nat), m < xs.length → Tl.fs (xs.take (m + 1)) ns = (((xs.getD m (.pl 0)).f (Tl.fs (xs.take m) ns).1).1, (Tl.fs (xs.take m) ns).2 ++ [((xs.getD m (.pl 0)).f (Tl.fs (xs.take m) ns).1).2])
  | [], ns, m, h => absurd h (by simp)
  | x :: xs, ns, 0, h => by simp [Tl.fs_cons, Tl.fs_nil]
  | x :: xs, ns, m + 1, h => by
    have := Tl.fs_take xs (x.f ns).1 m (by simpa using h)
    simp [Tl.fs_cons] at this ⊢
    rw [this]
    simp
/-- What it answers when it is called. -/
def TlPost (B gb gm f : Nat) (r : List Nd × Int) (u : Value) (w : World) (e : Ending) (w' : World) : Prop := e = .returned (.int .i64 r.2) ∧ ∃ u', BldAt B gb gm r.1.length f r.1 u' w' ∧ Keep gb gm u u' w w' ∧ Below B w w'
set_option maxHeartbeats 1600000 in
theorem tl_pl (B gb gm f g : Nat) (p : Int) (ns : List Nd) (u : Value) (w : World) (hg : w.heap[g]? = some (.cells #[.int .i64 p] 3 (0, 0))) (hb : BldAt B gb gm ns.length f ns u w) :
    Calls Try.prog 42 #[.pointer (some ⟨gb, 0, none⟩), .pointer (some ⟨g, 0, none⟩)] w (TlPost B gb gm f (ns, p) u w) := by
  have c0 : w.cell? ⟨g, 0, none⟩ = some (.int .i64 p) := (cell_of_row _ _ 0 _ _ _ hg).trans rfl
  go_enter Try.func42, Try.ntmps42
  go_wp2
  go_ret
  exact ⟨rfl, u, hb, Keep.below (Below.refl _ _), Below.refl _ _⟩
set_option maxHeartbeats 1600000 in
theorem tl_atom (B gb gm f g : Nat) (n : Int) (ns : List Nd) (u : Value) (w : World) (hn : (Lit.int .i64 n).wf = true) (hl : ns.length ≤ 1048576) (hg : w.heap[g]? = some (.cells #[.int .i64 n] 3 (0, 0))) (hb : BldAt B gb gm ns.length f ns u w) :
    Calls Try.prog 43 #[.pointer (some ⟨gb, 0, none⟩), .pointer (some ⟨g, 0, none⟩)] w (TlPost B gb gm f ((Tl.atom n).f ns) u w) := by
  have c0 : w.cell? ⟨g, 0, none⟩ = some (.int .i64 n) := (cell_of_row _ _ 0 _ _ _ hg).trans rfl
  have H1 : Hid _ := bput_any B gb gm f ns ⟨1, n, 0, 0⟩ u w hl (by unfold Nd.Fits; simp; have := wf_bd hn; omega) hb
  go_enter Try.func43, Try.ntmps43
  go_wp2_with fail
  refine Calls.mono H1.out ?_
  rintro e w2 ⟨rfl, v2, hbl2, hk2, hb2⟩
  have HE : Hid (TlPost B gb gm f ((Tl.atom n).f ns) u w (.returned (.int .i64 (putK ns ⟨1, n, 0, 0⟩))) w2) := ⟨rfl, v2, hbl2, hk2, hb2⟩
  clear hbl2 hk2 hb2
  go_wp2
  go_ret
  exact HE.out
theorem mkNd_fits {k x y : Int} (hk : 1 ≤ k ∧ k ≤ 9) (hx : -9223372036854775808 ≤ x ∧ x ≤ 9223372036854775807) (hy : -9223372036854775808 ≤ y ∧ y ≤ 9223372036854775807) : (mkNd k x y).Fits := by
  unfold Nd.Fits mkNd
  refine ⟨?_, ?_, ?_, ?_⟩ <;> simp only
  · omega
  · omega
  · exact hx
  · split <;> omega
set_option maxHeartbeats 1600000 in
theorem tl_hash (B gb gm f g : Nat) (x : Tl) (F : FuncId) (cs : Array Value) (ns : List Nd) (u : Value) (w : World) (hw : TlOk x) (hl : ns.length ≤ 1048576) (hg : w.heap[g]? = some (.cells #[.func (.func F) #[] cs] 44 (0, 0)))
    (eg : ∀ args w, (callFunc F args).run Try.prog w = .ok (.enter F args) w) (hx : Calls Try.prog F (#[.pointer (some ⟨gb, 0, none⟩)] ++ cs) w (TlPost B gb gm f (x.f ns) u w)) :
    Calls Try.prog 50 #[.pointer (some ⟨gb, 0, none⟩), .pointer (some ⟨g, 0, none⟩)] w (TlPost B gb gm f ((Tl.hash x).f ns) u w) := by
  have c0 : w.cell? ⟨g, 0, none⟩ = some (.func (.func F) #[] cs) := (cell_of_row _ _ 0 _ _ _ hg).trans rfl
  have HX : Hid (Calls Try.prog F (#[.pointer (some ⟨gb, 0, none⟩)] ++ cs) w (TlPost B gb gm f (x.f ns) u w)) := hx
  have HP : Hid (∀ (v2 : Value) (w2 : World), BldAt B gb gm (x.f ns).1.length f (x.f ns).1 v2 w2 → Calls Try.prog 44 #[.pointer (some ⟨gb, 0, none⟩), .agg #[.int .i64 (mkNd 3 (x.f ns).2 0).k, .int .i64 (mkNd 3 (x.f ns).2 0).n, .int .i64 (mkNd 3 (x.f ns).2 0).a, .int .i64 (mkNd 3 (x.f ns).2 0).b]] w2 (TlPost B gb gm f ((Tl.hash x).f ns) v2 w2)) := fun v2 w2 hb => by
    refine (bput_any B gb gm f (x.f ns).1 (mkNd 3 (x.f ns).2 0) v2 w2 (hw.le hl) (mkNd_fits (by omega) (hw.bd hl) (by omega)) hb).mono ?_
    rintro e w3 ⟨rfl, v3, hbl3, hk3, hb3⟩
    exact ⟨rfl, v3, hbl3, hk3, hb3⟩
  clear hx hg
  go_enter Try.func50, Try.ntmps50
  go_wp2_with fail
  refine Calls.mono HX.out ?_
  rintro e w2 ⟨rfl, v2, hbl2, hk2, hb2⟩
  have HK2 : Hid (Keep gb gm u v2 w w2) := hk2
  have HB2 : Hid (BldAt B gb gm (x.f ns).1.length f (x.f ns).1 v2 w2) := hbl2
  clear hbl2 hk2 eg c0
  go_wp2_with fail
  refine (nodeOf_any 3 (x.f ns).2 0 w2).mono ?_
  rintro e w3 ⟨rfl, hb3⟩
  have HC : Hid _ := HP.out v2 w3 (HB2.out.later hb3)
  go_wp2_with fail
  refine Calls.mono HC.out ?_
  rintro e w4 ⟨rfl, v4, hbl4, hk4, hb4⟩
  have HK4 : Hid (Keep gb gm u v4 w w4) := (HK2.out.trans (Keep.below hb3)).trans hk4
  clear hk4
  have hsz := HB2.out.size
  go_wp2
  go_ret
  exact ⟨rfl, v4, hbl4, HK4.out, (hb2.trans (hb3.mono hsz)).trans hb4⟩
set_option maxHeartbeats 1600000 in
theorem tl_two (B gb gm f gx gy gk : Nat) (k : Int) (x y : Tl) (F G : FuncId) (cs ds : Array Value) (ns : List Nd) (u : Value) (w : World) (hk : 1 ≤ k ∧ k ≤ 9) (hw : TlOk x) (hwy : TlOk y) (hl : ns.length ≤ 1048576) (hgx : gx < B) (hgy : gy < B) (hgk : gk < B)
    (hx : w.heap[gx]? = some (.cells #[.func (.func F) #[] cs] 44 (0, 0))) (hy : w.heap[gy]? = some (.cells #[.func (.func G) #[] ds] 44 (0, 0))) (hgk' : w.heap[gk]? = some (.cells #[.int .i64 k] 52 (0, 0)))
    (eg : ∀ args w, (callFunc F args).run Try.prog w = .ok (.enter F args) w) (eh : ∀ args w, (callFunc G args).run Try.prog w = .ok (.enter G args) w)
    (cx : Calls Try.prog F (#[.pointer (some ⟨gb, 0, none⟩)] ++ cs) w (TlPost B gb gm f (x.f ns) u w))
    (cy : ∀ (v2 : Value) (w2 : World), Below B w w2 → BldAt B gb gm (x.f ns).1.length f (x.f ns).1 v2 w2 → Calls Try.prog G (#[.pointer (some ⟨gb, 0, none⟩)] ++ ds) w2 (TlPost B gb gm f (y.f (x.f ns).1) v2 w2)) :
    Calls Try.prog 48 #[.pointer (some ⟨gb, 0, none⟩), .pointer (some ⟨gx, 0, none⟩), .pointer (some ⟨gy, 0, none⟩), .pointer (some ⟨gk, 0, none⟩)] w (TlPost B gb gm f ((Tl.two k x y).f ns) u w) := by
  have c0 : w.cell? ⟨gx, 0, none⟩ = some (.func (.func F) #[] cs) := (cell_of_row _ _ 0 _ _ _ hx).trans rfl
  have HX : Hid (Calls Try.prog F (#[.pointer (some ⟨gb, 0, none⟩)] ++ cs) w (TlPost B gb gm f (x.f ns) u w)) := cx
  have HY : Hid (∀ (v2 : Value) (w2 : World), Below B w w2 → BldAt B gb gm (x.f ns).1.length f (x.f ns).1 v2 w2 → Calls Try.prog G (#[.pointer (some ⟨gb, 0, none⟩)] ++ ds) w2 (TlPost B gb gm f (y.f (x.f ns).1) v2 w2)) := cy
  have HK : Hid (w.heap[gk]? = some (.cells #[.int .i64 k] 52 (0, 0))) := hgk'
  have HGY : Hid (w.heap[gy]? = some (.cells #[.func (.func G) #[] ds] 44 (0, 0))) := hy
  have HP : Hid (∀ (v2 : Value) (w2 : World), BldAt B gb gm (y.f (x.f ns).1).1.length f (y.f (x.f ns).1).1 v2 w2 → Calls Try.prog 44 #[.pointer (some ⟨gb, 0, none⟩), .agg #[.int .i64 (mkNd k (x.f ns).2 (y.f (x.f ns).1).2).k, .int .i64 (mkNd k (x.f ns).2 (y.f (x.f ns).1).2).n, .int .i64 (mkNd k (x.f ns).2 (y.f (x.f ns).1).2).a, .int .i64 (mkNd k (x.f ns).2 (y.f (x.f ns).1).2).b]] w2 (TlPost B gb gm f ((Tl.two k x y).f ns) v2 w2)) := fun v2 w2 hb => by
    refine (bput_any B gb gm f _ (mkNd k (x.f ns).2 (y.f (x.f ns).1).2) v2 w2 (hwy.le (hw.le hl)) (mkNd_fits hk (hw.bd hl) (hwy.bd (hw.le hl))) hb).mono ?_
    rintro e w3 ⟨rfl, v3, hbl3, hk3, hb3⟩
    exact ⟨rfl, v3, hbl3, hk3, hb3⟩
  have HWH : Hid (1 ≤ k ∧ k ≤ 9) := hk
  clear cx cy hx hy hgk' hk
  go_enter Try.func48, Try.ntmps48
  go_wp2_with fail
  refine Calls.mono HX.out ?_
  rintro e w2 ⟨rfl, v2, hbl2, hk2, hb2⟩
  have HK2 : Hid (Keep gb gm u v2 w w2) := hk2
  have hsz := hbl2.size
  have c1 : w2.cell? ⟨gy, 0, none⟩ = some (.func (.func G) #[] ds) := (cell_of_row _ _ 0 _ _ _ ((hb2.block _ hgy).trans HGY.out)).trans rfl
  have HC : Hid (Calls Try.prog G (#[.pointer (some ⟨gb, 0, none⟩)] ++ ds) w2 (TlPost B gb gm f (y.f (x.f ns).1) v2 w2)) := HY.out v2 w2 hb2 hbl2
  have HB2 : Hid (Below B w w2) := hb2
  generalize (x.f ns).2 = kx at HP ⊢
  clear hbl2 hb2 hk2 c0 HX HY eg
  go_wp2_with fail
  refine Calls.mono HC.out ?_
  rintro e w3 ⟨rfl, v3, hbl3, hk3, hb3⟩
  have HK3 : Hid (Keep gb gm u v3 w w3) := HK2.out.trans hk3
  have c2 : w3.cell? ⟨gk, 0, none⟩ = some (.int .i64 k) := (cell_of_row _ _ 0 _ _ _ ((hb3.block _ hgk).trans ((HB2.out.block _ hgk).trans HK.out))).trans rfl
  have HB3 : Hid (BldAt B gb gm (y.f (x.f ns).1).1.length f (y.f (x.f ns).1).1 v3 w3) := hbl3
  generalize (y.f (x.f ns).1).2 = ky at HP ⊢
  have hsz3 := hbl3.size
  clear hbl3 hk3 HC c1 eh
  go_wp2_with fail
  refine (nodeOf_any k kx ky w3).mono ?_
  rintro e w4 ⟨rfl, hb4⟩
  have HC : Hid _ := HP.out v3 w4 (HB3.out.later hb4)
  clear c2
  go_wp2_with fail
  refine Calls.mono HC.out ?_
  rintro e w5 ⟨rfl, v5, hbl5, hk5, hb5⟩
  have HK5 : Hid (Keep gb gm u v5 w w5) := (HK3.out.trans (Keep.below hb4)).trans hk5
  clear hk5
  go_wp2
  go_ret
  exact ⟨rfl, v5, hbl5, HK5.out, ((HB2.out.trans hb3).trans (hb4.mono hsz3)).trans hb5⟩
/-- A term that is told lies in memory: a closure that, called with a builder in any world which is as this one is from L on and under B, puts all that it is made of, then itself. -/
def ToldIs (L B : Nat) (w : World) (t : Tl) (v : Value) : Prop :=
  (t.Wf → TlOk t) ∧ ∃ (F : FuncId) (cs : Array Value), v = .func (.func F) #[] cs ∧ (∀ args w, (callFunc F args).run Try.prog w = .ok (.enter F args) w) ∧
    (t.Wf → ∀ (w' : World) (B' gb gm fl : Nat) (ns : List Nd) (u : Value), (∀ k, L ≤ k → k < B → w'.heap[k]? = w.heap[k]?) → B ≤ B' → ns.length ≤ 1048576 → BldAt B' gb gm ns.length fl ns u w' →
      Calls Try.prog F (#[.pointer (some ⟨gb, 0, none⟩)] ++ cs) w' (TlPost B' gb gm fl (t.f ns) u w'))
theorem ToldIs.kept {L B : Nat} {w w' : World} (hb : ∀ k, L ≤ k → k < B → w'.heap[k]? = w.heap[k]?) (t : Tl) {v : Value} (h : ToldIs L B w t v) : ToldIs L B w' t v := by
  obtain ⟨h0, F, cs, h1, h2, h3⟩ := h
  exact ⟨h0, F, cs, h1, h2, fun hw w2 B' gb gm fl ns u ha => h3 hw w2 B' gb gm fl ns u (fun k hk hk2 => (ha k hk hk2).trans (hb k hk hk2))⟩
theorem ToldIs.later {L B : Nat} {w w' : World} (hb : Below B w w') (t : Tl) {v : Value} (h : ToldIs L B w t v) : ToldIs L B w' t v := ToldIs.kept (fun k _ hk => hb.block k hk) t h
theorem ToldIs.base {L B B2 : Nat} {w : World} (hb : B ≤ B2) (t : Tl) {v : Value} (h : ToldIs L B w t v) : ToldIs L B2 w t v := by
  obtain ⟨h0, F, cs, h1, h2, h3⟩ := h
  exact ⟨h0, F, cs, h1, h2, fun hw w2 B' gb gm fl ns u ha hB => h3 hw w2 B' gb gm fl ns u (fun k hk hk2 => ha k hk (by omega)) (by omega)⟩
theorem ToldIs.fn {L B : Nat} {w : World} {y : Tl} {u : Value} (h : ToldIs L B w y u) : ∃ (G : FuncId) (ds : Array Value), u = .func (.func G) #[] ds := by
  obtain ⟨_, F, cs, h1, _⟩ := h
  exact ⟨F, cs, h1⟩
theorem ToldIs.eg {L B : Nat} {w : World} {y : Tl} {G : FuncId} {ds : Array Value} (h : ToldIs L B w y (.func (.func G) #[] ds)) : ∀ args w, (callFunc G args).run Try.prog w = .ok (.enter G args) w := by
  obtain ⟨_, F, cs, h1, h2, _⟩ := h
  simp at h1
  rw [h1.1]; exact h2
theorem ToldIs.call {L B : Nat} {w : World} {y : Tl} {G : FuncId} {ds : Array Value} (h : ToldIs L B w y (.func (.func G) #[] ds)) (hw : y.Wf) (w' : World) (B' gb gm fl : Nat) (ns : List Nd) (u : Value) (ha : ∀ k, L ≤ k → k < B → w'.heap[k]? = w.heap[k]?) (hB : B ≤ B') (hl : ns.length ≤ 1048576) (hb : BldAt B' gb gm ns.length fl ns u w') :
    Calls Try.prog G (#[.pointer (some ⟨gb, 0, none⟩)] ++ ds) w' (TlPost B' gb gm fl (y.f ns) u w') := by
  obtain ⟨_, F, cs, h1, _, h3⟩ := h
  simp at h1
  obtain ⟨rfl, rfl⟩ := h1
  exact h3 hw w' B' gb gm fl ns u ha hB hl hb
theorem toldIs_pl {L B g : Nat} {w : World} (p : Int) (h1 : L ≤ g) (h2 : g < B) (h3 : w.heap[g]? = some (.cells #[.int .i64 p] 3 (0, 0))) : ToldIs L B w (.pl p) (.func (.func 42) #[] #[.pointer (some ⟨g, 0, none⟩)]) :=
  ⟨fun hw => .pl hw, _, _, rfl, Try.call42, fun hw w' B' gb gm fl ns u ha hB hl hb => tl_pl B' gb gm fl g p ns u w' ((ha g h1 h2).trans h3) hb⟩
theorem toldIs_atom {L B g : Nat} {w : World} (n : Int) (h1 : L ≤ g) (h2 : g < B) (h3 : w.heap[g]? = some (.cells #[.int .i64 n] 3 (0, 0))) : ToldIs L B w (.atom n) (.func (.func 43) #[] #[.pointer (some ⟨g, 0, none⟩)]) :=
  ⟨fun hw => .atom n, _, _, rfl, Try.call43, fun hw w' B' gb gm fl ns u ha hB hl hb => tl_atom B' gb gm fl g n ns u w' hw hl ((ha g h1 h2).trans h3) hb⟩
theorem toldIs_hash {L B g : Nat} {w : World} (x : Tl) (u : Value) (h1 : L ≤ g) (h2 : g < B) (h3 : w.heap[g]? = some (.cells #[u] 44 (0, 0))) (hx : ToldIs L B w x u) : ToldIs L B w (.hash x) (.func (.func 50) #[] #[.pointer (some ⟨g, 0, none⟩)]) := by
  obtain ⟨F, cs, rfl⟩ := hx.fn
  exact ⟨fun hw => .hash (hx.1 hw), _, _, rfl, Try.call50, fun hw w' B' gb gm fl ns u ha hB hl hb => tl_hash B' gb gm fl g x F cs ns u w' (hx.1 hw) hl ((ha g h1 h2).trans h3) hx.eg (hx.call hw w' B' gb gm fl ns u ha hB hl hb)⟩
theorem toldIs_two {L B gx gy gk : Nat} {w : World} (k : Int) (x y : Tl) (ux uy : Value) (h1 : L ≤ gx ∧ gx < B) (h2 : L ≤ gy ∧ gy < B) (h3 : L ≤ gk ∧ gk < B) (h5 : w.heap[gx]? = some (.cells #[ux] 44 (0, 0))) (h6 : w.heap[gy]? = some (.cells #[uy] 44 (0, 0))) (h7 : w.heap[gk]? = some (.cells #[.int .i64 k] 52 (0, 0)))
    (hx : ToldIs L B w x ux) (hy : ToldIs L B w y uy) : ToldIs L B w (.two k x y) (.func (.func 48) #[] #[.pointer (some ⟨gx, 0, none⟩), .pointer (some ⟨gy, 0, none⟩), .pointer (some ⟨gk, 0, none⟩)]) := by
  obtain ⟨F, cs, rfl⟩ := hx.fn
  obtain ⟨G, ds, rfl⟩ := hy.fn
  refine ⟨fun hw => .two (hx.1 hw.2.2.1) (hy.1 hw.2.2.2), _, _, rfl, Try.call48, fun hw w' B' gb gm fl ns u ha hB hl hb => ?_⟩
  have ox := hx.1 hw.2.2.1
  refine tl_two B' gb gm fl gx gy gk k x y F G cs ds ns u w' ⟨hw.1, hw.2.1⟩ ox (hy.1 hw.2.2.2) hl (by omega) (by omega) (by omega) ((ha _ h1.1 h1.2).trans h5) ((ha _ h2.1 h2.2).trans h6) ((ha _ h3.1 h3.2).trans h7) hx.eg hy.eg (hx.call hw.2.2.1 w' B' gb gm fl ns u ha hB hl hb) ?_
  intro v2 w2 hb2 hbl2
  exact hy.call hw.2.2.2 w2 B' gb gm fl _ v2 (fun k hk hk2 => (hb2.block k (by omega)).trans (ha k hk hk2)) hB (ox.le hl) hbl2
/-- Terms that are told, one a cell of a row. -/
def ToldAll (L B : Nat) (w : World) (xs : List Tl) (vs : List Value) : Prop := vs.length = xs.length ∧ ∀ m, m < xs.length → ToldIs L B w (xs.getD m (.pl 0)) (vs.getD m undef)
theorem Tl.wfs_at : ∀ (xs : List Tl) (m : Nat), Tl.Wfs xs → m < xs.length → (xs.getD m (.pl 0)).Wf
  | [], m, hw, h => absurd h (by simp)
  | x :: xs, 0, hw, h => hw.1
  | x :: xs, m + 1, hw, h => by simpa using Tl.wfs_at xs m hw.2 (by simpa using h)
theorem ToldAll.ok {L B : Nat} {w : World} {xs : List Tl} {vs : List Value} (h : ToldAll L B w xs vs) (hw : Tl.Wfs xs) : ∀ x ∈ xs, TlOk x := fun x hx => by
  obtain ⟨m, hm, rfl⟩ := List.mem_iff_getElem.1 hx
  have := (h.2 m hm).1 (Tl.wfs_at xs m hw hm)
  rwa [List.getD_eq_getElem?_getD, List.getElem?_eq_getElem hm] at this
end Go.Proofs.Ytcmmbehnihelcab
