/- The program's terms that are told (chapter 6): closures over what they are made of. -/
import Derived.Test.YtffnadnndmmliaaRdAt
import Derived.Test.YtffnadnndmmliaaMakeI
import Derived.Test.YtffnadnndmmliaaMakeList
import Derived.Test.YtffnadnndmmliaaPutList
import Derived.WalkKit
import Derived.Deep.OwnRows
import Derived.Laws.OwnMore
import Derived.Test.YtffnadnndmmliaaSec6
namespace Go.Proofs.Ytffnadnndmmliaa
open Go.RowKit Go.Maps
set_option linter.unusedVariables false
/-- A term that is told: the arena with all that it is made of, and its place, where there is room for as many as mx tells; and when it can be told at all. -/
structure Tl where
  g : Nat → List Nd → List Nd × Int
  Wf : Prop
/-- Where there is room for all. -/
def Tl.f (t : Tl) (ns : List Nd) : List Nd × Int := t.g 3000 ns
def Tl.pl (p : Int) : Tl := ⟨fun _ ns => (ns, p), (Lit.int .i64 p).wf = true⟩
def Tl.atom (n : Int) : Tl := ⟨fun mx ns => (putAm mx ns ⟨1, n, 0, 0⟩, putKm mx ns ⟨1, n, 0, 0⟩), (Lit.int .i64 n).wf = true⟩
def Tl.hash (x : Tl) : Tl := ⟨fun mx ns => (putAm mx (x.g mx ns).1 (mkNd 3 (x.g mx ns).2 0), putKm mx (x.g mx ns).1 (mkNd 3 (x.g mx ns).2 0)), x.Wf⟩
/-- A node of one kid; a hash is one of kind 3. -/
def Tl.one (k : Int) (x : Tl) : Tl := ⟨fun mx ns => (putAm mx (x.g mx ns).1 (mkNd k (x.g mx ns).2 0), putKm mx (x.g mx ns).1 (mkNd k (x.g mx ns).2 0)), x.Wf⟩
theorem Tl.hash_one (x : Tl) : Tl.hash x = Tl.one 3 x := rfl
def Tl.two (k : Int) (x y : Tl) : Tl := ⟨fun mx ns => (putAm mx (y.g mx (x.g mx ns).1).1 (mkNd k (x.g mx ns).2 (y.g mx (x.g mx ns).1).2), putKm mx (y.g mx (x.g mx ns).1).1 (mkNd k (x.g mx ns).2 (y.g mx (x.g mx ns).1).2)), 1 ≤ k ∧ k ≤ 9 ∧ x.Wf ∧ y.Wf⟩
/-- The terms of a list, one behind the other: the arena with all of them, and their places. -/
def Tl.gs (mx : Nat) : List Tl → List Nd → List Nd × List Int
  | [], ns => (ns, [])
  | x :: xs, ns => ((Tl.gs mx xs (x.g mx ns).1).1, (x.g mx ns).2 :: (Tl.gs mx xs (x.g mx ns).1).2)
abbrev Tl.fs := Tl.gs 3000
def Tl.Wfs : List Tl → Prop
  | [] => True
  | x :: xs => x.Wf ∧ Tl.Wfs xs
def Tl.list (xs : List Tl) : Tl := ⟨fun mx ns => listFm mx (Tl.gs mx xs ns).2 (Tl.gs mx xs ns).1, xs.length ≤ 1048577 ∧ Tl.Wfs xs⟩
theorem Tl.g_list (mx : Nat) (xs : List Tl) (ns : List Nd) : (Tl.list xs).g mx ns = listFm mx (Tl.gs mx xs ns).2 (Tl.gs mx xs ns).1 := rfl
theorem Tl.f_list (xs : List Tl) (ns : List Nd) : (Tl.list xs).f ns = listF (Tl.fs xs ns).2 (Tl.fs xs ns).1 := listFm_is _ _
theorem Tl.fs_cons (x : Tl) (xs : List Tl) (ns : List Nd) : Tl.fs (x :: xs) ns = ((Tl.fs xs (x.f ns).1).1, (x.f ns).2 :: (Tl.fs xs (x.f ns).1).2) := rfl
theorem Tl.fs_nil (ns : List Nd) : Tl.fs [] ns = (ns, []) := rfl
theorem Tl.gs_cons (mx : Nat) (x : Tl) (xs : List Tl) (ns : List Nd) : Tl.gs mx (x :: xs) ns = ((Tl.gs mx xs (x.g mx ns).1).1, (x.g mx ns).2 :: (Tl.gs mx xs (x.g mx ns).1).2) := rfl
theorem Tl.gs_nil (mx : Nat) (ns : List Nd) : Tl.gs mx [] ns = (ns, []) := rfl
/-- What every such term keeps to. -/
structure TlOk (t : Tl) : Prop where
  lem : ∀ {mx : Nat} {ns : List Nd}, mx ≤ 1048576 → ns.length ≤ 1048576 → (t.g mx ns).1.length ≤ 1048576
  prem : ∀ (mx : Nat) (ns : List Nd), ns <+: (t.g mx ns).1
  bdm : ∀ {mx : Nat} {ns : List Nd}, mx ≤ 1048576 → ns.length ≤ 1048576 → -9223372036854775808 ≤ (t.g mx ns).2 ∧ (t.g mx ns).2 ≤ 9223372036854775807
theorem TlOk.le {t : Tl} (h : TlOk t) {ns : List Nd} (hl : ns.length ≤ 1048576) : (t.f ns).1.length ≤ 1048576 := h.lem (by omega) hl
theorem TlOk.pre {t : Tl} (h : TlOk t) (ns : List Nd) : ns <+: (t.f ns).1 := h.prem _ ns
theorem TlOk.bd {t : Tl} (h : TlOk t) {ns : List Nd} (hl : ns.length ≤ 1048576) : -9223372036854775808 ≤ (t.f ns).2 ∧ (t.f ns).2 ≤ 9223372036854775807 := h.bdm (by omega) hl
theorem putA_preT (ns : List Nd) (x : Nd) : ns <+: putA ns x := putAm_pre 3000 ns x
theorem putKm_bdT {mx : Nat} {ns : List Nd} (x : Nd) (h : ns.length ≤ 1048576) : -9223372036854775808 ≤ putKm mx ns x ∧ putKm mx ns x ≤ 9223372036854775807 := by
  have := putKm_bd mx ns x; omega
theorem putK_bdT {ns : List Nd} (x : Nd) (h : ns.length ≤ 1048576) : -9223372036854775808 ≤ putK ns x ∧ putK ns x ≤ 9223372036854775807 := putKm_bdT (mx := 3000) x h
theorem wf_bd {p : Int} (h : (Lit.int .i64 p).wf = true) : -9223372036854775808 ≤ p ∧ p ≤ 9223372036854775807 := by
  simp [Lit.wf, IntKind.min, IntKind.max, IntKind.signed, IntKind.bits] at h
  omega
theorem TlOk.pl {p : Int} (h : (Lit.int .i64 p).wf = true) : TlOk (.pl p) := ⟨fun _ h => h, fun _ ns => List.prefix_refl _, fun _ _ => wf_bd h⟩
theorem TlOk.atom (n : Int) : TlOk (.atom n) := ⟨fun hm h => putAm_le hm h, fun _ ns => putAm_pre _ _ _, fun _ h => putKm_bdT _ h⟩
theorem TlOk.one {k : Int} {x : Tl} (hx : TlOk x) : TlOk (.one k x) := ⟨fun hm h => putAm_le hm (hx.lem hm h), fun mx ns => (hx.prem mx ns).trans (putAm_pre _ _ _), fun hm h => putKm_bdT _ (hx.lem hm h)⟩
theorem TlOk.hash {x : Tl} (hx : TlOk x) : TlOk (.hash x) := TlOk.one (k := 3) hx
theorem TlOk.two {k : Int} {x y : Tl} (hx : TlOk x) (hy : TlOk y) : TlOk (.two k x y) := ⟨fun hm h => putAm_le hm (hy.lem hm (hx.lem hm h)), fun mx ns => ((hx.prem mx ns).trans (hy.prem mx _)).trans (putAm_pre _ _ _), fun hm h => putKm_bdT _ (hy.lem hm (hx.lem hm h))⟩
theorem Tl.fsle {mx : Nat} (hm : mx ≤ 1048576) : ∀ (xs : List Tl) {ns : List Nd}, (∀ x ∈ xs, TlOk x) → ns.length ≤ 1048576 → (Tl.gs mx xs ns).1.length ≤ 1048576
  | [], ns, hx, h => h
  | x :: xs, ns, hx, h => Tl.fsle hm xs (fun y hy => hx y (List.mem_cons_of_mem _ hy)) ((hx x (List.mem_cons_self ..)).lem hm h)
theorem Tl.fslen (mx : Nat) : ∀ (xs : List Tl) (ns : List Nd), (Tl.gs mx xs ns).2.length = xs.length
  | [], ns => rfl
  | x :: xs, ns => by rw [Tl.gs_cons]; simp [Tl.fslen mx xs (x.g mx ns).1]
theorem Tl.fspre (mx : Nat) : ∀ (xs : List Tl) (ns : List Nd), (∀ x ∈ xs, TlOk x) → ns <+: (Tl.gs mx xs ns).1
  | [], ns, hx => List.prefix_refl _
  | x :: xs, ns, hx => ((hx x (List.mem_cons_self ..)).prem mx ns).trans (Tl.fspre mx xs _ (fun y hy => hx y (List.mem_cons_of_mem _ hy)))
theorem Tl.fsbd {mx : Nat} (hm : mx ≤ 1048576) : ∀ (xs : List Tl) {ns : List Nd}, (∀ x ∈ xs, TlOk x) → ns.length ≤ 1048576 → ∀ z ∈ (Tl.gs mx xs ns).2, -9223372036854775808 ≤ z ∧ z ≤ 9223372036854775807
  | [], ns, hx, h, z, hz => by rw [Tl.gs_nil] at hz; cases hz
  | x :: xs, ns, hx, h, z, hz => by
    rw [Tl.gs_cons] at hz
    rcases List.mem_cons.1 hz with rfl | hz
    · exact (hx x (List.mem_cons_self ..)).bdm hm h
    · exact Tl.fsbd hm xs (fun y hy => hx y (List.mem_cons_of_mem _ hy)) ((hx x (List.mem_cons_self ..)).lem hm h) z hz
theorem TlOk.list {xs : List Tl} (hx : ∀ x ∈ xs, TlOk x) : TlOk (.list xs) := by
  refine ⟨fun hm h => listFm_le hm _ (Tl.fsle hm xs hx h), fun mx ns => (Tl.fspre mx xs ns hx).trans (listFm_pre _ _ _), fun {mx ns} hm h => ?_⟩
  have := listFm_bd hm (Tl.gs mx xs ns).2 (Tl.gs mx xs ns).1 (Tl.fsle hm xs hx h)
  rw [Tl.g_list]
  omega
theorem Tl.fs_take (mx : Nat) : ∀ (xs : List Tl) (ns : List Nd) (m : Nat), m < xs.length → Tl.gs mx (xs.take (m + 1)) ns = (((xs.getD m (.pl 0)).g mx (Tl.gs mx (xs.take m) ns).1).1, (Tl.gs mx (xs.take m) ns).2 ++ [((xs.getD m (.pl 0)).g mx (Tl.gs mx (xs.take m) ns).1).2])
  | [], ns, m, h => absurd h (by simp)
  | x :: xs, ns, 0, h => by simp [Tl.gs_cons, Tl.gs_nil]
  | x :: xs, ns, m + 1, h => by
    have := Tl.fs_take mx xs (x.g mx ns).1 m (by simpa using h)
    simp [Tl.gs_cons] at this ⊢
    rw [this]
    simp
/-- A block that is none of a builder's own. -/
def Apt (gb gm : Nat) (u : Value) (k : Nat) : Prop := k ≠ gb ∧ k ≠ gm ∧ u.ownBlock ≠ some k
theorem Keep.atk {gb gm k : Nat} {u u' : Value} {w w' : World} (h : Keep gb gm u u' w w') (ha : k < w.heap.size ∧ Apt gb gm u k) : w'.heap[k]? = w.heap[k]? := h.1 k ha.1 ha.2.1 ha.2.2.1 ha.2.2.2
theorem Keep.apt {gb gm k : Nat} {u u' : Value} {w w' : World} (h : Keep gb gm u u' w w') (ha : k < w.heap.size ∧ Apt gb gm u k) : k < w'.heap.size ∧ Apt gb gm u' k := by
  refine ⟨Nat.lt_of_lt_of_le ha.1 h.2.1, ha.2.1, ha.2.2.1, ?_⟩
  rcases h.2.2 with e | e
  · rw [e]; exact ha.2.2.2
  · intro e2
    have := e k e2
    have := ha.1
    omega
/-- What it answers when it is called. -/
def TlPost (mx B gb gm f : Nat) (r : List Nd × Int) (u : Value) (w : World) (e : Ending) (w' : World) : Prop := e = .returned (.int .i64 r.2) ∧ ∃ u', BldM mx B gb gm r.1.length f r.1 u' w' ∧ Keep gb gm u u' w w' ∧ Below B w w'
set_option maxHeartbeats 1600000 in
theorem tl_pl (mx B gb gm f g : Nat) (p : Int) (ns : List Nd) (u : Value) (w : World) (hg : w.heap[g]? = some (.cells #[.int .i64 p] 3 (0, 0))) (hb : BldM mx B gb gm ns.length f ns u w) :
    Calls Try.prog 161 #[.pointer (some ⟨gb, 0, none⟩), .pointer (some ⟨g, 0, none⟩)] w (TlPost mx B gb gm f (ns, p) u w) := by
  have c0 : w.cell? ⟨g, 0, none⟩ = some (.int .i64 p) := (cell_of_row _ _ 0 _ _ _ hg).trans rfl
  go_enter Try.func161, Try.ntmps161
  go_wp2
  go_ret
  exact ⟨rfl, u, hb, Keep.below (Below.refl _ _), Below.refl _ _⟩
set_option maxHeartbeats 1600000 in
theorem tl_atom (mx B gb gm f g : Nat) (n : Int) (ns : List Nd) (u : Value) (w : World) (hn : (Lit.int .i64 n).wf = true) (hl : ns.length ≤ 1048576) (hg : w.heap[g]? = some (.cells #[.int .i64 n] 3 (0, 0))) (hb : BldM mx B gb gm ns.length f ns u w) :
    Calls Try.prog 163 #[.pointer (some ⟨gb, 0, none⟩), .pointer (some ⟨g, 0, none⟩)] w (TlPost mx B gb gm f ((Tl.atom n).g mx ns) u w) := by
  have c0 : w.cell? ⟨g, 0, none⟩ = some (.int .i64 n) := (cell_of_row _ _ 0 _ _ _ hg).trans rfl
  have H1 : Hid _ := bputM_any mx B gb gm f ns ⟨1, n, 0, 0⟩ u w hl (by unfold Nd.Fits; simp; have := wf_bd hn; omega) hb
  go_enter Try.func163, Try.ntmps163
  go_wp2_with fail
  refine Calls.mono H1.out ?_
  rintro e w2 ⟨rfl, v2, hbl2, hk2, hb2⟩
  have HE : Hid (TlPost mx B gb gm f ((Tl.atom n).g mx ns) u w (.returned (.int .i64 (putKm mx ns ⟨1, n, 0, 0⟩))) w2) := ⟨rfl, v2, hbl2, hk2, hb2⟩
  clear hbl2 hk2 hb2
  go_wp2
  go_ret
  exact HE.out
theorem mkNd_fits {k x y : Int} (hk : 1 ≤ k ∧ k ≤ 9) (hx : -9223372036854775808 ≤ x ∧ x ≤ 9223372036854775807) (hy : -9223372036854775808 ≤ y ∧ y ≤ 9223372036854775807) : (mkNd k x y).Fits := by
  unfold Nd.Fits mkNd
  refine ⟨?_, ?_, ?_, ?_⟩ <;> simp only
  · omega
  · omega
  · exact hx
  · split <;> omega
set_option maxHeartbeats 1600000 in
theorem tl_one (mx B gb gm f g gk : Nat) (k : Int) (x : Tl) (F : FuncId) (cs : Array Value) (ns : List Nd) (u : Value) (w : World) (hk : 1 ≤ k ∧ k ≤ 9) (hw : TlOk x) (hmx : mx ≤ 1048576) (hl : ns.length ≤ 1048576) (hgk : gk < w.heap.size ∧ Apt gb gm u gk) (hg : w.heap[g]? = some (.cells #[.func (.func F) #[] cs] 116 (0, 0))) (hgk' : w.heap[gk]? = some (.cells #[.int .i64 k] 170 (0, 0)))
    (eg : ∀ args w, (callFunc F args).run Try.prog w = .ok (.enter F args) w) (hx : Calls Try.prog F (#[.pointer (some ⟨gb, 0, none⟩)] ++ cs) w.drew (TlPost mx B gb gm f (x.g mx ns) u w.drew)) :
    Calls Try.prog 186 #[.pointer (some ⟨gb, 0, none⟩), .pointer (some ⟨gk, 0, none⟩), .pointer (some ⟨g, 0, none⟩)] w (TlPost mx B gb gm f ((Tl.one k x).g mx ns) u w) := by
  have c0 : w.cell? ⟨g, 0, none⟩ = some (.func (.func F) #[] cs) := (cell_of_row _ _ 0 _ _ _ hg).trans rfl
  have c1 : w.cell? ⟨gk, 0, none⟩ = some (.int .i64 k) := (cell_of_row _ _ 0 _ _ _ hgk').trans rfl
  have HX : Hid (Calls Try.prog F (#[.pointer (some ⟨gb, 0, none⟩)] ++ cs) w.drew (fun e w2 => e = .returned (.int .i64 (x.g mx ns).2) ∧ w2.cell? ⟨gk, 0, none⟩ = some (.int .i64 k) ∧ ∃ v2, Hid (BldM mx B gb gm (x.g mx ns).1.length f (x.g mx ns).1 v2 w2 ∧ Keep gb gm u v2 w w2 ∧ Below B w w2))) := by
    refine Calls.mono hx ?_
    rintro e w2 ⟨rfl, v2, hbl2, hk2, hb2⟩
    have hb3 : Below B w w2 := (Below.refl _ _).drew.trans hb2
    exact ⟨rfl, (cell_of_row _ _ 0 _ _ _ ((hk2.atk hgk).trans hgk')).trans rfl, v2, hbl2, hk2, hb3⟩
  have HP : Hid (∀ (v2 : Value) (w2 w3 : World), Hid (BldM mx B gb gm (x.g mx ns).1.length f (x.g mx ns).1 v2 w2 ∧ Keep gb gm u v2 w w2 ∧ Below B w w2) → Below w2.heap.size w2 w3 → Calls Try.prog 152 #[.pointer (some ⟨gb, 0, none⟩), .agg #[.int .i64 (mkNd k (x.g mx ns).2 0).k, .int .i64 (mkNd k (x.g mx ns).2 0).n, .int .i64 (mkNd k (x.g mx ns).2 0).a, .int .i64 (mkNd k (x.g mx ns).2 0).b]] w3 (fun e w4 => e = .returned (.int .i64 (putKm mx (x.g mx ns).1 (mkNd k (x.g mx ns).2 0))) ∧ Hid (TlPost mx B gb gm f ((Tl.one k x).g mx ns) u w e w4))) := fun v2 w2 w3 h2 hb3 => by
    obtain ⟨hb, hk2, hb2⟩ := h2.out
    refine (bputM_any mx B gb gm f (x.g mx ns).1 (mkNd k (x.g mx ns).2 0) v2 w3 (hw.lem hmx hl) (mkNd_fits hk (hw.bdm hmx hl) (by omega)) (hb.later hb3)).mono ?_
    rintro e w4 ⟨rfl, v4, hbl4, hk4, hb4⟩
    exact ⟨rfl, rfl, v4, hbl4, (hk2.trans (Keep.below hb3)).trans hk4, (hb2.trans (hb3.mono hb.size)).trans hb4⟩
  clear hx hg hgk' hk hgk hw hl
  generalize (x.g mx ns).2 = kx at HX HP
  generalize putKm mx (x.g mx ns).1 (mkNd k kx 0) = ky at HP
  go_enter Try.func186, Try.ntmps186
  go_wp2_with fail
  go_region_with (first | (go_at_call 185; refine (nodeOf_any k kx 0 _).mono ?_; rintro e w3 ⟨rfl, hb3⟩) | (go_at_call 152; refine Calls.mono (HP.out v2 w2 _ h2 hb3) ?_; rintro e w4 ⟨rfl, h4⟩) | (refine Calls.mono HX.out ?_; rintro e w2 ⟨rfl, c2, v2, h2⟩))
  all_goals
    go_wp2
    go_ret
    exact h4.out
set_option maxHeartbeats 1600000 in
theorem tl_two (mx B gb gm f gx gy gk : Nat) (k : Int) (x y : Tl) (F G : FuncId) (cs ds : Array Value) (ns : List Nd) (u : Value) (w : World) (hk : 1 ≤ k ∧ k ≤ 9) (hw : TlOk x) (hwy : TlOk y) (hmx : mx ≤ 1048576) (hl : ns.length ≤ 1048576) (hgy : gy < w.heap.size ∧ Apt gb gm u gy) (hgk : gk < w.heap.size ∧ Apt gb gm u gk)
    (hx : w.heap[gx]? = some (.cells #[.func (.func F) #[] cs] 116 (0, 0))) (hy : w.heap[gy]? = some (.cells #[.func (.func G) #[] ds] 116 (0, 0))) (hgk' : w.heap[gk]? = some (.cells #[.int .i64 k] 170 (0, 0)))
    (eg : ∀ args w, (callFunc F args).run Try.prog w = .ok (.enter F args) w) (eh : ∀ args w, (callFunc G args).run Try.prog w = .ok (.enter G args) w)
    (cx : Calls Try.prog F (#[.pointer (some ⟨gb, 0, none⟩)] ++ cs) w (TlPost mx B gb gm f (x.g mx ns) u w))
    (cy : ∀ (v2 : Value) (w2 : World), Keep gb gm u v2 w w2 → Below B w w2 → BldM mx B gb gm (x.g mx ns).1.length f (x.g mx ns).1 v2 w2 → Calls Try.prog G (#[.pointer (some ⟨gb, 0, none⟩)] ++ ds) w2 (TlPost mx B gb gm f (y.g mx (x.g mx ns).1) v2 w2)) :
    Calls Try.prog 184 #[.pointer (some ⟨gb, 0, none⟩), .pointer (some ⟨gx, 0, none⟩), .pointer (some ⟨gy, 0, none⟩), .pointer (some ⟨gk, 0, none⟩)] w (TlPost mx B gb gm f ((Tl.two k x y).g mx ns) u w) := by
  have c0 : w.cell? ⟨gx, 0, none⟩ = some (.func (.func F) #[] cs) := (cell_of_row _ _ 0 _ _ _ hx).trans rfl
  have HX : Hid (Calls Try.prog F (#[.pointer (some ⟨gb, 0, none⟩)] ++ cs) w (TlPost mx B gb gm f (x.g mx ns) u w)) := cx
  have HY : Hid (∀ (v2 : Value) (w2 : World), Keep gb gm u v2 w w2 → Below B w w2 → BldM mx B gb gm (x.g mx ns).1.length f (x.g mx ns).1 v2 w2 → Calls Try.prog G (#[.pointer (some ⟨gb, 0, none⟩)] ++ ds) w2 (TlPost mx B gb gm f (y.g mx (x.g mx ns).1) v2 w2)) := cy
  have HK : Hid (w.heap[gk]? = some (.cells #[.int .i64 k] 170 (0, 0))) := hgk'
  have HGY : Hid (w.heap[gy]? = some (.cells #[.func (.func G) #[] ds] 116 (0, 0))) := hy
  have HP : Hid (∀ (v2 : Value) (w2 : World), BldM mx B gb gm (y.g mx (x.g mx ns).1).1.length f (y.g mx (x.g mx ns).1).1 v2 w2 → Calls Try.prog 152 #[.pointer (some ⟨gb, 0, none⟩), .agg #[.int .i64 (mkNd k (x.g mx ns).2 (y.g mx (x.g mx ns).1).2).k, .int .i64 (mkNd k (x.g mx ns).2 (y.g mx (x.g mx ns).1).2).n, .int .i64 (mkNd k (x.g mx ns).2 (y.g mx (x.g mx ns).1).2).a, .int .i64 (mkNd k (x.g mx ns).2 (y.g mx (x.g mx ns).1).2).b]] w2 (TlPost mx B gb gm f ((Tl.two k x y).g mx ns) v2 w2)) := fun v2 w2 hb => by
    refine (bputM_any mx B gb gm f _ (mkNd k (x.g mx ns).2 (y.g mx (x.g mx ns).1).2) v2 w2 (hwy.lem hmx (hw.lem hmx hl)) (mkNd_fits hk (hw.bdm hmx hl) (hwy.bdm hmx (hw.lem hmx hl))) hb).mono ?_
    rintro e w3 ⟨rfl, v3, hbl3, hk3, hb3⟩
    exact ⟨rfl, v3, hbl3, hk3, hb3⟩
  have HWH : Hid (1 ≤ k ∧ k ≤ 9) := hk
  clear cx cy hx hy hgk' hk
  go_enter Try.func184, Try.ntmps184
  go_wp2_with fail
  refine Calls.mono HX.out ?_
  rintro e w2 ⟨rfl, v2, hbl2, hk2, hb2⟩
  have HK2 : Hid (Keep gb gm u v2 w w2) := hk2
  have hsz := hbl2.size
  have c1 : w2.cell? ⟨gy, 0, none⟩ = some (.func (.func G) #[] ds) := (cell_of_row _ _ 0 _ _ _ ((hk2.atk hgy).trans HGY.out)).trans rfl
  have HC : Hid (Calls Try.prog G (#[.pointer (some ⟨gb, 0, none⟩)] ++ ds) w2 (TlPost mx B gb gm f (y.g mx (x.g mx ns).1) v2 w2)) := HY.out v2 w2 hk2 hb2 hbl2
  have HB2 : Hid (Below B w w2) := hb2
  generalize (x.g mx ns).2 = kx at HP ⊢
  clear hbl2 hb2 hk2 c0 HX HY eg
  go_wp2_with fail
  refine Calls.mono HC.out ?_
  rintro e w3 ⟨rfl, v3, hbl3, hk3, hb3⟩
  have HK3 : Hid (Keep gb gm u v3 w w3) := HK2.out.trans hk3
  have c2 : w3.cell? ⟨gk, 0, none⟩ = some (.int .i64 k) := (cell_of_row _ _ 0 _ _ _ ((HK3.out.atk hgk).trans HK.out)).trans rfl
  have HB3 : Hid (BldM mx B gb gm (y.g mx (x.g mx ns).1).1.length f (y.g mx (x.g mx ns).1).1 v3 w3) := hbl3
  generalize (y.g mx (x.g mx ns).1).2 = ky at HP ⊢
  have hsz3 := hbl3.size
  clear hbl3 hk3 HC c1 eh
  go_wp2_with fail
  refine (nodeOf_any k kx ky w3).mono ?_
  rintro e w4 ⟨rfl, hb4⟩
  have HC : Hid _ := HP.out v3 w4 (HB3.out.later hb4)
  clear c2
  go_wp2_with fail
  refine Calls.mono HC.out ?_
  rintro e w5 ⟨rfl, v5, hbl5, hk5, hb5⟩
  have HK5 : Hid (Keep gb gm u v5 w w5) := (HK3.out.trans (Keep.below hb4)).trans hk5
  clear hk5
  go_wp2
  go_ret
  exact ⟨rfl, v5, hbl5, HK5.out, ((HB2.out.trans hb3).trans (hb4.mono hsz3)).trans hb5⟩
/-- A term that is told lies in memory: a closure that, called with a builder in any world which is as this one is from L on and under B, puts all that it is made of, then itself. -/
def ToldIs (L B : Nat) (w : World) (t : Tl) (v : Value) : Prop :=
  (t.Wf → TlOk t) ∧ ∃ (F : FuncId) (cs : Array Value), v = .func (.func F) #[] cs ∧ (∀ args w, (callFunc F args).run Try.prog w = .ok (.enter F args) w) ∧
    (t.Wf → ∀ (w' : World) (mx B' gb gm fl : Nat) (ns : List Nd) (u : Value), mx ≤ 1048576 → (∀ k, L ≤ k → k < B → w'.heap[k]? = w.heap[k]?) → (∀ k, L ≤ k → k < B → k < w'.heap.size ∧ Apt gb gm u k) → ns.length ≤ 1048576 → BldM mx B' gb gm ns.length fl ns u w' →
      Calls Try.prog F (#[.pointer (some ⟨gb, 0, none⟩)] ++ cs) w' (TlPost mx B' gb gm fl (t.g mx ns) u w'))
theorem ToldIs.kept {L B : Nat} {w w' : World} (hb : ∀ k, L ≤ k → k < B → w'.heap[k]? = w.heap[k]?) (t : Tl) {v : Value} (h : ToldIs L B w t v) : ToldIs L B w' t v := by
  obtain ⟨h0, F, cs, h1, h2, h3⟩ := h
  exact ⟨h0, F, cs, h1, h2, fun hw w2 mx B' gb gm fl ns u hmx ha => h3 hw w2 mx B' gb gm fl ns u hmx (fun k hk hk2 => (ha k hk hk2).trans (hb k hk hk2))⟩
theorem ToldIs.later {L B : Nat} {w w' : World} (hb : Below B w w') (t : Tl) {v : Value} (h : ToldIs L B w t v) : ToldIs L B w' t v := ToldIs.kept (fun k _ hk => hb.block k hk) t h
theorem ToldIs.base {L B B2 : Nat} {w : World} (hb : B ≤ B2) (t : Tl) {v : Value} (h : ToldIs L B w t v) : ToldIs L B2 w t v := by
  obtain ⟨h0, F, cs, h1, h2, h3⟩ := h
  exact ⟨h0, F, cs, h1, h2, fun hw w2 mx B' gb gm fl ns u hmx ha hp => h3 hw w2 mx B' gb gm fl ns u hmx (fun k hk hk2 => ha k hk (by omega)) (fun k hk hk2 => hp k hk (by omega))⟩
theorem ToldIs.fn {L B : Nat} {w : World} {y : Tl} {u : Value} (h : ToldIs L B w y u) : ∃ (G : FuncId) (ds : Array Value), u = .func (.func G) #[] ds := by
  obtain ⟨_, F, cs, h1, _⟩ := h
  exact ⟨F, cs, h1⟩
theorem ToldIs.eg {L B : Nat} {w : World} {y : Tl} {G : FuncId} {ds : Array Value} (h : ToldIs L B w y (.func (.func G) #[] ds)) : ∀ args w, (callFunc G args).run Try.prog w = .ok (.enter G args) w := by
  obtain ⟨_, F, cs, h1, h2, _⟩ := h
  simp at h1
  rw [h1.1]; exact h2
theorem ToldIs.callA {L B : Nat} {w : World} {y : Tl} {G : FuncId} {ds : Array Value} (h : ToldIs L B w y (.func (.func G) #[] ds)) (hw : y.Wf) (w' : World) (mx B' gb gm fl : Nat) (ns : List Nd) (u : Value) (hmx : mx ≤ 1048576) (ha : ∀ k, L ≤ k → k < B → w'.heap[k]? = w.heap[k]?) (hp : ∀ k, L ≤ k → k < B → k < w'.heap.size ∧ Apt gb gm u k) (hl : ns.length ≤ 1048576) (hb : BldM mx B' gb gm ns.length fl ns u w') :
    Calls Try.prog G (#[.pointer (some ⟨gb, 0, none⟩)] ++ ds) w' (TlPost mx B' gb gm fl (y.g mx ns) u w') := by
  obtain ⟨_, F, cs, h1, _, h3⟩ := h
  simp at h1
  obtain ⟨rfl, rfl⟩ := h1
  exact h3 hw w' mx B' gb gm fl ns u hmx ha hp hl hb
theorem BldM.apt {mx B gb gm n f k : Nat} {ns : List Nd} {v : Value} {w : World} (h : BldM mx B gb gm n f ns v w) (hk : k < B) : k < w.heap.size ∧ Apt gb gm v k := by
  have hs := h.size
  obtain ⟨D, h1, h2, h3, h4, h5, h6, _⟩ := h
  exact ⟨by omega, by omega, by omega, fun e => by have := (h2.lt k e).1; omega⟩
theorem ToldIs.callM {L B : Nat} {w : World} {y : Tl} {G : FuncId} {ds : Array Value} (h : ToldIs L B w y (.func (.func G) #[] ds)) (hw : y.Wf) (w' : World) (mx B' gb gm fl : Nat) (ns : List Nd) (u : Value) (hmx : mx ≤ 1048576) (ha : ∀ k, L ≤ k → k < B → w'.heap[k]? = w.heap[k]?) (hB : B ≤ B') (hl : ns.length ≤ 1048576) (hb : BldM mx B' gb gm ns.length fl ns u w') :
    Calls Try.prog G (#[.pointer (some ⟨gb, 0, none⟩)] ++ ds) w' (TlPost mx B' gb gm fl (y.g mx ns) u w') := h.callA hw w' mx B' gb gm fl ns u hmx ha (fun k _ hk => hb.apt (by omega)) hl hb
theorem ToldIs.call {L B : Nat} {w : World} {y : Tl} {G : FuncId} {ds : Array Value} (h : ToldIs L B w y (.func (.func G) #[] ds)) (hw : y.Wf) (w' : World) (B' gb gm fl : Nat) (ns : List Nd) (u : Value) (ha : ∀ k, L ≤ k → k < B → w'.heap[k]? = w.heap[k]?) (hB : B ≤ B') (hl : ns.length ≤ 1048576) (hb : BldAt B' gb gm ns.length fl ns u w') :
    Calls Try.prog G (#[.pointer (some ⟨gb, 0, none⟩)] ++ ds) w' (TlPost 3000 B' gb gm fl (y.f ns) u w') := h.callM hw w' 3000 B' gb gm fl ns u (by omega) ha hB hl hb
theorem toldIs_pl {L B g : Nat} {w : World} (p : Int) (h1 : L ≤ g) (h2 : g < B) (h3 : w.heap[g]? = some (.cells #[.int .i64 p] 3 (0, 0))) : ToldIs L B w (.pl p) (.func (.func 161) #[] #[.pointer (some ⟨g, 0, none⟩)]) :=
  ⟨fun hw => .pl hw, _, _, rfl, Try.call161, fun hw w' mx B' gb gm fl ns u hmx ha hp hl hb => tl_pl mx B' gb gm fl g p ns u w' ((ha g h1 h2).trans h3) hb⟩
theorem toldIs_atom {L B g : Nat} {w : World} (n : Int) (h1 : L ≤ g) (h2 : g < B) (h3 : w.heap[g]? = some (.cells #[.int .i64 n] 3 (0, 0))) : ToldIs L B w (.atom n) (.func (.func 163) #[] #[.pointer (some ⟨g, 0, none⟩)]) :=
  ⟨fun hw => .atom n, _, _, rfl, Try.call163, fun hw w' mx B' gb gm fl ns u hmx ha hp hl hb => tl_atom mx B' gb gm fl g n ns u w' hw hl ((ha g h1 h2).trans h3) hb⟩
theorem toldIs_one {L B g gk : Nat} {w : World} (k : Int) (x : Tl) (u : Value) (hk : 1 ≤ k ∧ k ≤ 9) (h1 : L ≤ g ∧ g < B) (h2 : L ≤ gk ∧ gk < B) (h3 : w.heap[g]? = some (.cells #[u] 116 (0, 0))) (h4 : w.heap[gk]? = some (.cells #[.int .i64 k] 170 (0, 0))) (hx : ToldIs L B w x u) : ToldIs L B w (.one k x) (.func (.func 186) #[] #[.pointer (some ⟨gk, 0, none⟩), .pointer (some ⟨g, 0, none⟩)]) := by
  obtain ⟨F, cs, rfl⟩ := hx.fn
  exact ⟨fun hw => .one (hx.1 hw), _, _, rfl, Try.call186, fun hw w' mx B' gb gm fl ns u hmx ha hp hl hb => tl_one mx B' gb gm fl g gk k x F cs ns u w' hk (hx.1 hw) hmx hl (hp gk h2.1 h2.2) ((ha g h1.1 h1.2).trans h3) ((ha gk h2.1 h2.2).trans h4) hx.eg (hx.callA hw w'.drew mx B' gb gm fl ns u hmx ha hp hl (hb.later (Below.refl _ _).drew))⟩
theorem toldIs_two {L B gx gy gk : Nat} {w : World} (k : Int) (x y : Tl) (ux uy : Value) (h1 : L ≤ gx ∧ gx < B) (h2 : L ≤ gy ∧ gy < B) (h3 : L ≤ gk ∧ gk < B) (h5 : w.heap[gx]? = some (.cells #[ux] 116 (0, 0))) (h6 : w.heap[gy]? = some (.cells #[uy] 116 (0, 0))) (h7 : w.heap[gk]? = some (.cells #[.int .i64 k] 170 (0, 0)))
    (hx : ToldIs L B w x ux) (hy : ToldIs L B w y uy) : ToldIs L B w (.two k x y) (.func (.func 184) #[] #[.pointer (some ⟨gx, 0, none⟩), .pointer (some ⟨gy, 0, none⟩), .pointer (some ⟨gk, 0, none⟩)]) := by
  obtain ⟨F, cs, rfl⟩ := hx.fn
  obtain ⟨G, ds, rfl⟩ := hy.fn
  refine ⟨fun hw => .two (hx.1 hw.2.2.1) (hy.1 hw.2.2.2), _, _, rfl, Try.call184, fun hw w' mx B' gb gm fl ns u hmx ha hp hl hb => ?_⟩
  have ox := hx.1 hw.2.2.1
  refine tl_two mx B' gb gm fl gx gy gk k x y F G cs ds ns u w' ⟨hw.1, hw.2.1⟩ ox (hy.1 hw.2.2.2) hmx hl (hp gy h2.1 h2.2) (hp gk h3.1 h3.2) ((ha _ h1.1 h1.2).trans h5) ((ha _ h2.1 h2.2).trans h6) ((ha _ h3.1 h3.2).trans h7) hx.eg hy.eg (hx.callA hw.2.2.1 w' mx B' gb gm fl ns u hmx ha hp hl hb) ?_
  intro v2 w2 hkp hb2 hbl2
  exact hy.callA hw.2.2.2 w2 mx B' gb gm fl _ v2 hmx (fun k hk hk2 => (hkp.atk (hp k hk hk2)).trans (ha k hk hk2)) (fun k hk hk2 => hkp.apt (hp k hk hk2)) (ox.lem hmx hl) hbl2
/-- A row of integers, the first of them laid. -/
def rowZ (zs : List Int) (n : Nat) : List Value := zs.map (Value.int .i64) ++ List.replicate (n - zs.length) (.int .i64 0)
theorem rowZ_len {zs : List Int} {n : Nat} (h : zs.length ≤ n) : (rowZ zs n).length = n := by unfold rowZ; simp; omega
theorem rowZ_set {zs : List Int} {n : Nat} (h : zs.length < n) (z : Int) : (rowZ zs n).set zs.length (.int .i64 z) = rowZ (zs ++ [z]) n := by
  unfold rowZ
  rw [List.set_append]
  simp only [List.length_map, Nat.lt_irrefl, if_false, Nat.sub_self, List.map_append, List.map_cons, List.map_nil, List.length_append, List.length_cons, List.length_nil]
  obtain ⟨k, hk⟩ : ∃ k, n - zs.length = k + 1 := ⟨n - zs.length - 1, by omega⟩
  rw [hk, List.replicate_succ, List.set_cons_zero, show n - (zs.length + (0 + 1)) = k by omega, List.append_assoc, List.singleton_append]
theorem rowZ_get {zs : List Int} {n m : Nat} (h : m < zs.length) : (rowZ zs n)[m]? = some (.int .i64 (zs.getD m 0)) := by
  unfold rowZ
  rw [List.getElem?_append_left (by simpa using h)]
  simp [List.getD_eq_getElem?_getD, List.getElem?_eq_getElem h]
theorem infoIL : (Try.prog.info? 3).map (fun i => (i.zero, i.size, i.bytes)) = some (some (.int .i64 0), 1, 8) := by kernel_rfl
theorem grown_set (w : World) (g j : Nat) (u : Value) : w.grownBy (w.setCell ⟨g, j, none⟩ u) (some g) :=
  ⟨rfl, rfl, rfl, by simp, fun k _ hne => Below.heap_setCell _ _ _ _ (by simpa using hne)⟩
/-- While its terms are put: the builder, the row of places, and what is kept. -/
def TlSt (mx B gb gm f : Nat) (r : List Nd × List Int) (n : Nat) (u u' : Value) (w w' : World) : Prop :=
  BldM mx B gb gm r.1.length f r.1 u' w' ∧ Keep gb gm u u' w w' ∧ Below B w w' ∧ w'.heap[w.heap.size]? = some (.cells (rowZ r.2 n).toArray 3 (0, 0)) ∧ u'.ownBlock ≠ some w.heap.size
set_option maxHeartbeats 3200000 in
set_option maxRecDepth 20000 in
/-- Terms that are told, put one behind the other. -/
theorem putAll_any (mx B gb gm f h cv : Nat) (xs : List Tl) (vs : List Value) (ns : List Nd) (u : Value) (w : World) (hxl : xs.length ≤ 1048577) (hw : ∀ x ∈ xs, TlOk x) (hmx : mx ≤ 1048576) (hl : ns.length ≤ 1048576) (hh : h < w.heap.size ∧ Apt gb gm u h) (hlen : vs.length = xs.length)
    (hhc : w.heap[h]? = some (.cells vs.toArray 116 (0, 0))) (hb : BldM mx B gb gm ns.length f ns u w)
    (hc : ∀ m, m < xs.length → ∃ (F : FuncId) (cs : Array Value), vs.getD m undef = .func (.func F) #[] cs ∧ (∀ args w, (callFunc F args).run Try.prog w = .ok (.enter F args) w) ∧ ∀ (ns : List Nd) (u2 : Value) (w2 : World), ns.length ≤ 1048576 → Keep gb gm u u2 w w2 → Below B w w2 → BldM mx B gb gm ns.length f ns u2 w2 → Calls Try.prog F (#[.pointer (some ⟨gb, 0, none⟩)] ++ cs) w2 (TlPost mx B gb gm f ((xs.getD m (.pl 0)).g mx ns) u2 w2)) :
    Calls Try.prog 192 #[.pointer (some ⟨gb, 0, none⟩), .slice (some ⟨h, 0, none⟩) xs.length cv] w fun e w' => ∃ u', e = .returned (.slice (some ⟨w.heap.size, 0, none⟩) xs.length xs.length) ∧ TlSt mx B gb gm f (Tl.gs mx xs ns) xs.length u u' w w' := by
  have hsz := hb.size
  have hlts := hb.lts
  have HV : Hid (∀ w' u', Keep gb gm u u' w w' → ∀ m, m < xs.length → w'.cell? ⟨h, m, none⟩ = some (vs.getD m undef)) := fun w' u' hb' m hm => by
    have := cell_of_row w' h m _ _ _ ((hb'.atk hh).trans hhc)
    rw [this]
    simp [List.getD_eq_getElem?_getD, List.getElem?_eq_getElem (show m < vs.length by omega)]
  have HCC : Hid (∀ m, m < xs.length → ∃ (F : FuncId) (cs : Array Value), vs.getD m undef = .func (.func F) #[] cs ∧ (∀ args w, (callFunc F args).run Try.prog w = .ok (.enter F args) w) ∧ ∀ (ns : List Nd) (u2 : Value) (w2 : World), ns.length ≤ 1048576 → Keep gb gm u u2 w w2 → Below B w w2 → BldM mx B gb gm ns.length f ns u2 w2 → Calls Try.prog F (#[.pointer (some ⟨gb, 0, none⟩)] ++ cs) w2 (TlPost mx B gb gm f ((xs.getD m (.pl 0)).g mx ns) u2 w2)) := hc
  obtain ⟨CI, HCI⟩ : ∃ c, Hid (madeCells #[.int .i64 0] xs.length = c) := ⟨_, rfl⟩
  have mI : ∀ w : World, (Instr.makeSlice 38 (.int .i64 (xs.length : Int)) (.int .i64 (xs.length : Int))).run Try.prog w = .ok (.slice (some ⟨w.heap.size, 0, none⟩) xs.length xs.length) (w.alloc (.cells CI 3)) := fun w => by
    rw [← HCI.out]; exact run_make_row' _ _ _ 8 Try.underlying38 infoIL rfl _ _ _ (by omega) (by omega) w
  have hbA : Below w.heap.size w (w.alloc (.cells CI 3)) := (Below.refl _ _).alloc (Nat.le_refl _) _
  have HS0 : Hid (TlSt mx B gb gm f (Tl.gs mx (xs.take 0) ns) xs.length u u w (w.alloc (.cells CI 3))) := by
    refine ⟨?_, Keep.below hbA, hbA.mono hsz, ?_, fun e => by have := hlts.2.2 _ e; omega⟩
    · rw [List.take_zero, Tl.gs_nil]; exact hb.later hbA
    · rw [List.take_zero, Tl.gs_nil]
      have := heap_alloc_new w (.cells CI 3)
      rw [this, ← HCI.out]
      have e : (madeCells #[Value.int .i64 0] xs.length) = (rowZ [] xs.length).toArray := by
        apply Array.toList_inj.1
        rw [toList_madeCells_one]; unfold rowZ; simp
      rw [e]
  have HW : Hid (∀ x ∈ xs, TlOk x) := hw
  have HL : Hid (gb < w.heap.size ∧ gm < w.heap.size) := ⟨hlts.1, hlts.2.1⟩
  clear hc hb hw hhc hlen hlts hbA HCI
  go_enter Try.func192, Try.ntmps192
  go_wp2
  generalize w.alloc (.cells CI 3) = w0 at HS0 ⊢
  go_wp2
  go_loopw [13] (fun i wr => ∃ (m : Nat) (u' : Value), m ≤ xs.length ∧ i = .int .i64 (m : Int) ∧ Hid (TlSt mx B gb gm f (Tl.gs mx (xs.take m) ns) xs.length u u' w wr))
    (fun i _ => xs.length - (intOf i).toNat)
  case atStart => exact ⟨0, u, by omega, rfl, HS0.out⟩
  case round =>
    obtain ⟨m, u', hm, rfl, HS⟩ := hrel
    clear HS0
    by_cases hd : m < xs.length
    · obtain ⟨F, cs, hv, eg, hcall⟩ := HCC.out m hd
      have cV := HV.out wr _ HS.out.2.1 m hd
      rw [hv] at cV
      have hle : (Tl.gs mx (xs.take m) ns).1.length ≤ 1048576 := Tl.fsle hmx _ (fun y hy => HW.out y (List.mem_of_mem_take hy)) hl
      have HX : Hid (Calls Try.prog F (#[.pointer (some ⟨gb, 0, none⟩)] ++ cs) wr (TlPost mx B gb gm f ((xs.getD m (.pl 0)).g mx (Tl.gs mx (xs.take m) ns).1) u' wr)) := hcall _ u' wr hle HS.out.2.1 HS.out.2.2.1 HS.out.1
      have hi1 : (m : Int) < (xs.length : Int) := by omega
      have HWL : Hid (Tl.gs mx (xs.take (m + 1)) ns = _) := Tl.fs_take mx xs ns m hd
      have HLN : Hid ((Tl.gs mx (xs.take m) ns).2.length = m) := by show _ = _; rw [Tl.fslen mx, List.length_take]; omega
      clear hv hcall hle HCC HV
      go_wp2_with fail
      refine Calls.mono HX.out ?_
      rintro e w2 ⟨rfl, u2, hbl2, hk2, hb2⟩
      generalize hz : ((xs.getD m (.pl 0)).g mx (Tl.gs mx (xs.take m) ns).1).2 = z
      have hlt2 : w.heap.size < wr.heap.size := (Array.getElem?_eq_some_iff.1 HS.out.2.2.2.1).1
      have hrow : w2.heap[w.heap.size]? = some (.cells (rowZ (Tl.gs mx (xs.take m) ns).2 xs.length).toArray 3 (0, 0)) :=
        (hk2.1 _ hlt2 (by have := HL.out.1; omega) (by have := HL.out.2; omega) HS.out.2.2.2.2).trans HS.out.2.2.2.1
      have hrl : (rowZ (Tl.gs mx (xs.take m) ns).2 xs.length).length = xs.length := rowZ_len (by rw [HLN.out]; omega)
      obtain ⟨u0, hu0⟩ : ∃ u0, w2.cell? ⟨w.heap.size, m, none⟩ = some u0 := by
        refine ⟨(rowZ (Tl.gs mx (xs.take m) ns).2 xs.length)[m]'(by rw [hrl]; exact hd), ?_⟩
        rw [cell_of_row w2 _ m _ _ _ hrow]
        simp
      have hf0 : w2.frozen? ⟨w.heap.size, m, none⟩ = false := frozen_of_row w2 _ m _ _ hrow
      have HS2 : Hid (TlSt mx B gb gm f (Tl.gs mx (xs.take (m + 1)) ns) xs.length u u2 w (w2.setCell ⟨w.heap.size, m, none⟩ (.int .i64 z))) := by
        have hown : u2.ownBlock ≠ some w.heap.size := by
          rcases hk2.2.2 with e | e
          · rw [e]; exact HS.out.2.2.2.2
          · intro e2
            have := e _ e2
            omega
        rw [HWL.out]
        refine ⟨hbl2.apart (grown_set _ _ _ _) (by have := HL.out.1; omega) (by have := HL.out.2; omega) hown, ?_, ?_, ?_, hown⟩
        · have h12 := HS.out.2.1.trans hk2
          refine ⟨fun k hk h1 h2 h3 => ?_, ?_, h12.2.2⟩
          · exact ((grown_set w2 w.heap.size m (.int .i64 z)).block k (Nat.lt_of_lt_of_le hk h12.2.1) (by simp; omega)).trans (h12.1 k hk h1 h2 h3)
          · have := h12.2.1; simpa using this
        · exact (HS.out.2.2.1.trans hb2).setCell hsz _
        · have h5 := heap_setCell_same w2 w.heap.size m _ _ (.int .i64 z) hrow
          rw [h5, hz]
          have h6 := rowZ_set (zs := (Tl.gs mx (xs.take m) ns).2) (n := xs.length) (by rw [HLN.out]; exact hd) z
          rw [HLN.out] at h6
          rw [← h6]
          simp
      clear hz hrow hrl hlt2 hk2 hb2 hbl2 HX HS HWL HLN
      go_wp2
      go_roundw
      case rel => exact ⟨m + 1, u2, by omega, by go_num, HS2.out⟩
      case measure => simp [intOf] <;> omega
    · obtain rfl : m = xs.length := by omega
      rw [List.take_length] at HS
      clear HCC HV
      go_wp2
      go_ret
      exact ⟨u', rfl, HS.out⟩
set_option maxHeartbeats 3200000 in
set_option maxRecDepth 20000 in
/-- A list that is told, called: its terms one behind the other, then the List. -/
theorem tl_list (mx B gb gm f g h : Nat) (xs : List Tl) (vs : List Value) (ns : List Nd) (u : Value) (w : World) (hxl : xs.length ≤ 1048577) (hw : ∀ x ∈ xs, TlOk x) (hmx : mx ≤ 1048576) (hl : ns.length ≤ 1048576) (hg : g < w.heap.size ∧ Apt gb gm u g) (hh : h < w.heap.size ∧ Apt gb gm u h) (hlen : vs.length = xs.length)
    (hgc : w.heap[g]? = some (.cells #[.slice (some ⟨h, 0, none⟩) vs.length vs.length] 188 (0, 0))) (hhc : w.heap[h]? = some (.cells vs.toArray 116 (0, 0))) (hb : BldM mx B gb gm ns.length f ns u w)
    (hc : ∀ m, m < xs.length → ∃ (F : FuncId) (cs : Array Value), vs.getD m undef = .func (.func F) #[] cs ∧ (∀ args w, (callFunc F args).run Try.prog w = .ok (.enter F args) w) ∧ ∀ (ns : List Nd) (u2 : Value) (w2 : World), ns.length ≤ 1048576 → Keep gb gm u u2 w w2 → Below B w w2 → BldM mx B gb gm ns.length f ns u2 w2 → Calls Try.prog F (#[.pointer (some ⟨gb, 0, none⟩)] ++ cs) w2 (TlPost mx B gb gm f ((xs.getD m (.pl 0)).g mx ns) u2 w2)) :
    Calls Try.prog 190 #[.pointer (some ⟨gb, 0, none⟩), .pointer (some ⟨g, 0, none⟩)] w (TlPost mx B gb gm f ((Tl.list xs).g mx ns) u w) := by
  rw [Tl.g_list]
  have hlts := hb.lts
  have c0 : w.cell? ⟨g, 0, none⟩ = some (.slice (some ⟨h, 0, none⟩) vs.length vs.length) := (cell_of_row _ _ 0 _ _ _ hgc).trans rfl
  have HC : Hid _ := putAll_any mx B gb gm f h vs.length xs vs ns u w hxl hw hmx hl hh hlen hhc hb hc
  rw [hlen] at c0 HC
  have HW : Hid (∀ x ∈ xs, TlOk x) := hw
  have HL : Hid (gb < w.heap.size ∧ gm < w.heap.size) := ⟨hlts.1, hlts.2.1⟩
  clear hc hb hw hgc hhc hlen hlts
  go_enter Try.func190, Try.ntmps190
  go_wp2_with fail
  refine Calls.mono HC.out ?_
  rintro e wr ⟨u', rfl, hst⟩
  have HS : Hid (TlSt mx B gb gm f (Tl.gs mx xs ns) xs.length u u' w wr) := hst
  clear hst HC
  have HPL : Hid (Calls Try.prog 191 #[.pointer (some ⟨gb, 0, none⟩), .slice (some ⟨w.heap.size, 0, none⟩) xs.length xs.length] wr (PlPost mx B gb gm f (listFm mx (Tl.gs mx xs ns).2 (Tl.gs mx xs ns).1) u' wr)) := by
    have hln := Tl.fslen mx xs ns
    have := putListM_any mx B gb gm f (Tl.gs mx xs ns).1 u' (some ⟨w.heap.size, 0, none⟩) xs.length (Tl.gs mx xs ns).2 wr hmx (Tl.fsle hmx xs HW.out hl) (by omega) (Tl.fsbd hmx xs HW.out hl) (fun w' u'' hk hbe m hm => ⟨w.heap.size, 0, rfl, ?_⟩) HS.out.1
    · rw [hln] at this; exact this
    · have hlt2 : w.heap.size < wr.heap.size := (Array.getElem?_eq_some_iff.1 HS.out.2.2.2.1).1
      have hrow := (hk.1 _ hlt2 (by have := HL.out.1; omega) (by have := HL.out.2; omega) HS.out.2.2.2.2).trans HS.out.2.2.2.1
      rw [Nat.zero_add, cell_of_row w' _ m _ _ _ hrow]
      simpa using rowZ_get hm
  have HQ : Hid (∀ w2 u2, BldM mx B gb gm (listFm mx (Tl.gs mx xs ns).2 (Tl.gs mx xs ns).1).1.length f (listFm mx (Tl.gs mx xs ns).2 (Tl.gs mx xs ns).1).1 u2 w2 → Keep gb gm u' u2 wr w2 → Below B wr w2 → TlPost mx B gb gm f (listFm mx (Tl.gs mx xs ns).2 (Tl.gs mx xs ns).1) u w (.returned (.int .i64 (listFm mx (Tl.gs mx xs ns).2 (Tl.gs mx xs ns).1).2)) w2) := fun w2 u2 h1 h2 h3 => ⟨rfl, u2, h1, HS.out.2.1.trans h2, HS.out.2.2.1.trans h3⟩
  clear HS
  go_wp2_with fail
  refine Calls.mono HPL.out ?_
  rintro e w2 ⟨rfl, u2, hbl2, hk2, hb2⟩
  have HE : Hid (TlPost mx B gb gm f (listFm mx (Tl.gs mx xs ns).2 (Tl.gs mx xs ns).1) u w (.returned (.int .i64 (listFm mx (Tl.gs mx xs ns).2 (Tl.gs mx xs ns).1).2)) w2) := HQ.out w2 u2 hbl2 hk2 hb2
  clear hbl2 hk2 hb2 HQ HPL
  go_wp2
  go_ret
  exact HE.out
/-- Terms that are told, one a cell of a row. -/
def ToldAll (L B : Nat) (w : World) (xs : List Tl) (vs : List Value) : Prop := vs.length = xs.length ∧ ∀ m, m < xs.length → ToldIs L B w (xs.getD m (.pl 0)) (vs.getD m undef)
theorem Tl.wfs_at : ∀ (xs : List Tl) (m : Nat), Tl.Wfs xs → m < xs.length → (xs.getD m (.pl 0)).Wf
  | [], m, hw, h => absurd h (by simp)
  | x :: xs, 0, hw, h => hw.1
  | x :: xs, m + 1, hw, h => by simpa using Tl.wfs_at xs m hw.2 (by simpa using h)
theorem ToldAll.ok {L B : Nat} {w : World} {xs : List Tl} {vs : List Value} (h : ToldAll L B w xs vs) (hw : Tl.Wfs xs) : ∀ x ∈ xs, TlOk x := fun x hx => by
  obtain ⟨m, hm, rfl⟩ := List.mem_iff_getElem.1 hx
  have := (h.2 m hm).1 (Tl.wfs_at xs m hw hm)
  rwa [List.getD_eq_getElem?_getD, List.getElem?_eq_getElem hm] at this
theorem toldIs_list {L B g h : Nat} {w : World} (xs : List Tl) (vs : List Value) (h1 : L ≤ g ∧ g < B) (h2 : L ≤ h ∧ h < B) (h4 : w.heap[g]? = some (.cells #[.slice (some ⟨h, 0, none⟩) vs.length vs.length] 188 (0, 0))) (h5 : w.heap[h]? = some (.cells vs.toArray 116 (0, 0))) (h6 : ToldAll L B w xs vs) :
    ToldIs L B w (.list xs) (.func (.func 190) #[] #[.pointer (some ⟨g, 0, none⟩)]) := by
  refine ⟨fun hw => .list (h6.ok hw.2), _, _, rfl, Try.call190, fun hw w' mx B' gb gm fl ns u hmx ha hp hl hb => ?_⟩
  refine tl_list mx B' gb gm fl g h xs vs ns u w' hw.1 (h6.ok hw.2) hmx hl (hp g h1.1 h1.2) (hp h h2.1 h2.2) h6.1 ((ha _ h1.1 h1.2).trans h4) ((ha _ h2.1 h2.2).trans h5) hb (fun m hm => ?_)
  have hy := h6.2 m hm
  obtain ⟨F, cs, e⟩ := hy.fn
  rw [e] at hy
  refine ⟨F, cs, e, hy.eg, fun ns u2 w2 hl hkp hb2 hbl => ?_⟩
  exact hy.callA (Tl.wfs_at xs m hw.2 hm) w2 mx B' gb gm fl ns u2 hmx (fun k hk hk2 => (hkp.atk (hp k hk hk2)).trans (ha k hk hk2)) (fun k hk hk2 => hkp.apt (hp k hk hk2)) hl hbl
end Go.Proofs.Ytffnadnndmmliaa
