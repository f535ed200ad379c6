/- Lists in plain words: what a List has, also in an arena that goes on. -/
import Derived.Test.YtaanophnnkmkbaaGreatPlainFM
import Derived.Test.YtaanophnnkmkbaaGreatPlainText
import Derived.Test.YtaanophnnkmkbaaGreatArenaO
import Derived.Test.YtaanophnnkmkbaaGreatDrawAny
import Derived.Test.YtaanophnnkmkbaaGreatTermPut2
import Derived.Test.YtaanophnnkmkbaaGreatRegionK
import Derived.WalkKit
import Derived.WalkLawsBesides
import Derived.WalkSpells
import Derived.Laws.Rows
import Derived.Laws.OwnMore
import Derived.Laws.ResultCell
import Derived.BigRegion
import Derived.Deep.RegionLaw
import Derived.OneCell
import Derived.Test.YtaanophnnkmkbaaGreatCert10
import Derived.Deep.RegionWith
import Derived.Test.YtaanophnnkmkbaaGreatKeptS
namespace Go.Proofs.YtaanophnnkmkbaaGreat
open Go.RowKit
set_option linter.unusedVariables false
theorem isK_pre {ns ms : List Nd} (h : ns <+: ms) {k j : Int} (hk : isK ns k j = true) : isK ms k j = true ∧ ndAt ms k = ndAt ns k ∧ 0 ≤ k ∧ k < (ns.length : Int) := by
  unfold isK okAt at hk
  simp only [Bool.and_eq_true, decide_eq_true_eq] at hk
  obtain ⟨⟨h1, h2⟩, h3⟩ := hk
  have h4 := inB_true h1
  have e := ndAt_pre h h4.1 (show k < (ns.length : Int) by omega)
  have hl := h.length_le
  refine ⟨?_, e, h4.1, by omega⟩
  unfold isK okAt
  rw [e, inB_mk ⟨h4.1, by omega⟩, show ms.getD k.toNat Nd.zero = ns.getD k.toNat Nd.zero from e, h2, decide_eq_true h3]; rfl
theorem partsN_pre {ns ms : List Nd} (h : ns <+: ms) : ∀ (m : Nat) (k : Int) (xs : List Int), partsN ns m k = some xs → partsN ms m k = some xs
  | 0, k, xs, hp => by
    rw [partsN] at hp ⊢
    split at hp
    · rename_i hk
      obtain ⟨h1, h2, -, -⟩ := isK_pre h hk.1
      rw [if_pos ⟨h1, by rw [h2]; exact hk.2⟩]; exact hp
    · cases hp
  | m + 1, k, xs, hp => by
    rw [partsN] at hp ⊢
    split at hp
    · rename_i hk
      obtain ⟨h1, h2, -, -⟩ := isK_pre h hk
      rw [if_pos h1, h2]
      cases hq : partsN ns m (ndAt ns k).b with
      | none => rw [hq] at hp; cases hp
      | some ys => rw [partsN_pre h m _ ys hq]; rw [hq] at hp; exact hp
    · cases hp
/-- What a List gives. -/
structure Lst (ns ms : List Nd) (k : Int) (xs : List Int) : Prop where
  all : allFrom ms ms 0 = true
  pre : ns <+: ms
  len : ms.length ≤ ns.length + xs.length + 1
  k0 : 0 ≤ k
  k1 : k < (ms.length : Int)
  parts : partsN ms xs.length k = some xs
theorem lst {ns : List Nd} (h : allFrom ns ns 0 = true) : ∀ (xs : List Int), (∀ x ∈ xs, 0 ≤ x ∧ x < (ns.length : Int)) → ns.length + xs.length < 2999 → Lst ns (listF xs ns).1 (listF xs ns).2 xs
  | [], _, hr => by
    have p := put1 h (x := ⟨1, 0, 0, 0⟩) (atom_ok (by decide)) (by simp at hr; omega)
    rw [listF_nil]
    refine ⟨p.all, p.pre, by have := p.len; simpa using this, p.k0, p.k1, ?_⟩
    show partsN _ 0 _ = _
    rw [partsN, if_pos ⟨by rw [isK_of p.all p.k0 p.k1]; exact decide_eq_true (by rw [p.nd]), by rw [p.nd]⟩]
  | x :: xs, hx, hr => by
    have q := lst h xs (fun y hy => hx y (List.mem_cons_of_mem _ hy)) (by simp at hr; omega)
    have hl := q.len
    have hi := q.pre.length_le
    have hx0 := hx x (List.mem_cons_self ..)
    have hr' : ns.length + xs.length + 1 < 2999 := by simpa [Nat.add_assoc] using hr
    have k0 := q.k0
    have k1 := q.k1
    have p := put1 q.all (x := ⟨2, 0, x, (listF xs ns).2⟩) (two_ok (by decide) (by decide) (by omega) (by omega)) (by omega)
    rw [listF_cons]
    simp only [(makeK2 _ _ _).1, (makeK2 _ _ _).2]
    refine ⟨p.all, q.pre.trans p.pre, by have := p.len; simp; omega, p.k0, p.k1, ?_⟩
    have hk : isK (putA (listF xs ns).1 ⟨2, 0, x, (listF xs ns).2⟩) (putK (listF xs ns).1 ⟨2, 0, x, (listF xs ns).2⟩) 2 = true := by rw [isK_of p.all p.k0 p.k1]; exact decide_eq_true (by rw [p.nd])
    show partsN _ (xs.length + 1) _ = _
    rw [partsN_next hk, p.nd]
    simp only
    rw [partsN_pre p.pre _ _ _ q.parts]
    rfl
theorem Lst.parts' {ns ms m2 : List Nd} {k : Int} {xs : List Int} (h : Lst ns ms k xs) (hp : ms <+: m2) {n : Int} (hn : n = (xs.length : Int)) : partsV m2 k n = xs ∧ partsB m2 k n = true := by
  refine parts_some ?_
  unfold partsR
  rw [if_neg (by omega), hn, Int.toNat_natCast]
  exact partsN_pre hp _ _ _ h.parts
/-- A put of a kind with two terms, one with one term, an Atom. -/
theorem mk2 {ns : List Nd} {kind x y : Int} (h : allFrom ns ns 0 = true) (hk : kind = 2 ∨ kind = 4 ∨ kind = 5 ∨ kind = 8 ∨ kind = 9) (hx : 0 ≤ x ∧ x < (ns.length : Int)) (hy : 0 ≤ y ∧ y < (ns.length : Int)) (hr : ns.length < 3000) : Put1 ns (makeA ns kind x y) (makeK ns kind x y) ⟨kind, 0, x, y⟩ := by
  have ho : oneK kind = false := by rcases hk with rfl | rfl | rfl | rfl | rfl <;> rfl
  obtain ⟨e1, e2⟩ := mk_two (ns := ns) (kind := kind) (x := x) (y := y) (by omega) (by omega) ho
  rw [e1, e2]
  exact put1 h (two_ok (by omega) ho hx hy) hr
theorem mk1 {ns : List Nd} {kind x y : Int} (h : allFrom ns ns 0 = true) (hk : kind = 3 ∨ kind = 6) (hx : 0 ≤ x ∧ x < (ns.length : Int)) (hr : ns.length < 3000) : Put1 ns (makeA ns kind x y) (makeK ns kind x y) ⟨kind, 0, x, 0⟩ := by
  have ho : oneK kind = true := by rcases hk with rfl | rfl <;> rfl
  obtain ⟨e1, e2⟩ := mk_one (ns := ns) (kind := kind) (x := x) (y := y) (by omega) (by omega) ho
  rw [e1, e2]
  exact put1 h (one_ok (by omega) ho hx) hr
theorem atom1 {ns : List Nd} {n : Int} (h : allFrom ns ns 0 = true) (hn : 0 ≤ n ∧ n ≤ 999999) (hr : ns.length < 3000) : Put1 ns (putA ns ⟨1, n, 0, 0⟩) (putK ns ⟨1, n, 0, 0⟩) ⟨1, n, 0, 0⟩ := put1 h (atom_ok hn) hr
/-- What a put gives, further on. -/
theorem Put1.isK {ns ms m2 : List Nd} {k : Int} {x : Nd} (h : Put1 ns ms k x) (hp : ms <+: m2) : isK m2 k x.k = true ∧ ndAt m2 k = x := by
  have h1 : Go.Proofs.YtaanophnnkmkbaaGreat.isK ms k x.k = true := by rw [isK_of h.all h.k0 h.k1]; exact decide_eq_true (by rw [h.nd])
  obtain ⟨q1, q2, -, -⟩ := isK_pre hp h1
  exact ⟨q1, q2.trans h.nd⟩
theorem Put1.num {ns ms m2 : List Nd} {k n : Int} (h : Put1 ns ms k ⟨1, n, 0, 0⟩) (hp : ms <+: m2) : Go.Proofs.YtaanophnnkmkbaaGreat.isK m2 k 1 = true ∧ numV m2 k = n := by
  obtain ⟨h1, h2⟩ := h.isK hp
  refine ⟨h1, ?_⟩
  unfold numV
  rw [if_pos h1, h2]
/-- Nodes that are put fit. -/
theorem putA_fits {ns : List Nd} {x : Nd} (hf : ∀ y ∈ ns, y.Fits) (hl : ns.length ≤ 1048576) : ∀ y ∈ putA ns x, y.Fits := by
  unfold putA
  split
  · rename_i h
    intro y hy
    rcases List.mem_append.1 hy with hy | hy
    · exact hf y hy
    · rw [List.mem_singleton.1 hy]
      exact right_fits h.1 (by omega)
  · exact hf
theorem makeA_fits {ns : List Nd} {k x y : Int} (hf : ∀ y ∈ ns, y.Fits) (hl : ns.length ≤ 1048576) : ∀ z ∈ makeA ns k x y, z.Fits := by
  unfold makeA; split
  · exact hf
  · exact putA_fits hf hl
theorem listF_fits (xs : List Int) {ns : List Nd} (hf : ∀ y ∈ ns, y.Fits) (hl : ns.length ≤ 1048576) : ∀ z ∈ (listF xs ns).1, z.Fits := by
  induction xs with
  | nil => rw [listF_nil]; exact putA_fits hf hl
  | cons x xs ih => rw [listF_cons]; simp only; exact makeA_fits ih (listF_le xs hl)
end Go.Proofs.YtaanophnnkmkbaaGreat

namespace Go.Proofs.YtaanophnnkmkbaaGreat
open Go.RowKit
set_option linter.unusedVariables false
theorem OwnN.blk {B : Nat} {w : World} {a : Option Addr} {n cap : Nat} {ns : List Nd} (h : OwnN B w (.slice a n cap) ns) (hm : ns ≠ []) {b off : Nat} (e : a = some ⟨b, off, none⟩) : (Value.slice a n cap).ownBlock = some b := by
  subst e
  rcases h.2 with ⟨h0, _⟩ | ⟨g, c, cur, hv, _⟩
  · cases h0
  · simp only [Value.slice.injEq, Option.some.injEq, Addr.mk.injEq] at hv
    obtain ⟨⟨rfl, -⟩, -⟩ := hv
    rfl
theorem OwnN.off {B : Nat} {w : World} {a : Option Addr} {n cap : Nat} {ns : List Nd} (h : OwnN B w (.slice a n cap) ns) (hm : ns ≠ []) {b off : Nat} (e : a = some ⟨b, off, none⟩) : off = 0 := by
  subst e
  rcases h.2 with ⟨h0, _⟩ | ⟨g, c, cur, hv, _⟩
  · cases h0
  · simp only [Value.slice.injEq, Option.some.injEq, Addr.mk.injEq] at hv
    exact hv.1.2.1
/-- The header of the arena as it is read. -/
theorem hdr_of {D : Nat → Prop} {w : World} {g : Nat} {ns : List Nd} (h : ArD D w g ns) : ∃ a c, w.heap[g]? = some (.cells #[.slice a ns.length c] 26 (0, 0)) ∧ AddrN a c ∧ OldN w g ns a ns := by
  obtain ⟨h1, h2, v, h3, h4, h5, h6⟩ := h
  obtain ⟨a, c, rfl, ha, hr⟩ := h4.row
  exact ⟨a, c, h3, ha, _, h3, hr, fun b off e hm => ⟨fun eb => h5 (by rw [OwnN.blk h4 hm e, eb]), fun _ => ⟨OwnN.off h4 hm e, List.prefix_refl _⟩⟩⟩
theorem hdr_far {D : Nat → Prop} {w : World} {g : Nat} {ns : List Nd} {a : Option Addr} {n c : Nat} (h : ArD D w g ns) (hv : w.heap[g]? = some (.cells #[.slice a n c] 26 (0, 0))) : ∀ b off, a = some ⟨b, off, none⟩ → ns ≠ [] → ¬ D b := fun b off e hm => by
  obtain ⟨h1, h2, v, h3, h4, h5, h6⟩ := h
  obtain rfl : v = .slice a n c := by rw [h3] at hv; simpa using hv
  exact h6 b (OwnN.blk h4 hm e)
end Go.Proofs.YtaanophnnkmkbaaGreat

namespace Go.Proofs.YtaanophnnkmkbaaGreat
open Go.RowKit
set_option linter.unusedVariables false

end Go.Proofs.YtaanophnnkmkbaaGreat

namespace Go.Proofs.YtaanophnnkmkbaaGreat
open Go.RowKit
set_option linter.unusedVariables false
theorem res_cell4 {P : Program} {fn : Func} {p u v x : Tmp} {ty : TypeId} (h : fn.results = #[.cell p ty, .tmp u, .tmp v, .tmp x]) (tmps : Array Value) (w : World) (g : Nat) (t : TypeId) (cs : Array Value) (fr : Nat × Nat) (d : TypeDesc)
    (hp : tmps.getD p undef = .pointer (some ⟨g, 0, none⟩)) (hg : w.heap[g]? = some (.cells cs t fr))
    (hu : P.underlying ty = some d) (hd : (match d with | .struct _ | .array _ _ => true | _ => false) = true) (hi : (P.info? ty).map (·.size) = some cs.size) :
    (results fn tmps).run P w = .ok (.tuple #[.agg cs, tmps.getD u undef, tmps.getD v undef, tmps.getD x undef]) w := by
  have hp' : tmps[p]?.getD undef = .pointer (some ⟨g, 0, none⟩) := by simpa using hp
  simp [results, h, hp', asAddr, run_loadVar_row w g t ty cs fr d hg hu hd hi]
end Go.Proofs.YtaanophnnkmkbaaGreat

namespace Go.Proofs.YtaanophnnkmkbaaGreat
open Go.RowKit
set_option linter.unusedVariables false
theorem putK_range (ns : List Nd) (x : Nd) : -1 ≤ putK ns x ∧ putK ns x ≤ (ns.length : Int) := by
  unfold putK
  split
  · split
    · omega
    · have := findN_range ns x; omega
  · omega
theorem makeK_range (ns : List Nd) (kd x y : Int) : -1 ≤ makeK ns kd x y ∧ makeK ns kd x y ≤ (ns.length : Int) := by
  unfold makeK
  split
  · omega
  · exact putK_range _ _
theorem listF_range (xs : List Int) {ns : List Nd} (hl : ns.length ≤ 1048576) : -1 ≤ (listF xs ns).2 ∧ (listF xs ns).2 ≤ 1048576 := by
  cases xs with
  | nil => rw [listF_nil]; simp only; have := putK_range ns ⟨1, 0, 0, 0⟩; omega
  | cons x xs => rw [listF_cons]; simp only; have := makeK_range (listF xs ns).1 2 x (listF xs ns).2; have := listF_le xs hl; omega
theorem keptA_fits {ns A : List Nd} {K : Int} (hf : ∀ y ∈ ns, y.Fits) (hA : ∀ y ∈ A, y.Fits) : ∀ y ∈ keptA ns A K, y.Fits := by
  unfold keptA; split
  · exact hf
  · exact hA
theorem lgA_fits {ns : List Nd} {n : Int} (hf : ∀ y ∈ ns, y.Fits) (hl : ns.length ≤ 1048576) : ∀ y ∈ lgA ns n, y.Fits := by
  unfold lgA; split
  · exact putA_fits hf hl
  · exact hf
theorem crA_fits {ns : List Nd} {n : Int} (hf : ∀ y ∈ ns, y.Fits) (hl : ns.length ≤ 1048576) : ∀ y ∈ crA ns n, y.Fits := by
  have h2 : ∀ y ∈ crA2 ns, y.Fits := putA_fits (putA_fits hf hl) (putA_le2 hl)
  have h3 : ∀ y ∈ crA3 ns n, y.Fits := putA_fits h2 (crA2_le hl)
  have h5 : ∀ y ∈ crA5 ns n, y.Fits := makeA_fits (lgA_fits h3 (crA3_le hl)) (lgA_le (crA3_le hl))
  exact makeA_fits (listF_fits _ h5 (crA5_le hl)) (crL_le hl)
theorem crK_range {ns : List Nd} {n : Int} (hl : ns.length ≤ 1048576) : -1 ≤ crK ns n ∧ crK ns n ≤ 1048576 := by
  have := makeK_range (crL ns n).1 8 (crK1 ns) (crL ns n).2
  have := crL_le (n := n) hl
  unfold crK; omega
def Hdr (D : Nat → Prop) (a : Option Addr) (c : Nat) (ms : List Nd) : Prop := AddrN a c ∧ ms.length ≤ 1048576 ∧ (∀ y ∈ ms, y.Fits) ∧ ∀ b off, a = some ⟨b, off, none⟩ → ms ≠ [] → ¬ D b
def EndD (w : World) (a9 : Option Addr) (c9 : Nat) (ms : List Nd) (vz : World) : Prop :=
  vz.heap[w.heap.size]? = some (.cells #[.slice none 0 0] 26 (0, 0)) ∧ AddrN a9 c9 ∧ ms.length ≤ 1048576 ∧ (∀ y ∈ ms, y.Fits) ∧ (vz.setCell ⟨w.heap.size, 0, none⟩ (.slice a9 ms.length c9)).heap[w.heap.size]? = some (.cells #[.slice a9 ms.length c9] 26 (0, 0)) ∧ RowN (vz.setCell ⟨w.heap.size, 0, none⟩ (.slice a9 ms.length c9)).heap.size (vz.setCell ⟨w.heap.size, 0, none⟩ (.slice a9 ms.length c9)) a9 ms ∧ Below w.heap.size w (vz.setCell ⟨w.heap.size, 0, none⟩ (.slice a9 ms.length c9))
end Go.Proofs.YtaanophnnkmkbaaGreat

namespace Go.Proofs.YtaanophnnkmkbaaGreat
open Go.RowKit
set_option linter.unusedVariables false
theorem Cur.keep {B g : Nat} {w w' : World} (h : Cur B w g) (hb : Below (g + 1) w w') : Cur B w' g := by
  obtain ⟨h1, h2, a, len, cap, i, hh, h3, h4, h5⟩ := h
  refine ⟨h1, Nat.lt_of_lt_of_le h2 hb.size, a, len, cap, i, hh, h3, ⟨h4.1, ?_⟩, (hb.block g (by omega)).trans h5⟩
  rcases h4.2 with h0 | ⟨b, off, rfl, hbB, hc⟩
  · exact .inl h0
  · exact .inr ⟨b, off, rfl, hbB, fun i hi => by
      obtain ⟨z, hz, h1⟩ := hc i hi
      exact ⟨z, (hb.cell (p := ⟨b, off + i, none⟩) (show b < g + 1 by omega)).trans hz, h1⟩⟩
theorem Dq.put {w : World} {B g ga : Nat} {ns ms : List Nd} {wr w1 : World} (h : Dq w B g ga ns wr) (ha : ArenaAt (w.heap.size + 1) w1 ga ms) (hb : Below (w.heap.size + 1) wr w1) : Dq w B g ga ms w1 :=
  ⟨ha, h.cur.keep (hb.mono (by have := h.lt; omega)), grown_then h.gr (hb.mono (by omega)), (hb.block _ (by omega)).trans h.box, h.lt⟩
theorem Dq.step {w : World} {B g ga : Nat} {ns : List Nd} {wr w1 : World} (h : Dq w B g ga ns wr) (hc : Cur B w1 g) (hg : wr.grownBy w1 (some g)) : Dq w B g ga ns w1 :=
  ⟨h.at_.cur hg (by have := h.lt; omega), hc, grown_trans h.gr hg, (hg.block w.heap.size (Array.getElem?_eq_some_iff.1 h.box).1 (by have := h.lt; simp; omega)).trans h.box, h.lt⟩
theorem Dq.size {w : World} {B g ga : Nat} {ns : List Nd} {wr : World} (h : Dq w B g ga ns wr) : w.heap.size + 1 ≤ wr.heap.size := by have := h.at_.1; have := h.at_.2.1; omega
theorem putK_rg (ns : List Nd) (x : Nd) : -1 ≤ putK ns x ∧ putK ns x ≤ (ns.length : Int) := by
  unfold putK
  split
  · split
    · omega
    · have := findN_range ns x; omega
  · omega
theorem makeK_rg (ns : List Nd) (kd x y : Int) : -1 ≤ makeK ns kd x y ∧ makeK ns kd x y ≤ (ns.length : Int) := by
  unfold makeK
  split
  · omega
  · exact putK_rg _ _
theorem putA_len1 (ns : List Nd) (x : Nd) : (putA ns x).length ≤ ns.length + 1 := by unfold putA; split <;> simp
theorem makeA_len1 (ns : List Nd) (kd x y : Int) : (makeA ns kd x y).length ≤ ns.length + 1 := by
  unfold makeA
  split
  · omega
  · exact putA_len1 _ _
set_option maxHeartbeats 3200000 in
set_option maxRecDepth 20000 in
theorem arena11_any (B g : Nat) (w : World) (hc : Cur B w g) :
    Calls Tryz.prog 45 #[.pointer (some ⟨g, 0, none⟩)] w fun e w' => ∃ v ns, ∃ no pu : Int, e = .returned (.tuple #[.agg #[v], .int .i64 no, .int .i64 pu]) ∧ ns.length ≤ 17 ∧ (∀ y ∈ ns, y.Fits) ∧ -1 ≤ no ∧ no ≤ 20 ∧ -1 ≤ pu ∧ pu ≤ 20 ∧ OwnN w.heap.size w' v ns ∧ Cur B w' g ∧ w.grownBy w' (some g) := by
  have hgl := hc.2.1
  have hb0 : Below w.heap.size w (w.alloc (.cells #[.slice none 0 0] 26)) := (Below.refl _ _).alloc (Nat.le_refl _) _
  have hx0 := heap_alloc_new w (.cells #[.slice none 0 0] 26)
  have hc0 := hc.grown hb0
  have hg0 := grown_below hb0 (some g)
  have hs0 : (w.alloc (.cells #[.slice none 0 0] 26)).heap.size = w.heap.size + 1 := by simp
  clear hc
  go_enter Tryz.func45, Tryz.ntmps45
  go_wp2_with fail
  generalize w.alloc (.cells #[.slice none 0 0] 26) = w0 at hb0 hx0 hc0 hg0 hs0 ⊢
  refine (anyArena_any B g _ hc0).mono ?_
  rintro e w1 ⟨v3, ns, rfl, hn1, hn2, hfit, ho3, hc1, hg1⟩
  obtain ⟨a3, cap3, rfl, _, _⟩ := ho3.row
  obtain ⟨ga, HGA⟩ : ∃ ga, Hid (w1.heap.size = ga) := ⟨_, rfl⟩
  have hbx : Below w1.heap.size w1 (w1.alloc (.cells #[.slice a3 ns.length cap3] 26)) := (Below.refl _ _).alloc (Nat.le_refl _) _
  have hs1 := hg1.size
  have HQ0 : Hid (Dq w B g w1.heap.size ns (w1.alloc (.cells #[.slice a3 ns.length cap3] 26))) := ⟨⟨by omega, by simp, _, heap_alloc_new w1 _, OwnN.base (ho3.later hbx) (by omega), fun e => by have := (ho3.lt _ e).2; omega⟩, hc1.grown hbx, grown_then (grown_trans hg0 hg1) (hbx.mono (by omega)), (hbx.block _ (by omega)).trans ((hg1.block w.heap.size (by omega) (by simp; omega)).trans hx0), hgl⟩
  have HF0 : Hid (∀ y ∈ ns, y.Fits) := hfit
  clear ho3 hc1 hg1 hbx hx0 hc0 hg0 hb0 hfit
  have hu0 : (w1.alloc (.cells #[.slice a3 ns.length cap3] 26)).heap.size = w1.heap.size + 1 := by simp
  go_wp2_with fail
  rw [HGA.out] at HQ0 hu0 ⊢
  generalize w1.alloc (.cells #[.slice a3 ns.length cap3] 26) = u0 at HQ0 hu0 ⊢
  have hbp : Below u0.heap.size u0 (u0.alloc (.cells #[.int .i64 10001, .int .i64 10011, .int .i64 1000, .int .i64 999] 3)) := (Below.refl _ _).alloc (Nat.le_refl _) _
  have hrow := heap_alloc_new u0 (.cells #[.int .i64 10001, .int .i64 10011, .int .i64 1000, .int .i64 999] 3)
  have HQ0p : Hid (Dq w B g ga (ns) (u0.alloc (.cells #[.int .i64 10001, .int .i64 10011, .int .i64 1000, .int .i64 999] 3))) := HQ0.out.made hbp
  have HCL : Hid (∀ i, i < 4 → (u0.alloc (.cells #[.int .i64 10001, .int .i64 10011, .int .i64 1000, .int .i64 999] 3)).cell? ⟨u0.heap.size, i, none⟩ = some (.int .i64 (([10001, 10011, 1000, 999] : List Int).getD i 0))) := fun i hi => by
    rw [cell_of_row _ _ i _ _ _ hrow]
    rcases (show i = 0 ∨ i = 1 ∨ i = 2 ∨ i = 3 by omega) with rfl | rfl | rfl | rfl <;> rfl
  have hgu : u0.heap.size ≠ g := by have := HQ0.out.lt; have := HQ0.out.size; omega
  clear hbp hrow HQ0
  rw [hu0] at HCL hgu
  refine (pickInt_any B g (ga + 1) 4 _ [10001, 10011, 1000, 999] _ (by omega) (by omega) rfl hgu HCL.out HQ0p.out.cur).mono ?_
  rintro e u1 ⟨z1, hz1, rfl, hc, hg⟩
  have hbz1 : 999 ≤ z1 ∧ z1 ≤ 10011 := by simp at hz1; omega
  have HQ1 : Hid (Dq w B g ga (ns) u1) := HQ0p.out.step hc hg
  clear hc hg HCL hgu hz1 HQ0p
  go_wp2_with fail
  refine (specAtomP_any (w.heap.size + 1) ga ns z1 u1 (by omega) HQ1.out.at_ HQ1.out.size).mono ?_
  rintro e u2 ⟨rfl, ha, hb⟩
  have HQ2 : Hid (Dq w B g ga (putA ns ⟨1, z1, 0, 0⟩) u2) := HQ1.out.put ha hb
  clear ha hb HQ1
  obtain ⟨n1, k1, hN1, hk1, hl1, HF1, hkr1⟩ : ∃ n1 k1, putA ns ⟨1, z1, 0, 0⟩ = n1 ∧ putK ns ⟨1, z1, 0, 0⟩ = k1 ∧ n1.length ≤ 15 ∧ Hid (∀ y ∈ n1, y.Fits) ∧ (-1 ≤ k1 ∧ k1 ≤ 20) := ⟨_, _, rfl, rfl, by have := putA_len1 ns ⟨1, z1, 0, 0⟩; omega, putA_fits HF0.out (by omega), by have := putK_rg ns ⟨1, z1, 0, 0⟩; omega⟩
  rw [hk1]
  rw [hN1] at HQ2
  clear hN1 hk1 HF0
  have hbp : Below u2.heap.size u2 (u2.alloc (.cells #[.int .i64 10000, .int .i64 5000] 3)) := (Below.refl _ _).alloc (Nat.le_refl _) _
  have hrow := heap_alloc_new u2 (.cells #[.int .i64 10000, .int .i64 5000] 3)
  have HQ2p : Hid (Dq w B g ga (n1) (u2.alloc (.cells #[.int .i64 10000, .int .i64 5000] 3))) := HQ2.out.made hbp
  have HCL : Hid (∀ i, i < 2 → (u2.alloc (.cells #[.int .i64 10000, .int .i64 5000] 3)).cell? ⟨u2.heap.size, i, none⟩ = some (.int .i64 (([10000, 5000] : List Int).getD i 0))) := fun i hi => by
    rw [cell_of_row _ _ i _ _ _ hrow]
    rcases (show i = 0 ∨ i = 1 by omega) with rfl | rfl <;> rfl
  have hgu : u2.heap.size ≠ g := by have := HQ2.out.lt; have := HQ2.out.size; omega
  clear hbp hrow HQ2
  go_wp2_with fail
  refine (pickInt_any B g u2.heap.size 2 _ [10000, 5000] _ (by omega) (by omega) rfl hgu HCL.out HQ2p.out.cur).mono ?_
  rintro e u3 ⟨z2, hz2, rfl, hc, hg⟩
  have hbz2 : 5000 ≤ z2 ∧ z2 ≤ 10000 := by simp at hz2; omega
  have HQ3 : Hid (Dq w B g ga (n1) u3) := HQ2p.out.step hc hg
  clear hc hg HCL hgu hz2 HQ2p
  go_wp2_with fail
  refine (specAtomP_any (w.heap.size + 1) ga n1 z2 u3 (by omega) HQ3.out.at_ HQ3.out.size).mono ?_
  rintro e u4 ⟨rfl, ha, hb⟩
  have HQ4 : Hid (Dq w B g ga (putA n1 ⟨1, z2, 0, 0⟩) u4) := HQ3.out.put ha hb
  clear ha hb HQ3
  obtain ⟨n2, k2, hN2, hk2, hl2, HF2⟩ : ∃ n2 k2, putA n1 ⟨1, z2, 0, 0⟩ = n2 ∧ putK n1 ⟨1, z2, 0, 0⟩ = k2 ∧ n2.length ≤ 16 ∧ Hid (∀ y ∈ n2, y.Fits) := ⟨_, _, rfl, rfl, by have := putA_len1 n1 ⟨1, z2, 0, 0⟩; omega, putA_fits HF1.out (by omega)⟩
  rw [hk2]
  rw [hN2] at HQ4
  clear hN2 hk2 HF1
  go_wp2_with fail
  refine (specMakeP_any (w.heap.size + 1) ga n2 6 k2 0 u4 (by omega) HQ4.out.at_ HQ4.out.size).mono ?_
  rintro e u5 ⟨rfl, ha, hb⟩
  have HQ5 : Hid (Dq w B g ga (makeA n2 6 k2 0) u5) := HQ4.out.put ha hb
  clear ha hb HQ4
  obtain ⟨n3, k3, hN3, hk3, hl3, HF3, hkr3⟩ : ∃ n3 k3, makeA n2 6 k2 0 = n3 ∧ makeK n2 6 k2 0 = k3 ∧ n3.length ≤ 17 ∧ Hid (∀ y ∈ n3, y.Fits) ∧ (-1 ≤ k3 ∧ k3 ≤ 20) := ⟨_, _, rfl, rfl, by have := makeA_len1 n2 6 k2 0; omega, makeA_fits HF2.out (by omega), by have := makeK_rg n2 6 k2 0; omega⟩
  rw [hk3]
  rw [hN3] at HQ5
  clear hN3 hk3 HF2
  go_wp2_with fail
  refine (once_any B g 8 _ (by omega) (by omega) HQ5.out.cur).mono ?_
  rintro e u6 ⟨on, rfl, hc, hg⟩
  have HQ6 : Hid (Dq w B g ga n3 u6) := HQ5.out.step hc hg
  clear hc hg HQ5
  obtain ⟨t1, t2, tv, t3, t4, t5⟩ := HQ6.out.at_
  obtain ⟨av, cw, rfl, _, _⟩ := t4.row
  have ca : u6.cell? ⟨ga, 0, none⟩ = some (.slice av n3.length cw) := (cell_of_row _ _ 0 _ _ _ t3).trans rfl
  have r0 : u6.cell? ⟨w.heap.size, 0, none⟩ = some (.slice none 0 0) := (cell_of_row _ _ 0 _ _ _ HQ6.out.box).trans rfl
  have f0 : u6.frozen? ⟨w.heap.size, 0, none⟩ = false := frozen_of_row _ _ 0 _ _ HQ6.out.box
  have HBL : Hid ((u6.setCell ⟨w.heap.size, 0, none⟩ (.slice av n3.length cw)).heap[w.heap.size]? = some (.cells #[.slice av n3.length cw] 26 (0, 0))) := (heap_setCell_same _ _ 0 _ _ _ HQ6.out.box).trans rfl
  have tB : Below w.heap.size u6 (u6.setCell ⟨w.heap.size, 0, none⟩ (.slice av n3.length cw)) := (Below.refl w.heap.size _).setCell (show w.heap.size ≤ w.heap.size by omega) _
  have HEN : Hid (OwnN w.heap.size (u6.setCell ⟨w.heap.size, 0, none⟩ (.slice av n3.length cw)) (.slice av n3.length cw) n3 ∧ Cur B (u6.setCell ⟨w.heap.size, 0, none⟩ (.slice av n3.length cw)) g ∧ w.grownBy (u6.setCell ⟨w.heap.size, 0, none⟩ (.slice av n3.length cw)) (some g)) := ⟨OwnN.base (ownsRow_setCell_below t4 (show w.heap.size < w.heap.size + 1 by omega) _) (by omega), HQ6.out.cur.keep (tB.mono (by omega)), grown_then HQ6.out.gr tB⟩
  clear t1 t2 t3 t4 t5 tB HQ6
  cases on
  · go_wp2
    refine bodyPost_ret (res_cell3 rfl _ _ w.heap.size 26 #[.slice av n3.length cw] (0, 0) _ rfl ?_ Tryz.underlying26 rfl arenaSize) rfl ?_
    · exact HBL.out
    · exact ⟨_, n3, _, _, rfl, hl3, HF3.out, by omega, by omega, by omega, by omega, HEN.out.1, HEN.out.2.1, HEN.out.2.2⟩
  · go_wp2
    refine bodyPost_ret (res_cell3 rfl _ _ w.heap.size 26 #[.slice av n3.length cw] (0, 0) _ rfl ?_ Tryz.underlying26 rfl arenaSize) rfl ?_
    · exact HBL.out
    · exact ⟨_, n3, _, _, rfl, hl3, HF3.out, by omega, by omega, by omega, by omega, HEN.out.1, HEN.out.2.1, HEN.out.2.2⟩
end Go.Proofs.YtaanophnnkmkbaaGreat
