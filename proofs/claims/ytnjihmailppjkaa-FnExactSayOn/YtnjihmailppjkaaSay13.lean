/- The contract of chapter 13's l13Say, the specification's. -/
import Derived.Test.YtnjihmailppjkaaSpec13
import Derived.Test.YtnjihmailppjkaaHdrO
import Derived.Test.YtnjihmailppjkaaHead8
import Derived.Test.YtnjihmailppjkaaRec8
import Derived.Test.YtnjihmailppjkaaMakeList
import Derived.Test.YtnjihmailppjkaaRowTo
import Derived.Deep.RegionHeld3
namespace Go.Proofs.Ytnjihmailppjkaa
open Go.RowKit
set_option linter.unusedVariables false
set_option linter.unusedSimpArgs false
/-- The key of an epoch and a side. -/
def seA (ns : List Nd) (ap ep sd : Int) : List Nd := sideA (epochA ns ap ep) (epochK ns ap ep) sd
def seK (ns : List Nd) (ap ep sd : Int) : Int := sideK (epochA ns ap ep) (epochK ns ap ep) sd
def syA (ns : List Nd) (x : Ch) (b : Int) : List Nd := recA (seA ns x.a x.e x.s) (seK ns x.a x.e x.s) x.e x.q b
def syK (ns : List Nd) (x : Ch) (b : Int) : Int := recK (seA ns x.a x.e x.s) (seK ns x.a x.e x.s) x.e x.q b
def sayB (ns : List Nd) (x : Ch) (b : Int) : Bool := chanB ns x && decide (0 ≤ syK ns x b)
def sayA (ns : List Nd) (x : Ch) (b : Int) : List Nd := if sayB ns x b = true then syA ns x b else ns
def sayK (ns : List Nd) (x : Ch) (b : Int) : Int := if sayB ns x b = true then syK ns x b else -1
def sayC (ns : List Nd) (x : Ch) (b : Int) : Ch := if sayB ns x b = true then ⟨x.a, x.s, x.e, x.q + 1, x.h, x.t, x.u, x.l, x.m⟩ else x
theorem epochF_pre (ns : List Nd) (k : Int) : ∀ m, ns <+: (epochF ns k m).1
  | 0 => List.prefix_refl _
  | m + 1 => (epochF_pre ns k m).trans (sideA_pre _ _ _)
theorem epochA_pre (ns : List Nd) (k e : Int) : ns <+: epochA ns k e := by
  unfold epochA; split
  · exact epochF_pre _ _ _
  · exact List.prefix_refl _
theorem seA_le {ns : List Nd} {ap ep sd : Int} (h : ns.length ≤ 1048576) : (seA ns ap ep sd).length ≤ 1048576 := sideA_le (epochA_le h)
theorem seA_pre (ns : List Nd) (ap ep sd : Int) : ns <+: seA ns ap ep sd := (epochA_pre _ _ _).trans (sideA_pre _ _ _)
theorem recA_pre (ns : List Nd) (key e s body : Int) : ns <+: recA ns key e s body := by
  unfold recA; split
  · exact ((putA_pre _ _).trans (putA_pre _ _)).trans ((listF_pre _ _).trans ((makeA_preA _ _ _ _).trans (listF_pre _ _)))
  · exact List.prefix_refl _
theorem syA_take (ns : List Nd) (x : Ch) (b : Int) : (syA ns x b).take ns.length = ns ∧ ns.length ≤ (syA ns x b).length := by
  have h : ns <+: syA ns x b := (seA_pre _ _ _ _).trans (recA_pre _ _ _ _ _)
  exact ⟨(List.prefix_iff_eq_take.1 h).symm, h.length_le⟩
theorem ArD.wide2 {D : Nat → Prop} {g : Nat} {w : World} {ns : List Nd} (h : ArD D w g ns) (w' : World) (hb : Below w.heap.size w w') (m : Nat) : ArD (fun k => D k ∨ (w.heap.size ≤ k ∧ k < m)) w' g ns := by
  obtain ⟨h1, h2, v, h3, h4, h5, h6⟩ := h.later hb
  obtain ⟨_, q2, u, q3, q4, _, _⟩ := h
  have e : u = v := by have := (hb.block g q2).trans q3; rw [h3] at this; simpa using this.symm
  subst e
  refine ⟨fun hk => hk.elim h1 (fun e => by omega), h2, u, h3, h4, h5, fun k hk hd => hd.elim (h6 k hk) (fun e => ?_)⟩
  have := (q4.lt k hk).2
  omega
theorem ArD.setCell {D : Nat → Prop} {g : Nat} {w : World} {ns : List Nd} (h : ArD D w g ns) {p : Addr} (hp : D p.block) (v : Value) : ArD D (w.setCell p v) g ns := by
  obtain ⟨h1, h2, u, h3, h4, h5, h6⟩ := h
  have hg : g ≠ p.block := fun e => h1 (by rw [e]; exact hp)
  refine ⟨h1, by simpa using h2, u, (Below.heap_setCell _ _ _ _ hg).trans h3, ⟨h4.1, ?_⟩, h5, h6⟩
  rcases h4.2 with h0 | ⟨b, cp, cur, e, q1, q2, q3⟩
  · exact .inl h0
  · exact .inr ⟨b, cp, cur, e, q1, (Below.heap_setCell _ _ _ _ (fun eb => h6 b (by rw [e]; rfl) (by rw [eb]; exact hp))).trans q2, q3⟩
theorem ArD.setRow {D : Nat → Prop} {g : Nat} {w : World} {ns : List Nd} (h : ArD D w g ns) {p : Nat} (hp : D p) (cs : Array Value) : ArD D (w.setRow p cs) g ns := by
  obtain ⟨h1, h2, u, h3, h4, h5, h6⟩ := h
  have hg : g ≠ p := fun e => h1 (by rw [e]; exact hp)
  refine ⟨h1, by simpa [World.setRow] using h2, u, (setRow_other _ _ _ _ hg).trans h3, ⟨h4.1, ?_⟩, h5, h6⟩
  rcases h4.2 with h0 | ⟨b, cp, cur, e, q1, q2, q3⟩
  · exact .inl h0
  · exact .inr ⟨b, cp, cur, e, q1, (setRow_other _ _ _ _ (fun eb => h6 b (by rw [e]; rfl) (by rw [eb]; exact hp))).trans q2, q3⟩
theorem Safe.setRow {D : Nat → Prop} {a w : World} (h : Safe D a w) {p : Nat} (hp : ¬ D p) (cs : Array Value) : Safe D a (w.setRow p cs) := ⟨h.os, h.tape, h.output, by simpa [World.setRow] using h.size, fun k hk => (setRow_other _ _ _ _ (fun e => hp (by rw [← e]; exact hk))).trans (h.block k hk)⟩
set_option maxHeartbeats 6400000 in
set_option maxRecDepth 20000 in
theorem specSay_any (D : Nat → Prop) (g : Nat) (ns : List Nd) (x : Ch) (b : Int) (w : World) (hl : ns.length ≤ 1048576) (h : ArD D w g ns) (hB : ∀ k, D k → k < w.heap.size) :
    Calls Try.prog 39 #[.pointer (some ⟨g, 0, none⟩), .agg #[.int .i64 x.a, .int .i64 x.s, .int .i64 x.e, .int .i64 x.q, .int .i64 x.h, .int .i64 x.t, .int .i64 x.u, .int .i64 x.l, .int .i64 x.m], .int .i64 b] w fun e w' => e = .returned (.tuple #[.agg #[.int .i64 (sayC ns x b).a, .int .i64 (sayC ns x b).s, .int .i64 (sayC ns x b).e, .int .i64 (sayC ns x b).q, .int .i64 (sayC ns x b).h, .int .i64 (sayC ns x b).t, .int .i64 (sayC ns x b).u, .int .i64 (sayC ns x b).l, .int .i64 (sayC ns x b).m], .int .i64 (sayK ns x b)]) ∧ ArD D w' g (sayA ns x b) ∧ Safe D w w' := by
  have hb0 : Below w.heap.size w ((w.alloc (.cells #[.int .i64 x.a, .int .i64 x.s, .int .i64 x.e, .int .i64 x.q, .int .i64 x.h, .int .i64 x.t, .int .i64 x.u, .int .i64 x.l, .int .i64 x.m] 25)).alloc (.cells #[.int .i64 0, .int .i64 0, .int .i64 0, .int .i64 0, .int .i64 0, .int .i64 0, .int .i64 0, .int .i64 0, .int .i64 0] 25)) := ((Below.refl _ _).alloc (Nat.le_refl _) _).alloc (by simp) _
  have hX0 : ((w.alloc (.cells #[.int .i64 x.a, .int .i64 x.s, .int .i64 x.e, .int .i64 x.q, .int .i64 x.h, .int .i64 x.t, .int .i64 x.u, .int .i64 x.l, .int .i64 x.m] 25)).alloc (.cells #[.int .i64 0, .int .i64 0, .int .i64 0, .int .i64 0, .int .i64 0, .int .i64 0, .int .i64 0, .int .i64 0, .int .i64 0] 25)).heap[w.heap.size]? = some (.cells #[.int .i64 x.a, .int .i64 x.s, .int .i64 x.e, .int .i64 x.q, .int .i64 x.h, .int .i64 x.t, .int .i64 x.u, .int .i64 x.l, .int .i64 x.m] 25 (0, 0)) := (heap_alloc_old _ _ (by simp)).trans (heap_alloc_new w _)
  have hZ0 : ((w.alloc (.cells #[.int .i64 x.a, .int .i64 x.s, .int .i64 x.e, .int .i64 x.q, .int .i64 x.h, .int .i64 x.t, .int .i64 x.u, .int .i64 x.l, .int .i64 x.m] 25)).alloc (.cells #[.int .i64 0, .int .i64 0, .int .i64 0, .int .i64 0, .int .i64 0, .int .i64 0, .int .i64 0, .int .i64 0, .int .i64 0] 25)).heap[(w.heap.size + 1)]? = some (.cells #[.int .i64 0, .int .i64 0, .int .i64 0, .int .i64 0, .int .i64 0, .int .i64 0, .int .i64 0, .int .i64 0, .int .i64 0] 25 (0, 0)) := by have := heap_alloc_new (w.alloc (.cells #[.int .i64 x.a, .int .i64 x.s, .int .i64 x.e, .int .i64 x.q, .int .i64 x.h, .int .i64 x.t, .int .i64 x.u, .int .i64 x.l, .int .i64 x.m] 25)) (.cells #[.int .i64 0, .int .i64 0, .int .i64 0, .int .i64 0, .int .i64 0, .int .i64 0, .int .i64 0, .int .i64 0, .int .i64 0] 25); rw [show (w.alloc (.cells #[.int .i64 x.a, .int .i64 x.s, .int .i64 x.e, .int .i64 x.q, .int .i64 x.h, .int .i64 x.t, .int .i64 x.u, .int .i64 x.l, .int .i64 x.m] 25)).heap.size = w.heap.size + 1 by simp] at this; exact this
  have hs0 : ((w.alloc (.cells #[.int .i64 x.a, .int .i64 x.s, .int .i64 x.e, .int .i64 x.q, .int .i64 x.h, .int .i64 x.t, .int .i64 x.u, .int .i64 x.l, .int .i64 x.m] 25)).alloc (.cells #[.int .i64 0, .int .i64 0, .int .i64 0, .int .i64 0, .int .i64 0, .int .i64 0, .int .i64 0, .int .i64 0, .int .i64 0] 25)).heap.size = w.heap.size + 2 := by simp
  obtain ⟨D', HD'⟩ : ∃ D' : Nat → Prop, Hid (D' = fun k => D k ∨ (w.heap.size ≤ k ∧ k < w.heap.size + 2)) := ⟨_, rfl⟩
  have hA := h.wide2 _ hb0 (w.heap.size + 2)
  rw [← HD'.out] at hA
  have HBO : Hid (∀ k, D' k → k < ((w.alloc (.cells #[.int .i64 x.a, .int .i64 x.s, .int .i64 x.e, .int .i64 x.q, .int .i64 x.h, .int .i64 x.t, .int .i64 x.u, .int .i64 x.l, .int .i64 x.m] 25)).alloc (.cells #[.int .i64 0, .int .i64 0, .int .i64 0, .int .i64 0, .int .i64 0, .int .i64 0, .int .i64 0, .int .i64 0, .int .i64 0] 25)).heap.size) := fun k hk => by
    rw [HD'.out] at hk
    rw [hs0]
    rcases hk with hk | hk
    · have := hB k hk; omega
    · omega
  have H0 : Hid (ArD D' ((w.alloc (.cells #[.int .i64 x.a, .int .i64 x.s, .int .i64 x.e, .int .i64 x.q, .int .i64 x.h, .int .i64 x.t, .int .i64 x.u, .int .i64 x.l, .int .i64 x.m] 25)).alloc (.cells #[.int .i64 0, .int .i64 0, .int .i64 0, .int .i64 0, .int .i64 0, .int .i64 0, .int .i64 0, .int .i64 0, .int .i64 0] 25)) g ns ∧ Safe D' ((w.alloc (.cells #[.int .i64 x.a, .int .i64 x.s, .int .i64 x.e, .int .i64 x.q, .int .i64 x.h, .int .i64 x.t, .int .i64 x.u, .int .i64 x.l, .int .i64 x.m] 25)).alloc (.cells #[.int .i64 0, .int .i64 0, .int .i64 0, .int .i64 0, .int .i64 0, .int .i64 0, .int .i64 0, .int .i64 0, .int .i64 0] 25)) ((w.alloc (.cells #[.int .i64 x.a, .int .i64 x.s, .int .i64 x.e, .int .i64 x.q, .int .i64 x.h, .int .i64 x.t, .int .i64 x.u, .int .i64 x.l, .int .i64 x.m] 25)).alloc (.cells #[.int .i64 0, .int .i64 0, .int .i64 0, .int .i64 0, .int .i64 0, .int .i64 0, .int .i64 0, .int .i64 0, .int .i64 0] 25))) := ⟨hA, Safe.refl _ _⟩
  have HBX : Hid (∀ wz, Safe D' ((w.alloc (.cells #[.int .i64 x.a, .int .i64 x.s, .int .i64 x.e, .int .i64 x.q, .int .i64 x.h, .int .i64 x.t, .int .i64 x.u, .int .i64 x.l, .int .i64 x.m] 25)).alloc (.cells #[.int .i64 0, .int .i64 0, .int .i64 0, .int .i64 0, .int .i64 0, .int .i64 0, .int .i64 0, .int .i64 0, .int .i64 0] 25)) wz → wz.heap[w.heap.size]? = some (.cells #[.int .i64 x.a, .int .i64 x.s, .int .i64 x.e, .int .i64 x.q, .int .i64 x.h, .int .i64 x.t, .int .i64 x.u, .int .i64 x.l, .int .i64 x.m] 25 (0, 0))) := fun wz hs => (hs.block _ (by rw [HD'.out]; exact .inr ⟨Nat.le_refl _, by omega⟩)).trans hX0
  have HBZ : Hid (∀ wz, Safe D' ((w.alloc (.cells #[.int .i64 x.a, .int .i64 x.s, .int .i64 x.e, .int .i64 x.q, .int .i64 x.h, .int .i64 x.t, .int .i64 x.u, .int .i64 x.l, .int .i64 x.m] 25)).alloc (.cells #[.int .i64 0, .int .i64 0, .int .i64 0, .int .i64 0, .int .i64 0, .int .i64 0, .int .i64 0, .int .i64 0, .int .i64 0] 25)) wz → wz.heap[(w.heap.size + 1)]? = some (.cells #[.int .i64 0, .int .i64 0, .int .i64 0, .int .i64 0, .int .i64 0, .int .i64 0, .int .i64 0, .int .i64 0, .int .i64 0] 25 (0, 0))) := fun wz hs => (hs.block _ (by rw [HD'.out]; exact .inr ⟨by omega, by omega⟩)).trans hZ0
  have HFIN : Hid (∀ (wz : World) (A : List Nd) (cs : Array Value), ArD D' wz g A → Safe D' ((w.alloc (.cells #[.int .i64 x.a, .int .i64 x.s, .int .i64 x.e, .int .i64 x.q, .int .i64 x.h, .int .i64 x.t, .int .i64 x.u, .int .i64 x.l, .int .i64 x.m] 25)).alloc (.cells #[.int .i64 0, .int .i64 0, .int .i64 0, .int .i64 0, .int .i64 0, .int .i64 0, .int .i64 0, .int .i64 0, .int .i64 0] 25)) wz → ArD D (wz.setRow (w.heap.size + 1) cs) g A ∧ Safe D w (wz.setRow (w.heap.size + 1) cs) ∧ (wz.setRow (w.heap.size + 1) cs).heap[(w.heap.size + 1)]? = some (.cells cs 25 (0, 0))) := by
    intro wz A cs h1 h2
    have hz : D' (w.heap.size + 1) := by rw [HD'.out]; exact .inr ⟨by omega, by omega⟩
    have hn : ¬ D (w.heap.size + 1) := fun hd => by have := hB _ hd; omega
    have h3 : Safe D w wz := (Safe.of_below hb0 hB).trans (h2.mono (fun k hk => by rw [HD'.out]; exact .inl hk))
    exact ⟨ArD.narrow (D := D') (h1.setRow hz cs) (fun k hk => by rw [HD'.out]; exact .inl hk), h3.setRow hn cs, setRow_heap _ _ _ _ _ _ (HBZ.out wz h2)⟩
  obtain ⟨dP, hdP⟩ : ∃ d, chanB ns x = d := ⟨_, rfl⟩
  obtain ⟨a, cp, hg0, hA0, hO0⟩ := hdr_of hA
  have hr0 := hO0.row
  clear h hB hb0 hX0 hZ0 hA HD' hO0 hA0
  obtain ⟨K, HK0⟩ : ∃ K, Hid (sayK ns x b = K) := ⟨_, rfl⟩
  obtain ⟨A, HA0⟩ : ∃ A, Hid (sayA ns x b = A) := ⟨_, rfl⟩
  obtain ⟨C, HC0⟩ : ∃ C, Hid (sayC ns x b = C) := ⟨_, rfl⟩
  rw [HK0.out, HA0.out, HC0.out]
  go_enter Try.func39, Try.ntmps39
  go_wp2_with fail
  generalize (w.alloc (.cells #[.int .i64 x.a, .int .i64 x.s, .int .i64 x.e, .int .i64 x.q, .int .i64 x.h, .int .i64 x.t, .int .i64 x.u, .int .i64 x.l, .int .i64 x.m] 25)).alloc (.cells #[.int .i64 0, .int .i64 0, .int .i64 0, .int .i64 0, .int .i64 0, .int .i64 0, .int .i64 0, .int .i64 0, .int .i64 0] 25) = w0 at H0 HBO HBX HBZ HFIN hs0 hg0 hr0 ⊢
  have hd : Below w0.heap.size w0 w0.drew := (Below.refl _ _).drew
  have hgl : g < w0.heap.size := H0.out.1.2.1
  have k0 : w0.cell? ⟨g, 0, none⟩ = some (.slice a ns.length cp) := (cell_of_row _ _ 0 _ _ _ hg0).trans rfl
  refine _root_.Go.wp_region_held (S := fun w' : World => w'.cell? ⟨g, 0, none⟩ = some (.slice a ns.length cp) ∧ ChIn w.heap.size x w') (by kernel_rfl) ?_
  have hS : (fun w' : World => w'.cell? ⟨g, 0, none⟩ = some (.slice a ns.length cp) ∧ ChIn w.heap.size x w') w0.drew := ⟨k0, (ChIn.of (HBX.out _ H0.out.2)).next hd⟩
  refine wpAnyH_take (i := 0) (v := ?_) rfl (by kernel_rfl) (by kernel_rfl) (by kernel_rfl) (fun _ _ _ h => h) (Or.inl ⟨by rfl, ?_⟩) hS ?_
  rotate_left
  · intro w hSw; obtain ⟨y0, yN⟩ := hSw; have z0 := yN.c0; have z1 := yN.c1; have z2 := yN.c2; have z3 := yN.c3; have z4 := yN.c4; have z5 := yN.c5; have z6 := yN.c6; have z7 := yN.c7; have z8 := yN.c8; go_simp; try with_reducible rfl
  simp only [Act.put, List.getElem_toArray, List.getElem_cons_zero, List.setIfInBounds_toArray, List.set_cons_succ, List.set_cons_zero]
  refine wpAnyH_take (i := 1) (v := ?_) rfl (by kernel_rfl) (by kernel_rfl) (by kernel_rfl) (fun _ _ _ h => h) (Or.inl ⟨by rfl, ?_⟩) hS ?_
  rotate_left
  · intro w hSw; obtain ⟨y0, yN⟩ := hSw; have z0 := yN.c0; have z1 := yN.c1; have z2 := yN.c2; have z3 := yN.c3; have z4 := yN.c4; have z5 := yN.c5; have z6 := yN.c6; have z7 := yN.c7; have z8 := yN.c8; go_simp; try with_reducible rfl
  simp only [Act.put, List.getElem_toArray, List.getElem_cons_succ, List.getElem_cons_zero, List.setIfInBounds_toArray, List.set_cons_succ, List.set_cons_zero]
  refine wpAnyH_take (i := 2) (v := ?_) rfl (by kernel_rfl) (by kernel_rfl) (by kernel_rfl) (fun _ _ _ h => h) (Or.inl ⟨by rfl, ?_⟩) hS ?_
  rotate_left
  · intro w hSw; obtain ⟨y0, yN⟩ := hSw; have z0 := yN.c0; have z1 := yN.c1; have z2 := yN.c2; have z3 := yN.c3; have z4 := yN.c4; have z5 := yN.c5; have z6 := yN.c6; have z7 := yN.c7; have z8 := yN.c8; go_simp; try with_reducible rfl
  simp only [Act.put, List.getElem_toArray, List.getElem_cons_succ, List.getElem_cons_zero, List.setIfInBounds_toArray, List.set_cons_succ, List.set_cons_zero]
  refine wpAnyH_take (i := 3) (v := ?_) rfl (by kernel_rfl) (by kernel_rfl) (by kernel_rfl) (fun _ _ _ h => h) (Or.inl ⟨by rfl, ?_⟩) hS ?_
  rotate_left
  · intro w hSw; obtain ⟨y0, yN⟩ := hSw; have z0 := yN.c0; have z1 := yN.c1; have z2 := yN.c2; have z3 := yN.c3; have z4 := yN.c4; have z5 := yN.c5; have z6 := yN.c6; have z7 := yN.c7; have z8 := yN.c8; go_simp; try with_reducible rfl
  simp only [Act.put, List.getElem_toArray, List.getElem_cons_succ, List.getElem_cons_zero, List.setIfInBounds_toArray, List.set_cons_succ, List.set_cons_zero]
  refine wpAnyH_ready (rs := [4]) (by kernel_rfl) (by simp) ?_
  refine AllReadyH.cons rfl (fun K hK => ?_) AllReadyH.nil
  go_simp
  refine Calls.mono (specChanOk_any a cp ns x w0.drew hl (hr0.grown hd)) ?_
  rintro e w1 ⟨rfl, hb⟩
  rw [hdP]
  replace hb : Below w0.heap.size w0 w1 := hd.trans (hb.mono (Nat.le_refl _))
  have H1 : Hid (ArD D' w1 g ns ∧ Safe D' w0 w1) := ⟨H0.out.1.later hb, Safe.of_below hb HBO.out⟩
  refine hK.out _ _ ⟨(hb.cell (p := ⟨g, 0, none⟩) hgl).trans k0, ChIn.of (HBX.out _ H1.out.2)⟩ (fun hS => ?_)
  clear hK K
  refine wpAnyH_take (i := 5) (v := ?_) rfl (by kernel_rfl) (by kernel_rfl) (by kernel_rfl) (fun _ _ _ h => h) (Or.inl ⟨by rfl, ?_⟩) hS ?_
  rotate_left
  · intro w hSw; obtain ⟨y0, yN⟩ := hSw; have z0 := yN.c0; have z1 := yN.c1; have z2 := yN.c2; have z3 := yN.c3; have z4 := yN.c4; have z5 := yN.c5; have z6 := yN.c6; have z7 := yN.c7; have z8 := yN.c8; go_simp; try with_reducible rfl
  simp only [Act.put, List.getElem_toArray, List.getElem_cons_succ, List.getElem_cons_zero, List.setIfInBounds_toArray, List.set_cons_succ, List.set_cons_zero]
  clear hS
  refine wpAnyH_done (by kernel_rfl) ?_ _
  clear hb hd H0 k0 hg0 hr0 hgl
  cases dP with
  | false =>
    have HQ : Hid (K = -1 ∧ A = ns ∧ C = x) := by
      have e : sayB ns x b = false := by unfold sayB; rw [hdP]; rfl
      exact ⟨by rw [← HK0.out]; unfold sayK; rw [if_neg (by rw [e]; simp)], by rw [← HA0.out]; unfold sayA; rw [if_neg (by rw [e]; simp)], by rw [← HC0.out]; unfold sayC; rw [if_neg (by rw [e]; simp)]⟩
    go_upto_region 2 with fail
    refine wp_region_lit ?_
    refine wpl_load rfl _ _ rfl _ rfl w.heap.size #[.int .i64 x.a, .int .i64 x.s, .int .i64 x.e, .int .i64 x.q, .int .i64 x.h, .int .i64 x.t, .int .i64 x.u, .int .i64 x.l, .int .i64 x.m] rfl 25 (0, 0) (HBX.out w1 H1.out.2) _ Try.underlying25 rfl chanSize ?_
    refine wpList_store_rowTo rfl _ _ _ rfl rfl (w.heap.size + 1) #[.int .i64 x.a, .int .i64 x.s, .int .i64 x.e, .int .i64 x.q, .int .i64 x.h, .int .i64 x.t, .int .i64 x.u, .int .i64 x.l, .int .i64 x.m] rfl rfl 25 #[.int .i64 0, .int .i64 0, .int .i64 0, .int .i64 0, .int .i64 0, .int .i64 0, .int .i64 0, .int .i64 0, .int .i64 0] (HBZ.out w1 H1.out.2) chanSize rfl (by simp [Value.oneCell']) ?_
    have HE : Hid _ := HFIN.out w1 ns #[.int .i64 x.a, .int .i64 x.s, .int .i64 x.e, .int .i64 x.q, .int .i64 x.h, .int .i64 x.t, .int .i64 x.u, .int .i64 x.l, .int .i64 x.m] H1.out.1 H1.out.2
    generalize w1.setRow (w.heap.size + 1) #[.int .i64 x.a, .int .i64 x.s, .int .i64 x.e, .int .i64 x.q, .int .i64 x.h, .int .i64 x.t, .int .i64 x.u, .int .i64 x.l, .int .i64 x.m] = wF at HE ⊢
    try simp only [Act.put, List.getElem_toArray, List.getElem_cons_succ, List.getElem_cons_zero, List.setIfInBounds_toArray, List.set_cons_succ, List.set_cons_zero]
    go_wp2
    refine bodyPost_ret (res_chan rfl _ _ (w.heap.size + 1) 25 #[.int .i64 x.a, .int .i64 x.s, .int .i64 x.e, .int .i64 x.q, .int .i64 x.h, .int .i64 x.t, .int .i64 x.u, .int .i64 x.l, .int .i64 x.m] (0, 0) _ rfl ?_ Try.underlying25 rfl chanSize) rfl ?_
    · exact HE.out.2.2
    · exact ⟨by rw [HQ.out.1, HQ.out.2.2]; rfl, by rw [HQ.out.2.1]; exact HE.out.1, HE.out.2.1⟩
  | true =>
    have hq : 0 ≤ x.q ∧ x.q ≤ 10000 := by have h1 := hdP; unfold chanB inB at h1; simp at h1; omega
    obtain ⟨a1, c1, hg1, -, -⟩ := hdr_of H1.out.1
    have c0 : w1.cell? ⟨g, 0, none⟩ = some (.slice a1 ns.length c1) := (cell_of_row _ _ 0 _ _ _ hg1).trans rfl
    clear hg1
    go_wp2_with fail
    clear c0
    have hd : Below w1.heap.size w1 w1.drew := (Below.refl _ _).drew
    have H1d : Hid (ArD D' w1.drew g ns ∧ Safe D' w0 w1.drew) := ⟨H1.out.1.later hd, H1.out.2.trans (Safe.of_below hd (H1.out.2.old HBO.out))⟩
    refine _root_.Go.wp_region_held (S := fun w' : World => ChIn w.heap.size x w') (by kernel_rfl) ?_
    have hS : (fun w' : World => ChIn w.heap.size x w') w1.drew := ChIn.of (HBX.out _ H1d.out.2)
    refine wpAnyH_take (i := 0) (v := ?_) rfl (by kernel_rfl) (by kernel_rfl) (by kernel_rfl) (fun _ _ _ h => h) (Or.inl ⟨by rfl, ?_⟩) hS ?_
    rotate_left
    · intro w hSw; have yN := hSw; have z0 := yN.c0; have z1 := yN.c1; have z2 := yN.c2; go_simp; try with_reducible rfl
    simp only [Act.put, List.getElem_toArray, List.getElem_cons_zero, List.setIfInBounds_toArray, List.set_cons_succ, List.set_cons_zero]
    refine wpAnyH_take (i := 1) (v := ?_) rfl (by kernel_rfl) (by kernel_rfl) (by kernel_rfl) (fun _ _ _ h => h) (Or.inl ⟨by rfl, ?_⟩) hS ?_
    rotate_left
    · intro w hSw; have yN := hSw; have z0 := yN.c0; have z1 := yN.c1; have z2 := yN.c2; go_simp; try with_reducible rfl
    simp only [Act.put, List.getElem_toArray, List.getElem_cons_succ, List.getElem_cons_zero, List.setIfInBounds_toArray, List.set_cons_succ, List.set_cons_zero]
    refine wpAnyH_take (i := 2) (v := ?_) rfl (by kernel_rfl) (by kernel_rfl) (by kernel_rfl) (fun _ _ _ h => h) (Or.inl ⟨by rfl, ?_⟩) hS ?_
    rotate_left
    · intro w hSw; have yN := hSw; have z0 := yN.c0; have z1 := yN.c1; have z2 := yN.c2; go_simp; try with_reducible rfl
    simp only [Act.put, List.getElem_toArray, List.getElem_cons_succ, List.getElem_cons_zero, List.setIfInBounds_toArray, List.set_cons_succ, List.set_cons_zero]
    refine wpAnyH_take (i := 3) (v := ?_) rfl (by kernel_rfl) (by kernel_rfl) (by kernel_rfl) (fun _ _ _ h => h) (Or.inl ⟨by rfl, ?_⟩) hS ?_
    rotate_left
    · intro w hSw; have yN := hSw; have z0 := yN.c0; have z1 := yN.c1; have z2 := yN.c2; go_simp; try with_reducible rfl
    simp only [Act.put, List.getElem_toArray, List.getElem_cons_succ, List.getElem_cons_zero, List.setIfInBounds_toArray, List.set_cons_succ, List.set_cons_zero]
    refine wpAnyH_take (i := 4) (v := ?_) rfl (by kernel_rfl) (by kernel_rfl) (by kernel_rfl) (fun _ _ _ h => h) (Or.inl ⟨by rfl, ?_⟩) hS ?_
    rotate_left
    · intro w hSw; have yN := hSw; have z0 := yN.c0; have z1 := yN.c1; have z2 := yN.c2; go_simp; try with_reducible rfl
    simp only [Act.put, List.getElem_toArray, List.getElem_cons_succ, List.getElem_cons_zero, List.setIfInBounds_toArray, List.set_cons_succ, List.set_cons_zero]
    refine wpAnyH_take (i := 5) (v := ?_) rfl (by kernel_rfl) (by kernel_rfl) (by kernel_rfl) (fun _ _ _ h => h) (Or.inl ⟨by rfl, ?_⟩) hS ?_
    rotate_left
    · intro w hSw; have yN := hSw; have z0 := yN.c0; have z1 := yN.c1; have z2 := yN.c2; go_simp; try with_reducible rfl
    simp only [Act.put, List.getElem_toArray, List.getElem_cons_succ, List.getElem_cons_zero, List.setIfInBounds_toArray, List.set_cons_succ, List.set_cons_zero]
    refine wpAnyH_take (i := 7) (v := ?_) rfl (by kernel_rfl) (by kernel_rfl) (by kernel_rfl) (fun _ _ _ h => h) (Or.inl ⟨by rfl, ?_⟩) hS ?_
    rotate_left
    · intro w hSw; have yN := hSw; have z0 := yN.c0; have z1 := yN.c1; have z2 := yN.c2; go_simp; try with_reducible rfl
    simp only [Act.put, List.getElem_toArray, List.getElem_cons_succ, List.getElem_cons_zero, List.setIfInBounds_toArray, List.set_cons_succ, List.set_cons_zero]
    refine wpAnyH_take (i := 8) (v := ?_) rfl (by kernel_rfl) (by kernel_rfl) (by kernel_rfl) (fun _ _ _ h => h) (Or.inl ⟨by rfl, ?_⟩) hS ?_
    rotate_left
    · intro w hSw; have yN := hSw; have z0 := yN.c0; have z1 := yN.c1; have z2 := yN.c2; go_simp; try with_reducible rfl
    simp only [Act.put, List.getElem_toArray, List.getElem_cons_succ, List.getElem_cons_zero, List.setIfInBounds_toArray, List.set_cons_succ, List.set_cons_zero]
    refine wpAnyH_ready (rs := [6]) (by kernel_rfl) (by simp) ?_
    refine AllReadyH.cons rfl (fun K hK => ?_) AllReadyH.nil
    go_simp
    refine Calls.mono (specEpochD_any D' g ns x.a x.e w1.drew hl H1d.out.1 (H1d.out.2.old HBO.out)) ?_
    rintro e w2 ⟨rfl, ha, hb⟩
    have H2 : Hid (ArD D' w2 g (epochA ns x.a x.e) ∧ Safe D' w0 w2) := ⟨ha, H1d.out.2.trans hb⟩
    refine hK.out _ _ (ChIn.of (HBX.out _ H2.out.2)) (fun hS => ?_)
    clear hK K
    clear ha hb H1 H1d hd
    refine wpAnyH_ready (rs := [9]) (by kernel_rfl) (by simp) ?_
    refine AllReadyH.cons rfl (fun K hK => ?_) AllReadyH.nil
    go_simp
    refine Calls.mono (specSideD_any D' g (epochA ns x.a x.e) (epochK ns x.a x.e) x.s w2 (epochA_le hl) H2.out.1 (H2.out.2.old HBO.out)) ?_
    rintro e w3 ⟨rfl, ha, hb⟩
    have H3 : Hid (ArD D' w3 g (seA ns x.a x.e x.s) ∧ Safe D' w0 w3) := ⟨ha, H2.out.2.trans hb⟩
    refine hK.out _ _ (ChIn.of (HBX.out _ H3.out.2)) (fun hS => ?_)
    clear hK K
    clear ha hb H2
    refine wpAnyH_take (i := 10) (v := ?_) rfl (by kernel_rfl) (by kernel_rfl) (by kernel_rfl) (fun _ _ _ h => h) (Or.inl ⟨by rfl, ?_⟩) hS ?_
    rotate_left
    · intro w hSw; have yN := hSw; have z0 := yN.c0; have z1 := yN.c1; have z2 := yN.c2; go_simp; try with_reducible rfl
    simp only [Act.put, List.getElem_toArray, List.getElem_cons_succ, List.getElem_cons_zero, List.setIfInBounds_toArray, List.set_cons_succ, List.set_cons_zero]
    clear hS
    refine wpAnyH_done (by kernel_rfl) ?_ _
    have yN : ChIn w.heap.size x w3 := ChIn.of (HBX.out _ H3.out.2)
    have e2 := yN.c2
    have e3 := yN.c3
    clear yN
    go_wp2_with fail
    clear e2 e3
    refine Calls.mono (specRecD_any D' g (seA ns x.a x.e x.s) (seK ns x.a x.e x.s) x.e x.q b w3 (seA_le hl) H3.out.1 (H3.out.2.old HBO.out)) ?_
    rintro e w4 ⟨rfl, ha, hb⟩
    have H4 : Hid (ArD D' w4 g (syA ns x b) ∧ Safe D' w0 w4) := ⟨ha, H3.out.2.trans hb⟩
    clear ha hb H3
    obtain ⟨rk, HRK⟩ : ∃ rk, Hid (syK ns x b = rk) := ⟨_, rfl⟩
    rw [show recK (seA ns x.a x.e x.s) (seK ns x.a x.e x.s) x.e x.q b = rk from HRK.out]
    by_cases hk : rk < 0
    · go_wp2_with fail
      refine Calls.mono (specUndoA_any D' g (syA ns x b) ns.length w4 (recA_le (seA_le hl)) (syA_take ns x b).2 H4.out.1) ?_
      rintro e w5 ⟨⟨u, rfl⟩, ha, hb⟩
      rw [(syA_take ns x b).1] at ha
      have H5 : Hid (ArD D' w5 g ns ∧ Safe D' w0 w5) := ⟨ha, H4.out.2.trans hb⟩
      clear ha hb H4
      have HQ : Hid (K = -1 ∧ A = ns ∧ C = x) := by
        have e : sayB ns x b = false := by unfold sayB; rw [HRK.out, decide_eq_false (by omega), Bool.and_false]
        exact ⟨by rw [← HK0.out]; unfold sayK; rw [if_neg (by rw [e]; simp)], by rw [← HA0.out]; unfold sayA; rw [if_neg (by rw [e]; simp)], by rw [← HC0.out]; unfold sayC; rw [if_neg (by rw [e]; simp)]⟩
      go_upto_region 8 with fail
      refine wp_region_lit ?_
      refine wpl_load rfl _ _ rfl _ rfl w.heap.size #[.int .i64 x.a, .int .i64 x.s, .int .i64 x.e, .int .i64 x.q, .int .i64 x.h, .int .i64 x.t, .int .i64 x.u, .int .i64 x.l, .int .i64 x.m] rfl 25 (0, 0) (HBX.out w5 H5.out.2) _ Try.underlying25 rfl chanSize ?_
      refine wpList_store_rowTo rfl _ _ _ rfl rfl (w.heap.size + 1) #[.int .i64 x.a, .int .i64 x.s, .int .i64 x.e, .int .i64 x.q, .int .i64 x.h, .int .i64 x.t, .int .i64 x.u, .int .i64 x.l, .int .i64 x.m] rfl rfl 25 #[.int .i64 0, .int .i64 0, .int .i64 0, .int .i64 0, .int .i64 0, .int .i64 0, .int .i64 0, .int .i64 0, .int .i64 0] (HBZ.out w5 H5.out.2) chanSize rfl (by simp [Value.oneCell']) ?_
      have HE : Hid _ := HFIN.out w5 ns #[.int .i64 x.a, .int .i64 x.s, .int .i64 x.e, .int .i64 x.q, .int .i64 x.h, .int .i64 x.t, .int .i64 x.u, .int .i64 x.l, .int .i64 x.m] H5.out.1 H5.out.2
      generalize w5.setRow (w.heap.size + 1) #[.int .i64 x.a, .int .i64 x.s, .int .i64 x.e, .int .i64 x.q, .int .i64 x.h, .int .i64 x.t, .int .i64 x.u, .int .i64 x.l, .int .i64 x.m] = wF at HE ⊢
      try simp only [Act.put, List.getElem_toArray, List.getElem_cons_succ, List.getElem_cons_zero, List.setIfInBounds_toArray, List.set_cons_succ, List.set_cons_zero]
      go_wp2
      refine bodyPost_ret (res_chan rfl _ _ (w.heap.size + 1) 25 #[.int .i64 x.a, .int .i64 x.s, .int .i64 x.e, .int .i64 x.q, .int .i64 x.h, .int .i64 x.t, .int .i64 x.u, .int .i64 x.l, .int .i64 x.m] (0, 0) _ rfl ?_ Try.underlying25 rfl chanSize) rfl ?_
      · exact HE.out.2.2
      · exact ⟨by rw [HQ.out.1, HQ.out.2.2]; rfl, by rw [HQ.out.2.1]; exact HE.out.1, HE.out.2.1⟩
    · have HQ : Hid (K = rk ∧ A = syA ns x b ∧ C = ⟨x.a, x.s, x.e, x.q + 1, x.h, x.t, x.u, x.l, x.m⟩) := by
        have e : sayB ns x b = true := by unfold sayB; rw [hdP, HRK.out, decide_eq_true (by omega)]; rfl
        exact ⟨by rw [← HK0.out]; unfold sayK; rw [if_pos e]; exact HRK.out, by rw [← HA0.out]; unfold sayA; rw [if_pos e], by rw [← HC0.out]; unfold sayC; rw [if_pos e]⟩
      have hwr : wrap64 (x.q + 1) = x.q + 1 := by unfold wrap64; omega
      have e3 : w4.cell? ⟨w.heap.size, 3, none⟩ = some (.int .i64 x.q) := (cell_of_row _ _ 3 _ _ _ (HBX.out _ H4.out.2)).trans rfl
      have hlx : w.heap.size < w4.heap.size := (Array.getElem?_eq_some_iff.1 (HBX.out _ H4.out.2)).1
      go_upto_region 9 with fail
      refine wp_region_lit ?_
      refine wpl_load rfl _ _ rfl _ rfl w.heap.size #[.int .i64 x.a, .int .i64 x.s, .int .i64 x.e, .int .i64 x.q, .int .i64 x.h, .int .i64 x.t, .int .i64 x.u, .int .i64 x.l, .int .i64 x.m] rfl 25 (0, 0) (HBX.out w4 H4.out.2) _ Try.underlying25 rfl chanSize ?_
      refine wpList_plain rfl (fun Kz hKz => ?_)
      unfold Oper.wp execOp
      simp [go_sem]
      refine hKz _ _ ?_
      clear hKz Kz
      refine wpList_store_rowTo rfl _ _ _ rfl rfl w4.heap.size #[.int .i64 x.a, .int .i64 x.s, .int .i64 x.e, .int .i64 x.q, .int .i64 x.h, .int .i64 x.t, .int .i64 x.u, .int .i64 x.l, .int .i64 x.m] rfl rfl 25 #[.int .i64 0, .int .i64 0, .int .i64 0, .int .i64 0, .int .i64 0, .int .i64 0, .int .i64 0, .int .i64 0, .int .i64 0] (heap_alloc_new w4 _) chanSize rfl (by simp [Value.oneCell']) ?_
      rw [World.setRow_alloc_new]
      refine wpList_nil ?_
      try simp only [Act.put, List.getElem_toArray, List.getElem_cons_succ, List.getElem_cons_zero, List.setIfInBounds_toArray, List.set_cons_succ, List.set_cons_zero]
      go_upto_region 11 with fail
      have H5 : Hid (ArD D' (w4.alloc (.cells #[.int .i64 x.a, .int .i64 x.s, .int .i64 x.e, .int .i64 (x.q + 1), .int .i64 x.h, .int .i64 x.t, .int .i64 x.u, .int .i64 x.l, .int .i64 x.m] 25)) g (syA ns x b) ∧ Safe D' w0 (w4.alloc (.cells #[.int .i64 x.a, .int .i64 x.s, .int .i64 x.e, .int .i64 (x.q + 1), .int .i64 x.h, .int .i64 x.t, .int .i64 x.u, .int .i64 x.l, .int .i64 x.m] 25))) := ⟨H4.out.1.later ((Below.refl _ _).alloc (Nat.le_refl _) _), H4.out.2.alloc (H4.out.2.old HBO.out) _⟩
      have hN5 : Hid _ := heap_alloc_new w4 (.cells #[.int .i64 x.a, .int .i64 x.s, .int .i64 x.e, .int .i64 (x.q + 1), .int .i64 x.h, .int .i64 x.t, .int .i64 x.u, .int .i64 x.l, .int .i64 x.m] 25)
      clear H4 e3 hlx
      generalize w4.alloc (.cells #[.int .i64 x.a, .int .i64 x.s, .int .i64 x.e, .int .i64 (x.q + 1), .int .i64 x.h, .int .i64 x.t, .int .i64 x.u, .int .i64 x.l, .int .i64 x.m] 25) = w5 at H5 hN5 ⊢
      refine wp_region_lit ?_
      refine wpl_load rfl _ _ rfl _ rfl w4.heap.size #[.int .i64 x.a, .int .i64 x.s, .int .i64 x.e, .int .i64 (x.q + 1), .int .i64 x.h, .int .i64 x.t, .int .i64 x.u, .int .i64 x.l, .int .i64 x.m] rfl 25 (0, 0) (hN5.out) _ Try.underlying25 rfl chanSize ?_
      refine wpl_move rfl _ rfl _ (.int .i64 rk) rfl rfl ?_
      refine wpList_store_rowTo rfl _ _ _ rfl rfl (w.heap.size + 1) #[.int .i64 x.a, .int .i64 x.s, .int .i64 x.e, .int .i64 (x.q + 1), .int .i64 x.h, .int .i64 x.t, .int .i64 x.u, .int .i64 x.l, .int .i64 x.m] rfl rfl 25 #[.int .i64 0, .int .i64 0, .int .i64 0, .int .i64 0, .int .i64 0, .int .i64 0, .int .i64 0, .int .i64 0, .int .i64 0] (HBZ.out w5 H5.out.2) chanSize rfl (by simp [Value.oneCell']) ?_
      have HE : Hid _ := HFIN.out w5 (syA ns x b) #[.int .i64 x.a, .int .i64 x.s, .int .i64 x.e, .int .i64 (x.q + 1), .int .i64 x.h, .int .i64 x.t, .int .i64 x.u, .int .i64 x.l, .int .i64 x.m] H5.out.1 H5.out.2
      generalize w5.setRow (w.heap.size + 1) #[.int .i64 x.a, .int .i64 x.s, .int .i64 x.e, .int .i64 (x.q + 1), .int .i64 x.h, .int .i64 x.t, .int .i64 x.u, .int .i64 x.l, .int .i64 x.m] = wF at HE ⊢
      try simp only [Act.put, List.getElem_toArray, List.getElem_cons_succ, List.getElem_cons_zero, List.setIfInBounds_toArray, List.set_cons_succ, List.set_cons_zero]
      go_wp2
      refine bodyPost_ret (res_chan rfl _ _ (w.heap.size + 1) 25 #[.int .i64 x.a, .int .i64 x.s, .int .i64 x.e, .int .i64 (x.q + 1), .int .i64 x.h, .int .i64 x.t, .int .i64 x.u, .int .i64 x.l, .int .i64 x.m] (0, 0) _ rfl ?_ Try.underlying25 rfl chanSize) rfl ?_
      · exact HE.out.2.2
      · exact ⟨by rw [HQ.out.1, HQ.out.2.2]; rfl, by rw [HQ.out.2.1]; exact HE.out.1, HE.out.2.1⟩
end Go.Proofs.Ytnjihmailppjkaa
