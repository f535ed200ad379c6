/- The program's cookieAt and CookieOk (chapter 9). -/
import Derived.Test.YtffnadnndmmliaaImplCR9
import Derived.Deep.RegionHeld3
import Derived.Deep.DeepCutAuto
import Derived.OpenShut
namespace Go.Proofs.Ytffnadnndmmliaa
open Go.RowKit
set_option linter.unusedVariables false
/-- While a cookie is read: the reader's two cells, the arena's row, and boxes that stay. -/
structure Ckw (w : World) (g : Nat) (a : Option Addr) (cap : Nat) (ns : List Nd) (ok : Bool) (Bs : List (Nat × Obj)) (wz : World) : Prop where
  rd : wz.heap[g]? = some (.cells #[.slice a ns.length cap, .bool ok] 175 (0, 0))
  row : RowN w.heap.size wz a ns
  bel : Below w.heap.size w wz
  gw : w.heap.size ≤ g
  boxes : ∀ b o, (b, o) ∈ Bs → (b ≠ g ∧ w.heap.size ≤ b) ∧ wz.heap[b]? = some o
  nd : Bs.Pairwise fun p q => p.1 ≠ q.1
theorem Ckw.lt {w : World} {g : Nat} {a : Option Addr} {cap : Nat} {ns : List Nd} {ok : Bool} {Bs : List (Nat × Obj)} {wz : World} (h : Ckw w g a cap ns ok Bs wz) : g < wz.heap.size := (Array.getElem?_eq_some_iff.1 h.rd).1
theorem Ckw.next {w : World} {g : Nat} {a : Option Addr} {cap : Nat} {ns : List Nd} {ok ok' : Bool} {Bs : List (Nat × Obj)} {wz wy : World} (h : Ckw w g a cap ns ok Bs wz) (hb : wz.grownBy wy (some g)) (hr : wy.heap[g]? = some (.cells #[.slice a ns.length cap, .bool ok'] 175 (0, 0))) : Ckw w g a cap ns ok' Bs wy := by
  have hB : Below w.heap.size w wy := h.bel.grown hb h.bel.size (fun k hk => by cases hk; exact h.gw)
  have hB2 : Below w.heap.size wz wy := ⟨hb.os, hb.tape, hb.output, hb.size, fun k hk => hb.block k (by have := h.bel.size; omega) (fun e => by cases e; have := h.gw; omega)⟩
  exact ⟨hr, h.row.later hB2, hB, h.gw, fun b o hbo => ⟨(h.boxes b o hbo).1, (hb.block b (Array.getElem?_eq_some_iff.1 (h.boxes b o hbo).2).1 (fun e => (h.boxes b o hbo).1.1 (by cases e; rfl))).trans (h.boxes b o hbo).2⟩, h.nd⟩
theorem Ckw.drew {w : World} {g : Nat} {a : Option Addr} {cap : Nat} {ns : List Nd} {ok : Bool} {Bs : List (Nat × Obj)} {wz : World} (h : Ckw w g a cap ns ok Bs wz) : Ckw w g a cap ns ok Bs wz.drew := ⟨h.rd, h.row, h.bel.drew, h.gw, h.boxes, h.nd⟩
theorem Ckw.alloc {w : World} {g : Nat} {a : Option Addr} {cap : Nat} {ns : List Nd} {ok : Bool} {Bs : List (Nat × Obj)} {wz : World} (h : Ckw w g a cap ns ok Bs wz) (o : Obj) : Ckw w g a cap ns ok ((wz.heap.size, o) :: Bs) (wz.alloc o) := by
  have hs := h.bel.size
  have hlt := h.lt
  have hB2 : Below w.heap.size wz (wz.alloc o) := (Below.refl _ _).alloc hs _
  refine ⟨(heap_alloc_old _ _ hlt).trans h.rd, h.row.later hB2, h.bel.alloc hs _, h.gw, fun b ob hbo => ?_, List.pairwise_cons.2 ⟨fun p hp => ?_, h.nd⟩⟩
  rcases List.mem_cons.1 hbo with e | e
  · cases e
    exact ⟨⟨by omega, hs⟩, heap_alloc_new wz o⟩
  · exact ⟨(h.boxes b ob e).1, (heap_alloc_old _ _ (Array.getElem?_eq_some_iff.1 (h.boxes b ob e).2).1).trans (h.boxes b ob e).2⟩
  · have := (Array.getElem?_eq_some_iff.1 (h.boxes p.1 p.2 hp).2).1
    show wz.heap.size ≠ p.1
    omega
theorem Ckw.box {w : World} {g : Nat} {a : Option Addr} {cap : Nat} {ns : List Nd} {ok : Bool} {Bs : List (Nat × Obj)} {wz : World} (h : Ckw w g a cap ns ok Bs wz) {b : Nat} {cs : Array Value} {t : TypeId} (hm : (b, Obj.cells cs t (0, 0)) ∈ Bs) (j : Nat) : wz.cell? ⟨b, j, none⟩ = cs[j]? := cell_of_row _ _ j _ _ _ (h.boxes _ _ hm).2
theorem Ckw.free {w : World} {g : Nat} {a : Option Addr} {cap : Nat} {ns : List Nd} {ok : Bool} {Bs : List (Nat × Obj)} {wz : World} (h : Ckw w g a cap ns ok Bs wz) {b : Nat} {cs : Array Value} {t : TypeId} (hm : (b, Obj.cells cs t (0, 0)) ∈ Bs) (j : Nat) : wz.frozen? ⟨b, j, none⟩ = false := frozen_of_row _ _ j _ _ (h.boxes _ _ hm).2
theorem Ckw.head3 {w : World} {g : Nat} {a : Option Addr} {cap : Nat} {ns : List Nd} {ok : Bool} {Bs : List (Nat × Obj)} {wz : World} {b : Nat} {v0 v1 v2 : Value} {t : TypeId} (h : Ckw w g a cap ns ok ((b, .cells #[v0, v1, v2] t (0, 0)) :: Bs) wz) :
    wz.cell? ⟨b, 0, none⟩ = some v0 ∧ wz.cell? ⟨b, 1, none⟩ = some v1 ∧ wz.cell? ⟨b, 2, none⟩ = some v2 ∧ wz.frozen? ⟨b, 0, none⟩ = false ∧ wz.frozen? ⟨b, 1, none⟩ = false ∧ wz.frozen? ⟨b, 2, none⟩ = false :=
  ⟨h.box (List.mem_cons_self ..) 0, h.box (List.mem_cons_self ..) 1, h.box (List.mem_cons_self ..) 2, h.free (List.mem_cons_self ..) 0, h.free (List.mem_cons_self ..) 1, h.free (List.mem_cons_self ..) 2⟩
/-- Three cells of the newest box are set. -/
theorem Ckw.set3 {w : World} {g : Nat} {a : Option Addr} {cap : Nat} {ns : List Nd} {ok : Bool} {Bs : List (Nat × Obj)} {wz : World} {b : Nat} {v0 v1 v2 : Value} {t : TypeId} (h : Ckw w g a cap ns ok ((b, .cells #[v0, v1, v2] t (0, 0)) :: Bs) wz) (u0 u1 u2 : Value) :
    Ckw w g a cap ns ok ((b, .cells #[u0, u1, u2] t (0, 0)) :: Bs) (((wz.setCell ⟨b, 0, none⟩ u0).setCell ⟨b, 1, none⟩ u1).setCell ⟨b, 2, none⟩ u2) := by
  have hb := h.boxes b _ (List.mem_cons_self ..)
  have a0 := heap_setCell_same wz b 0 _ _ u0 hb.2
  have a1 := heap_setCell_same _ b 1 _ _ u1 a0
  have a2 := heap_setCell_same _ b 2 _ _ u2 a1
  have hk : ∀ k, k ≠ b → (((wz.setCell ⟨b, 0, none⟩ u0).setCell ⟨b, 1, none⟩ u1).setCell ⟨b, 2, none⟩ u2).heap[k]? = wz.heap[k]? := fun k hk => (Below.heap_setCell _ _ _ _ hk).trans ((Below.heap_setCell _ _ _ _ hk).trans (Below.heap_setCell _ _ _ _ hk))
  have hB : Below w.heap.size wz (((wz.setCell ⟨b, 0, none⟩ u0).setCell ⟨b, 1, none⟩ u1).setCell ⟨b, 2, none⟩ u2) := (((Below.refl _ _).setCell hb.1.2 _).setCell hb.1.2 _).setCell hb.1.2 _
  have hnd := List.pairwise_cons.1 h.nd
  refine ⟨(hk g (Ne.symm hb.1.1)).trans h.rd, h.row.later hB, h.bel.trans hB, h.gw, fun k ok hko => ?_, List.pairwise_cons.2 ⟨hnd.1, hnd.2⟩⟩
  rcases List.mem_cons.1 hko with e | e
  · cases e
    exact ⟨hb.1, a2.trans rfl⟩
  · have h2 := h.boxes k ok (List.mem_cons_of_mem _ e)
    exact ⟨h2.1, (hk k (fun e2 => hnd.1 _ e (by rw [e2]))).trans h2.2⟩
theorem Ckw.three {w : World} {g : Nat} {a : Option Addr} {cap : Nat} {ns : List Nd} {ok : Bool} {Bs : List (Nat × Obj)} {wz : World} (h : Ckw w g a cap ns ok Bs wz) {b1 b2 b3 : Nat} {x1 x2 x3 : Nd} (m1 : (b1, Obj.cells #[.int .i64 x1.k, .int .i64 x1.n, .int .i64 x1.a, .int .i64 x1.b] 45 (0, 0)) ∈ Bs) (m2 : (b2, Obj.cells #[.int .i64 x2.k, .int .i64 x2.n, .int .i64 x2.a, .int .i64 x2.b] 45 (0, 0)) ∈ Bs) (m3 : (b3, Obj.cells #[.int .i64 x3.k, .int .i64 x3.n, .int .i64 x3.a, .int .i64 x3.b] 45 (0, 0)) ∈ Bs) :
    wz.cell? ⟨b1, 2, none⟩ = some (.int .i64 x1.a) ∧ wz.cell? ⟨b2, 2, none⟩ = some (.int .i64 x2.a) ∧ wz.cell? ⟨b3, 2, none⟩ = some (.int .i64 x3.a) := ⟨h.box m1 2, h.box m2 2, h.box m3 2⟩
theorem cvSize : (Try.prog.info? 133).map (·.size) = some 3 := by kernel_rfl
theorem fin3 {w wz : World} {b : Nat} {v0 v1 v2 : Value} {t : TypeId} (hw : Below w.heap.size w wz) (hR : w.heap.size ≤ b) (hb : wz.heap[b]? = some (.cells #[v0, v1, v2] t (0, 0))) (u0 u1 u2 : Value) :
    (((wz.setCell ⟨b, 0, none⟩ u0).setCell ⟨b, 1, none⟩ u1).setCell ⟨b, 2, none⟩ u2).heap[b]? = some (.cells #[u0, u1, u2] t (0, 0)) ∧ Below w.heap.size w (((wz.setCell ⟨b, 0, none⟩ u0).setCell ⟨b, 1, none⟩ u1).setCell ⟨b, 2, none⟩ u2) := by
  have a0 := heap_setCell_same wz b 0 _ _ u0 hb
  have a1 := heap_setCell_same _ b 1 _ _ u1 a0
  have a2 := heap_setCell_same _ b 2 _ _ u2 a1
  exact ⟨a2.trans rfl, ((hw.setCell hR _).setCell hR _).setCell hR _⟩
theorem keep5 {wz : World} {b R j : Nat} {v u0 u1 u2 : Value} (hne : b ≠ R) (h : wz.cell? ⟨b, j, none⟩ = some v) : (((wz.setCell ⟨R, 0, none⟩ u0).setCell ⟨R, 1, none⟩ u1).setCell ⟨R, 2, none⟩ u2).cell? ⟨b, j, none⟩ = some v := by
  have hk : ∀ (x : World) (i : Nat) (u : Value), (x.setCell ⟨R, i, none⟩ u).cell? ⟨b, j, none⟩ = x.cell? ⟨b, j, none⟩ := fun x i u => by rw [World.cell?_setCell_other]; intro e; exact hne (congrArg Addr.block e).symm
  rw [hk, hk, hk]; exact h
theorem fld1 (k n a b : Int) (w : World) : (Instr.field 45 (.agg #[.int .i64 k, .int .i64 n, .int .i64 a, .int .i64 b]) 1).run Try.prog w = .ok (.int .i64 n) w := by kernel_rfl
theorem fld2 (k n a b : Int) (w : World) : (Instr.field 45 (.agg #[.int .i64 k, .int .i64 n, .int .i64 a, .int .i64 b]) 2).run Try.prog w = .ok (.int .i64 a) w := by kernel_rfl
/-- The reader's method at one place. -/
theorem Ckw.node {w : World} {g : Nat} {a : Option Addr} {cap : Nat} {ns : List Nd} {ok : Bool} {Bs : List (Nat × Obj)} {wz : World} {kd k : Int} {x : Nd} {ok' : Bool} (hx : Hid (rdN ns ok kd k = (x, ok'))) (hl : ns.length ≤ 1048576) (h : Ckw w g a cap ns ok Bs wz) :
    Calls Try.prog 170 #[.pointer (some ⟨g, 0, none⟩), .int .i64 kd, .int .i64 k] wz fun e w' => e = .returned (.agg #[.int .i64 x.k, .int .i64 x.n, .int .i64 x.a, .int .i64 x.b]) ∧ Ckw w g a cap ns ok' Bs w' := by
  have := rdNode_any g a cap ns ok kd k wz hl h.rd (h.row.wide h.bel.size)
  rw [hx.out] at this
  exact this.mono fun e w' ⟨h1, h2, h3⟩ => ⟨h1, h.next h3 h2⟩
theorem Ckw.nodeH {w : World} {g : Nat} {a : Option Addr} {cap : Nat} {ns : List Nd} {ok : Bool} {Bs : List (Nat × Obj)} {wz : World} {kd k : Int} {x : Nd} {ok' : Bool} (hx : Hid (rdN ns ok kd k = (x, ok'))) (hl : ns.length ≤ 1048576) (h : Hid (Ckw w g a cap ns ok Bs wz)) :
    Calls Try.prog 170 #[.pointer (some ⟨g, 0, none⟩), .int .i64 kd, .int .i64 k] wz fun e w' => e = .returned (.agg #[.int .i64 x.k, .int .i64 x.n, .int .i64 x.a, .int .i64 x.b]) ∧ Hid (Ckw w g a cap ns ok' Bs w') := Ckw.node hx hl h.out
theorem Ckw.allocH {w : World} {g : Nat} {a : Option Addr} {cap : Nat} {ns : List Nd} {ok : Bool} {Bs : List (Nat × Obj)} {wz : World} (h : Hid (Ckw w g a cap ns ok Bs wz)) (o : Obj) : Hid (Ckw w g a cap ns ok ((wz.heap.size, o) :: Bs) (wz.alloc o)) := h.out.alloc o
theorem Ckw.drewH {w : World} {g : Nat} {a : Option Addr} {cap : Nat} {ns : List Nd} {ok : Bool} {Bs : List (Nat × Obj)} {wz : World} (h : Hid (Ckw w g a cap ns ok Bs wz)) : Hid (Ckw w g a cap ns ok Bs wz.drew) := h.out.drew
theorem Ckw.set3H {w : World} {g : Nat} {a : Option Addr} {cap : Nat} {ns : List Nd} {ok : Bool} {Bs : List (Nat × Obj)} {wz : World} {b : Nat} {v0 v1 v2 : Value} {t : TypeId} (h : Hid (Ckw w g a cap ns ok ((b, .cells #[v0, v1, v2] t (0, 0)) :: Bs) wz)) (u0 u1 u2 : Value) :
    Hid (Ckw w g a cap ns ok ((b, .cells #[u0, u1, u2] t (0, 0)) :: Bs) (((wz.setCell ⟨b, 0, none⟩ u0).setCell ⟨b, 1, none⟩ u1).setCell ⟨b, 2, none⟩ u2)) := h.out.set3 u0 u1 u2

set_option maxHeartbeats 3200000 in
set_option maxRecDepth 20000 in
theorem cookieAt_any (a : Option Addr) (cap : Nat) (ns : List Nd) (c : Int) (w : World) (hl : ns.length ≤ 1048576) (hr : RowN w.heap.size w a ns) :
    Calls Try.prog 130 #[.agg #[.slice a ns.length cap], .int .i64 c] w fun e w' => e = .returned (.tuple #[.agg #[.int .i64 (rd5 ns c).1.n, .int .i64 (rd6 ns c).1.n, .int .i64 (rd7 ns c).1.a], .bool (ckE ns c)]) ∧ Below w.heap.size w w' := by
  obtain ⟨x1, o1, HX1⟩ : ∃ x ok, Hid (rd1 ns c = (x, ok)) := ⟨_, _, rfl⟩
  obtain ⟨x2, o2, HX2⟩ : ∃ x ok, Hid (rd2 ns c = (x, ok)) := ⟨_, _, rfl⟩
  obtain ⟨x3, o3, HX3⟩ : ∃ x ok, Hid (rd3 ns c = (x, ok)) := ⟨_, _, rfl⟩
  obtain ⟨x4, o4, HX4⟩ : ∃ x ok, Hid (rd4 ns c = (x, ok)) := ⟨_, _, rfl⟩
  obtain ⟨x5, o5, HX5⟩ : ∃ x ok, Hid (rd5 ns c = (x, ok)) := ⟨_, _, rfl⟩
  obtain ⟨x6, o6, HX6⟩ : ∃ x ok, Hid (rd6 ns c = (x, ok)) := ⟨_, _, rfl⟩
  obtain ⟨x7, o7, HX7⟩ : ∃ x ok, Hid (rd7 ns c = (x, ok)) := ⟨_, _, rfl⟩
  have HY1 : Hid (rdN ns true 9 c = (x1, o1)) := HX1.out
  have HY2 : Hid (rdN ns o1 2 x1.b = (x2, o2)) := by have h := HX2.out; unfold rd2 at h; rw [HX1.out] at h; exact h
  have HY3 : Hid (rdN ns o2 2 x2.b = (x3, o3)) := by have h := HX3.out; unfold rd3 at h; rw [HX2.out] at h; exact h
  have HY4 : Hid (rdN ns o3 1 x3.b = (x4, o4)) := by have h := HX4.out; unfold rd4 at h; rw [HX3.out] at h; exact h
  have HY5 : Hid (rdN ns o4 1 x1.a = (x5, o5)) := by have h := HX5.out; unfold rd5 at h; rw [HX4.out, HX1.out] at h; exact h
  have HY6 : Hid (rdN ns o5 1 x2.a = (x6, o6)) := by have h := HX6.out; unfold rd6 at h; rw [HX5.out, HX2.out] at h; exact h
  have HY7 : Hid (rdN ns o6 3 x3.a = (x7, o7)) := by have h := HX7.out; unfold rd7 at h; rw [HX6.out, HX3.out] at h; exact h
  have HEND : Hid (ckE ns c = (o7 && decide (x4.n = 0)) ∧ (rd5 ns c).1.n = x5.n ∧ (rd6 ns c).1.n = x6.n ∧ (rd7 ns c).1.a = x7.a) := by unfold ckE; rw [HX7.out, HX4.out, HX5.out, HX6.out]; exact ⟨rfl, rfl, rfl, rfl⟩
  rw [HEND.out.1, HEND.out.2.1, HEND.out.2.2.1, HEND.out.2.2.2]
  clear HX1 HX2 HX3 HX4 HX5 HX6 HX7 HEND
  have hb0 : Below w.heap.size w (((w.alloc (.cells #[.slice a ns.length cap] 28)).alloc (.cells #[.int .i64 0, .int .i64 0, .int .i64 0] 133)).alloc (.cells #[.slice a ns.length cap, .bool true] 175)) := (((Below.refl _ _).alloc (Nat.le_refl _) _).alloc (by simp) _).alloc (by simp; omega) _
  have HC : Hid (Ckw w (w.heap.size + 1 + 1) a cap ns true [(w.heap.size + 1, Obj.cells #[.int .i64 0, .int .i64 0, .int .i64 0] 133 (0, 0))] (((w.alloc (.cells #[.slice a ns.length cap] 28)).alloc (.cells #[.int .i64 0, .int .i64 0, .int .i64 0] 133)).alloc (.cells #[.slice a ns.length cap, .bool true] 175))) := by
    have e0 := heap_alloc_new ((w.alloc (.cells #[.slice a ns.length cap] 28)).alloc (.cells #[.int .i64 0, .int .i64 0, .int .i64 0] 133)) (.cells #[.slice a ns.length cap, .bool true] 175)
    have e1 := heap_alloc_new (w.alloc (.cells #[.slice a ns.length cap] 28)) (.cells #[.int .i64 0, .int .i64 0, .int .i64 0] 133)
    have s0 : ((w.alloc (.cells #[.slice a ns.length cap] 28)).alloc (.cells #[.int .i64 0, .int .i64 0, .int .i64 0] 133)).heap.size = w.heap.size + 1 + 1 := by simp
    rw [s0] at e0
    refine ⟨e0, hr.later hb0, hb0, by omega, fun b o hbo => ?_, by simp⟩
    simp only [List.mem_cons, List.not_mem_nil, or_false] at hbo
    cases hbo
    exact ⟨⟨by omega, by omega⟩, (heap_alloc_old _ _ (by simp)).trans (by simpa using e1)⟩
  clear hb0 hr
  go_enter Try.func130, Try.ntmps130
  go_wp2_with fail
  generalize ((w.alloc (.cells #[.slice a ns.length cap] 28)).alloc (.cells #[.int .i64 0, .int .i64 0, .int .i64 0] 133)).alloc (.cells #[.slice a ns.length cap, .bool true] 175) = w1 at HC ⊢
  obtain ⟨g, hg⟩ : ∃ g, g = w.heap.size + 1 + 1 := ⟨_, rfl⟩
  rw [← hg] at HC ⊢
  clear hg
  refine (Ckw.node HY1 hl HC.out).mono ?_
  rintro e w1m ⟨rfl, hC⟩
  replace HC : Hid _ := hC.alloc (.cells #[.int .i64 x1.k, .int .i64 x1.n, .int .i64 x1.a, .int .i64 x1.b] 45)
  clear hC
  go_wp2_with fail
  generalize w1m.alloc (.cells #[.int .i64 x1.k, .int .i64 x1.n, .int .i64 x1.a, .int .i64 x1.b] 45) = w1n at HC ⊢
  generalize w1m.heap.size = b1 at HC ⊢
  have q2 : w1n.cell? ⟨b1, 3, none⟩ = some (.int .i64 x1.b) := (HC.out.box (List.mem_cons_self ..) 3).trans rfl
  go_wp2_with fail
  clear q2
  refine (Ckw.node HY2 hl HC.out).mono ?_
  rintro e w2m ⟨rfl, hC⟩
  replace HC : Hid _ := hC.alloc (.cells #[.int .i64 x2.k, .int .i64 x2.n, .int .i64 x2.a, .int .i64 x2.b] 45)
  clear hC
  go_wp2_with fail
  generalize w2m.alloc (.cells #[.int .i64 x2.k, .int .i64 x2.n, .int .i64 x2.a, .int .i64 x2.b] 45) = w2n at HC ⊢
  generalize w2m.heap.size = b2 at HC ⊢
  have q3 : w2n.cell? ⟨b2, 3, none⟩ = some (.int .i64 x2.b) := (HC.out.box (List.mem_cons_self ..) 3).trans rfl
  go_wp2_with fail
  clear q3
  refine (Ckw.node HY3 hl HC.out).mono ?_
  rintro e w3m ⟨rfl, hC⟩
  replace HC : Hid _ := hC.alloc (.cells #[.int .i64 x3.k, .int .i64 x3.n, .int .i64 x3.a, .int .i64 x3.b] 45)
  clear hC
  go_wp2_with fail
  generalize w3m.alloc (.cells #[.int .i64 x3.k, .int .i64 x3.n, .int .i64 x3.a, .int .i64 x3.b] 45) = w3n at HC ⊢
  generalize w3m.heap.size = b3 at HC ⊢
  have q4 : w3n.cell? ⟨b3, 3, none⟩ = some (.int .i64 x3.b) := (HC.out.box (List.mem_cons_self ..) 3).trans rfl
  go_wp2_with fail
  clear q4
  refine (Ckw.node HY4 hl HC.out).mono ?_
  rintro e w4m ⟨rfl, hC⟩
  replace HC : Hid _ := hC.alloc (.cells #[.int .i64 x4.k, .int .i64 x4.n, .int .i64 x4.a, .int .i64 x4.b] 45)
  clear hC
  go_wp2_with fail
  generalize w4m.alloc (.cells #[.int .i64 x4.k, .int .i64 x4.n, .int .i64 x4.a, .int .i64 x4.b] 45) = w4n at HC ⊢
  generalize w4m.heap.size = b4 at HC ⊢
  go_cut [11] (fun s11 wc => ∃ gv, s11 = .pointer (some ⟨gv, 0, none⟩) ∧ Hid (Ckw w g a cap ns o7 [(gv, Obj.cells #[.int .i64 x5.n, .int .i64 x6.n, .int .i64 x7.a] 133 (0, 0)), (b4, Obj.cells #[.int .i64 x4.k, .int .i64 x4.n, .int .i64 x4.a, .int .i64 x4.b] 45 (0, 0)), (b3, Obj.cells #[.int .i64 x3.k, .int .i64 x3.n, .int .i64 x3.a, .int .i64 x3.b] 45 (0, 0)), (b2, Obj.cells #[.int .i64 x2.k, .int .i64 x2.n, .int .i64 x2.a, .int .i64 x2.b] 45 (0, 0)), (b1, Obj.cells #[.int .i64 x1.k, .int .i64 x1.n, .int .i64 x1.a, .int .i64 x1.b] 45 (0, 0)), (w.heap.size + 1, Obj.cells #[.int .i64 0, .int .i64 0, .int .i64 0] 133 (0, 0))] wc))
  case first =>
    have hC0 : Hid _ := HC.out.drew
    have fd1 := fld1
    have fd2 := fld2
    go_region_held3 (fun w' => w'.cell? ⟨b1, 2, none⟩ = some (.int .i64 x1.a) ∧ w'.cell? ⟨b2, 2, none⟩ = some (.int .i64 x2.a) ∧ w'.cell? ⟨b3, 2, none⟩ = some (.int .i64 x3.a)) (first | assumption | with_reducible exact Ckw.three hC0.out (by simp) (by simp) (by simp) | with_reducible exact Ckw.three (Hid.out (Ckw.allocH (by assumption) _)) (by simp) (by simp) (by simp) | with_reducible exact Ckw.three (Hid.out (Ckw.drewH (Ckw.allocH (by assumption) _))) (by simp) (by simp) (by simp) | with_reducible exact Ckw.three (Hid.out (by assumption)) (by simp) (by simp) (by simp) | with_reducible exact Ckw.three (Hid.out (Ckw.set3H (by assumption) _ _ _)) (by simp) (by simp) (by simp)) (first | (go_at_call 170; with_reducible refine Calls.mono (Ckw.nodeH HY5 hl (by first | assumption | with_reducible exact Ckw.allocH (by assumption) _ | with_reducible exact Ckw.drewH (Ckw.allocH (by assumption) _))) ?_; rintro e v5 ⟨rfl, hC5⟩; try (obtain ⟨t0, t1, t2, t3, t4, t5⟩ := Ckw.head3 hC5.out)) | (go_at_call 170; with_reducible refine Calls.mono (Ckw.nodeH HY6 hl (by first | assumption | with_reducible exact Ckw.allocH (by assumption) _ | with_reducible exact Ckw.drewH (Ckw.allocH (by assumption) _))) ?_; rintro e v6 ⟨rfl, hC6⟩; try (obtain ⟨t0, t1, t2, t3, t4, t5⟩ := Ckw.head3 hC6.out)) | (go_at_call 170; with_reducible refine Calls.mono (Ckw.nodeH HY7 hl (by first | assumption | with_reducible exact Ckw.allocH (by assumption) _ | with_reducible exact Ckw.drewH (Ckw.allocH (by assumption) _))) ?_; rintro e v7 ⟨rfl, hC7⟩; try (obtain ⟨t0, t1, t2, t3, t4, t5⟩ := Ckw.head3 hC7.out)))
    all_goals
      go_wp2_with fail
      go_meet
      exact ⟨_, rfl, by first | with_reducible exact Ckw.allocH (by assumption) _ | with_reducible exact Ckw.set3H (by assumption) _ _ _⟩
  case rest =>
    obtain ⟨gv, rfl, HC⟩ := hcut
    have HRB : Hid (Ckw w g a cap ns o7 [(gv, Obj.cells #[.int .i64 x5.n, .int .i64 x6.n, .int .i64 x7.a] 133 (0, 0)), (b4, Obj.cells #[.int .i64 x4.k, .int .i64 x4.n, .int .i64 x4.a, .int .i64 x4.b] 45 (0, 0)), (b3, Obj.cells #[.int .i64 x3.k, .int .i64 x3.n, .int .i64 x3.a, .int .i64 x3.b] 45 (0, 0)), (b2, Obj.cells #[.int .i64 x2.k, .int .i64 x2.n, .int .i64 x2.a, .int .i64 x2.b] 45 (0, 0)), (b1, Obj.cells #[.int .i64 x1.k, .int .i64 x1.n, .int .i64 x1.a, .int .i64 x1.b] 45 (0, 0)), (w.heap.size + 1, Obj.cells #[.int .i64 0, .int .i64 0, .int .i64 0] 133 (0, 0))] wc.drew) := HC.out.drew
    have mR : (w.heap.size + 1, Obj.cells #[.int .i64 0, .int .i64 0, .int .i64 0] 133 (0, 0)) ∈ [(gv, Obj.cells #[.int .i64 x5.n, .int .i64 x6.n, .int .i64 x7.a] 133 (0, 0)), (b4, Obj.cells #[.int .i64 x4.k, .int .i64 x4.n, .int .i64 x4.a, .int .i64 x4.b] 45 (0, 0)), (b3, Obj.cells #[.int .i64 x3.k, .int .i64 x3.n, .int .i64 x3.a, .int .i64 x3.b] 45 (0, 0)), (b2, Obj.cells #[.int .i64 x2.k, .int .i64 x2.n, .int .i64 x2.a, .int .i64 x2.b] 45 (0, 0)), (b1, Obj.cells #[.int .i64 x1.k, .int .i64 x1.n, .int .i64 x1.a, .int .i64 x1.b] 45 (0, 0)), (w.heap.size + 1, Obj.cells #[.int .i64 0, .int .i64 0, .int .i64 0] 133 (0, 0))] := by simp
    have m4 : (b4, Obj.cells #[.int .i64 x4.k, .int .i64 x4.n, .int .i64 x4.a, .int .i64 x4.b] 45 (0, 0)) ∈ [(gv, Obj.cells #[.int .i64 x5.n, .int .i64 x6.n, .int .i64 x7.a] 133 (0, 0)), (b4, Obj.cells #[.int .i64 x4.k, .int .i64 x4.n, .int .i64 x4.a, .int .i64 x4.b] 45 (0, 0)), (b3, Obj.cells #[.int .i64 x3.k, .int .i64 x3.n, .int .i64 x3.a, .int .i64 x3.b] 45 (0, 0)), (b2, Obj.cells #[.int .i64 x2.k, .int .i64 x2.n, .int .i64 x2.a, .int .i64 x2.b] 45 (0, 0)), (b1, Obj.cells #[.int .i64 x1.k, .int .i64 x1.n, .int .i64 x1.a, .int .i64 x1.b] 45 (0, 0)), (w.heap.size + 1, Obj.cells #[.int .i64 0, .int .i64 0, .int .i64 0] 133 (0, 0))] := by simp
    have hR : wc.drew.heap[w.heap.size + 1]? = some (.cells #[.int .i64 0, .int .i64 0, .int .i64 0] 133 (0, 0)) := (HRB.out.boxes _ _ mR).2
    have HNE : Hid (w.heap.size + 1 ≠ g ∧ gv ≠ w.heap.size + 1 ∧ b4 ≠ w.heap.size + 1) := by
      have h1 := (HRB.out.boxes _ _ mR).1.1
      have h2 := HRB.out.nd
      simp only [List.pairwise_cons, List.mem_cons, List.not_mem_nil, or_false, forall_eq_or_imp, forall_eq] at h2
      exact ⟨h1, h2.1.2.2.2.2, h2.2.1.2.2.2⟩
    have HS0 : Hid ((fun w' => w'.cell? ⟨gv, 0, none⟩ = some (.int .i64 x5.n) ∧ w'.cell? ⟨gv, 1, none⟩ = some (.int .i64 x6.n) ∧ w'.cell? ⟨gv, 2, none⟩ = some (.int .i64 x7.a) ∧ w'.cell? ⟨g, 1, none⟩ = some (.bool o7) ∧ w'.cell? ⟨b4, 1, none⟩ = some (.int .i64 x4.n)) wc.drew) := ⟨HRB.out.box (List.mem_cons_self ..) 0, HRB.out.box (List.mem_cons_self ..) 1, HRB.out.box (List.mem_cons_self ..) 2, (cell_of_row _ _ 1 _ _ _ HRB.out.rd).trans rfl, HRB.out.box m4 1⟩
    have HF : Hid _ := fin3 HC.out.bel (Nat.le_add_right _ 1) (HC.out.boxes _ _ mR).2 (.int .i64 x5.n) (.int .i64 x6.n) (.int .i64 x7.a)
    have r0 : wc.cell? ⟨w.heap.size + 1, 0, none⟩ = some (.int .i64 0) := (cell_of_row wc.drew _ 0 _ _ _ hR).trans rfl
    have f0 : wc.frozen? ⟨w.heap.size + 1, 0, none⟩ = false := frozen_of_row wc.drew _ 0 _ _ hR
    have r1 : wc.cell? ⟨w.heap.size + 1, 1, none⟩ = some (.int .i64 0) := (cell_of_row wc.drew _ 1 _ _ _ hR).trans rfl
    have f1 : wc.frozen? ⟨w.heap.size + 1, 1, none⟩ = false := frozen_of_row wc.drew _ 1 _ _ hR
    have r2 : wc.cell? ⟨w.heap.size + 1, 2, none⟩ = some (.int .i64 0) := (cell_of_row wc.drew _ 2 _ _ _ hR).trans rfl
    have f2 : wc.frozen? ⟨w.heap.size + 1, 2, none⟩ = false := frozen_of_row wc.drew _ 2 _ _ hR
    clear HC HRB mR m4 hR
    go_wp2_with fail
    cases o7 with
    | false =>
      refine _root_.Go.wp_region_held (S := fun w' => w'.cell? ⟨gv, 0, none⟩ = some (.int .i64 x5.n) ∧ w'.cell? ⟨gv, 1, none⟩ = some (.int .i64 x6.n) ∧ w'.cell? ⟨gv, 2, none⟩ = some (.int .i64 x7.a) ∧ w'.cell? ⟨g, 1, none⟩ = some (.bool false) ∧ w'.cell? ⟨b4, 1, none⟩ = some (.int .i64 x4.n)) (by kernel_rfl) ?_
      have hS : (fun w' : World => w'.cell? ⟨gv, 0, none⟩ = some (.int .i64 x5.n) ∧ w'.cell? ⟨gv, 1, none⟩ = some (.int .i64 x6.n) ∧ w'.cell? ⟨gv, 2, none⟩ = some (.int .i64 x7.a) ∧ w'.cell? ⟨g, 1, none⟩ = some (.bool false) ∧ w'.cell? ⟨b4, 1, none⟩ = some (.int .i64 x4.n)) wc.drew := HS0.out
      refine wpAnyH_take (i := 0) (v := ?_) rfl (by kernel_rfl) (by kernel_rfl) (by kernel_rfl) (fun _ _ _ h => h) (Or.inl ⟨by rfl, ?_⟩) hS ?_
      rotate_left
      · intro w hSw; obtain ⟨y0, y1, y2, y3, y4⟩ := hSw; go_simp; try with_reducible rfl
      simp only [Act.put, List.getElem_toArray, List.getElem_cons_zero, List.setIfInBounds_toArray, List.set_cons_succ, List.set_cons_zero]
      refine wpAnyH_take (i := 1) (v := ?_) rfl (by kernel_rfl) (by kernel_rfl) (by kernel_rfl) (fun _ _ _ h => h) (Or.inl ⟨by rfl, ?_⟩) hS ?_
      rotate_left
      · intro w hSw; obtain ⟨y0, y1, y2, y3, y4⟩ := hSw; go_simp; try with_reducible rfl
      simp only [Act.put, List.getElem_toArray, List.getElem_cons_succ, List.getElem_cons_zero, List.setIfInBounds_toArray, List.set_cons_succ, List.set_cons_zero]
      refine wpAnyH_take (i := 2) (v := ?_) rfl (by kernel_rfl) (by kernel_rfl) (by kernel_rfl) (fun _ _ _ h => h) (Or.inl ⟨by rfl, ?_⟩) hS ?_
      rotate_left
      · intro w hSw; obtain ⟨y0, y1, y2, y3, y4⟩ := hSw; go_simp; try with_reducible rfl
      simp only [Act.put, List.getElem_toArray, List.getElem_cons_succ, List.getElem_cons_zero, List.setIfInBounds_toArray, List.set_cons_succ, List.set_cons_zero]
      refine wpAnyH_take (i := 3) (v := ?_) rfl (by kernel_rfl) (by kernel_rfl) (by kernel_rfl) (fun _ _ _ h => h) (Or.inl ⟨by rfl, ?_⟩) hS ?_
      rotate_left
      · intro w hSw; obtain ⟨y0, y1, y2, y3, y4⟩ := hSw; go_simp; try with_reducible rfl
      simp only [Act.put, List.getElem_toArray, List.getElem_cons_succ, List.getElem_cons_zero, List.setIfInBounds_toArray, List.set_cons_succ, List.set_cons_zero]
      refine wpAnyH_take (i := 4) (v := undef) rfl (by kernel_rfl) (by kernel_rfl) (by kernel_rfl) (fun _ _ _ h => h) (Or.inr ⟨by rfl, rfl⟩) hS ?_
      simp only [Act.put, List.getElem_toArray, List.getElem_cons_succ, List.getElem_cons_zero, List.setIfInBounds_toArray, List.set_cons_succ, List.set_cons_zero]
      refine wpAnyH_take (i := 5) (v := undef) rfl (by kernel_rfl) (by kernel_rfl) (by kernel_rfl) (fun _ _ _ h => h) (Or.inr ⟨by rfl, rfl⟩) hS ?_
      simp only [Act.put, List.getElem_toArray, List.getElem_cons_succ, List.getElem_cons_zero, List.setIfInBounds_toArray, List.set_cons_succ, List.set_cons_zero]
      refine wpAnyH_take (i := 6) (v := undef) rfl (by kernel_rfl) (by kernel_rfl) (by kernel_rfl) (fun _ _ _ h => h) (Or.inr ⟨by rfl, rfl⟩) hS ?_
      simp only [Act.put, List.getElem_toArray, List.getElem_cons_succ, List.getElem_cons_zero, List.setIfInBounds_toArray, List.set_cons_succ, List.set_cons_zero]
      refine wpAnyH_take (i := 7) (v := ?_) rfl (by kernel_rfl) (by kernel_rfl) (by kernel_rfl) (fun _ _ _ h => h) (Or.inl ⟨by rfl, ?_⟩) hS ?_
      rotate_left
      · intro w hSw; obtain ⟨y0, y1, y2, y3, y4⟩ := hSw; go_simp; try with_reducible rfl
      simp only [Act.put, List.getElem_toArray, List.getElem_cons_succ, List.getElem_cons_zero, List.setIfInBounds_toArray, List.set_cons_succ, List.set_cons_zero]
      refine wpAnyH_ready (rs := [8]) (by kernel_rfl) (by simp) ?_
      refine AllReadyH.cons rfl (fun K hK => ?_) AllReadyH.nil
      go_wp2_with fail
      refine hK.out _ _ ⟨keep5 HNE.out.2.1 HS0.out.1, keep5 HNE.out.2.1 HS0.out.2.1, keep5 HNE.out.2.1 HS0.out.2.2.1, keep5 (Ne.symm HNE.out.1) HS0.out.2.2.2.1, keep5 HNE.out.2.2 HS0.out.2.2.2.2⟩ (fun hS => ?_)
      clear hK K
      refine wpAnyH_ready (rs := [9]) (by kernel_rfl) (by simp) ?_
      refine AllReadyH.cons rfl (fun K hK => ?_) AllReadyH.nil
      go_wp2_with fail
      refine hK.out _ _ hS (fun hS => ?_)
      clear hK K hS HS0
      refine wpAnyH_done (by kernel_rfl) ?_ _
      clear r0 r1 r2 f0 f1 f2
      go_wp2
      refine bodyPost_ret (res_cell2 rfl _ _ (w.heap.size + 1) 133 #[.int .i64 x5.n, .int .i64 x6.n, .int .i64 x7.a] (0, 0) _ rfl HF.out.1 Try.underlying133 rfl cvSize) rfl ?_
      exact ⟨rfl, HF.out.2.drew⟩
    | true =>
      refine _root_.Go.wp_region_held (S := fun w' => w'.cell? ⟨gv, 0, none⟩ = some (.int .i64 x5.n) ∧ w'.cell? ⟨gv, 1, none⟩ = some (.int .i64 x6.n) ∧ w'.cell? ⟨gv, 2, none⟩ = some (.int .i64 x7.a) ∧ w'.cell? ⟨g, 1, none⟩ = some (.bool true) ∧ w'.cell? ⟨b4, 1, none⟩ = some (.int .i64 x4.n)) (by kernel_rfl) ?_
      have hS : (fun w' : World => w'.cell? ⟨gv, 0, none⟩ = some (.int .i64 x5.n) ∧ w'.cell? ⟨gv, 1, none⟩ = some (.int .i64 x6.n) ∧ w'.cell? ⟨gv, 2, none⟩ = some (.int .i64 x7.a) ∧ w'.cell? ⟨g, 1, none⟩ = some (.bool true) ∧ w'.cell? ⟨b4, 1, none⟩ = some (.int .i64 x4.n)) wc.drew := HS0.out
      refine wpAnyH_take (i := 0) (v := ?_) rfl (by kernel_rfl) (by kernel_rfl) (by kernel_rfl) (fun _ _ _ h => h) (Or.inl ⟨by rfl, ?_⟩) hS ?_
      rotate_left
      · intro w hSw; obtain ⟨y0, y1, y2, y3, y4⟩ := hSw; go_simp; try with_reducible rfl
      simp only [Act.put, List.getElem_toArray, List.getElem_cons_zero, List.setIfInBounds_toArray, List.set_cons_succ, List.set_cons_zero]
      refine wpAnyH_take (i := 1) (v := ?_) rfl (by kernel_rfl) (by kernel_rfl) (by kernel_rfl) (fun _ _ _ h => h) (Or.inl ⟨by rfl, ?_⟩) hS ?_
      rotate_left
      · intro w hSw; obtain ⟨y0, y1, y2, y3, y4⟩ := hSw; go_simp; try with_reducible rfl
      simp only [Act.put, List.getElem_toArray, List.getElem_cons_succ, List.getElem_cons_zero, List.setIfInBounds_toArray, List.set_cons_succ, List.set_cons_zero]
      refine wpAnyH_take (i := 2) (v := ?_) rfl (by kernel_rfl) (by kernel_rfl) (by kernel_rfl) (fun _ _ _ h => h) (Or.inl ⟨by rfl, ?_⟩) hS ?_
      rotate_left
      · intro w hSw; obtain ⟨y0, y1, y2, y3, y4⟩ := hSw; go_simp; try with_reducible rfl
      simp only [Act.put, List.getElem_toArray, List.getElem_cons_succ, List.getElem_cons_zero, List.setIfInBounds_toArray, List.set_cons_succ, List.set_cons_zero]
      refine wpAnyH_take (i := 3) (v := ?_) rfl (by kernel_rfl) (by kernel_rfl) (by kernel_rfl) (fun _ _ _ h => h) (Or.inl ⟨by rfl, ?_⟩) hS ?_
      rotate_left
      · intro w hSw; obtain ⟨y0, y1, y2, y3, y4⟩ := hSw; go_simp; try with_reducible rfl
      simp only [Act.put, List.getElem_toArray, List.getElem_cons_succ, List.getElem_cons_zero, List.setIfInBounds_toArray, List.set_cons_succ, List.set_cons_zero]
      refine wpAnyH_take (i := 4) (v := ?_) rfl (by kernel_rfl) (by kernel_rfl) (by kernel_rfl) (fun _ _ _ h => h) (Or.inl ⟨by rfl, ?_⟩) hS ?_
      rotate_left
      · intro w hSw; obtain ⟨y0, y1, y2, y3, y4⟩ := hSw; go_simp; try with_reducible rfl
      simp only [Act.put, List.getElem_toArray, List.getElem_cons_succ, List.getElem_cons_zero, List.setIfInBounds_toArray, List.set_cons_succ, List.set_cons_zero]
      refine wpAnyH_take (i := 5) (v := ?_) rfl (by kernel_rfl) (by kernel_rfl) (by kernel_rfl) (fun _ _ _ h => h) (Or.inl ⟨by rfl, ?_⟩) hS ?_
      rotate_left
      · intro w hSw; obtain ⟨y0, y1, y2, y3, y4⟩ := hSw; go_simp; try with_reducible rfl
      simp only [Act.put, List.getElem_toArray, List.getElem_cons_succ, List.getElem_cons_zero, List.setIfInBounds_toArray, List.set_cons_succ, List.set_cons_zero]
      refine wpAnyH_take (i := 6) (v := ?_) rfl (by kernel_rfl) (by kernel_rfl) (by kernel_rfl) (fun _ _ _ h => h) (Or.inl ⟨by rfl, ?_⟩) hS ?_
      rotate_left
      · intro w hSw; obtain ⟨y0, y1, y2, y3, y4⟩ := hSw; go_simp; try with_reducible rfl
      simp only [Act.put, List.getElem_toArray, List.getElem_cons_succ, List.getElem_cons_zero, List.setIfInBounds_toArray, List.set_cons_succ, List.set_cons_zero]
      refine wpAnyH_take (i := 7) (v := ?_) rfl (by kernel_rfl) (by kernel_rfl) (by kernel_rfl) (fun _ _ _ h => h) (Or.inl ⟨by rfl, ?_⟩) hS ?_
      rotate_left
      · intro w hSw; obtain ⟨y0, y1, y2, y3, y4⟩ := hSw; go_simp; try with_reducible rfl
      simp only [Act.put, List.getElem_toArray, List.getElem_cons_succ, List.getElem_cons_zero, List.setIfInBounds_toArray, List.set_cons_succ, List.set_cons_zero]
      refine wpAnyH_ready (rs := [8]) (by kernel_rfl) (by simp) ?_
      refine AllReadyH.cons rfl (fun K hK => ?_) AllReadyH.nil
      go_wp2_with fail
      refine hK.out _ _ ⟨keep5 HNE.out.2.1 HS0.out.1, keep5 HNE.out.2.1 HS0.out.2.1, keep5 HNE.out.2.1 HS0.out.2.2.1, keep5 (Ne.symm HNE.out.1) HS0.out.2.2.2.1, keep5 HNE.out.2.2 HS0.out.2.2.2.2⟩ (fun hS => ?_)
      clear hK K
      refine wpAnyH_ready (rs := [9]) (by kernel_rfl) (by simp) ?_
      refine AllReadyH.cons rfl (fun K hK => ?_) AllReadyH.nil
      go_wp2_with fail
      refine hK.out _ _ hS (fun hS => ?_)
      clear hK K hS HS0
      refine wpAnyH_done (by kernel_rfl) ?_ _
      clear r0 r1 r2 f0 f1 f2
      go_wp2
      refine bodyPost_ret (res_cell2 rfl _ _ (w.heap.size + 1) 133 #[.int .i64 x5.n, .int .i64 x6.n, .int .i64 x7.a] (0, 0) _ rfl HF.out.1 Try.underlying133 rfl cvSize) rfl ?_
      refine ⟨?_, HF.out.2.drew⟩
      rw [show decide (x4.n = 0) = (x4.n == 0) from Bool.eq_iff_iff.2 (by simp)]
      rfl
theorem cvGuard : Try.prog.eqGuardType Try.prog.depth 133 = false := by kernel_rfl
theorem cvFields : Try.prog.underlying 133 = some (.struct (Try.prog.fieldsOf 133)) := by kernel_rfl
theorem cvHeld : Try.prog.stoodInHeld 133 = false := by kernel_rfl
/-- Structs of a cookie compared. -/
theorem cv_eql (a b c x y z : Int) (w : World) : (Op.equalIn 10000 133 (.agg #[.int .i64 a, .int .i64 b, .int .i64 c]) (.agg #[.int .i64 x, .int .i64 y, .int .i64 z])).run Try.prog w = .ok (decide (a = x) && (decide (b = y) && decide (c = z))) w := by
  rw [show (10000 : Nat) = 9999 + 1 from rfl, run_equalIn_agg _ _ _ _ _ cvFields cvHeld]
  simp only [Program.fieldsOf, Try.underlying133]
  by_cases h0 : a = x <;> by_cases h1 : b = y <;> by_cases h2 : c = z <;> go_simp <;> simp [h0, h1, h2]
theorem implCookOk_any (a : Option Addr) (cap : Nat) (ns : List Nd) (se ad he c : Int) (w : World) (hl : ns.length ≤ 1048576) (hr : RowN w.heap.size w a ns) :
    Calls Try.prog 60 #[.agg #[.slice a ns.length cap], .int .i64 se, .int .i64 ad, .int .i64 he, .int .i64 c] w fun e w' => e = .returned (.bool (ckF ns se ad he c)) ∧ Below w.heap.size w w' := by
  obtain ⟨ok, HOK⟩ : ∃ ok, Hid (ckE ns c = ok) := ⟨_, rfl⟩
  have HC : Hid _ := cookieAt_any a cap ns c (w.alloc (.cells #[.slice a ns.length cap] 28)) hl (hr.grown ((Below.refl _ _).alloc (Nat.le_refl _) _))
  have HB : Hid (Below w.heap.size w (w.alloc (.cells #[.slice a ns.length cap] 28))) := (Below.refl _ _).alloc (Nat.le_refl _) _
  have HV : Hid (ckF ns se ad he c = (ok && (decide ((rd5 ns c).1.n = se) && (decide ((rd6 ns c).1.n = ad) && decide ((rd7 ns c).1.a = he))))) := by show _ = _; unfold ckF; rw [HOK.out]
  rw [HOK.out] at HC
  generalize (rd5 ns c).1.n = v0 at HC HV
  generalize (rd6 ns c).1.n = v1 at HC HV
  generalize (rd7 ns c).1.a = v2 at HC HV
  rw [HV.out]
  clear hr HOK HV
  have hgd := cvGuard
  have hel := cv_eql v0 v1 v2 se ad he
  cases ok
  · go_enter Try.func60, Try.ntmps60
    go_wp2_with fail
    refine Calls.mono HC.out ?_
    rintro e w2 ⟨rfl, hb2⟩
    have HE : Hid (Below w.heap.size w w2) := HB.out.trans (hb2.mono HB.out.size)
    clear hb2 HC HB
    go_wp2
    go_ret
    exact ⟨rfl, HE.out.alloc HE.out.size _⟩
  · generalize (decide (v0 = se) && (decide (v1 = ad) && decide (v2 = he))) = r at hel ⊢
    go_enter Try.func60, Try.ntmps60
    go_wp2_with fail
    refine Calls.mono HC.out ?_
    rintro e w2 ⟨rfl, hb2⟩
    have HE : Hid (Below w.heap.size w w2) := HB.out.trans (hb2.mono HB.out.size)
    clear hb2 HC HB
    go_wp2
    go_ret
    exact ⟨by simp, HE.out.alloc HE.out.size _⟩

end Go.Proofs.Ytffnadnndmmliaa
