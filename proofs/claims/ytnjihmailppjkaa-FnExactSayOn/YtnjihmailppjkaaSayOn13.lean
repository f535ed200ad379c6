/- Chapter 13's SayOn, the specification's. -/
import Derived.Test.YtnjihmailppjkaaNext13
import Derived.Test.YtnjihmailppjkaaTermPut
import Derived.Test.YtnjihmailppjkaaLawClip
import Derived.Deep.RegionHeld3
namespace Go.Proofs.Ytnjihmailppjkaa
open Go.RowKit Go.Maps
set_option linter.unusedVariables false
set_option linter.unusedSimpArgs false
theorem res_ccu {P : Program} {fn : Func} {p q u : Tmp} {ty tz : TypeId} (h : fn.results = #[.cell p ty, .cell q tz, .tmp u]) (tmps : Array Value) (w : World) (g k : Nat) (t t' : TypeId) (cs ds : Array Value) (fr fs : Nat × Nat) (d d' : TypeDesc)
    (hp : tmps.getD p undef = .pointer (some ⟨g, 0, none⟩)) (hq : tmps.getD q undef = .pointer (some ⟨k, 0, none⟩)) (hg : w.heap[g]? = some (.cells cs t fr)) (hk : w.heap[k]? = some (.cells ds t' fs))
    (hu : P.underlying ty = some d) (hd : (match d with | .struct _ | .array _ _ => true | _ => false) = true) (hi : (P.info? ty).map (·.size) = some cs.size)
    (hu' : P.underlying tz = some d') (hd' : (match d' with | .struct _ | .array _ _ => true | _ => false) = true) (hi' : (P.info? tz).map (·.size) = some ds.size) :
    (results fn tmps).run P w = .ok (.tuple #[.agg cs, .agg ds, tmps.getD u undef]) w := by
  have hp' : tmps[p]?.getD undef = .pointer (some ⟨g, 0, none⟩) := by simpa using hp
  have hq' : tmps[q]?.getD undef = .pointer (some ⟨k, 0, none⟩) := by simpa using hq
  simp [results, h, hp', hq', asAddr, run_loadVar_row w g t ty cs fr d hg hu hd hi, run_loadVar_row w k t' tz ds fs d' hk hu' hd' hi']
/-- The four boxes with which SayOn begins. -/
structure Sy4 (w : World) (a : Option Addr) (n cap : Nat) (X : Array Value) (w' : World) : Prop where
  below : Below w.heap.size w w'
  size : w.heap.size + 4 ≤ w'.heap.size
  arg : w'.heap[w.heap.size]? = some (.cells #[.slice a n cap] 39 (0, 0))
  chan : w'.heap[w.heap.size + 1]? = some (.cells X 25 (0, 0))
  res : w'.heap[w.heap.size + 2]? = some (.cells #[.slice none 0 0] 39 (0, 0))
  out : w'.heap[w.heap.size + 3]? = some (.cells #[.int .i64 0, .int .i64 0, .int .i64 0, .int .i64 0, .int .i64 0, .int .i64 0, .int .i64 0, .int .i64 0, .int .i64 0] 25 (0, 0))
theorem Sy4.next {w : World} {a : Option Addr} {n cap : Nat} {X : Array Value} {w' w'' : World} (h : Sy4 w a n cap X w') (hb : Below w'.heap.size w' w'') : Sy4 w a n cap X w'' := by
  have := h.size
  exact ⟨h.below.trans (hb.mono h.below.size), Nat.le_trans h.size hb.size, (hb.block _ (by omega)).trans h.arg, (hb.block _ (by omega)).trans h.chan, (hb.block _ (by omega)).trans h.res, (hb.block _ (by omega)).trans h.out⟩
theorem sy4_new (w : World) (a : Option Addr) (ns : List Nd) (cap : Nat) (x : Ch) : Sy4 w a ns.length cap #[.int .i64 x.a, .int .i64 x.s, .int .i64 x.e, .int .i64 x.q, .int .i64 x.h, .int .i64 x.t, .int .i64 x.u, .int .i64 x.l, .int .i64 x.m] ((((w.alloc (.cells #[.slice a ns.length cap] 39)).alloc (.cells #[.int .i64 x.a, .int .i64 x.s, .int .i64 x.e, .int .i64 x.q, .int .i64 x.h, .int .i64 x.t, .int .i64 x.u, .int .i64 x.l, .int .i64 x.m] 25)).alloc (.cells #[.slice none 0 0] 39)).alloc (.cells #[.int .i64 0, .int .i64 0, .int .i64 0, .int .i64 0, .int .i64 0, .int .i64 0, .int .i64 0, .int .i64 0, .int .i64 0] 25)) := by
  refine ⟨((((Below.refl _ _).alloc (Nat.le_refl _) _).alloc (by simp) _).alloc (by simp <;> omega) _).alloc (by simp <;> omega) _, by simp, ?_, ?_, ?_, ?_⟩
  · exact (heap_alloc_old _ _ (by simp <;> omega)).trans ((heap_alloc_old _ _ (by simp <;> omega)).trans ((heap_alloc_old _ _ (by simp)).trans (heap_alloc_new w _)))
  · refine (heap_alloc_old _ _ (by simp <;> omega)).trans ((heap_alloc_old _ _ (by simp)).trans ?_)
    have := heap_alloc_new (w.alloc (.cells #[.slice a ns.length cap] 39)) (.cells #[.int .i64 x.a, .int .i64 x.s, .int .i64 x.e, .int .i64 x.q, .int .i64 x.h, .int .i64 x.t, .int .i64 x.u, .int .i64 x.l, .int .i64 x.m] 25)
    simpa using this
  · refine (heap_alloc_old _ _ (by simp)).trans ?_
    have := heap_alloc_new ((w.alloc (.cells #[.slice a ns.length cap] 39)).alloc (.cells #[.int .i64 x.a, .int .i64 x.s, .int .i64 x.e, .int .i64 x.q, .int .i64 x.h, .int .i64 x.t, .int .i64 x.u, .int .i64 x.l, .int .i64 x.m] 25)) (.cells #[.slice none 0 0] 39)
    rw [show ((w.alloc (.cells #[.slice a ns.length cap] 39)).alloc (.cells #[.int .i64 x.a, .int .i64 x.s, .int .i64 x.e, .int .i64 x.q, .int .i64 x.h, .int .i64 x.t, .int .i64 x.u, .int .i64 x.l, .int .i64 x.m] 25)).heap.size = w.heap.size + 2 by simp] at this
    exact this
  · have := heap_alloc_new (((w.alloc (.cells #[.slice a ns.length cap] 39)).alloc (.cells #[.int .i64 x.a, .int .i64 x.s, .int .i64 x.e, .int .i64 x.q, .int .i64 x.h, .int .i64 x.t, .int .i64 x.u, .int .i64 x.l, .int .i64 x.m] 25)).alloc (.cells #[.slice none 0 0] 39)) (.cells #[.int .i64 0, .int .i64 0, .int .i64 0, .int .i64 0, .int .i64 0, .int .i64 0, .int .i64 0, .int .i64 0, .int .i64 0] 25)
    rw [show (((w.alloc (.cells #[.slice a ns.length cap] 39)).alloc (.cells #[.int .i64 x.a, .int .i64 x.s, .int .i64 x.e, .int .i64 x.q, .int .i64 x.h, .int .i64 x.t, .int .i64 x.u, .int .i64 x.l, .int .i64 x.m] 25)).alloc (.cells #[.slice none 0 0] 39)).heap.size = w.heap.size + 3 by simp] at this
    exact this

theorem OwnN.setRow {B g : Nat} {w : World} {v : Value} {ns : List Nd} (h : OwnN B w v ns) (hg : v.ownBlock ≠ some g) (cs : Array Value) : OwnN B (w.setRow g cs) v ns := by
  refine ⟨h.1, ?_⟩
  rcases h.2 with h0 | ⟨b, cp, cur, e, q1, q2, q3⟩
  · exact .inl h0
  · exact .inr ⟨b, cp, cur, e, q1, (setRow_other _ _ _ _ (fun eb => hg (by rw [e, ← eb]; rfl))).trans q2, q3⟩
set_option maxHeartbeats 6400000 in
set_option maxRecDepth 20000 in
theorem specSayOn_any (a : Option Addr) (cap : Nat) (ns : List Nd) (x : Ch) (b : Int) (w : World) (hl : ns.length ≤ 1048576) (ha : AddrN a cap) (hr : RowN w.heap.size w a ns) :
    Calls Try.prog 17 #[.agg #[.slice a ns.length cap], .agg #[.int .i64 x.a, .int .i64 x.s, .int .i64 x.e, .int .i64 x.q, .int .i64 x.h, .int .i64 x.t, .int .i64 x.u, .int .i64 x.l, .int .i64 x.m], .int .i64 b] w fun e w' => ∃ v, e = .returned (.tuple #[.agg #[v], .agg #[.int .i64 (sayC ns x b).a, .int .i64 (sayC ns x b).s, .int .i64 (sayC ns x b).e, .int .i64 (sayC ns x b).q, .int .i64 (sayC ns x b).h, .int .i64 (sayC ns x b).t, .int .i64 (sayC ns x b).u, .int .i64 (sayC ns x b).l, .int .i64 (sayC ns x b).m], .int .i64 (sayK ns x b)]) ∧ OwnN w.heap.size w' v (sayA ns x b) ∧ Below w.heap.size w w' := by
  obtain ⟨K, HK⟩ : ∃ K, Hid (sayK ns x b = K) := ⟨_, rfl⟩
  obtain ⟨A, HA⟩ : ∃ A, Hid (sayA ns x b = A) := ⟨_, rfl⟩
  obtain ⟨C, HC⟩ : ∃ C, Hid (sayC ns x b = C) := ⟨_, rfl⟩
  rw [HK.out, HA.out, HC.out]
  have F0 := sy4_new w a ns cap x
  have HAD : Hid (AddrN a cap) := ha
  have HR : Hid (RowN w.heap.size w a ns) := hr
  clear ha hr
  have q0 : ((((w.alloc (.cells #[.slice a ns.length cap] 39)).alloc (.cells #[.int .i64 x.a, .int .i64 x.s, .int .i64 x.e, .int .i64 x.q, .int .i64 x.h, .int .i64 x.t, .int .i64 x.u, .int .i64 x.l, .int .i64 x.m] 25)).alloc (.cells #[.slice none 0 0] 39)).alloc (.cells #[.int .i64 0, .int .i64 0, .int .i64 0, .int .i64 0, .int .i64 0, .int .i64 0, .int .i64 0, .int .i64 0, .int .i64 0] 25)).cell? ⟨w.heap.size, 0, none⟩ = some (.slice a ns.length cap) := (cell_of_row _ _ 0 _ _ _ F0.arg).trans rfl
  go_enter Try.func17, Try.ntmps17
  go_wp2_with fail
  generalize (((w.alloc (.cells #[.slice a ns.length cap] 39)).alloc (.cells #[.int .i64 x.a, .int .i64 x.s, .int .i64 x.e, .int .i64 x.q, .int .i64 x.h, .int .i64 x.t, .int .i64 x.u, .int .i64 x.l, .int .i64 x.m] 25)).alloc (.cells #[.slice none 0 0] 39)).alloc (.cells #[.int .i64 0, .int .i64 0, .int .i64 0, .int .i64 0, .int .i64 0, .int .i64 0, .int .i64 0, .int .i64 0, .int .i64 0] 25) = w0 at F0 q0 ⊢
  refine (specCopy_any a cap ns w0 hl HAD.out (HR.out.grown F0.below)).mono ?_
  rintro e w1 ⟨v, rfl, hown, hb1⟩
  obtain ⟨a1, cap1, rfl, ha1, hr1⟩ := hown.row
  have F1 := F0.next hb1
  have hs1 := hb1.size
  have hbA : Below w1.heap.size w1 (w1.alloc (.cells #[.slice a1 ns.length cap1] 39)) := (Below.refl _ _).alloc (Nat.le_refl _) _
  have HAt : Hid (ArD (fun k => k < w0.heap.size) (w1.alloc (.cells #[.slice a1 ns.length cap1] 39)) w1.heap.size ns) := ArenaAt.toD ⟨hs1, by simp, _, heap_alloc_new w1 _, hown.later hbA, fun h => by have := (hown.lt _ h).2; omega⟩
  have F2 := F1.next hbA
  have hl1 : w0.heap.size ≤ w1.heap.size := hs1
  have hs0 := F0.size
  have hl2 : w1.heap.size < (w1.alloc (.cells #[.slice a1 ns.length cap1] 39)).heap.size := by simp
  clear q0 hown hb1 ha1 hr1 hbA F0 F1 hs1
  go_upto_region 2 with fail
  generalize w1.alloc (.cells #[.slice a1 ns.length cap1] 39) = w2 at HAt F2 hl2 ⊢
  refine wp_region_lit ?_
  refine wpl_load rfl _ _ rfl _ rfl (w.heap.size + 1) #[.int .i64 x.a, .int .i64 x.s, .int .i64 x.e, .int .i64 x.q, .int .i64 x.h, .int .i64 x.t, .int .i64 x.u, .int .i64 x.l, .int .i64 x.m] rfl 25 (0, 0) F2.chan _ Try.underlying25 rfl chanSize ?_
  try simp only [Act.put, List.getElem_toArray, List.getElem_cons_succ, List.getElem_cons_zero, List.setIfInBounds_toArray, List.set_cons_succ, List.set_cons_zero]
  go_wp2_with fail
  refine Calls.mono (specSay_any (fun k => k < w0.heap.size) w1.heap.size ns x b w2 hl HAt.out (fun k hk => by omega)) ?_
  rw [HK.out, HA.out, HC.out]
  rintro e w3 ⟨rfl, hA3, hS3⟩
  have hB3 : Below w0.heap.size w2 w3 := hS3.below (fun k hk => hk)
  have F3 : Sy4 w a ns.length cap #[.int .i64 x.a, .int .i64 x.s, .int .i64 x.e, .int .i64 x.q, .int .i64 x.h, .int .i64 x.t, .int .i64 x.u, .int .i64 x.l, .int .i64 x.m] w3 := ⟨F2.below.trans (hB3.mono (by omega)), Nat.le_trans F2.size hB3.size, (hB3.block _ (by omega)).trans F2.arg, (hB3.block _ (by omega)).trans F2.chan, (hB3.block _ (by omega)).trans F2.res, (hB3.block _ (by omega)).trans F2.out⟩
  obtain ⟨t1, t2, v3, t3, t4, t5⟩ := ArD.toB hA3
  obtain ⟨a3, cap3, rfl, -, -⟩ := t4.row
  have BA3 : Hid (w3.heap[w1.heap.size]? = some (.cells #[.slice a3 A.length cap3] 39 (0, 0))) := t3
  have O3 : Hid (OwnN w0.heap.size w3 (.slice a3 A.length cap3) A) := t4
  clear hS3 hB3 hA3 F2 HAt t1 t3 t4 t5 HR HAD
  have hlC : w3.heap.size < (w3.alloc (.cells #[.int .i64 C.a, .int .i64 C.s, .int .i64 C.e, .int .i64 C.q, .int .i64 C.h, .int .i64 C.t, .int .i64 C.u, .int .i64 C.l, .int .i64 C.m] 25)).heap.size := by simp
  have hlA : w1.heap.size < w3.heap.size := t2
  go_upto_region 3 with fail
  have hbC : Below w3.heap.size w3 (w3.alloc (.cells #[.int .i64 C.a, .int .i64 C.s, .int .i64 C.e, .int .i64 C.q, .int .i64 C.h, .int .i64 C.t, .int .i64 C.u, .int .i64 C.l, .int .i64 C.m] 25)) := (Below.refl _ _).alloc (Nat.le_refl _) _
  have F := F3.next hbC
  have BA : Hid ((w3.alloc (.cells #[.int .i64 C.a, .int .i64 C.s, .int .i64 C.e, .int .i64 C.q, .int .i64 C.h, .int .i64 C.t, .int .i64 C.u, .int .i64 C.l, .int .i64 C.m] 25)).heap[w1.heap.size]? = some (.cells #[.slice a3 A.length cap3] 39 (0, 0))) := (hbC.block _ hlA).trans BA3.out
  have BC : Hid ((w3.alloc (.cells #[.int .i64 C.a, .int .i64 C.s, .int .i64 C.e, .int .i64 C.q, .int .i64 C.h, .int .i64 C.t, .int .i64 C.u, .int .i64 C.l, .int .i64 C.m] 25)).heap[w3.heap.size]? = some (.cells #[.int .i64 C.a, .int .i64 C.s, .int .i64 C.e, .int .i64 C.q, .int .i64 C.h, .int .i64 C.t, .int .i64 C.u, .int .i64 C.l, .int .i64 C.m] 25 (0, 0))) := heap_alloc_new w3 _
  have hnb : ∀ k, (Value.slice a3 A.length cap3).ownBlock = some k → w0.heap.size ≤ k := fun k hk => (O3.out.lt k hk).1
  have O : Hid (OwnN w.heap.size (w3.alloc (.cells #[.int .i64 C.a, .int .i64 C.s, .int .i64 C.e, .int .i64 C.q, .int .i64 C.h, .int .i64 C.t, .int .i64 C.u, .int .i64 C.l, .int .i64 C.m] 25)) (.slice a3 A.length cap3) A ∧ (Value.slice a3 A.length cap3).ownBlock ≠ some (w.heap.size + 2) ∧ (Value.slice a3 A.length cap3).ownBlock ≠ some (w.heap.size + 3)) := ⟨(O3.out.later hbC).base (by omega), fun e => by have := hnb _ e; omega, fun e => by have := hnb _ e; omega⟩
  have hgA2 : w1.heap.size ≠ w.heap.size + 2 := by omega
  have hgA3 : w1.heap.size ≠ w.heap.size + 3 := by omega
  have hgC2 : w3.heap.size ≠ w.heap.size + 2 := by omega
  have hgC3 : w3.heap.size ≠ w.heap.size + 3 := by omega
  clear hbC BA3 O3 F3 hnb t2
  generalize w3.alloc (.cells #[.int .i64 C.a, .int .i64 C.s, .int .i64 C.e, .int .i64 C.q, .int .i64 C.h, .int .i64 C.t, .int .i64 C.u, .int .i64 C.l, .int .i64 C.m] 25) = w4 at F BA BC O hlC ⊢
  generalize w3.heap.size = gC at BC hgC2 hgC3 hlC hlA ⊢
  generalize w1.heap.size = gA at BA hgA2 hgA3 hl1 hl2 hlA ⊢
  have hd : Below w4.heap.size w4 w4.drew := (Below.refl _ _).drew
  have Fd := F.next hd
  have BAd := (hd.block _ (Array.getElem?_eq_some_iff.1 BA.out).1).trans BA.out
  have BCd := (hd.block _ (Array.getElem?_eq_some_iff.1 BC.out).1).trans BC.out
  have Od := And.intro (O.out.1.later hd) O.out.2
  clear F BA BC
  refine _root_.Go.wp_region_held (S := fun w' : World => w'.cell? ⟨gA, 0, none⟩ = some (.slice a3 A.length cap3) ∧ ChIn gC C w') (by kernel_rfl) ?_
  have hS : (fun w' : World => w'.cell? ⟨gA, 0, none⟩ = some (.slice a3 A.length cap3) ∧ ChIn gC C w') w4.drew := ⟨(cell_of_row _ _ 0 _ _ _ BAd).trans rfl, ChIn.of BCd⟩
  refine wpAnyH_take (i := 0) (v := ?_) rfl (by kernel_rfl) (by kernel_rfl) (by kernel_rfl) (fun _ _ _ h => h) (Or.inl ⟨by rfl, ?_⟩) hS ?_
  rotate_left
  · intro w hSw; obtain ⟨y0, yN⟩ := hSw; have z0 := yN.c0; have z1 := yN.c1; have z2 := yN.c2; have z3 := yN.c3; have z4 := yN.c4; have z5 := yN.c5; have z6 := yN.c6; have z7 := yN.c7; have z8 := yN.c8; go_simp; try with_reducible rfl
  simp only [Act.put, List.getElem_toArray, List.getElem_cons_zero, List.setIfInBounds_toArray, List.set_cons_succ, List.set_cons_zero]
  refine wpAnyH_take (i := 1) (v := ?_) rfl (by kernel_rfl) (by kernel_rfl) (by kernel_rfl) (fun _ _ _ h => h) (Or.inl ⟨by rfl, ?_⟩) hS ?_
  rotate_left
  · intro w hSw; obtain ⟨y0, yN⟩ := hSw; have z0 := yN.c0; have z1 := yN.c1; have z2 := yN.c2; have z3 := yN.c3; have z4 := yN.c4; have z5 := yN.c5; have z6 := yN.c6; have z7 := yN.c7; have z8 := yN.c8; go_simp; try with_reducible rfl
  simp only [Act.put, List.getElem_toArray, List.getElem_cons_succ, List.getElem_cons_zero, List.setIfInBounds_toArray, List.set_cons_succ, List.set_cons_zero]
  refine wpAnyH_take (i := 2) (v := ?_) rfl (by kernel_rfl) (by kernel_rfl) (by kernel_rfl) (fun _ _ _ h => h) (Or.inl ⟨by rfl, ?_⟩) hS ?_
  rotate_left
  · intro w hSw; obtain ⟨y0, yN⟩ := hSw; have z0 := yN.c0; have z1 := yN.c1; have z2 := yN.c2; have z3 := yN.c3; have z4 := yN.c4; have z5 := yN.c5; have z6 := yN.c6; have z7 := yN.c7; have z8 := yN.c8; go_simp; try with_reducible rfl
  simp only [Act.put, List.getElem_toArray, List.getElem_cons_succ, List.getElem_cons_zero, List.setIfInBounds_toArray, List.set_cons_succ, List.set_cons_zero]
  refine wpAnyH_ready (rs := [3]) (by kernel_rfl) (by simp) ?_
  refine AllReadyH.cons rfl (fun K hK => ?_) AllReadyH.nil
  refine ite_yes (by rfl) ?_
  refine wp_store_row _ _ _ rfl (w.heap.size + 2) #[.slice a3 A.length cap3] rfl rfl 39 #[.slice none 0 0] Fd.res arenaSize rfl (by simp [Value.oneCell']) ?_
  refine hK.out _ _ ⟨(cell_setRow_other _ _ _ _ hgA2).trans ((cell_of_row _ _ 0 _ _ _ BAd).trans rfl), ChIn.of ((setRow_other _ _ _ _ hgC2).trans BCd)⟩ (fun hS => ?_)
  clear hK K
  try simp only [Act.put, List.getElem_toArray, List.getElem_cons_succ, List.getElem_cons_zero, List.setIfInBounds_toArray, List.set_cons_succ, List.set_cons_zero]
  refine wpAnyH_ready (rs := [4]) (by kernel_rfl) (by simp) ?_
  refine AllReadyH.cons rfl (fun K hK => ?_) AllReadyH.nil
  refine ite_yes (by rfl) ?_
  refine wp_store_row _ _ _ rfl (w.heap.size + 3) #[.int .i64 C.a, .int .i64 C.s, .int .i64 C.e, .int .i64 C.q, .int .i64 C.h, .int .i64 C.t, .int .i64 C.u, .int .i64 C.l, .int .i64 C.m] rfl rfl 25 #[.int .i64 0, .int .i64 0, .int .i64 0, .int .i64 0, .int .i64 0, .int .i64 0, .int .i64 0, .int .i64 0, .int .i64 0] ((setRow_other _ _ _ _ (by omega)).trans Fd.out) chanSize rfl (by simp [Value.oneCell']) ?_
  refine hK.out _ _ ⟨(cell_setRow_other _ _ _ _ hgA3).trans hS.1, ChIn.of ((setRow_other _ _ _ _ hgC3).trans ((setRow_other _ _ _ _ hgC2).trans BCd))⟩ (fun hS => ?_)
  clear hK K
  try simp only [Act.put, List.getElem_toArray, List.getElem_cons_succ, List.getElem_cons_zero, List.setIfInBounds_toArray, List.set_cons_succ, List.set_cons_zero]
  refine wpAnyH_take (i := 5) (v := ?_) rfl (by kernel_rfl) (by kernel_rfl) (by kernel_rfl) (fun _ _ _ h => h) (Or.inl ⟨by rfl, ?_⟩) hS ?_
  rotate_left
  · intro w hSw; obtain ⟨y0, yN⟩ := hSw; have z0 := yN.c0; have z1 := yN.c1; have z2 := yN.c2; have z3 := yN.c3; have z4 := yN.c4; have z5 := yN.c5; have z6 := yN.c6; have z7 := yN.c7; have z8 := yN.c8; go_simp; try with_reducible rfl
  simp only [Act.put, List.getElem_toArray, List.getElem_cons_succ, List.getElem_cons_zero, List.setIfInBounds_toArray, List.set_cons_succ, List.set_cons_zero]
  clear hS
  refine wpAnyH_done (by kernel_rfl) ?_ _
  have HE : Hid (((w4.drew.setRow (w.heap.size + 2) #[.slice a3 A.length cap3]).setRow (w.heap.size + 3) #[.int .i64 C.a, .int .i64 C.s, .int .i64 C.e, .int .i64 C.q, .int .i64 C.h, .int .i64 C.t, .int .i64 C.u, .int .i64 C.l, .int .i64 C.m]).heap[(w.heap.size + 2)]? = some (.cells #[.slice a3 A.length cap3] 39 (0, 0)) ∧ ((w4.drew.setRow (w.heap.size + 2) #[.slice a3 A.length cap3]).setRow (w.heap.size + 3) #[.int .i64 C.a, .int .i64 C.s, .int .i64 C.e, .int .i64 C.q, .int .i64 C.h, .int .i64 C.t, .int .i64 C.u, .int .i64 C.l, .int .i64 C.m]).heap[(w.heap.size + 3)]? = some (.cells #[.int .i64 C.a, .int .i64 C.s, .int .i64 C.e, .int .i64 C.q, .int .i64 C.h, .int .i64 C.t, .int .i64 C.u, .int .i64 C.l, .int .i64 C.m] 25 (0, 0)) ∧ OwnN w.heap.size ((w4.drew.setRow (w.heap.size + 2) #[.slice a3 A.length cap3]).setRow (w.heap.size + 3) #[.int .i64 C.a, .int .i64 C.s, .int .i64 C.e, .int .i64 C.q, .int .i64 C.h, .int .i64 C.t, .int .i64 C.u, .int .i64 C.l, .int .i64 C.m]) (.slice a3 A.length cap3) A ∧ Below w.heap.size w ((w4.drew.setRow (w.heap.size + 2) #[.slice a3 A.length cap3]).setRow (w.heap.size + 3) #[.int .i64 C.a, .int .i64 C.s, .int .i64 C.e, .int .i64 C.q, .int .i64 C.h, .int .i64 C.t, .int .i64 C.u, .int .i64 C.l, .int .i64 C.m])) := ⟨(setRow_other _ _ _ _ (by omega)).trans (setRow_heap _ _ _ _ _ _ Fd.res), setRow_heap _ _ _ _ _ _ ((setRow_other _ _ _ _ (by omega)).trans Fd.out), (Od.1.setRow Od.2.1 _).setRow Od.2.2 _, below_setRow (below_setRow Fd.below (by omega) _) (by omega) _⟩
  clear Fd BAd BCd Od
  go_wp2
  refine bodyPost_ret (res_ccu rfl _ _ (w.heap.size + 2) (w.heap.size + 3) 39 25 #[.slice a3 A.length cap3] #[.int .i64 C.a, .int .i64 C.s, .int .i64 C.e, .int .i64 C.q, .int .i64 C.h, .int .i64 C.t, .int .i64 C.u, .int .i64 C.l, .int .i64 C.m] (0, 0) (0, 0) _ _ rfl rfl HE.out.1 HE.out.2.1 Try.underlying39 rfl arenaSize Try.underlying25 rfl chanSize) rfl ?_
  exact ⟨_, rfl, HE.out.2.2.1, HE.out.2.2.2⟩
end Go.Proofs.Ytnjihmailppjkaa
