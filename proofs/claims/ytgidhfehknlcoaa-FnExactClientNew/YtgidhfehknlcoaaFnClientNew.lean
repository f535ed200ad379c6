/- For every name, gate and mode: ClientNew of the program answers as the specification's ClientNew does. No condition. -/
import Derived.Test.YtgidhfehknlcoaaRows
import Derived.Test.YtgidhfehknlcoaaNew14
import Derived.WalkKit
import Derived.ProofKit
import Derived.OpenShut
import Derived.ShutString
import Derived.ChangeOld
import Derived.PlainAid
namespace Go.Proofs.Ytgidhfehknlcoaa
namespace fnExactClientNew
open Go.ChangeShapes Go.WideShapes Go.ChangeAt Go.RowKit Go.PlainAid
open Go.ChangeMaps (open_string shut_string)
set_option linter.unusedVariables false

theorem own : ownKnob Try.prog.godebug = none := by kernel_rfl

set_option linter.unusedSimpArgs false
set_option maxHeartbeats 3200000 in
set_option maxRecDepth 20000 in
theorem walk (k1 k2 k3 : Int) (w1 : (Lit.int .i64 k1).wf = true) (w2 : (Lit.int .i64 k2).wf = true) (w3 : (Lit.int .i64 k3).wf = true) (w : World) :
    Calls Try.prog 3 #[.int .i64 k1, .int .i64 k2, .int .i64 k3] w fun e w' => e = .returned (.bool true) ∧ Below w.heap.size w w' := by
  obtain ⟨G, HS, HI⟩ : ∃ G : Cl, Hid (∀ w : World, Calls Try.prog 4 #[.int .i64 k1, .int .i64 k2, .int .i64 k3] w fun e w' => e = .returned (.agg #[.int .i64 G.n, .int .i64 G.g, .int .i64 G.m, .int .i64 G.st, .int .i64 G.d, .bool G.ck, .int .i64 G.he, .int .i64 G.sa, .int .i64 G.ha, .int .i64 G.la, .int .i64 G.le, .int .i64 G.c.a, .int .i64 G.c.s, .int .i64 G.c.e, .int .i64 G.c.q, .int .i64 G.c.h, .int .i64 G.c.t, .int .i64 G.c.u, .int .i64 G.c.l, .int .i64 G.c.m, .int .i64 G.du, .int .i64 G.wa, .int .i64 G.tr]) ∧ Below w.heap.size w w') ∧ Hid (∀ w : World, Calls Try.prog 5 #[.int .i64 k1, .int .i64 k2, .int .i64 k3] w fun e w' => e = .returned (.agg #[.int .i64 G.n, .int .i64 G.g, .int .i64 G.m, .int .i64 G.st, .int .i64 G.d, .bool G.ck, .int .i64 G.he, .int .i64 G.sa, .int .i64 G.ha, .int .i64 G.la, .int .i64 G.le, .int .i64 G.c.a, .int .i64 G.c.s, .int .i64 G.c.e, .int .i64 G.c.q, .int .i64 G.c.h, .int .i64 G.c.t, .int .i64 G.c.u, .int .i64 G.c.l, .int .i64 G.c.m, .int .i64 G.du, .int .i64 G.wa, .int .i64 G.tr]) ∧ Below w.heap.size w w') := ⟨clNew k1 k2 k3, fun w => specClNew_any k1 k2 k3 w, fun w => implClNew_any k1 k2 k3 w⟩
  clear w1 w2 w3
  go_enter Try.func3, Try.ntmps3
  go_wp2_with fail
  refine (HS.out w).mono ?_
  rintro e w1m ⟨rfl, hbm⟩
  rename_i hq
  refine hq _ _ ?_
  clear hq
  refine wpList_plain rfl (fun K hK => ?_)
  unfold Oper.wp execOp
  simp [go_sem]
  refine hK _ _ ?_
  clear hK K
  refine wpList_store_rowTo rfl _ _ _ rfl rfl w1m.heap.size #[.int .i64 G.n, .int .i64 G.g, .int .i64 G.m, .int .i64 G.st, .int .i64 G.d, .bool G.ck, .int .i64 G.he, .int .i64 G.sa, .int .i64 G.ha, .int .i64 G.la, .int .i64 G.le, .int .i64 G.c.a, .int .i64 G.c.s, .int .i64 G.c.e, .int .i64 G.c.q, .int .i64 G.c.h, .int .i64 G.c.t, .int .i64 G.c.u, .int .i64 G.c.l, .int .i64 G.c.m, .int .i64 G.du, .int .i64 G.wa, .int .i64 G.tr] rfl rfl 27 #[.int .i64 0, .int .i64 0, .int .i64 0, .int .i64 0, .int .i64 0, .bool false, .int .i64 0, .int .i64 0, .int .i64 0, .int .i64 0, .int .i64 0, .int .i64 0, .int .i64 0, .int .i64 0, .int .i64 0, .int .i64 0, .int .i64 0, .int .i64 0, .int .i64 0, .int .i64 0, .int .i64 0, .int .i64 0, .int .i64 0] (heap_alloc_new w1m _) clSize rfl (by simp [Value.oneCell']) ?_
  rw [World.setRow_alloc_new]
  refine wpList_nil ?_
  have hb : Below w.heap.size w (w1m.alloc (.cells #[.int .i64 G.n, .int .i64 G.g, .int .i64 G.m, .int .i64 G.st, .int .i64 G.d, .bool G.ck, .int .i64 G.he, .int .i64 G.sa, .int .i64 G.ha, .int .i64 G.la, .int .i64 G.le, .int .i64 G.c.a, .int .i64 G.c.s, .int .i64 G.c.e, .int .i64 G.c.q, .int .i64 G.c.h, .int .i64 G.c.t, .int .i64 G.c.u, .int .i64 G.c.l, .int .i64 G.c.m, .int .i64 G.du, .int .i64 G.wa, .int .i64 G.tr] 27)) := hbm.alloc hbm.size _
  have OW1 : Hid ((w1m.alloc (.cells #[.int .i64 G.n, .int .i64 G.g, .int .i64 G.m, .int .i64 G.st, .int .i64 G.d, .bool G.ck, .int .i64 G.he, .int .i64 G.sa, .int .i64 G.ha, .int .i64 G.la, .int .i64 G.le, .int .i64 G.c.a, .int .i64 G.c.s, .int .i64 G.c.e, .int .i64 G.c.q, .int .i64 G.c.h, .int .i64 G.c.t, .int .i64 G.c.u, .int .i64 G.c.l, .int .i64 G.c.m, .int .i64 G.du, .int .i64 G.wa, .int .i64 G.tr] 27)).heap[w1m.heap.size]? = some (.cells #[.int .i64 G.n, .int .i64 G.g, .int .i64 G.m, .int .i64 G.st, .int .i64 G.d, .bool G.ck, .int .i64 G.he, .int .i64 G.sa, .int .i64 G.ha, .int .i64 G.la, .int .i64 G.le, .int .i64 G.c.a, .int .i64 G.c.s, .int .i64 G.c.e, .int .i64 G.c.q, .int .i64 G.c.h, .int .i64 G.c.t, .int .i64 G.c.u, .int .i64 G.c.l, .int .i64 G.c.m, .int .i64 G.du, .int .i64 G.wa, .int .i64 G.tr] 27 (0, 0))) := heap_alloc_new w1m _
  have HB1 : Hid (Below w.heap.size w (w1m.alloc (.cells #[.int .i64 G.n, .int .i64 G.g, .int .i64 G.m, .int .i64 G.st, .int .i64 G.d, .bool G.ck, .int .i64 G.he, .int .i64 G.sa, .int .i64 G.ha, .int .i64 G.la, .int .i64 G.le, .int .i64 G.c.a, .int .i64 G.c.s, .int .i64 G.c.e, .int .i64 G.c.q, .int .i64 G.c.h, .int .i64 G.c.t, .int .i64 G.c.u, .int .i64 G.c.l, .int .i64 G.c.m, .int .i64 G.du, .int .i64 G.wa, .int .i64 G.tr] 27))) := hb
  clear hb hbm
  generalize w1m.alloc (.cells #[.int .i64 G.n, .int .i64 G.g, .int .i64 G.m, .int .i64 G.st, .int .i64 G.d, .bool G.ck, .int .i64 G.he, .int .i64 G.sa, .int .i64 G.ha, .int .i64 G.la, .int .i64 G.le, .int .i64 G.c.a, .int .i64 G.c.s, .int .i64 G.c.e, .int .i64 G.c.q, .int .i64 G.c.h, .int .i64 G.c.t, .int .i64 G.c.u, .int .i64 G.c.l, .int .i64 G.c.m, .int .i64 G.du, .int .i64 G.wa, .int .i64 G.tr] 27) = w1 at OW1 HB1 ⊢
  generalize w1m.heap.size = g1 at OW1 ⊢
  go_wp2_with fail
  refine (HI.out w1).mono ?_
  rintro e w2m ⟨rfl, hbm⟩
  rename_i hq
  refine hq _ _ ?_
  clear hq
  refine wpList_plain rfl (fun K hK => ?_)
  unfold Oper.wp execOp
  simp [go_sem]
  refine hK _ _ ?_
  clear hK K
  refine wpList_store_rowTo rfl _ _ _ rfl rfl w2m.heap.size #[.int .i64 G.n, .int .i64 G.g, .int .i64 G.m, .int .i64 G.st, .int .i64 G.d, .bool G.ck, .int .i64 G.he, .int .i64 G.sa, .int .i64 G.ha, .int .i64 G.la, .int .i64 G.le, .int .i64 G.c.a, .int .i64 G.c.s, .int .i64 G.c.e, .int .i64 G.c.q, .int .i64 G.c.h, .int .i64 G.c.t, .int .i64 G.c.u, .int .i64 G.c.l, .int .i64 G.c.m, .int .i64 G.du, .int .i64 G.wa, .int .i64 G.tr] rfl rfl 27 #[.int .i64 0, .int .i64 0, .int .i64 0, .int .i64 0, .int .i64 0, .bool false, .int .i64 0, .int .i64 0, .int .i64 0, .int .i64 0, .int .i64 0, .int .i64 0, .int .i64 0, .int .i64 0, .int .i64 0, .int .i64 0, .int .i64 0, .int .i64 0, .int .i64 0, .int .i64 0, .int .i64 0, .int .i64 0, .int .i64 0] (heap_alloc_new w2m _) clSize rfl (by simp [Value.oneCell']) ?_
  rw [World.setRow_alloc_new]
  refine wpList_nil ?_
  have hb : Below w1.heap.size w1 (w2m.alloc (.cells #[.int .i64 G.n, .int .i64 G.g, .int .i64 G.m, .int .i64 G.st, .int .i64 G.d, .bool G.ck, .int .i64 G.he, .int .i64 G.sa, .int .i64 G.ha, .int .i64 G.la, .int .i64 G.le, .int .i64 G.c.a, .int .i64 G.c.s, .int .i64 G.c.e, .int .i64 G.c.q, .int .i64 G.c.h, .int .i64 G.c.t, .int .i64 G.c.u, .int .i64 G.c.l, .int .i64 G.c.m, .int .i64 G.du, .int .i64 G.wa, .int .i64 G.tr] 27)) := hbm.alloc hbm.size _
  have OG2 : Hid ((w2m.alloc (.cells #[.int .i64 G.n, .int .i64 G.g, .int .i64 G.m, .int .i64 G.st, .int .i64 G.d, .bool G.ck, .int .i64 G.he, .int .i64 G.sa, .int .i64 G.ha, .int .i64 G.la, .int .i64 G.le, .int .i64 G.c.a, .int .i64 G.c.s, .int .i64 G.c.e, .int .i64 G.c.q, .int .i64 G.c.h, .int .i64 G.c.t, .int .i64 G.c.u, .int .i64 G.c.l, .int .i64 G.c.m, .int .i64 G.du, .int .i64 G.wa, .int .i64 G.tr] 27)).heap[w2m.heap.size]? = some (.cells #[.int .i64 G.n, .int .i64 G.g, .int .i64 G.m, .int .i64 G.st, .int .i64 G.d, .bool G.ck, .int .i64 G.he, .int .i64 G.sa, .int .i64 G.ha, .int .i64 G.la, .int .i64 G.le, .int .i64 G.c.a, .int .i64 G.c.s, .int .i64 G.c.e, .int .i64 G.c.q, .int .i64 G.c.h, .int .i64 G.c.t, .int .i64 G.c.u, .int .i64 G.c.l, .int .i64 G.c.m, .int .i64 G.du, .int .i64 G.wa, .int .i64 G.tr] 27 (0, 0))) := heap_alloc_new w2m _
  have OW2 : Hid ((w2m.alloc (.cells #[.int .i64 G.n, .int .i64 G.g, .int .i64 G.m, .int .i64 G.st, .int .i64 G.d, .bool G.ck, .int .i64 G.he, .int .i64 G.sa, .int .i64 G.ha, .int .i64 G.la, .int .i64 G.le, .int .i64 G.c.a, .int .i64 G.c.s, .int .i64 G.c.e, .int .i64 G.c.q, .int .i64 G.c.h, .int .i64 G.c.t, .int .i64 G.c.u, .int .i64 G.c.l, .int .i64 G.c.m, .int .i64 G.du, .int .i64 G.wa, .int .i64 G.tr] 27)).heap[g1]? = some (.cells #[.int .i64 G.n, .int .i64 G.g, .int .i64 G.m, .int .i64 G.st, .int .i64 G.d, .bool G.ck, .int .i64 G.he, .int .i64 G.sa, .int .i64 G.ha, .int .i64 G.la, .int .i64 G.le, .int .i64 G.c.a, .int .i64 G.c.s, .int .i64 G.c.e, .int .i64 G.c.q, .int .i64 G.c.h, .int .i64 G.c.t, .int .i64 G.c.u, .int .i64 G.c.l, .int .i64 G.c.m, .int .i64 G.du, .int .i64 G.wa, .int .i64 G.tr] 27 (0, 0))) := (hb.block g1 (Array.getElem?_eq_some_iff.1 OW1.out).1).trans OW1.out
  have HB2 : Hid (Below w.heap.size w (w2m.alloc (.cells #[.int .i64 G.n, .int .i64 G.g, .int .i64 G.m, .int .i64 G.st, .int .i64 G.d, .bool G.ck, .int .i64 G.he, .int .i64 G.sa, .int .i64 G.ha, .int .i64 G.la, .int .i64 G.le, .int .i64 G.c.a, .int .i64 G.c.s, .int .i64 G.c.e, .int .i64 G.c.q, .int .i64 G.c.h, .int .i64 G.c.t, .int .i64 G.c.u, .int .i64 G.c.l, .int .i64 G.c.m, .int .i64 G.du, .int .i64 G.wa, .int .i64 G.tr] 27))) := HB1.out.trans (hb.mono HB1.out.size)
  clear hb hbm OW1 HB1
  generalize w2m.alloc (.cells #[.int .i64 G.n, .int .i64 G.g, .int .i64 G.m, .int .i64 G.st, .int .i64 G.d, .bool G.ck, .int .i64 G.he, .int .i64 G.sa, .int .i64 G.ha, .int .i64 G.la, .int .i64 G.le, .int .i64 G.c.a, .int .i64 G.c.s, .int .i64 G.c.e, .int .i64 G.c.q, .int .i64 G.c.h, .int .i64 G.c.t, .int .i64 G.c.u, .int .i64 G.c.l, .int .i64 G.c.m, .int .i64 G.du, .int .i64 G.wa, .int .i64 G.tr] 27) = w2 at OW2 OG2 HB2 ⊢
  generalize w2m.heap.size = g2 at OG2 ⊢
  go_upto_region 3 with fail
  refine wp_region_lit ?_
  refine wpList_load_rowTo rfl _ _ rfl _ rfl g2 #[.int .i64 G.n, .int .i64 G.g, .int .i64 G.m, .int .i64 G.st, .int .i64 G.d, .bool G.ck, .int .i64 G.he, .int .i64 G.sa, .int .i64 G.ha, .int .i64 G.la, .int .i64 G.le, .int .i64 G.c.a, .int .i64 G.c.s, .int .i64 G.c.e, .int .i64 G.c.q, .int .i64 G.c.h, .int .i64 G.c.t, .int .i64 G.c.u, .int .i64 G.c.l, .int .i64 G.c.m, .int .i64 G.du, .int .i64 G.wa, .int .i64 G.tr] rfl 27 (0, 0) OG2.out _ Try.underlying27 rfl clSize ?_
  refine wpList_load_rowTo rfl _ _ rfl _ rfl g1 #[.int .i64 G.n, .int .i64 G.g, .int .i64 G.m, .int .i64 G.st, .int .i64 G.d, .bool G.ck, .int .i64 G.he, .int .i64 G.sa, .int .i64 G.ha, .int .i64 G.la, .int .i64 G.le, .int .i64 G.c.a, .int .i64 G.c.s, .int .i64 G.c.e, .int .i64 G.c.q, .int .i64 G.c.h, .int .i64 G.c.t, .int .i64 G.c.u, .int .i64 G.c.l, .int .i64 G.c.m, .int .i64 G.du, .int .i64 G.wa, .int .i64 G.tr] rfl 27 (0, 0) OW2.out _ Try.underlying27 rfl clSize ?_
  clear OW2 OG2
  simp only [Act.put, List.getElem_toArray, List.getElem_cons_succ, List.getElem_cons_zero, List.setIfInBounds_toArray, List.set_cons_succ, List.set_cons_zero]
  go_wp2_with fail
  refine (eqClient_same G _).mono ?_
  rintro e w3 ⟨rfl, hb⟩
  have HB3 : Hid (Below w.heap.size w w3) := HB2.out.trans (hb.mono HB2.out.size)
  clear hb HB2
  go_wp2
  go_ret
  exact ⟨rfl, HB3.out⟩

set_option maxRecDepth 100000 in
theorem lifted (os : Os) (started : os.Started) (H : Type) (enc : TypeId × Value → H) :
    ReturnsInHanded {} Try.checked os 3 .any (Rows.fnExactClientNewSpec.pre6 enc Try.prog Try.f3 Rows.fnExactClientNewRow.domain false) (Rows.fnExactClientNewSpec.post enc Try.prog Try.f3 false true false false) := by
  refine returnsInHanded_of_change (C := Try.checked) own started (by kernel_rfl) Try.func3
    (ChangeSpec.witness6 (enc := enc) (C := Try.checked) false ⟨#[], #[.int .i64 0, .int .i64 0, .int .i64 0], []⟩ 8 (by kernel_rfl) (by kernel_rfl) (by kernel_rfl) (by kernel_rfl)) ?_
  intro W base args ds gs before hval0 hW hcnd _
  have hval : ∀ (j : Nat) t v, Try.f3.params[j]? = some t → args[j]? = some v → Value.okWide Try.prog W .any base t v := hval0
  have hW' := hW
  obtain ⟨p, q, hA0, hV, rfl, hfz, hnd⟩ := hW
  have hA : DataW.TrodAll enc Try.prog W 0 (fun _ => true) true Try.f3.params.toList args.toList ds p := hA0
  rw [Try.params3] at hA hval
  obtain ⟨v0, vs0, d0, ds0, p0, q0, hargs, rfl, rfl, h0, r0⟩ := trodAll_cons hA
  obtain ⟨v1, vs1, d1, ds1, p1, q1, rfl, rfl, rfl, h1, r1⟩ := trodAll_cons r0
  obtain ⟨v2, vs2, d2, ds2, p2, q2, rfl, rfl, rfl, h2, r2⟩ := trodAll_cons r1
  obtain ⟨rfl, rfl, rfl⟩ := trodAll_nil r2
  obtain rfl : args = #[v0, v1, v2] := by cases args; simp_all
  obtain ⟨rfl, rfl⟩ := trodVars_none hV
  obtain ⟨a0, rfl, rfl, rfl, w0⟩ := open_int Try.underlying3 (hval 0 3 v0 rfl rfl) h0
  obtain ⟨a1, rfl, rfl, rfl, w1⟩ := open_int Try.underlying3 (hval 1 3 v1 rfl rfl) h1
  obtain ⟨a2, rfl, rfl, rfl, w2⟩ := open_int Try.underlying3 (hval 2 3 v2 rfl rfl) h2
  clear hA0 hval0
  refine (walk a0 a1 a2 w0 w1 w2 W ).mono fun e W' ⟨he, bel⟩ => ?_
  subst he
  exact ⟨_, rfl, _, _, _, [], _, [], hW', trodAll_mk1 (shut_bool Try.underlying4 _), (trodAll_cons_mk (shut_int Try.underlying3 w0) (trodAll_cons_mk (shut_int Try.underlying3 w1) (trodAll_cons_mk (shut_int Try.underlying3 w2) trodAll_mk0))), rfl, bel.frame _, fun h => by cases h⟩

theorem over : Rows.fnExactClientNewRow.holds Try.pinned (OpenSpec.ofChange Rows.fnExactClientNewSpec) :=
  OpenClaim.holds_of_wide 3 Try.f3 rfl rfl rfl rfl rfl rfl rfl ⟨rfl, rfl, rfl, rfl, rfl⟩ rfl rfl rfl rfl rfl (by kernel_rfl) Try.func3 (by kernel_rfl)
    (of_decide_eq_true (by kernel_rfl)) (by unfold Func.isWrapper; first | (rw [if_pos (by decide +kernel)]; kernel_rfl) | (rw [if_neg (by decide +kernel)]; exact ⟨rfl, rfl⟩))
    (fun os started H enc _ => lifted os started H enc)
end fnExactClientNew

theorem fnExactClientNew_holds : Rows.FnExactClientNewSaid := fnExactClientNew.over
#print axioms fnExactClientNew_holds
end Go.Proofs.Ytgidhfehknlcoaa
