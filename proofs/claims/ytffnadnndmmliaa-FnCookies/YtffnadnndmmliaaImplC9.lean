/- The program's CookieOf (chapter 9): a cookie is a value that is told by closures, put whole or not at all. -/
import Derived.Test.YtffnadnndmmliaaListLit
import Derived.Test.YtffnadnndmmliaaLawClip
import Derived.OpenShut
import Derived.Test.YtffnadnndmmliaaRegionK
import Derived.Test.YtffnadnndmmliaaLawKeep
namespace Go.Proofs.Ytffnadnndmmliaa
open Go.RowKit Go.Maps
set_option linter.unusedVariables false
theorem ToldIs.on9 {L : Nat} {w w' : World} {t : Tl} {v : Value} (hb : Below w.heap.size w w') (h : ToldIs L w.heap.size w t v) : ToldIs L w'.heap.size w' t v := ToldIs.base hb.size _ (ToldIs.later hb _ h)
theorem ToldAll.on9 {L : Nat} {w w' : World} {xs : List Tl} {vs : List Value} (hb : Below w.heap.size w w') (h : ToldAll L w.heap.size w xs vs) : ToldAll L w'.heap.size w' xs vs := ⟨h.1, fun m hm => ToldIs.on9 hb (h.2 m hm)⟩

set_option maxHeartbeats 3200000 in
set_option maxRecDepth 20000 in
theorem asTold_any {L : Nat} (se ad he : Int) (w : World) (hL : L ≤ w.heap.size) :
    Calls Try.prog 129 #[.agg #[.int .i64 se, .int .i64 ad, .int .i64 he]] w (ToldP L (cookT se ad he) w) := by
  have hb0 : Below w.heap.size w (w.alloc (.cells #[.int .i64 se, .int .i64 ad, .int .i64 he] 133)) := (Below.refl _ _).alloc (Nat.le_refl _) _
  have h0 := heap_alloc_new w (.cells #[.int .i64 se, .int .i64 ad, .int .i64 he] 133)
  have HI : Hid ((w.alloc (.cells #[.int .i64 se, .int .i64 ad, .int .i64 he] 133)).heap[w.heap.size]? = some (.cells #[.int .i64 se, .int .i64 ad, .int .i64 he] 133 (0, 0)) ∧ w.heap.size < (w.alloc (.cells #[.int .i64 se, .int .i64 ad, .int .i64 he] 133)).heap.size ∧ Below w.heap.size w (w.alloc (.cells #[.int .i64 se, .int .i64 ad, .int .i64 he] 133))) := ⟨h0, by simp, hb0⟩
  clear h0 hb0
  go_enter Try.func129, Try.ntmps129
  go_wp2_with fail
  generalize w.alloc (.cells #[.int .i64 se, .int .i64 ad, .int .i64 he] 133) = w1 at HI ⊢
  refine wp_region_list (I := fun w' => w'.heap[w.heap.size]? = some (.cells #[.int .i64 se, .int .i64 ad, .int .i64 he] 133 (0, 0)) ∧ w.heap.size < w'.heap.size ∧ Below w.heap.size w w') (R := fun _ w' w'' => Below w'.heap.size w' w'')
    (fs := #[⟨[4], fun vs _ => vs = [.pointer (some ⟨w.heap.size, 1, none⟩)]⟩, ⟨[5], fun vs _ => vs = [.int .i64 ad]⟩, ⟨[6], fun vs w' => ∃ v, vs = [v] ∧ ToldIs L w'.heap.size w' (.atom ad) v⟩, ⟨[7], fun vs _ => vs = [.pointer (some ⟨w.heap.size, 2, none⟩)]⟩, ⟨[8], fun vs _ => vs = [.int .i64 he]⟩, ⟨[9], fun vs w' => ∃ v, vs = [v] ∧ ToldIs L w'.heap.size w' (.pl he) v⟩, ⟨[10], fun vs w' => ∃ v, vs = [v] ∧ ToldIs L w'.heap.size w' (.hash (.pl he)) v⟩, ⟨[11], fun vs w' => ∃ h u0 u1, vs = [.slice (some ⟨h, 0, none⟩) 2 2] ∧ (L ≤ h ∧ h < w'.heap.size) ∧ w'.heap[h]? = some (.cells #[u0, u1] 116 (0, 0)) ∧ ToldAll L w'.heap.size w' [.atom ad, .hash (.pl he)] [u0, u1]⟩, ⟨[12], fun vs w' => ∃ v, vs = [v] ∧ ToldIs L w'.heap.size w' (.list [.atom ad, .hash (.pl he)]) v⟩, ⟨[3], fun vs w' => ∃ v, vs = [v] ∧ ToldIs L w'.heap.size w' (.list [.atom ad, .hash (.pl he)]) v⟩])
    (by kernel_rfl) 18 rfl (by kernel_rfl) ?stab ?istab ?start ?exec ?fin
  case stab =>
    intro k i f hki hf
    have hk : k < 10 := (Array.getElem?_eq_some_iff.1 hf).1
    rcases (show k = 0 ∨ k = 1 ∨ k = 2 ∨ k = 3 ∨ k = 4 ∨ k = 5 ∨ k = 6 ∨ k = 7 ∨ k = 8 ∨ k = 9 by omega) with rfl | rfl | rfl | rfl | rfl | rfl | rfl | rfl | rfl | rfl
    all_goals
      simp only [List.getElem?_toArray, List.getElem?_cons_succ, List.getElem?_cons_zero, Option.some.injEq] at hf
      subst hf
    · exact fun vs _ _ _ h => h
    · exact fun vs _ _ _ h => h
    · exact fun vs w' w'' hR ⟨v, h1, h2⟩ => ⟨v, h1, ToldIs.on9 hR h2⟩
    · exact fun vs _ _ _ h => h
    · exact fun vs _ _ _ h => h
    · exact fun vs w' w'' hR ⟨v, h1, h2⟩ => ⟨v, h1, ToldIs.on9 hR h2⟩
    · exact fun vs w' w'' hR ⟨v, h1, h2⟩ => ⟨v, h1, ToldIs.on9 hR h2⟩
    · exact fun vs w' w'' hR ⟨h, u0, u1, h1, h2, h3, h4⟩ => ⟨h, u0, u1, h1, ⟨h2.1, by have := Below.size hR; omega⟩, (Below.block hR h h2.2).trans h3, ToldAll.on9 hR h4⟩
    · exact fun vs w' w'' hR ⟨v, h1, h2⟩ => ⟨v, h1, ToldIs.on9 hR h2⟩
    · exact fun vs w' w'' hR ⟨v, h1, h2⟩ => ⟨v, h1, ToldIs.on9 hR h2⟩
  case istab => exact fun i w' w'' hR ⟨h1, h3, h4⟩ => ⟨(Below.block hR _ h3).trans h1, by have := Below.size hR; omega, h4.trans (Below.mono hR (by omega))⟩
  case start => exact ⟨HI.out.1, HI.out.2.1, HI.out.2.2.drew⟩
  case exec =>
    intro i o f hi hf act wq hsz hI hold hpre
    have hi11 : i < 10 := (Array.getElem?_eq_some_iff.1 hi).1
    rcases (show i = 0 ∨ i = 1 ∨ i = 2 ∨ i = 3 ∨ i = 4 ∨ i = 5 ∨ i = 6 ∨ i = 7 ∨ i = 8 ∨ i = 9 by omega) with rfl | rfl | rfl | rfl | rfl | rfl | rfl | rfl | rfl | rfl
    all_goals
      simp only [List.getElem?_toArray, List.getElem?_cons_succ, List.getElem?_cons_zero, Option.some.injEq] at hi hf
      subst hi hf
    · have g1 : act.tmps.getD 1 undef = .pointer (some ⟨w.heap.size, 0, none⟩) := hold 1 (free_spec (by kernel_rfl))
      refine exec_same (v := .pointer (some ⟨w.heap.size, 1, none⟩)) ?_ ⟨_, rfl, Below.refl _ _, at_one (by omega) rfl⟩
      simp [go_sem, Act.eval, g1]
    · have g4 : act.tmps.getD 4 undef = .pointer (some ⟨w.heap.size, 1, none⟩) := by have := of_one (hpre ⟨0, .data⟩ (by simp) rfl _ rfl); simpa using this
      have hc : wq.cell? ⟨w.heap.size, 1, none⟩ = some (.int .i64 ad) := (cell_of_row _ _ 1 _ _ _ hI.1).trans rfl
      refine exec_same (v := .int .i64 ad) ?_ ⟨_, rfl, Below.refl _ _, at_one (by omega) rfl⟩
      simp [go_sem, Act.eval, g4, hc]
    · have g5 : act.tmps.getD 5 undef = .int .i64 ad := by have := of_one (hpre ⟨1, .data⟩ (by simp) rfl _ rfl); simpa using this
      refine exec_call (f := 117) (args := #[.int .i64 ad]) (by simp [go_sem, Act.eval, g5]) ?_
      refine Calls.mono (toldAtom_any (L := L) ad wq (by have := hI.2.1; omega)) ?_
      rintro e w2 ⟨v2, rfl, l2, hb2⟩
      exact ⟨_, rfl, _, rfl, hb2, ⟨_, by show [(act.put _ _).tmps.getD _ undef] = _; rw [put_same _ _ _ (by omega)], l2⟩⟩
    · have g1 : act.tmps.getD 1 undef = .pointer (some ⟨w.heap.size, 0, none⟩) := hold 1 (free_spec (by kernel_rfl))
      refine exec_same (v := .pointer (some ⟨w.heap.size, 2, none⟩)) ?_ ⟨_, rfl, Below.refl _ _, at_one (by omega) rfl⟩
      simp [go_sem, Act.eval, g1]
    · have g7 : act.tmps.getD 7 undef = .pointer (some ⟨w.heap.size, 2, none⟩) := by have := of_one (hpre ⟨3, .data⟩ (by simp) rfl _ rfl); simpa using this
      have hc : wq.cell? ⟨w.heap.size, 2, none⟩ = some (.int .i64 he) := (cell_of_row _ _ 2 _ _ _ hI.1).trans rfl
      refine exec_same (v := .int .i64 he) ?_ ⟨_, rfl, Below.refl _ _, at_one (by omega) rfl⟩
      simp [go_sem, Act.eval, g7, hc]
    · have g8 : act.tmps.getD 8 undef = .int .i64 he := by have := of_one (hpre ⟨4, .data⟩ (by simp) rfl _ rfl); simpa using this
      refine exec_call (f := 115) (args := #[.int .i64 he]) (by simp [go_sem, Act.eval, g8]) ?_
      refine Calls.mono (toldAt_any (L := L) he wq (by have := hI.2.1; omega)) ?_
      rintro e w2 ⟨v2, rfl, l2, hb2⟩
      exact ⟨_, rfl, _, rfl, hb2, ⟨_, by show [(act.put _ _).tmps.getD _ undef] = _; rw [put_same _ _ _ (by omega)], l2⟩⟩
    · obtain ⟨ua, h1_ua, lua⟩ := hpre ⟨5, .data⟩ (by simp) rfl _ rfl
      have g9 : act.tmps.getD 9 undef = ua := by simpa using h1_ua
      have g9' : act.tmps[9]?.getD undef = ua := by simpa using g9
      refine exec_call (f := 118) (args := #[ua]) (by simp [go_sem, Act.eval, g9]) ?_
      refine Calls.mono (toldHash_any (L := L) _ ua wq (by have := hI.2.1; omega) lua) ?_
      rintro e w2 ⟨v2, rfl, l2, hb2⟩
      exact ⟨_, rfl, _, rfl, hb2, ⟨_, by show [(act.put _ _).tmps.getD _ undef] = _; rw [put_same _ _ _ (by omega)], l2⟩⟩
    · obtain ⟨ua, h1_ua, lua⟩ := hpre ⟨2, .data⟩ (by simp) rfl _ rfl
      have g6 : act.tmps.getD 6 undef = ua := by simpa using h1_ua
      have g6' : act.tmps[6]?.getD undef = ua := by simpa using g6
      obtain ⟨ub, h1_ub, lub⟩ := hpre ⟨6, .data⟩ (by simp) rfl _ rfl
      have g10 : act.tmps.getD 10 undef = ub := by simpa using h1_ub
      have g10' : act.tmps[10]?.getD undef = ub := by simpa using g10
      obtain ⟨Fa, ca, rfl⟩ := lua.fn
      obtain ⟨Fb, cb, rfl⟩ := lub.fn
      have hbN : Below wq.heap.size wq (wq.alloc (.cells #[.func (.func Fa) #[] ca, .func (.func Fb) #[] cb] 116)) := (Below.refl _ _).alloc (Nat.le_refl _) _
      refine exec_made (w' := wq.alloc (.cells #[.func (.func Fa) #[] ca, .func (.func Fb) #[] cb] 116)) (v := .slice (some ⟨wq.heap.size, 0, none⟩) 2 2) ?_ ⟨_, rfl, hbN, ⟨_, _, _, by show [(act.put _ _).tmps.getD _ undef] = _; rw [put_same _ _ _ (by omega)], ⟨by have := hI.2.1; omega, by simp⟩, heap_alloc_new _ _, ToldAll.on9 hbN (toldAll2 lua lub)⟩⟩
      simp [go_sem, Act.eval, g6', g10']
    · obtain ⟨h, u0, u1, h1, h2, h3, h4⟩ := hpre ⟨7, .data⟩ (by simp) rfl _ rfl
      have g11 : act.tmps.getD 11 undef = .slice (some ⟨h, 0, none⟩) 2 2 := by simpa using h1
      refine exec_call (f := 169) (args := #[.slice (some ⟨h, 0, none⟩) 2 2]) (by simp [go_sem, Act.eval, g11]) ?_
      refine Calls.mono (toldList_any _ [u0, u1] wq (by have := hI.2.1; omega) h2 h3 h4) ?_
      rintro e w2 ⟨v2, rfl, l2, hb2⟩
      exact ⟨_, rfl, _, rfl, hb2, ⟨_, by show [(act.put _ _).tmps.getD _ undef] = _; rw [put_same _ _ _ (by omega)], l2⟩⟩
    · obtain ⟨ux, h1_ux, lux⟩ := hpre ⟨8, .data⟩ (by simp) rfl _ rfl
      have g12 : act.tmps.getD 12 undef = ux := by simpa using h1_ux
      have g12' : act.tmps[12]?.getD undef = ux := by simpa using g12
      refine exec_same (v := ux) ?_ ⟨_, rfl, Below.refl _ _, ⟨_, by show [(act.put _ _).tmps.getD _ undef] = _; rw [put_same _ _ _ (by omega)], lux⟩⟩
      simp [go_sem, Act.eval, g12]
  case fin =>
    intro zs w5 hzl hI hF
    obtain ⟨z0, z1, z2, z3, z4, z5, z6, z7, z8, z9, rfl⟩ := list10 zs hzl
    obtain ⟨vr, hv, lr⟩ := of_one (hF 9 _ rfl)
    simp only [List.cons.injEq, and_true] at hv
    have hs3 := last_is (i := 9) (v := z9) (n := 18) hv (by kernel_rfl) rfl rfl (by omega)
    clear hv
    subst hs3
    obtain ⟨Fl, cl, rfl⟩ := lr.fn
    have c0 : w5.cell? ⟨w.heap.size, 0, none⟩ = some (.int .i64 se) := (cell_of_row _ _ 0 _ _ _ hI.1).trans rfl
    have HE : Hid (ToldIs L w5.heap.size w5 (.list [.atom ad, .hash (.pl he)]) (.func (.func Fl) #[] cl) ∧ L ≤ w5.heap.size ∧ Below w.heap.size w w5) := ⟨lr, by have := hI.2.1; omega, hI.2.2⟩
    clear hF lr hI hL
    simp only [putAll, Act.put, List.setIfInBounds_toArray, List.set_cons_succ, List.set_cons_zero]
    go_wp2_with fail
    refine Calls.mono (toldAtom_any (L := L) se _ HE.out.2.1) ?_
    rintro e w6 ⟨v6, rfl, l6, hb6⟩
    obtain ⟨Fs, cs, rfl⟩ := l6.fn
    have HG : Hid (ToldIs L w6.heap.size w6 (.atom se) (.func (.func Fs) #[] cs) ∧ ToldIs L w6.heap.size w6 (.list [.atom ad, .hash (.pl he)]) (.func (.func Fl) #[] cl) ∧ L ≤ w6.heap.size ∧ Below w.heap.size w w6) := ⟨l6, ToldIs.on9 hb6 HE.out.1, by have := hb6.size; have := HE.out.2.1; omega, HE.out.2.2.trans (hb6.mono (by have := HE.out.2.2.size; omega))⟩
    clear l6 hb6 HE c0
    go_wp2_with fail
    refine Calls.mono (toldTwo_any (L := L) 9 _ _ _ _ w6 HG.out.2.2.1 HG.out.1 HG.out.2.1) ?_
    rintro e w7 ⟨v7, rfl, l7, hb7⟩
    obtain ⟨Ft, ct, rfl⟩ := l7.fn
    have HK : Hid (ToldP L (cookT se ad he) w (.returned (.func (.func Ft) #[] ct)) w7) := ⟨_, rfl, l7, HG.out.2.2.2.trans (hb7.mono (by have := HG.out.2.2.2.size; omega))⟩
    clear l7 hb7 HG
    go_wp2
    go_ret
    exact HK.out
theorem rg_new9 (w : World) (a : Option Addr) (n cap : Nat) : RgI w a n cap [] ((w.alloc (.cells #[.slice a n cap] 28)).alloc (.cells #[.slice none 0 0] 28)) := by
  have e0 := heap_alloc_new w (.cells #[.slice a n cap] 28)
  have e1 := heap_alloc_new (w.alloc (.cells #[.slice a n cap] 28)) (.cells #[.slice none 0 0] 28)
  have s1 : (w.alloc (.cells #[.slice a n cap] 28)).heap.size = w.heap.size + 1 := by simp
  rw [s1] at e1
  exact ⟨((Below.refl _ _).alloc (Nat.le_refl _) _).alloc (by simp) _, (heap_alloc_old _ _ (by rw [s1]; omega)).trans e0, ⟨_, e1⟩, by simp, fun p hp => absurd hp (by simp)⟩
set_option maxHeartbeats 3200000 in
set_option maxRecDepth 20000 in
theorem implCookie_any (a : Option Addr) (cap : Nat) (ns : List Nd) (se ad he : Int) (w : World) (hl : ns.length ≤ 1048576) (hf : ∀ y ∈ ns, y.Fits) (h1 : (Lit.int .i64 se).wf = true) (h2 : (Lit.int .i64 ad).wf = true) (h3 : (Lit.int .i64 he).wf = true) (ha : AddrN a cap) (hr : RowN w.heap.size w a ns) :
    Calls Try.prog 57 #[.agg #[.slice a ns.length cap], .int .i64 se, .int .i64 ad, .int .i64 he] w fun e w' => ∃ v, e = .returned (.tuple #[.agg #[v], .int .i64 (ckK ns se ad he)]) ∧ OwnC w.heap.size w' v (keptA ns (ckA ns se ad he) (ckK ns se ad he)) ∧ Below w.heap.size w w' := by
  have HYES0 : Hid (∀ (v : Value) (wz : World), Below w.heap.size w wz → ToldIs (w.heap.size + 2) wz.heap.size wz (cookT se ad he) v → Calls Try.prog 112 #[v, .agg #[.slice a ns.length cap]] wz fun e w' => ∃ v', e = .returned (.tuple #[.agg #[v'], .int .i64 (ckK ns se ad he)]) ∧ OwnC wz.heap.size w' v' (keptA ns (ckA ns se ad he) (ckK ns se ad he)) ∧ Below wz.heap.size wz w') :=
    fun v wz hb ht => cookPut v a cap ns se ad he wz hl hf h1 h2 h3 ha (hr.grown hb) ht
  generalize keptA ns (ckA ns se ad he) (ckK ns se ad he) = KP at HYES0 ⊢
  generalize ckK ns se ad he = KK at HYES0 ⊢
  have HYES := HYES0
  clear HYES0 hf h1 h2 h3 ha hr hl
  go_enter Try.func57, Try.ntmps57
  go_wp2_with fail
  have HI : Hid (RgI w a ns.length cap [] ((w.alloc (.cells #[.slice a ns.length cap] 28)).alloc (.cells #[.slice none 0 0] 28))) := rg_new9 w a ns.length cap
  generalize (w.alloc (.cells #[.slice a ns.length cap] 28)).alloc (.cells #[.slice none 0 0] 28) = w1 at HI ⊢
  refine wp_region_list (I := fun w' => RgI w a ns.length cap [] w') (R := RgR (w.heap.size + 1) 9)
    (fs := #[⟨[10], fun vs _ => vs = [.int .i64 se]⟩, ⟨[11], fun vs _ => vs = [.int .i64 ad]⟩, ⟨[12], fun vs _ => vs = [.int .i64 he]⟩, ⟨[13], fun vs _ => vs = [.agg #[.int .i64 se, .int .i64 ad, .int .i64 he]]⟩, ⟨[14], fun vs w' => ∃ v, vs = [v] ∧ ToldIs (w.heap.size + 2) w'.heap.size w' (cookT se ad he) v⟩, ⟨[15], fun vs _ => vs = [.agg #[.slice a ns.length cap]]⟩, ⟨[16], fun vs w' => ∃ v, vs = [.tuple #[.agg #[v], .int .i64 KK]] ∧ OwnC (w.heap.size + 2) w' v KP⟩, ⟨[17], fun vs w' => ∃ v, vs = [.agg #[v]] ∧ OwnC (w.heap.size + 2) w' v KP⟩, ⟨[18], fun vs _ => vs = [.int .i64 KK]⟩, ⟨[], fun vs w' => ∃ a9 c9, w'.heap[w.heap.size + 1]? = some (.cells #[.slice a9 KP.length c9] 28 (0, 0)) ∧ OwnC (w.heap.size + 2) w' (.slice a9 KP.length c9) KP⟩, ⟨[9], fun vs _ => vs = [.int .i64 KK]⟩])
    (by kernel_rfl) 19 rfl (by kernel_rfl) ?stab ?istab ?start ?exec ?fin
  case stab =>
    intro k i f hki hf
    have hk : k < 11 := (Array.getElem?_eq_some_iff.1 hf).1
    rcases (show k = 0 ∨ k = 1 ∨ k = 2 ∨ k = 3 ∨ k = 4 ∨ k = 5 ∨ k = 6 ∨ k = 7 ∨ k = 8 ∨ k = 9 ∨ k = 10 by omega) with rfl | rfl | rfl | rfl | rfl | rfl | rfl | rfl | rfl | rfl | rfl
    all_goals
      simp only [List.getElem?_toArray, List.getElem?_cons_succ, List.getElem?_cons_zero, Option.some.injEq] at hf
      subst hf
    · exact fun vs _ _ _ h => h
    · exact fun vs _ _ _ h => h
    · exact fun vs _ _ _ h => h
    · exact fun vs _ _ _ h => h
    · exact fun vs w' w'' hR ⟨v, h1, h2⟩ => ⟨v, h1, RgR.told hR (by omega) _ h2⟩
    · exact fun vs _ _ _ h => h
    · exact fun vs w' w'' hR ⟨v, h1, h2⟩ => ⟨v, h1, RgR.own hR (by omega) h2⟩
    · exact fun vs w' w'' hR ⟨v, h1, h2⟩ => ⟨v, h1, RgR.own hR (by omega) h2⟩
    · exact fun vs _ _ _ h => h
    · exact fun vs w' w'' hR ⟨a9, c9, h1, h2⟩ => ⟨a9, c9, by have h3 := hR; unfold RgR at h3; rw [if_neg (Ne.symm hki)] at h3; exact (h3.block _ (Array.getElem?_eq_some_iff.1 h1).1).trans h1, RgR.own hR (by omega) h2⟩
    · exact fun vs _ _ _ h => h
  case istab => exact fun i w' w'' hR h => h.next hR
  case start => exact HI.out.drew
  case exec =>
    intro i o f hi hf act wq hsz hI hold hpre
    have hi11 : i < 11 := (Array.getElem?_eq_some_iff.1 hi).1
    rcases (show i = 0 ∨ i = 1 ∨ i = 2 ∨ i = 3 ∨ i = 4 ∨ i = 5 ∨ i = 6 ∨ i = 7 ∨ i = 8 ∨ i = 9 ∨ i = 10 by omega) with rfl | rfl | rfl | rfl | rfl | rfl | rfl | rfl | rfl | rfl | rfl
    all_goals
      simp only [List.getElem?_toArray, List.getElem?_cons_succ, List.getElem?_cons_zero, Option.some.injEq] at hi hf
      subst hi hf
    · have g1 : act.tmps.getD 1 undef = .int .i64 se := hold 1 (free_spec (by kernel_rfl))
      refine exec_same (v := .int .i64 se) ?_ ⟨_, rfl, (by show (if _ then _ else _); rw [if_neg (by decide)]; exact Below.refl _ _), at_one (by omega) rfl⟩
      simp [go_sem, Act.eval, g1]
    · have g2 : act.tmps.getD 2 undef = .int .i64 ad := hold 2 (free_spec (by kernel_rfl))
      refine exec_same (v := .int .i64 ad) ?_ ⟨_, rfl, (by show (if _ then _ else _); rw [if_neg (by decide)]; exact Below.refl _ _), at_one (by omega) rfl⟩
      simp [go_sem, Act.eval, g2]
    · have g3 : act.tmps.getD 3 undef = .int .i64 he := hold 3 (free_spec (by kernel_rfl))
      refine exec_same (v := .int .i64 he) ?_ ⟨_, rfl, (by show (if _ then _ else _); rw [if_neg (by decide)]; exact Below.refl _ _), at_one (by omega) rfl⟩
      simp [go_sem, Act.eval, g3]
    · have g10 : act.tmps.getD 10 undef = .int .i64 se := by have := of_one (hpre ⟨0, .data⟩ (by simp) rfl _ rfl); simpa using this
      have g11 : act.tmps.getD 11 undef = .int .i64 ad := by have := of_one (hpre ⟨1, .data⟩ (by simp) rfl _ rfl); simpa using this
      have g12 : act.tmps.getD 12 undef = .int .i64 he := by have := of_one (hpre ⟨2, .data⟩ (by simp) rfl _ rfl); simpa using this
      have g10' : act.tmps[10]?.getD undef = .int .i64 se := by simpa using g10
      have g11' : act.tmps[11]?.getD undef = .int .i64 ad := by simpa using g11
      have g12' : act.tmps[12]?.getD undef = .int .i64 he := by simpa using g12
      refine exec_same (v := .agg #[.int .i64 se, .int .i64 ad, .int .i64 he]) ?_ ⟨_, rfl, (by show (if _ then _ else _); rw [if_neg (by decide)]; exact Below.refl _ _), at_one (by omega) rfl⟩
      simp [go_sem, Act.eval, g10', g11', g12']
    · have g13 : act.tmps.getD 13 undef = .agg #[.int .i64 se, .int .i64 ad, .int .i64 he] := by have := of_one (hpre ⟨3, .data⟩ (by simp) rfl _ rfl); simpa using this
      refine exec_call (f := 129) (args := #[.agg #[.int .i64 se, .int .i64 ad, .int .i64 he]]) (by simp [go_sem, Act.eval, g13]) ?_
      refine Calls.mono (asTold_any (L := (w.heap.size + 2)) se ad he wq hI.size) ?_
      rintro e w2 ⟨v2, rfl, l2, hb2⟩
      exact ⟨_, rfl, _, rfl, (by show (if _ then _ else _); rw [if_neg (by decide)]; exact hb2), ⟨_, by show [(act.put _ _).tmps.getD _ undef] = _; rw [put_same _ _ _ (by omega)], l2⟩⟩
    · have g4 : act.tmps.getD 4 undef = .pointer (some ⟨w.heap.size, 0, none⟩) := hold 4 (free_spec (by kernel_rfl))
      have hc : wq.cell? ⟨w.heap.size, 0, none⟩ = some (.slice a ns.length cap) := (cell_of_row _ _ 0 _ _ _ hI.box).trans rfl
      refine exec_same (v := .agg #[.slice a ns.length cap]) ?_ ⟨_, rfl, (by show (if _ then _ else _); rw [if_neg (by decide)]; exact Below.refl _ _), at_one (by omega) rfl⟩
      simp [go_sem, Act.eval, g4, hc]
    · obtain ⟨ua, h1_ua, lua⟩ := hpre ⟨4, .data⟩ (by simp) rfl _ rfl
      have g14 : act.tmps.getD 14 undef = ua := by simpa using h1_ua
      have g14' : act.tmps[14]?.getD undef = ua := by simpa using g14
      have g15 : act.tmps.getD 15 undef = .agg #[.slice a ns.length cap] := by have := of_one (hpre ⟨5, .data⟩ (by simp) rfl _ rfl); simpa using this
      refine exec_call (f := 112) (args := #[ua, .agg #[.slice a ns.length cap]]) (by simp [go_sem, Act.eval, g14, g15]) ?_
      refine Calls.mono (HYES.out _ wq hI.below lua) ?_
      rintro e w2 ⟨v2, rfl, l2, hb2⟩
      exact ⟨_, rfl, _, rfl, (by show (if _ then _ else _); rw [if_neg (by decide)]; exact hb2), ⟨_, by show [(act.put _ _).tmps.getD _ undef] = _; rw [put_same _ _ _ (by omega)], l2.base (by have := hI.size; omega)⟩⟩
    · obtain ⟨uu, h1u, lu⟩ := hpre ⟨6, .data⟩ (by simp) rfl _ rfl
      have gu : act.tmps[16]?.getD undef = .tuple #[.agg #[uu], .int .i64 KK] := by simpa using h1u
      refine exec_same (v := .agg #[uu]) ?_ ⟨_, rfl, (by show (if _ then _ else _); rw [if_neg (by decide)]; exact Below.refl _ _), ⟨_, by show [(act.put _ _).tmps.getD _ undef] = _; rw [put_same _ _ _ (by omega)], lu⟩⟩
      simp [go_sem, Act.eval, gu]
    · obtain ⟨uu, h1u, lu⟩ := hpre ⟨6, .data⟩ (by simp) rfl _ rfl
      have gu : act.tmps[16]?.getD undef = .tuple #[.agg #[uu], .int .i64 KK] := by simpa using h1u
      refine exec_same (v := .int .i64 KK) ?_ ⟨_, rfl, (by show (if _ then _ else _); rw [if_neg (by decide)]; exact Below.refl _ _), at_one (by omega) rfl⟩
      simp [go_sem, Act.eval, gu]
    · obtain ⟨uu, h1u, lu⟩ := hpre ⟨7, .data⟩ (by simp) rfl _ rfl
      have gu : act.tmps[17]?.getD undef = .agg #[uu] := by simpa using h1u
      obtain ⟨a9, c9, rfl, -, -⟩ := lu.row
      have g8 : act.tmps.getD 8 undef = .pointer (some ⟨w.heap.size + 1, 0, none⟩) := hold 8 (free_spec (by kernel_rfl))
      obtain ⟨u0, hu0⟩ := hI.res
      have hcg : wq.cell? ⟨w.heap.size + 1, 0, none⟩ = some u0 := by rw [cell_of_row wq _ 0 _ _ _ hu0]; rfl
      have hfg : wq.frozen? ⟨w.heap.size + 1, 0, none⟩ = false := frozen_of_row wq _ 0 _ _ hu0
      have hRR : RgR (w.heap.size + 1) 9 9 wq (wq.setCell ⟨w.heap.size + 1, 0, none⟩ (.slice a9 KP.length c9)) := by show (if _ then _ else _); rw [if_pos rfl]; exact ⟨_, rfl⟩
      refine exec_skip (w' := wq.setCell ⟨w.heap.size + 1, 0, none⟩ (.slice a9 KP.length c9)) ?_ ⟨_, rfl, hRR, ⟨a9, c9, (heap_setCell_same wq _ 0 _ _ _ hu0).trans rfl, RgR.own hRR (by omega) lu⟩⟩
      simp [go_sem, Act.eval, g8, gu, hcg, hfg]
    · have g18 : act.tmps.getD 18 undef = .int .i64 KK := by have := of_one (hpre ⟨8, .data⟩ (by simp) rfl _ rfl); simpa using this
      refine exec_same (v := .int .i64 KK) ?_ ⟨_, rfl, (by show (if _ then _ else _); rw [if_neg (by decide)]; exact Below.refl _ _), at_one (by omega) rfl⟩
      simp [go_sem, Act.eval, g18]
  case fin =>
    intro zs w5 hzl hI hF
    obtain ⟨z0, z1, z2, z3, z4, z5, z6, z7, z8, z9, z10, rfl⟩ := list11 zs hzl
    obtain ⟨a9, c9, hbox, hown⟩ := hF 9 _ rfl
    have hint := of_one (hF 10 _ rfl)
    simp only [List.cons.injEq, and_true] at hint
    have hs3 := last_is (i := 10) (v := z10) (n := 19) hint (by kernel_rfl) rfl rfl (by omega)
    clear hint
    subst hs3
    clear hF
    simp only [putAll, Act.put, List.setIfInBounds_toArray, List.set_cons_succ, List.set_cons_zero]
    have HE : Hid _ := And.intro hbox (And.intro hown hI.below)
    clear hbox hI hown
    go_wp2
    refine bodyPost_ret (res_cell2 rfl _ _ (w.heap.size + 1) 28 #[.slice a9 KP.length c9] (0, 0) _ rfl ?_ Try.underlying28 rfl arenaSize) rfl ?_
    · exact HE.out.1
    · exact ⟨_, rfl, HE.out.2.1.base (by omega), HE.out.2.2⟩
end Go.Proofs.Ytffnadnndmmliaa
