/- The program's HandOf (chapter 12). -/
import Derived.Test.YtffnadnndmmliaaTold8
import Derived.Test.YtffnadnndmmliaaPart12
import Derived.Test.YtffnadnndmmliaaLawKeep
import Derived.OpenShut
import Derived.Test.YtffnadnndmmliaaRegionK
namespace Go.Proofs.Ytffnadnndmmliaa
open Go.RowKit Go.Maps
set_option linter.unusedVariables false
theorem zl16 {α : Type} (l : List α) (h : l.length = 16) : ∃ a0 a1 a2 a3 a4 a5 a6 a7 a8 a9 a10 a11 a12 a13 a14 a15, l = [a0, a1, a2, a3, a4, a5, a6, a7, a8, a9, a10, a11, a12, a13, a14, a15] := by
  match l, h with
  | [a0, a1, a2, a3, a4, a5, a6, a7, a8, a9, a10, a11, a12, a13, a14, a15], _ => exact ⟨a0, a1, a2, a3, a4, a5, a6, a7, a8, a9, a10, a11, a12, a13, a14, a15, rfl⟩
theorem ifneg_sameD {K : Int} (h : K < 0 → K = -1) : (if K < 0 then -1 else K) = K := by
  split
  · rename_i h1; exact (h h1).symm
  · rfl
theorem make_asD {ns : List Nd} {k x y : Int} (h : ¬ (k = 1 ∨ k = 7)) : makeA ns k x y = putA ns (mkNd k x y) ∧ makeK ns k x y = putK ns (mkNd k x y) := by
  unfold makeA makeK; rw [if_neg h, if_neg h]; exact ⟨rfl, rfl⟩
theorem hnK_neg {ns : List Nd} {sc pu mo x y bo : Int} (h : hnK ns sc pu mo x y bo < 0) : hnK ns sc pu mo x y bo = -1 := by
  unfold hnK handK at h ⊢; exact makeK_neg h
theorem shT_f (mo x y : Int) (ns : List Nd) : (shT mo x y).f ns = (hnA2 ns mo x y, hnK2 ns mo x y) := by
  unfold shT hnA2 hnK2
  by_cases h : mo = 2
  · rw [if_pos h, if_pos h, if_pos h]; exact pskT_f x y ns
  · rw [if_neg h, if_neg h, if_neg h]; rfl
theorem shT_wf (mo x y : Int) : (shT mo x y).Wf := by
  unfold shT
  by_cases h : mo = 2
  · rw [if_pos h]; exact pskT_wf x y
  · rw [if_neg h]; exact WalkArith.wf_i64 (by omega)
theorem hndT_f (sc pu mo x y bo : Int) (ns : List Nd) : (Tl.two 4 (.two 2 (.dh sc pu) (shT mo x y)) (.hash (.pl bo))).f ns = (hnA ns sc pu mo x y bo, hnK ns sc pu mo x y bo) := by
  unfold hnA hnK handA handK
  rw [(make_asD (k := 4) (by omega)).1, (make_asD (k := 4) (by omega)).2, (make_asD (k := 3) (by omega)).1, (make_asD (k := 3) (by omega)).2, (make_asD (k := 2) (by omega)).1, (make_asD (k := 2) (by omega)).2]
  have e1 := Tl.dh_f sc pu ns
  have e2 := shT_f mo x y (dhA ns sc pu)
  have e3 : (Tl.two 2 (.dh sc pu) (shT mo x y)).f ns = (putA (hnA2 (dhA ns sc pu) mo x y) (mkNd 2 (dhK ns sc pu) (hnK2 (dhA ns sc pu) mo x y)), putK (hnA2 (dhA ns sc pu) mo x y) (mkNd 2 (dhK ns sc pu) (hnK2 (dhA ns sc pu) mo x y))) := by
    show (putA ((shT mo x y).f ((Tl.dh sc pu).f ns).1).1 (mkNd 2 ((Tl.dh sc pu).f ns).2 ((shT mo x y).f ((Tl.dh sc pu).f ns).1).2), putK ((shT mo x y).f ((Tl.dh sc pu).f ns).1).1 (mkNd 2 ((Tl.dh sc pu).f ns).2 ((shT mo x y).f ((Tl.dh sc pu).f ns).1).2)) = _
    rw [e1]; simp only; rw [e2]
  show (putA (putA ((Tl.two 2 (.dh sc pu) (shT mo x y)).f ns).1 (mkNd 3 bo 0)) (mkNd 4 ((Tl.two 2 (.dh sc pu) (shT mo x y)).f ns).2 (putK ((Tl.two 2 (.dh sc pu) (shT mo x y)).f ns).1 (mkNd 3 bo 0))), putK (putA ((Tl.two 2 (.dh sc pu) (shT mo x y)).f ns).1 (mkNd 3 bo 0)) (mkNd 4 ((Tl.two 2 (.dh sc pu) (shT mo x y)).f ns).2 (putK ((Tl.two 2 (.dh sc pu) (shT mo x y)).f ns).1 (mkNd 3 bo 0)))) = _
  rw [e3]
set_option maxHeartbeats 1600000 in
set_option maxRecDepth 20000 in
theorem implHnd_any (a : Option Addr) (cap : Nat) (ns : List Nd) (sc pu mo x y bo : Int) (w : World) (hl : ns.length ≤ 1048576) (hf : ∀ y ∈ ns, y.Fits) (h1 : (Lit.int .i64 sc).wf = true) (h2 : (Lit.int .i64 pu).wf = true) (h3 : (Lit.int .i64 mo).wf = true) (h4 : (Lit.int .i64 x).wf = true) (h5 : (Lit.int .i64 y).wf = true) (h6 : (Lit.int .i64 bo).wf = true) (ha : AddrN a cap) (hr : RowN w.heap.size w a ns) :
    Calls Try.prog 74 #[.agg #[.slice a ns.length cap], .int .i64 sc, .int .i64 pu, .int .i64 mo, .int .i64 x, .int .i64 y, .int .i64 bo] w fun e w' => ∃ v, e = .returned (.tuple #[.agg #[v], .int .i64 (hnK ns sc pu mo x y bo)]) ∧ OwnC w.heap.size w' v (keptA ns (hnA ns sc pu mo x y bo) (hnK ns sc pu mo x y bo)) ∧ Below w.heap.size w w' := by
  have HFN : Hid (∀ (v : Value) (wz : World), Below w.heap.size w wz → ToldIs (w.heap.size + 2) wz.heap.size wz (Tl.two 4 (.two 2 (.dh sc pu) (shT mo x y)) (.hash (.pl bo))) v → Calls Try.prog 112 #[v, .agg #[.slice a ns.length cap]] wz fun e w' => ∃ v', e = .returned (.tuple #[.agg #[v'], .int .i64 (hnK ns sc pu mo x y bo)]) ∧ OwnC wz.heap.size w' v' (keptA ns (hnA ns sc pu mo x y bo) (hnK ns sc pu mo x y bo)) ∧ Below wz.heap.size wz w') := fun v wz hb ht => by
    have := putIn_any (Tl.two 4 (.two 2 (.dh sc pu) (shT mo x y)) (.hash (.pl bo))) v a cap ns wz ⟨by omega, by omega, ⟨by omega, by omega, ⟨h1, h2⟩, shT_wf mo x y⟩, h6⟩ ht hl hf ha (hr.grown hb)
    rw [hndT_f sc pu mo x y bo ns, ifneg_sameD hnK_neg] at this
    exact this
  generalize hnK ns sc pu mo x y bo = KK at HFN ⊢
  generalize hnA ns sc pu mo x y bo = AA at HFN ⊢
  obtain ⟨KP, hKP⟩ : ∃ X, keptA ns AA KK = X := ⟨_, rfl⟩
  rw [hKP] at HFN ⊢
  clear hKP
  clear hf ha hr
  obtain ⟨w0, he, hb0, hs0, hA0, hr0⟩ := two_cells a ns.length cap w
  have HC0 : Hid (w0.heap[w.heap.size]? = some (.cells #[.slice a ns.length cap] 28 (0, 0)) ∧ w0.heap[w.heap.size + 1]? = some (.cells #[.slice none 0 0] 28 (0, 0)) ∧ Below w.heap.size w w0 ∧ w.heap.size + 2 ≤ w0.heap.size) := ⟨hA0, hr0, hb0, by omega⟩
  clear hb0 hs0 hA0 hr0
  go_enter Try.func74, Try.ntmps74
  go_wp2_with fail
  rw [← he]
  clear he
  have HI : Hid (RgI w a ns.length cap [] w0) := ⟨HC0.out.2.2.1, HC0.out.1, ⟨_, HC0.out.2.1⟩, HC0.out.2.2.2, fun p hp => by cases hp⟩
  clear HC0
  refine wp_region_list (I := RgI w a ns.length cap []) (R := RgR (w.heap.size + 1) 14)
    (fs := #[⟨[16], fun vs _ => vs = [.int .i64 sc]⟩, ⟨[17], fun vs _ => vs = [.int .i64 pu]⟩, ⟨[18], fun vs w' => ∃ v, vs = [v] ∧ ToldIs (w.heap.size + 2) w'.heap.size w' (.dh sc pu) v⟩, ⟨[19], fun vs _ => vs = [.int .i64 mo]⟩, ⟨[20], fun vs _ => vs = [.int .i64 x]⟩, ⟨[21], fun vs _ => vs = [.int .i64 y]⟩, ⟨[22], fun vs w' => ∃ v, vs = [v] ∧ ToldIs (w.heap.size + 2) w'.heap.size w' (shT mo x y) v⟩, ⟨[23], fun vs _ => vs = [.int .i64 bo]⟩, ⟨[24], fun vs w' => ∃ v, vs = [v] ∧ ToldIs (w.heap.size + 2) w'.heap.size w' (.pl bo) v⟩, ⟨[25], fun vs w' => ∃ v, vs = [v] ∧ ToldIs (w.heap.size + 2) w'.heap.size w' (.two 4 (.two 2 (.dh sc pu) (shT mo x y)) (.hash (.pl bo))) v⟩, ⟨[26], fun vs _ => vs = [.agg #[.slice a ns.length cap]]⟩, ⟨[27], fun vs w' => ∃ v, vs = [.tuple #[.agg #[v], .int .i64 KK]] ∧ OwnC (w.heap.size + 2) w' v KP⟩, ⟨[28], fun vs w' => ∃ v, vs = [.agg #[v]] ∧ OwnC (w.heap.size + 2) w' v KP⟩, ⟨[29], fun vs _ => vs = [.int .i64 KK]⟩, ⟨[], fun vs w' => ∃ a9 c9, w'.heap[w.heap.size + 1]? = some (.cells #[.slice a9 KP.length c9] 28 (0, 0)) ∧ OwnC (w.heap.size + 2) w' (.slice a9 KP.length c9) KP⟩, ⟨[15], fun vs _ => vs = [.int .i64 KK]⟩])
    (by kernel_rfl) 30 rfl (by kernel_rfl) ?stab ?istab ?start ?exec ?fin
  case stab =>
    intro k i f hki hf
    have hk : k < 16 := (Array.getElem?_eq_some_iff.1 hf).1
    rcases (show k = 0 ∨ k = 1 ∨ k = 2 ∨ k = 3 ∨ k = 4 ∨ k = 5 ∨ k = 6 ∨ k = 7 ∨ k = 8 ∨ k = 9 ∨ k = 10 ∨ k = 11 ∨ k = 12 ∨ k = 13 ∨ k = 14 ∨ k = 15 by omega) with rfl | rfl | rfl | rfl | rfl | rfl | rfl | rfl | rfl | rfl | rfl | rfl | rfl | rfl | rfl | rfl
    all_goals
      simp only [List.getElem?_toArray, List.getElem?_cons_succ, List.getElem?_cons_zero, Option.some.injEq] at hf
      subst hf
    · exact fun vs _ _ _ h => h
    · exact fun vs _ _ _ h => h
    · exact fun vs w' w'' hR ⟨v, h1, h2⟩ => ⟨v, h1, RgR.told hR (by omega) _ h2⟩
    · exact fun vs _ _ _ h => h
    · exact fun vs _ _ _ h => h
    · exact fun vs _ _ _ h => h
    · exact fun vs w' w'' hR ⟨v, h1, h2⟩ => ⟨v, h1, RgR.told hR (by omega) _ h2⟩
    · exact fun vs _ _ _ h => h
    · exact fun vs w' w'' hR ⟨v, h1, h2⟩ => ⟨v, h1, RgR.told hR (by omega) _ h2⟩
    · exact fun vs w' w'' hR ⟨v, h1, h2⟩ => ⟨v, h1, RgR.told hR (by omega) _ h2⟩
    · exact fun vs _ _ _ h => h
    · exact fun vs w' w'' hR ⟨v, h1, h2⟩ => ⟨v, h1, RgR.own hR (by omega) h2⟩
    · exact fun vs w' w'' hR ⟨v, h1, h2⟩ => ⟨v, h1, RgR.own hR (by omega) h2⟩
    · exact fun vs _ _ _ h => h
    · exact fun vs w' w'' hR ⟨a9, c9, h1, h2⟩ => ⟨a9, c9, by have h3 := hR; unfold RgR at h3; rw [if_neg (Ne.symm hki)] at h3; exact (h3.block _ (Array.getElem?_eq_some_iff.1 h1).1).trans h1, RgR.own hR (by omega) h2⟩
    · exact fun vs _ _ _ h => h
  case istab => exact fun i w' w'' hR h => h.next hR
  case start => exact HI.out.drew
  case exec =>
    intro i o f hi hf act wq hsz hI hold hpre
    have hi11 : i < 16 := (Array.getElem?_eq_some_iff.1 hi).1
    rcases (show i = 0 ∨ i = 1 ∨ i = 2 ∨ i = 3 ∨ i = 4 ∨ i = 5 ∨ i = 6 ∨ i = 7 ∨ i = 8 ∨ i = 9 ∨ i = 10 ∨ i = 11 ∨ i = 12 ∨ i = 13 ∨ i = 14 ∨ i = 15 by omega) with rfl | rfl | rfl | rfl | rfl | rfl | rfl | rfl | rfl | rfl | rfl | rfl | rfl | rfl | rfl | rfl
    all_goals
      simp only [List.getElem?_toArray, List.getElem?_cons_succ, List.getElem?_cons_zero, Option.some.injEq] at hi hf
      subst hi hf
    · have g1 : act.tmps.getD 1 undef = .int .i64 sc := hold 1 (free_spec (by kernel_rfl))
      refine exec_same (v := .int .i64 sc) ?_ ⟨_, rfl, (by show (if _ then _ else _); rw [if_neg (by decide)]; exact Below.refl _ _), at_one (by omega) rfl⟩
      simp [go_sem, Act.eval, g1]
    · have g2 : act.tmps.getD 2 undef = .int .i64 pu := hold 2 (free_spec (by kernel_rfl))
      refine exec_same (v := .int .i64 pu) ?_ ⟨_, rfl, (by show (if _ then _ else _); rw [if_neg (by decide)]; exact Below.refl _ _), at_one (by omega) rfl⟩
      simp [go_sem, Act.eval, g2]
    · have g16 : act.tmps.getD 16 undef = .int .i64 sc := by have := of_one (hpre ⟨0, .data⟩ (by simp) rfl _ rfl); simpa using this
      have g17 : act.tmps.getD 17 undef = .int .i64 pu := by have := of_one (hpre ⟨1, .data⟩ (by simp) rfl _ rfl); simpa using this
      refine exec_call (f := 145) (args := #[.int .i64 sc, .int .i64 pu]) (by simp [go_sem, Act.eval, g16, g17]) ?_
      refine Calls.mono (toldDh_any (L := (w.heap.size + 2)) sc pu wq hI.size) ?_
      rintro e w2 ⟨v2, rfl, l2, hb2⟩
      exact ⟨_, rfl, _, rfl, (by show (if _ then _ else _); rw [if_neg (by decide)]; exact hb2), ⟨_, by show [(act.put _ _).tmps.getD _ undef] = _; rw [put_same _ _ _ (by omega)], l2⟩⟩
    · have g3 : act.tmps.getD 3 undef = .int .i64 mo := hold 3 (free_spec (by kernel_rfl))
      refine exec_same (v := .int .i64 mo) ?_ ⟨_, rfl, (by show (if _ then _ else _); rw [if_neg (by decide)]; exact Below.refl _ _), at_one (by omega) rfl⟩
      simp [go_sem, Act.eval, g3]
    · have g4 : act.tmps.getD 4 undef = .int .i64 x := hold 4 (free_spec (by kernel_rfl))
      refine exec_same (v := .int .i64 x) ?_ ⟨_, rfl, (by show (if _ then _ else _); rw [if_neg (by decide)]; exact Below.refl _ _), at_one (by omega) rfl⟩
      simp [go_sem, Act.eval, g4]
    · have g5 : act.tmps.getD 5 undef = .int .i64 y := hold 5 (free_spec (by kernel_rfl))
      refine exec_same (v := .int .i64 y) ?_ ⟨_, rfl, (by show (if _ then _ else _); rw [if_neg (by decide)]; exact Below.refl _ _), at_one (by omega) rfl⟩
      simp [go_sem, Act.eval, g5]
    · have g19 : act.tmps.getD 19 undef = .int .i64 mo := by have := of_one (hpre ⟨3, .data⟩ (by simp) rfl _ rfl); simpa using this
      have g20 : act.tmps.getD 20 undef = .int .i64 x := by have := of_one (hpre ⟨4, .data⟩ (by simp) rfl _ rfl); simpa using this
      have g21 : act.tmps.getD 21 undef = .int .i64 y := by have := of_one (hpre ⟨5, .data⟩ (by simp) rfl _ rfl); simpa using this
      refine exec_call (f := 146) (args := #[.int .i64 mo, .int .i64 x, .int .i64 y]) (by simp [go_sem, Act.eval, g19, g20, g21]) ?_
      refine Calls.mono (toldShared_any (L := (w.heap.size + 2)) mo x y wq hI.size h4 h5) ?_
      rintro e w2 ⟨v2, rfl, l2, hb2⟩
      exact ⟨_, rfl, _, rfl, (by show (if _ then _ else _); rw [if_neg (by decide)]; exact hb2), ⟨_, by show [(act.put _ _).tmps.getD _ undef] = _; rw [put_same _ _ _ (by omega)], l2⟩⟩
    · have g6 : act.tmps.getD 6 undef = .int .i64 bo := hold 6 (free_spec (by kernel_rfl))
      refine exec_same (v := .int .i64 bo) ?_ ⟨_, rfl, (by show (if _ then _ else _); rw [if_neg (by decide)]; exact Below.refl _ _), at_one (by omega) rfl⟩
      simp [go_sem, Act.eval, g6]
    · have g23 : act.tmps.getD 23 undef = .int .i64 bo := by have := of_one (hpre ⟨7, .data⟩ (by simp) rfl _ rfl); simpa using this
      refine exec_call (f := 115) (args := #[.int .i64 bo]) (by simp [go_sem, Act.eval, g23]) ?_
      refine Calls.mono (toldAt_any bo wq hI.size) ?_
      rintro e w2 ⟨v2, rfl, l2, hb2⟩
      exact ⟨_, rfl, _, rfl, (by show (if _ then _ else _); rw [if_neg (by decide)]; exact hb2), ⟨_, by show [(act.put _ _).tmps.getD _ undef] = _; rw [put_same _ _ _ (by omega)], l2⟩⟩
    · obtain ⟨u2, h1_2, l2⟩ := hpre ⟨2, .data⟩ (by simp) rfl _ rfl
      have g18 : act.tmps.getD 18 undef = u2 := by simpa using h1_2
      obtain ⟨u6, h1_6, l6⟩ := hpre ⟨6, .data⟩ (by simp) rfl _ rfl
      have g22 : act.tmps.getD 22 undef = u6 := by simpa using h1_6
      obtain ⟨u8, h1_8, l8⟩ := hpre ⟨8, .data⟩ (by simp) rfl _ rfl
      have g24 : act.tmps.getD 24 undef = u8 := by simpa using h1_8
      refine exec_call (f := 120) (args := #[u2, u6, u8]) (by simp [go_sem, Act.eval, g18, g22, g24]) ?_
      refine Calls.mono (toldHand_any (L := (w.heap.size + 2)) _ u2 _ u6 _ u8 wq hI.size l2 l6 l8) ?_
      rintro e w2 ⟨v2, rfl, l2, hb2⟩
      exact ⟨_, rfl, _, rfl, (by show (if _ then _ else _); rw [if_neg (by decide)]; exact hb2), ⟨_, by show [(act.put _ _).tmps.getD _ undef] = _; rw [put_same _ _ _ (by omega)], l2⟩⟩
    · have g7 : act.tmps.getD 7 undef = .pointer (some ⟨w.heap.size, 0, none⟩) := hold 7 (free_spec (by kernel_rfl))
      have hc : wq.cell? ⟨w.heap.size, 0, none⟩ = some (.slice a ns.length cap) := (cell_of_row _ _ 0 _ _ _ hI.box).trans rfl
      refine exec_same (v := .agg #[.slice a ns.length cap]) ?_ ⟨_, rfl, (by show (if _ then _ else _); rw [if_neg (by decide)]; exact Below.refl _ _), at_one (by omega) rfl⟩
      simp [go_sem, Act.eval, g7, hc]
    · obtain ⟨u9, h1_9, l9⟩ := hpre ⟨9, .data⟩ (by simp) rfl _ rfl
      have g25 : act.tmps.getD 25 undef = u9 := by simpa using h1_9
      have g26 : act.tmps.getD 26 undef = .agg #[.slice a ns.length cap] := by have := of_one (hpre ⟨10, .data⟩ (by simp) rfl _ rfl); simpa using this
      refine exec_call (f := 112) (args := #[u9, .agg #[.slice a ns.length cap]]) (by simp [go_sem, Act.eval, g25, g26]) ?_
      refine Calls.mono (HFN.out _ wq hI.below l9) ?_
      rintro e w2 ⟨v2, rfl, l2, hb2⟩
      exact ⟨_, rfl, _, rfl, (by show (if _ then _ else _); rw [if_neg (by decide)]; exact hb2), ⟨_, by show [(act.put _ _).tmps.getD _ undef] = _; rw [put_same _ _ _ (by omega)], l2.base (by have := hI.size; omega)⟩⟩
    · obtain ⟨uu, h1u, lu⟩ := hpre ⟨11, .data⟩ (by simp) rfl _ rfl
      have gu : act.tmps[27]?.getD undef = .tuple #[.agg #[uu], .int .i64 KK] := by simpa using h1u
      refine exec_same (v := .agg #[uu]) ?_ ⟨_, rfl, (by show (if _ then _ else _); rw [if_neg (by decide)]; exact Below.refl _ _), ⟨_, by show [(act.put _ _).tmps.getD _ undef] = _; rw [put_same _ _ _ (by omega)], lu⟩⟩
      simp [go_sem, Act.eval, gu]
    · obtain ⟨uu, h1u, lu⟩ := hpre ⟨11, .data⟩ (by simp) rfl _ rfl
      have gu : act.tmps[27]?.getD undef = .tuple #[.agg #[uu], .int .i64 KK] := by simpa using h1u
      refine exec_same (v := .int .i64 KK) ?_ ⟨_, rfl, (by show (if _ then _ else _); rw [if_neg (by decide)]; exact Below.refl _ _), at_one (by omega) rfl⟩
      simp [go_sem, Act.eval, gu]
    · obtain ⟨uu, h1u, lu⟩ := hpre ⟨12, .data⟩ (by simp) rfl _ rfl
      have gu : act.tmps[28]?.getD undef = .agg #[uu] := by simpa using h1u
      obtain ⟨a9, c9, rfl, -, -⟩ := lu.row
      have g14 : act.tmps.getD 14 undef = .pointer (some ⟨w.heap.size + 1, 0, none⟩) := hold 14 (free_spec (by kernel_rfl))
      obtain ⟨u0, hu0⟩ := hI.res
      have hcg : wq.cell? ⟨w.heap.size + 1, 0, none⟩ = some u0 := by rw [cell_of_row wq _ 0 _ _ _ hu0]; rfl
      have hfg : wq.frozen? ⟨w.heap.size + 1, 0, none⟩ = false := frozen_of_row wq _ 0 _ _ hu0
      have hRR : RgR (w.heap.size + 1) 14 14 wq (wq.setCell ⟨w.heap.size + 1, 0, none⟩ (.slice a9 KP.length c9)) := by show (if _ then _ else _); rw [if_pos rfl]; exact ⟨_, rfl⟩
      refine exec_skip (w' := wq.setCell ⟨w.heap.size + 1, 0, none⟩ (.slice a9 KP.length c9)) ?_ ⟨_, rfl, hRR, ⟨a9, c9, (heap_setCell_same wq _ 0 _ _ _ hu0).trans rfl, RgR.own hRR (by omega) lu⟩⟩
      simp [go_sem, Act.eval, g14, gu, hcg, hfg]
    · have g29 : act.tmps.getD 29 undef = .int .i64 KK := by have := of_one (hpre ⟨13, .data⟩ (by simp) rfl _ rfl); simpa using this
      refine exec_same (v := .int .i64 KK) ?_ ⟨_, rfl, (by show (if _ then _ else _); rw [if_neg (by decide)]; exact Below.refl _ _), at_one (by omega) rfl⟩
      simp [go_sem, Act.eval, g29]
  case fin =>
    intro zs w5 hzl hI hF
    obtain ⟨z0, z1, z2, z3, z4, z5, z6, z7, z8, z9, z10, z11, z12, z13, z14, z15, rfl⟩ := zl16 zs hzl
    obtain ⟨a9, c9, hbox, hown⟩ := hF 14 _ rfl
    have hint := of_one (hF 15 _ rfl)
    simp only [List.cons.injEq, and_true] at hint
    have hs3 := last_is (i := 15) (v := z15) (n := 30) hint (by kernel_rfl) rfl rfl (by omega)
    clear hint
    subst hs3
    clear hF
    simp only [putAll, Act.put, List.setIfInBounds_toArray, List.set_cons_succ, List.set_cons_zero]
    have HE : Hid _ := And.intro hbox (And.intro hown hI.below)
    clear hbox hI hown
    go_wp2
    refine bodyPost_ret (res_cell2 rfl _ _ (w.heap.size + 1) 28 #[.slice a9 KP.length c9] (0, 0) _ rfl ?_ Try.underlying28 rfl arenaSize) rfl ?_
    · exact HE.out.1
    · exact ⟨_, rfl, HE.out.2.1.base (by omega), HE.out.2.2⟩
end Go.Proofs.Ytffnadnndmmliaa
