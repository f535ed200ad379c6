/- The program's LetterOf (chapter 11). -/
import Derived.Test.YtlecpjgeaigjkaaToldL11
import Derived.Test.YtlecpjgeaigjkaaLawClip
import Derived.OpenShut
import Derived.Test.YtlecpjgeaigjkaaRegionK
import Derived.Test.YtlecpjgeaigjkaaRegionA
namespace Go.Proofs.Ytlecpjgeaigjkaa
open Go.RowKit Go.Maps
set_option linter.unusedVariables false
theorem ifneg_sameL {K : Int} (h : K < 0 → K = -1) : (if K < 0 then -1 else K) = K := by
  split
  · rename_i h1; exact (h h1).symm
  · rfl
theorem ltK_negH {ns : List Nd} {kd : Int} {xs : List Int} (h : ltK ns kd xs < 0) : ltK ns kd xs = -1 := listF_neg _ _ h

set_option maxHeartbeats 1600000 in
set_option maxRecDepth 20000 in
theorem implLetter_any (a : Option Addr) (cap : Nat) (ns : List Nd) (kd : Int) (xs : List Int) (la : Option Addr) (lc : Nat) (w : World) (hl : ns.length ≤ 1048576) (hf : ∀ y ∈ ns, y.Fits) (hxl : xs.length ≤ 1048576) (hxf : ∀ x ∈ xs, -9223372036854775808 ≤ x ∧ x ≤ 9223372036854775807) (h1 : (Lit.int .i64 kd).wf = true) (ha : AddrN a cap) (hr : RowN w.heap.size w a ns) (hx : RowI w.heap.size w la xs) :
    Calls Try.prog 21 #[.agg #[.slice a ns.length cap], .int .i64 kd, .slice la xs.length lc] w fun e w' => ∃ v, e = .returned (.tuple #[.agg #[v], .int .i64 (ltK ns kd xs)]) ∧ OwnC w.heap.size w' v (keptA ns (ltA ns kd xs) (ltK ns kd xs)) ∧ Below w.heap.size w w' := by
  have HXR : Hid (RowI w.heap.size w la xs) := hx
  clear hx
  have HFN : Hid (∀ (v : Value) (wz : World), Below w.heap.size w wz → ToldIs (w.heap.size + 2) wz.heap.size wz (Tl.list (lts kd xs)) v → Calls Try.prog 46 #[v, .agg #[.slice a ns.length cap]] wz fun e w' => ∃ v', e = .returned (.tuple #[.agg #[v'], .int .i64 (ltK ns kd xs)]) ∧ OwnC wz.heap.size w' v' (keptA ns (ltA ns kd xs) (ltK ns kd xs)) ∧ Below wz.heap.size wz w') := fun v wz hb ht => by
    have := putIn_any (Tl.list (lts kd xs)) v a cap ns wz ⟨by rw [lts_len]; omega, h1, wfs_pls xs hxf⟩ ht hl hf ha (hr.grown hb)
    rw [lts_f kd xs ns, ifneg_sameL ltK_negH] at this
    exact this
  generalize ltK ns kd xs = KK at HFN ⊢
  generalize ltA ns kd xs = AA at HFN ⊢
  obtain ⟨KP, hKP⟩ : ∃ X, keptA ns AA KK = X := ⟨_, rfl⟩
  rw [hKP] at HFN ⊢
  clear hKP
  clear hf ha hr
  obtain ⟨w0, he, hb0, hs0, hA0, hr0⟩ := two_cells a ns.length cap w
  have HC0 : Hid (w0.heap[w.heap.size]? = some (.cells #[.slice a ns.length cap] 30 (0, 0)) ∧ w0.heap[w.heap.size + 1]? = some (.cells #[.slice none 0 0] 30 (0, 0)) ∧ Below w.heap.size w w0 ∧ w.heap.size + 2 ≤ w0.heap.size) := ⟨hA0, hr0, hb0, by omega⟩
  clear hb0 hs0 hA0 hr0
  go_enter Try.func21, Try.ntmps21
  go_wp2_with fail
  rw [← he]
  clear he
  have HI : Hid (RgI w a ns.length cap [] w0) := ⟨HC0.out.2.2.1, HC0.out.1, ⟨_, HC0.out.2.1⟩, HC0.out.2.2.2, fun p hp => by cases hp⟩
  clear HC0
  refine wp_region_list (I := RgI w a ns.length cap []) (R := RgR (w.heap.size + 1) 8)
    (fs := #[⟨[8], fun vs _ => vs = [.int .i64 kd]⟩, ⟨[9], fun vs _ => vs = [.slice la xs.length lc]⟩, ⟨[10], fun vs _ => vs = [.agg #[.int .i64 kd, .slice la xs.length lc]]⟩, ⟨[11], fun vs w' => ∃ v, vs = [v] ∧ ToldIs (w.heap.size + 2) w'.heap.size w' (.list (lts kd xs)) v⟩, ⟨[12], fun vs _ => vs = [.agg #[.slice a ns.length cap]]⟩, ⟨[13], fun vs w' => ∃ v, vs = [.tuple #[.agg #[v], .int .i64 KK]] ∧ OwnC (w.heap.size + 2) w' v KP⟩, ⟨[14], fun vs w' => ∃ v, vs = [.agg #[v]] ∧ OwnC (w.heap.size + 2) w' v KP⟩, ⟨[15], fun vs _ => vs = [.int .i64 KK]⟩, ⟨[], fun vs w' => ∃ a9 c9, w'.heap[w.heap.size + 1]? = some (.cells #[.slice a9 KP.length c9] 30 (0, 0)) ∧ OwnC (w.heap.size + 2) w' (.slice a9 KP.length c9) KP⟩, ⟨[7], fun vs _ => vs = [.int .i64 KK]⟩])
    (by kernel_rfl) 16 rfl (by kernel_rfl) ?stab ?istab ?start ?exec ?fin
  case stab =>
    intro k i f hki hf
    have hk : k < 10 := (Array.getElem?_eq_some_iff.1 hf).1
    rcases (show k = 0 ∨ k = 1 ∨ k = 2 ∨ k = 3 ∨ k = 4 ∨ k = 5 ∨ k = 6 ∨ k = 7 ∨ k = 8 ∨ k = 9 by omega) with rfl | rfl | rfl | rfl | rfl | rfl | rfl | rfl | rfl | rfl
    all_goals
      simp only [List.getElem?_toArray, List.getElem?_cons_succ, List.getElem?_cons_zero, Option.some.injEq] at hf
      subst hf
    · exact fun vs _ _ _ h => h
    · exact fun vs _ _ _ h => h
    · exact fun vs _ _ _ h => h
    · exact fun vs w' w'' hR ⟨v, h1, h2⟩ => ⟨v, h1, RgR.told hR (by omega) _ h2⟩
    · exact fun vs _ _ _ h => h
    · exact fun vs w' w'' hR ⟨v, h1, h2⟩ => ⟨v, h1, RgR.own hR (by omega) h2⟩
    · exact fun vs w' w'' hR ⟨v, h1, h2⟩ => ⟨v, h1, RgR.own hR (by omega) h2⟩
    · exact fun vs _ _ _ h => h
    · exact fun vs w' w'' hR ⟨a9, c9, h1, h2⟩ => ⟨a9, c9, by have h3 := hR; unfold RgR at h3; rw [if_neg (Ne.symm hki)] at h3; exact (h3.block _ (Array.getElem?_eq_some_iff.1 h1).1).trans h1, RgR.own hR (by omega) h2⟩
    · exact fun vs _ _ _ h => h
  case istab => exact fun i w' w'' hR h => h.next hR
  case start => exact HI.out.drew
  case exec =>
    intro i o f hi hf act wq hsz hI hold hpre
    have hi11 : i < 10 := (Array.getElem?_eq_some_iff.1 hi).1
    rcases (show i = 0 ∨ i = 1 ∨ i = 2 ∨ i = 3 ∨ i = 4 ∨ i = 5 ∨ i = 6 ∨ i = 7 ∨ i = 8 ∨ i = 9 by omega) with rfl | rfl | rfl | rfl | rfl | rfl | rfl | rfl | rfl | rfl
    all_goals
      simp only [List.getElem?_toArray, List.getElem?_cons_succ, List.getElem?_cons_zero, Option.some.injEq] at hi hf
      subst hi hf
    · have g1 : act.tmps.getD 1 undef = .int .i64 kd := hold 1 (free_spec (by kernel_rfl))
      refine exec_same (v := .int .i64 kd) ?_ ⟨_, rfl, (by show (if _ then _ else _); rw [if_neg (by decide)]; exact Below.refl _ _), at_one (by omega) rfl⟩
      simp [go_sem, Act.eval, g1]
    · have g2 : act.tmps.getD 2 undef = .slice la xs.length lc := hold 2 (free_spec (by kernel_rfl))
      refine exec_same (v := .slice la xs.length lc) ?_ ⟨_, rfl, (by show (if _ then _ else _); rw [if_neg (by decide)]; exact Below.refl _ _), at_one (by omega) rfl⟩
      simp [go_sem, Act.eval, g2]
    · have g8 : act.tmps.getD 8 undef = .int .i64 kd := by have := of_one (hpre ⟨0, .data⟩ (by simp) rfl _ rfl); simpa using this
      have g9 : act.tmps.getD 9 undef = .slice la xs.length lc := by have := of_one (hpre ⟨1, .data⟩ (by simp) rfl _ rfl); simpa using this
      have g8' : act.tmps[8]?.getD undef = .int .i64 kd := by simpa using g8
      have g9' : act.tmps[9]?.getD undef = .slice la xs.length lc := by simpa using g9
      refine exec_same (v := .agg #[.int .i64 kd, .slice la xs.length lc]) ?_ ⟨_, rfl, (by show (if _ then _ else _); rw [if_neg (by decide)]; exact Below.refl _ _), at_one (by omega) rfl⟩
      simp [go_sem, Act.eval, g8', g9']
    · have g10 : act.tmps.getD 10 undef = .agg #[.int .i64 kd, .slice la xs.length lc] := by have := of_one (hpre ⟨2, .data⟩ (by simp) rfl _ rfl); simpa using this
      refine exec_call (f := 53) (args := #[.agg #[.int .i64 kd, .slice la xs.length lc]]) (by simp [go_sem, Act.eval, g10]) ?_
      refine Calls.mono (ltTold_any (L := (w.heap.size + 2)) kd xs la lc wq hI.size hxl (HXR.out.grown hI.below)) ?_
      rintro e w2 ⟨v2, rfl, l2, hb2⟩
      exact ⟨_, rfl, _, rfl, (by show (if _ then _ else _); rw [if_neg (by decide)]; exact hb2), ⟨_, by show [(act.put _ _).tmps.getD _ undef] = _; rw [put_same _ _ _ (by omega)], l2⟩⟩
    · have g3 : act.tmps.getD 3 undef = .pointer (some ⟨w.heap.size, 0, none⟩) := hold 3 (free_spec (by kernel_rfl))
      have hc : wq.cell? ⟨w.heap.size, 0, none⟩ = some (.slice a ns.length cap) := (cell_of_row _ _ 0 _ _ _ hI.box).trans rfl
      refine exec_same (v := .agg #[.slice a ns.length cap]) ?_ ⟨_, rfl, (by show (if _ then _ else _); rw [if_neg (by decide)]; exact Below.refl _ _), at_one (by omega) rfl⟩
      simp [go_sem, Act.eval, g3, hc]
    · obtain ⟨u3, h1_3, l3⟩ := hpre ⟨3, .data⟩ (by simp) rfl _ rfl
      have g11 : act.tmps.getD 11 undef = u3 := by simpa using h1_3
      have g12 : act.tmps.getD 12 undef = .agg #[.slice a ns.length cap] := by have := of_one (hpre ⟨4, .data⟩ (by simp) rfl _ rfl); simpa using this
      refine exec_call (f := 46) (args := #[u3, .agg #[.slice a ns.length cap]]) (by simp [go_sem, Act.eval, g11, g12]) ?_
      refine Calls.mono (HFN.out _ wq hI.below l3) ?_
      rintro e w2 ⟨v2, rfl, l2, hb2⟩
      exact ⟨_, rfl, _, rfl, (by show (if _ then _ else _); rw [if_neg (by decide)]; exact hb2), ⟨_, by show [(act.put _ _).tmps.getD _ undef] = _; rw [put_same _ _ _ (by omega)], l2.base (by have := hI.size; omega)⟩⟩
    · obtain ⟨uu, h1u, lu⟩ := hpre ⟨5, .data⟩ (by simp) rfl _ rfl
      have gu : act.tmps[13]?.getD undef = .tuple #[.agg #[uu], .int .i64 KK] := by simpa using h1u
      refine exec_same (v := .agg #[uu]) ?_ ⟨_, rfl, (by show (if _ then _ else _); rw [if_neg (by decide)]; exact Below.refl _ _), ⟨_, by show [(act.put _ _).tmps.getD _ undef] = _; rw [put_same _ _ _ (by omega)], lu⟩⟩
      simp [go_sem, Act.eval, gu]
    · obtain ⟨uu, h1u, lu⟩ := hpre ⟨5, .data⟩ (by simp) rfl _ rfl
      have gu : act.tmps[13]?.getD undef = .tuple #[.agg #[uu], .int .i64 KK] := by simpa using h1u
      refine exec_same (v := .int .i64 KK) ?_ ⟨_, rfl, (by show (if _ then _ else _); rw [if_neg (by decide)]; exact Below.refl _ _), at_one (by omega) rfl⟩
      simp [go_sem, Act.eval, gu]
    · obtain ⟨uu, h1u, lu⟩ := hpre ⟨6, .data⟩ (by simp) rfl _ rfl
      have gu : act.tmps[14]?.getD undef = .agg #[uu] := by simpa using h1u
      obtain ⟨a9, c9, rfl, -, -⟩ := lu.row
      have g6 : act.tmps.getD 6 undef = .pointer (some ⟨w.heap.size + 1, 0, none⟩) := hold 6 (free_spec (by kernel_rfl))
      obtain ⟨u0, hu0⟩ := hI.res
      have hcg : wq.cell? ⟨w.heap.size + 1, 0, none⟩ = some u0 := by rw [cell_of_row wq _ 0 _ _ _ hu0]; rfl
      have hfg : wq.frozen? ⟨w.heap.size + 1, 0, none⟩ = false := frozen_of_row wq _ 0 _ _ hu0
      have hRR : RgR (w.heap.size + 1) 8 8 wq (wq.setCell ⟨w.heap.size + 1, 0, none⟩ (.slice a9 KP.length c9)) := by show (if _ then _ else _); rw [if_pos rfl]; exact ⟨_, rfl⟩
      refine exec_skip (w' := wq.setCell ⟨w.heap.size + 1, 0, none⟩ (.slice a9 KP.length c9)) ?_ ⟨_, rfl, hRR, ⟨a9, c9, (heap_setCell_same wq _ 0 _ _ _ hu0).trans rfl, RgR.own hRR (by omega) lu⟩⟩
      simp [go_sem, Act.eval, g6, gu, hcg, hfg]
    · have g15 : act.tmps.getD 15 undef = .int .i64 KK := by have := of_one (hpre ⟨7, .data⟩ (by simp) rfl _ rfl); simpa using this
      refine exec_same (v := .int .i64 KK) ?_ ⟨_, rfl, (by show (if _ then _ else _); rw [if_neg (by decide)]; exact Below.refl _ _), at_one (by omega) rfl⟩
      simp [go_sem, Act.eval, g15]
  case fin =>
    intro zs w5 hzl hI hF
    obtain ⟨z0, z1, z2, z3, z4, z5, z6, z7, z8, z9, rfl⟩ := list10 zs hzl
    obtain ⟨a9, c9, hbox, hown⟩ := hF 8 _ rfl
    have hint := of_one (hF 9 _ rfl)
    simp only [List.cons.injEq, and_true] at hint
    have hs3 := last_is (i := 9) (v := z9) (n := 16) hint (by kernel_rfl) rfl rfl (by omega)
    clear hint
    subst hs3
    clear hF
    simp only [putAll, Act.put, List.setIfInBounds_toArray, List.set_cons_succ, List.set_cons_zero]
    have HE : Hid _ := And.intro hbox (And.intro hown hI.below)
    clear hbox hI hown
    go_wp2
    refine bodyPost_ret (res_cell2 rfl _ _ (w.heap.size + 1) 30 #[.slice a9 KP.length c9] (0, 0) _ rfl ?_ Try.underlying30 rfl arenaSize) rfl ?_
    · exact HE.out.1
    · exact ⟨_, rfl, HE.out.2.1.base (by omega), HE.out.2.2⟩
end Go.Proofs.Ytlecpjgeaigjkaa
