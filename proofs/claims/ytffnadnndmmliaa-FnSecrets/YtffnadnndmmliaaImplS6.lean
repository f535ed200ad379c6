/- The program's functions of chapter 6: secrets, told by closures. -/
import Derived.Test.YtffnadnndmmliaaTold8
import Derived.Test.YtffnadnndmmliaaLawKeep
import Derived.OpenShut
import Derived.Test.YtffnadnndmmliaaRegionK
import Derived.Test.YtffnadnndmmliaaPlainTerm
import Derived.Deep.RegionHeld3
namespace Go.Proofs.Ytffnadnndmmliaa
open Go.RowKit Go.Maps
set_option linter.unusedVariables false
theorem make_as {ns : List Nd} {k x y : Int} (h : ¬ (k = 1 ∨ k = 7)) : makeA ns k x y = putA ns (mkNd k x y) ∧ makeK ns k x y = putK ns (mkNd k x y) := by
  unfold makeA makeK; rw [if_neg h, if_neg h]; exact ⟨rfl, rfl⟩
def sideT (x : Tl) (n : Int) : Tl := .two 4 x (.atom n)
theorem sideT_f (x : Tl) (n : Int) (ns : List Nd) : (sideT x n).f ns = (sideA (x.f ns).1 (x.f ns).2 n, sideK (x.f ns).1 (x.f ns).2 n) := by
  unfold sideA sideK
  rw [(make_as (by omega)).1, (make_as (by omega)).2]
  rfl
def handT (s p b : Int) : Tl := .two 4 (.two 2 (.pl s) (.pl p)) (.hash (.pl b))
theorem handT_f (s p b : Int) (ns : List Nd) : (handT s p b).f ns = (handA ns s p b, handK ns s p b) := by
  unfold handA handK
  rw [(make_as (k := 4) (by omega)).1, (make_as (k := 4) (by omega)).2, (make_as (k := 3) (by omega)).1, (make_as (k := 3) (by omega)).2, (make_as (k := 2) (by omega)).1, (make_as (k := 2) (by omega)).2]
  rfl
def overT (k s n d : Int) : Tl := .two k (.two 4 (.pl s) (.atom n)) (.hash (.pl d))
theorem overT_f (k s n d : Int) (ns : List Nd) (h : ¬ (k = 1 ∨ k = 7)) : (overT k s n d).f ns = (overA ns k s n d, overK ns k s n d) := by
  have e : ((Tl.two 4 (.pl s) (.atom n)).f ns) = (sideA ns s n, sideK ns s n) := sideT_f (.pl s) n ns
  unfold overA overK
  rw [(make_as h).1, (make_as h).2, (make_as (k := 3) (by omega)).1, (make_as (k := 3) (by omega)).2]
  show (putA (putA ((Tl.two 4 (.pl s) (.atom n)).f ns).1 (mkNd 3 d 0)) (mkNd k ((Tl.two 4 (.pl s) (.atom n)).f ns).2 (putK ((Tl.two 4 (.pl s) (.atom n)).f ns).1 (mkNd 3 d 0))), putK (putA ((Tl.two 4 (.pl s) (.atom n)).f ns).1 (mkNd 3 d 0)) (mkNd k ((Tl.two 4 (.pl s) (.atom n)).f ns).2 (putK ((Tl.two 4 (.pl s) (.atom n)).f ns).1 (mkNd 3 d 0)))) = _
  rw [e]
def epochT (k : Int) : Nat → Tl
  | 0 => .pl k
  | m + 1 => .two 4 (epochT k m) (.atom 30)
theorem epochT_f (k : Int) (ns : List Nd) : ∀ m, (epochT k m).f ns = epochF ns k m
  | 0 => rfl
  | m + 1 => by
    show (sideT (epochT k m) 30).f ns = _
    rw [sideT_f, epochT_f k ns m]
    rfl
theorem wf20 : (Lit.int .i64 20).wf = true := by decide
theorem wf30 : (Lit.int .i64 30).wf = true := by decide
theorem epochT_wf {k : Int} (h : (Lit.int .i64 k).wf = true) : ∀ m, (epochT k m).Wf
  | 0 => h
  | m + 1 => ⟨by omega, by omega, epochT_wf h m, wf30⟩
theorem ifneg_same {K : Int} (h : K < 0 → K = -1) : (if K < 0 then -1 else K) = K := by
  split
  · rename_i h1; exact (h h1).symm
  · rfl
theorem overK_neg {ns : List Nd} {k s n d : Int} (h : overK ns k s n d < 0) : overK ns k s n d = -1 := makeK_neg (show makeK _ _ _ _ < 0 from h)
theorem handK_neg {ns : List Nd} {s p b : Int} (h : handK ns s p b < 0) : handK ns s p b = -1 := makeK_neg (show makeK _ _ _ _ < 0 from h)

set_option maxHeartbeats 1600000 in
set_option maxRecDepth 20000 in
theorem implHand_any (a : Option Addr) (cap : Nat) (ns : List Nd) (s : Int) (p : Int) (b : Int) (w : World) (hl : ns.length ≤ 1048576) (hf : ∀ y ∈ ns, y.Fits) (hs : (Lit.int .i64 s).wf = true) (hp : (Lit.int .i64 p).wf = true) (hb : (Lit.int .i64 b).wf = true) (ha : AddrN a cap) (hr : RowN w.heap.size w a ns) :
    Calls Try.prog 46 #[.agg #[.slice a ns.length cap], .int .i64 s, .int .i64 p, .int .i64 b] w fun e w' => ∃ v, e = .returned (.tuple #[.agg #[v], .int .i64 (handK ns s p b)]) ∧ OwnC w.heap.size w' v (keptA ns (handA ns s p b) (handK ns s p b)) ∧ Below w.heap.size w w' := by
  have hb' := hb
  clear hb
  have HFN : Hid (∀ (v : Value) (wz : World), Below w.heap.size w wz → ToldIs (w.heap.size + 2) wz.heap.size wz (handT s p b) v → Calls Try.prog 112 #[v, .agg #[.slice a ns.length cap]] wz fun e w' => ∃ v', e = .returned (.tuple #[.agg #[v'], .int .i64 (handK ns s p b)]) ∧ OwnC wz.heap.size w' v' (keptA ns (handA ns s p b) (handK ns s p b)) ∧ Below wz.heap.size wz w') := fun v wz hb ht => by
    have := putIn_any (handT s p b) v a cap ns wz ⟨by omega, by omega, ⟨by omega, by omega, hs, hp⟩, hb'⟩ ht hl hf ha (hr.grown hb)
    rw [handT_f s p b ns, ifneg_same handK_neg] at this
    exact this
  generalize handK ns s p b = KK at HFN ⊢
  generalize handA ns s p b = AA at HFN ⊢
  obtain ⟨KP, hKP⟩ : ∃ X, keptA ns AA KK = X := ⟨_, rfl⟩
  rw [hKP] at HFN ⊢
  clear hKP
  clear hf ha hr
  obtain ⟨w0, he, hb0, hs0, hA0, hr0⟩ := two_cells a ns.length cap w
  have HC0 : Hid (w0.heap[w.heap.size]? = some (.cells #[.slice a ns.length cap] 28 (0, 0)) ∧ w0.heap[w.heap.size + 1]? = some (.cells #[.slice none 0 0] 28 (0, 0)) ∧ Below w.heap.size w w0 ∧ w.heap.size + 2 ≤ w0.heap.size) := ⟨hA0, hr0, hb0, by omega⟩
  clear hb0 hs0 hA0 hr0
  go_enter Try.func46, Try.ntmps46
  go_wp2_with fail
  rw [← he]
  clear he
  have HI : Hid (RgI w a ns.length cap [] w0) := ⟨HC0.out.2.2.1, HC0.out.1, ⟨_, HC0.out.2.1⟩, HC0.out.2.2.2, fun p hp => by cases hp⟩
  clear HC0
  refine wp_region_list (I := RgI w a ns.length cap []) (R := RgR (w.heap.size + 1) 11)
    (fs := #[⟨[10], fun vs _ => vs = [.int .i64 s]⟩, ⟨[11], fun vs w' => ∃ v, vs = [v] ∧ ToldIs (w.heap.size + 2) w'.heap.size w' (.pl s) v⟩, ⟨[12], fun vs _ => vs = [.int .i64 p]⟩, ⟨[13], fun vs w' => ∃ v, vs = [v] ∧ ToldIs (w.heap.size + 2) w'.heap.size w' (.pl p) v⟩, ⟨[14], fun vs _ => vs = [.int .i64 b]⟩, ⟨[15], fun vs w' => ∃ v, vs = [v] ∧ ToldIs (w.heap.size + 2) w'.heap.size w' (.pl b) v⟩, ⟨[16], fun vs w' => ∃ v, vs = [v] ∧ ToldIs (w.heap.size + 2) w'.heap.size w' (.two 4 (.two 2 (.pl s) (.pl p)) (.hash (.pl b))) v⟩, ⟨[17], fun vs _ => vs = [.agg #[.slice a ns.length cap]]⟩, ⟨[18], fun vs w' => ∃ v, vs = [.tuple #[.agg #[v], .int .i64 KK]] ∧ OwnC (w.heap.size + 2) w' v KP⟩, ⟨[19], fun vs w' => ∃ v, vs = [.agg #[v]] ∧ OwnC (w.heap.size + 2) w' v KP⟩, ⟨[20], fun vs _ => vs = [.int .i64 KK]⟩, ⟨[], fun vs w' => ∃ a9 c9, w'.heap[w.heap.size + 1]? = some (.cells #[.slice a9 KP.length c9] 28 (0, 0)) ∧ OwnC (w.heap.size + 2) w' (.slice a9 KP.length c9) KP⟩, ⟨[9], fun vs _ => vs = [.int .i64 KK]⟩])
    (by kernel_rfl) 21 rfl (by kernel_rfl) ?stab ?istab ?start ?exec ?fin
  case stab =>
    intro k i f hki hf
    have hk : k < 13 := (Array.getElem?_eq_some_iff.1 hf).1
    rcases (show k = 0 ∨ k = 1 ∨ k = 2 ∨ k = 3 ∨ k = 4 ∨ k = 5 ∨ k = 6 ∨ k = 7 ∨ k = 8 ∨ k = 9 ∨ k = 10 ∨ k = 11 ∨ k = 12 by omega) with rfl | rfl | rfl | rfl | rfl | rfl | rfl | rfl | rfl | rfl | rfl | rfl | rfl
    all_goals
      simp only [List.getElem?_toArray, List.getElem?_cons_succ, List.getElem?_cons_zero, Option.some.injEq] at hf
      subst hf
    · exact fun vs _ _ _ h => h
    · exact fun vs w' w'' hR ⟨v, h1, h2⟩ => ⟨v, h1, RgR.told hR (by omega) _ h2⟩
    · exact fun vs _ _ _ h => h
    · exact fun vs w' w'' hR ⟨v, h1, h2⟩ => ⟨v, h1, RgR.told hR (by omega) _ h2⟩
    · exact fun vs _ _ _ h => h
    · exact fun vs w' w'' hR ⟨v, h1, h2⟩ => ⟨v, h1, RgR.told hR (by omega) _ h2⟩
    · exact fun vs w' w'' hR ⟨v, h1, h2⟩ => ⟨v, h1, RgR.told hR (by omega) _ h2⟩
    · exact fun vs _ _ _ h => h
    · exact fun vs w' w'' hR ⟨v, h1, h2⟩ => ⟨v, h1, RgR.own hR (by omega) h2⟩
    · exact fun vs w' w'' hR ⟨v, h1, h2⟩ => ⟨v, h1, RgR.own hR (by omega) h2⟩
    · exact fun vs _ _ _ h => h
    · exact fun vs w' w'' hR ⟨a9, c9, h1, h2⟩ => ⟨a9, c9, by have h3 := hR; unfold RgR at h3; rw [if_neg (Ne.symm hki)] at h3; exact (h3.block _ (Array.getElem?_eq_some_iff.1 h1).1).trans h1, RgR.own hR (by omega) h2⟩
    · exact fun vs _ _ _ h => h
  case istab => exact fun i w' w'' hR h => h.next hR
  case start => exact HI.out.drew
  case exec =>
    intro i o f hi hf act wq hsz hI hold hpre
    have hi11 : i < 13 := (Array.getElem?_eq_some_iff.1 hi).1
    rcases (show i = 0 ∨ i = 1 ∨ i = 2 ∨ i = 3 ∨ i = 4 ∨ i = 5 ∨ i = 6 ∨ i = 7 ∨ i = 8 ∨ i = 9 ∨ i = 10 ∨ i = 11 ∨ i = 12 by omega) with rfl | rfl | rfl | rfl | rfl | rfl | rfl | rfl | rfl | rfl | rfl | rfl | rfl
    all_goals
      simp only [List.getElem?_toArray, List.getElem?_cons_succ, List.getElem?_cons_zero, Option.some.injEq] at hi hf
      subst hi hf
    · have g1 : act.tmps.getD 1 undef = .int .i64 s := hold 1 (free_spec (by kernel_rfl))
      refine exec_same (v := .int .i64 s) ?_ ⟨_, rfl, (by show (if _ then _ else _); rw [if_neg (by decide)]; exact Below.refl _ _), at_one (by omega) rfl⟩
      simp [go_sem, Act.eval, g1]
    · have g10 : act.tmps.getD 10 undef = .int .i64 s := by have := of_one (hpre ⟨0, .data⟩ (by simp) rfl _ rfl); simpa using this
      refine exec_call (f := 115) (args := #[.int .i64 s]) (by simp [go_sem, Act.eval, g10]) ?_
      refine Calls.mono (toldAt_any s wq hI.size) ?_
      rintro e w2 ⟨v2, rfl, l2, hb2⟩
      exact ⟨_, rfl, _, rfl, (by show (if _ then _ else _); rw [if_neg (by decide)]; exact hb2), ⟨_, by show [(act.put _ _).tmps.getD _ undef] = _; rw [put_same _ _ _ (by omega)], l2⟩⟩
    · have g2 : act.tmps.getD 2 undef = .int .i64 p := hold 2 (free_spec (by kernel_rfl))
      refine exec_same (v := .int .i64 p) ?_ ⟨_, rfl, (by show (if _ then _ else _); rw [if_neg (by decide)]; exact Below.refl _ _), at_one (by omega) rfl⟩
      simp [go_sem, Act.eval, g2]
    · have g12 : act.tmps.getD 12 undef = .int .i64 p := by have := of_one (hpre ⟨2, .data⟩ (by simp) rfl _ rfl); simpa using this
      refine exec_call (f := 115) (args := #[.int .i64 p]) (by simp [go_sem, Act.eval, g12]) ?_
      refine Calls.mono (toldAt_any p wq hI.size) ?_
      rintro e w2 ⟨v2, rfl, l2, hb2⟩
      exact ⟨_, rfl, _, rfl, (by show (if _ then _ else _); rw [if_neg (by decide)]; exact hb2), ⟨_, by show [(act.put _ _).tmps.getD _ undef] = _; rw [put_same _ _ _ (by omega)], l2⟩⟩
    · have g3 : act.tmps.getD 3 undef = .int .i64 b := hold 3 (free_spec (by kernel_rfl))
      refine exec_same (v := .int .i64 b) ?_ ⟨_, rfl, (by show (if _ then _ else _); rw [if_neg (by decide)]; exact Below.refl _ _), at_one (by omega) rfl⟩
      simp [go_sem, Act.eval, g3]
    · have g14 : act.tmps.getD 14 undef = .int .i64 b := by have := of_one (hpre ⟨4, .data⟩ (by simp) rfl _ rfl); simpa using this
      refine exec_call (f := 115) (args := #[.int .i64 b]) (by simp [go_sem, Act.eval, g14]) ?_
      refine Calls.mono (toldAt_any b wq hI.size) ?_
      rintro e w2 ⟨v2, rfl, l2, hb2⟩
      exact ⟨_, rfl, _, rfl, (by show (if _ then _ else _); rw [if_neg (by decide)]; exact hb2), ⟨_, by show [(act.put _ _).tmps.getD _ undef] = _; rw [put_same _ _ _ (by omega)], l2⟩⟩
    · obtain ⟨u1, h1_1, l1⟩ := hpre ⟨1, .data⟩ (by simp) rfl _ rfl
      have g11 : act.tmps.getD 11 undef = u1 := by simpa using h1_1
      obtain ⟨u3, h1_3, l3⟩ := hpre ⟨3, .data⟩ (by simp) rfl _ rfl
      have g13 : act.tmps.getD 13 undef = u3 := by simpa using h1_3
      obtain ⟨u5, h1_5, l5⟩ := hpre ⟨5, .data⟩ (by simp) rfl _ rfl
      have g15 : act.tmps.getD 15 undef = u5 := by simpa using h1_5
      refine exec_call (f := 120) (args := #[u1, u3, u5]) (by simp [go_sem, Act.eval, g11, g13, g15]) ?_
      refine Calls.mono (toldHand_any (L := (w.heap.size + 2)) _ u1 _ u3 _ u5 wq hI.size l1 l3 l5) ?_
      rintro e w2 ⟨v2, rfl, l2, hb2⟩
      exact ⟨_, rfl, _, rfl, (by show (if _ then _ else _); rw [if_neg (by decide)]; exact hb2), ⟨_, by show [(act.put _ _).tmps.getD _ undef] = _; rw [put_same _ _ _ (by omega)], l2⟩⟩
    · have g4 : act.tmps.getD 4 undef = .pointer (some ⟨w.heap.size, 0, none⟩) := hold 4 (free_spec (by kernel_rfl))
      have hc : wq.cell? ⟨w.heap.size, 0, none⟩ = some (.slice a ns.length cap) := (cell_of_row _ _ 0 _ _ _ hI.box).trans rfl
      refine exec_same (v := .agg #[.slice a ns.length cap]) ?_ ⟨_, rfl, (by show (if _ then _ else _); rw [if_neg (by decide)]; exact Below.refl _ _), at_one (by omega) rfl⟩
      simp [go_sem, Act.eval, g4, hc]
    · obtain ⟨u6, h1_6, l6⟩ := hpre ⟨6, .data⟩ (by simp) rfl _ rfl
      have g16 : act.tmps.getD 16 undef = u6 := by simpa using h1_6
      have g17 : act.tmps.getD 17 undef = .agg #[.slice a ns.length cap] := by have := of_one (hpre ⟨7, .data⟩ (by simp) rfl _ rfl); simpa using this
      refine exec_call (f := 112) (args := #[u6, .agg #[.slice a ns.length cap]]) (by simp [go_sem, Act.eval, g16, g17]) ?_
      refine Calls.mono (HFN.out _ wq hI.below l6) ?_
      rintro e w2 ⟨v2, rfl, l2, hb2⟩
      exact ⟨_, rfl, _, rfl, (by show (if _ then _ else _); rw [if_neg (by decide)]; exact hb2), ⟨_, by show [(act.put _ _).tmps.getD _ undef] = _; rw [put_same _ _ _ (by omega)], l2.base (by have := hI.size; omega)⟩⟩
    · obtain ⟨uu, h1u, lu⟩ := hpre ⟨8, .data⟩ (by simp) rfl _ rfl
      have gu : act.tmps[18]?.getD undef = .tuple #[.agg #[uu], .int .i64 KK] := by simpa using h1u
      refine exec_same (v := .agg #[uu]) ?_ ⟨_, rfl, (by show (if _ then _ else _); rw [if_neg (by decide)]; exact Below.refl _ _), ⟨_, by show [(act.put _ _).tmps.getD _ undef] = _; rw [put_same _ _ _ (by omega)], lu⟩⟩
      simp [go_sem, Act.eval, gu]
    · obtain ⟨uu, h1u, lu⟩ := hpre ⟨8, .data⟩ (by simp) rfl _ rfl
      have gu : act.tmps[18]?.getD undef = .tuple #[.agg #[uu], .int .i64 KK] := by simpa using h1u
      refine exec_same (v := .int .i64 KK) ?_ ⟨_, rfl, (by show (if _ then _ else _); rw [if_neg (by decide)]; exact Below.refl _ _), at_one (by omega) rfl⟩
      simp [go_sem, Act.eval, gu]
    · obtain ⟨uu, h1u, lu⟩ := hpre ⟨9, .data⟩ (by simp) rfl _ rfl
      have gu : act.tmps[19]?.getD undef = .agg #[uu] := by simpa using h1u
      obtain ⟨a9, c9, rfl, -, -⟩ := lu.row
      have g8 : act.tmps.getD 8 undef = .pointer (some ⟨w.heap.size + 1, 0, none⟩) := hold 8 (free_spec (by kernel_rfl))
      obtain ⟨u0, hu0⟩ := hI.res
      have hcg : wq.cell? ⟨w.heap.size + 1, 0, none⟩ = some u0 := by rw [cell_of_row wq _ 0 _ _ _ hu0]; rfl
      have hfg : wq.frozen? ⟨w.heap.size + 1, 0, none⟩ = false := frozen_of_row wq _ 0 _ _ hu0
      have hRR : RgR (w.heap.size + 1) 11 11 wq (wq.setCell ⟨w.heap.size + 1, 0, none⟩ (.slice a9 KP.length c9)) := by show (if _ then _ else _); rw [if_pos rfl]; exact ⟨_, rfl⟩
      refine exec_skip (w' := wq.setCell ⟨w.heap.size + 1, 0, none⟩ (.slice a9 KP.length c9)) ?_ ⟨_, rfl, hRR, ⟨a9, c9, (heap_setCell_same wq _ 0 _ _ _ hu0).trans rfl, RgR.own hRR (by omega) lu⟩⟩
      simp [go_sem, Act.eval, g8, gu, hcg, hfg]
    · have g20 : act.tmps.getD 20 undef = .int .i64 KK := by have := of_one (hpre ⟨10, .data⟩ (by simp) rfl _ rfl); simpa using this
      refine exec_same (v := .int .i64 KK) ?_ ⟨_, rfl, (by show (if _ then _ else _); rw [if_neg (by decide)]; exact Below.refl _ _), at_one (by omega) rfl⟩
      simp [go_sem, Act.eval, g20]
  case fin =>
    intro zs w5 hzl hI hF
    obtain ⟨z0, z1, z2, z3, z4, z5, z6, z7, z8, z9, z10, z11, z12, rfl⟩ := list13 zs hzl
    obtain ⟨a9, c9, hbox, hown⟩ := hF 11 _ rfl
    have hint := of_one (hF 12 _ rfl)
    simp only [List.cons.injEq, and_true] at hint
    have hs3 := last_is (i := 12) (v := z12) (n := 21) hint (by kernel_rfl) rfl rfl (by omega)
    clear hint
    subst hs3
    clear hF
    simp only [putAll, Act.put, List.setIfInBounds_toArray, List.set_cons_succ, List.set_cons_zero]
    have HE : Hid _ := And.intro hbox (And.intro hown hI.below)
    clear hbox hI hown
    go_wp2
    refine bodyPost_ret (res_cell2 rfl _ _ (w.heap.size + 1) 28 #[.slice a9 KP.length c9] (0, 0) _ rfl ?_ Try.underlying28 rfl arenaSize) rfl ?_
    · exact HE.out.1
    · exact ⟨_, rfl, HE.out.2.1.base (by omega), HE.out.2.2⟩
set_option maxHeartbeats 1600000 in
set_option maxRecDepth 20000 in
theorem implDone_any (a : Option Addr) (cap : Nat) (ns : List Nd) (s : Int) (sd : Int) (d : Int) (w : World) (hl : ns.length ≤ 1048576) (hf : ∀ y ∈ ns, y.Fits) (hs : (Lit.int .i64 s).wf = true) (hsd : (Lit.int .i64 sd).wf = true) (hd : (Lit.int .i64 d).wf = true) (ha : AddrN a cap) (hr : RowN w.heap.size w a ns) :
    Calls Try.prog 45 #[.agg #[.slice a ns.length cap], .int .i64 s, .int .i64 sd, .int .i64 d] w fun e w' => ∃ v, e = .returned (.tuple #[.agg #[v], .int .i64 (overK ns 9 s (IntKind.i64.wrap (10 + sd)) d)]) ∧ OwnC w.heap.size w' v (keptA ns (overA ns 9 s (IntKind.i64.wrap (10 + sd)) d) (overK ns 9 s (IntKind.i64.wrap (10 + sd)) d)) ∧ Below w.heap.size w w' := by
  obtain ⟨m, hm⟩ : ∃ m, IntKind.i64.wrap (10 + sd) = m := ⟨_, rfl⟩
  have hm' : (Lit.int .i64 m).wf = true := by rw [← hm]; exact wf_wrap _ _
  rw [hm]
  have HM : Hid (IntKind.i64.wrap (10 + sd) = m) := hm
  clear hm
  have HFN : Hid (∀ (v : Value) (wz : World), Below w.heap.size w wz → ToldIs (w.heap.size + 2) wz.heap.size wz (overT 9 s m d) v → Calls Try.prog 112 #[v, .agg #[.slice a ns.length cap]] wz fun e w' => ∃ v', e = .returned (.tuple #[.agg #[v'], .int .i64 (overK ns 9 s m d)]) ∧ OwnC wz.heap.size w' v' (keptA ns (overA ns 9 s m d) (overK ns 9 s m d)) ∧ Below wz.heap.size wz w') := fun v wz hb ht => by
    have := putIn_any (overT 9 s m d) v a cap ns wz ⟨by omega, by omega, ⟨by omega, by omega, hs, hm'⟩, hd⟩ ht hl hf ha (hr.grown hb)
    rw [overT_f 9 s m d ns (by omega), ifneg_same overK_neg] at this
    exact this
  generalize overK ns 9 s m d = KK at HFN ⊢
  generalize overA ns 9 s m d = AA at HFN ⊢
  obtain ⟨KP, hKP⟩ : ∃ X, keptA ns AA KK = X := ⟨_, rfl⟩
  rw [hKP] at HFN ⊢
  clear hKP
  clear hf ha hr
  obtain ⟨w0, he, hb0, hs0, hA0, hr0⟩ := two_cells a ns.length cap w
  have HC0 : Hid (w0.heap[w.heap.size]? = some (.cells #[.slice a ns.length cap] 28 (0, 0)) ∧ w0.heap[w.heap.size + 1]? = some (.cells #[.slice none 0 0] 28 (0, 0)) ∧ Below w.heap.size w w0 ∧ w.heap.size + 2 ≤ w0.heap.size) := ⟨hA0, hr0, hb0, by omega⟩
  clear hb0 hs0 hA0 hr0
  go_enter Try.func45, Try.ntmps45
  go_wp2_with fail
  rw [← he]
  clear he
  have HI : Hid (RgI w a ns.length cap [] w0) := ⟨HC0.out.2.2.1, HC0.out.1, ⟨_, HC0.out.2.1⟩, HC0.out.2.2.2, fun p hp => by cases hp⟩
  clear HC0
  refine wp_region_list (I := RgI w a ns.length cap []) (R := RgR (w.heap.size + 1) 10)
    (fs := #[⟨[10], fun vs _ => vs = [.int .i64 s]⟩, ⟨[11], fun vs w' => ∃ v, vs = [v] ∧ ToldIs (w.heap.size + 2) w'.heap.size w' (.pl s) v⟩, ⟨[12], fun vs _ => vs = [.int .i64 sd]⟩, ⟨[13], fun vs _ => vs = [.int .i64 d]⟩, ⟨[14], fun vs w' => ∃ v, vs = [v] ∧ ToldIs (w.heap.size + 2) w'.heap.size w' (.pl d) v⟩, ⟨[15], fun vs w' => ∃ v, vs = [v] ∧ ToldIs (w.heap.size + 2) w'.heap.size w' (.two 9 (.two 4 (.pl s) (.atom m)) (.hash (.pl d))) v⟩, ⟨[16], fun vs _ => vs = [.agg #[.slice a ns.length cap]]⟩, ⟨[17], fun vs w' => ∃ v, vs = [.tuple #[.agg #[v], .int .i64 KK]] ∧ OwnC (w.heap.size + 2) w' v KP⟩, ⟨[18], fun vs w' => ∃ v, vs = [.agg #[v]] ∧ OwnC (w.heap.size + 2) w' v KP⟩, ⟨[19], fun vs _ => vs = [.int .i64 KK]⟩, ⟨[], fun vs w' => ∃ a9 c9, w'.heap[w.heap.size + 1]? = some (.cells #[.slice a9 KP.length c9] 28 (0, 0)) ∧ OwnC (w.heap.size + 2) w' (.slice a9 KP.length c9) KP⟩, ⟨[9], fun vs _ => vs = [.int .i64 KK]⟩])
    (by kernel_rfl) 20 rfl (by kernel_rfl) ?stab ?istab ?start ?exec ?fin
  case stab =>
    intro k i f hki hf
    have hk : k < 12 := (Array.getElem?_eq_some_iff.1 hf).1
    rcases (show k = 0 ∨ k = 1 ∨ k = 2 ∨ k = 3 ∨ k = 4 ∨ k = 5 ∨ k = 6 ∨ k = 7 ∨ k = 8 ∨ k = 9 ∨ k = 10 ∨ k = 11 by omega) with rfl | rfl | rfl | rfl | rfl | rfl | rfl | rfl | rfl | rfl | rfl | rfl
    all_goals
      simp only [List.getElem?_toArray, List.getElem?_cons_succ, List.getElem?_cons_zero, Option.some.injEq] at hf
      subst hf
    · exact fun vs _ _ _ h => h
    · exact fun vs w' w'' hR ⟨v, h1, h2⟩ => ⟨v, h1, RgR.told hR (by omega) _ h2⟩
    · exact fun vs _ _ _ h => h
    · exact fun vs _ _ _ h => h
    · exact fun vs w' w'' hR ⟨v, h1, h2⟩ => ⟨v, h1, RgR.told hR (by omega) _ h2⟩
    · exact fun vs w' w'' hR ⟨v, h1, h2⟩ => ⟨v, h1, RgR.told hR (by omega) _ h2⟩
    · exact fun vs _ _ _ h => h
    · exact fun vs w' w'' hR ⟨v, h1, h2⟩ => ⟨v, h1, RgR.own hR (by omega) h2⟩
    · exact fun vs w' w'' hR ⟨v, h1, h2⟩ => ⟨v, h1, RgR.own hR (by omega) h2⟩
    · exact fun vs _ _ _ h => h
    · exact fun vs w' w'' hR ⟨a9, c9, h1, h2⟩ => ⟨a9, c9, by have h3 := hR; unfold RgR at h3; rw [if_neg (Ne.symm hki)] at h3; exact (h3.block _ (Array.getElem?_eq_some_iff.1 h1).1).trans h1, RgR.own hR (by omega) h2⟩
    · exact fun vs _ _ _ h => h
  case istab => exact fun i w' w'' hR h => h.next hR
  case start => exact HI.out.drew
  case exec =>
    intro i o f hi hf act wq hsz hI hold hpre
    have hi11 : i < 12 := (Array.getElem?_eq_some_iff.1 hi).1
    rcases (show i = 0 ∨ i = 1 ∨ i = 2 ∨ i = 3 ∨ i = 4 ∨ i = 5 ∨ i = 6 ∨ i = 7 ∨ i = 8 ∨ i = 9 ∨ i = 10 ∨ i = 11 by omega) with rfl | rfl | rfl | rfl | rfl | rfl | rfl | rfl | rfl | rfl | rfl | rfl
    all_goals
      simp only [List.getElem?_toArray, List.getElem?_cons_succ, List.getElem?_cons_zero, Option.some.injEq] at hi hf
      subst hi hf
    · have g1 : act.tmps.getD 1 undef = .int .i64 s := hold 1 (free_spec (by kernel_rfl))
      refine exec_same (v := .int .i64 s) ?_ ⟨_, rfl, (by show (if _ then _ else _); rw [if_neg (by decide)]; exact Below.refl _ _), at_one (by omega) rfl⟩
      simp [go_sem, Act.eval, g1]
    · have g10 : act.tmps.getD 10 undef = .int .i64 s := by have := of_one (hpre ⟨0, .data⟩ (by simp) rfl _ rfl); simpa using this
      refine exec_call (f := 115) (args := #[.int .i64 s]) (by simp [go_sem, Act.eval, g10]) ?_
      refine Calls.mono (toldAt_any s wq hI.size) ?_
      rintro e w2 ⟨v2, rfl, l2, hb2⟩
      exact ⟨_, rfl, _, rfl, (by show (if _ then _ else _); rw [if_neg (by decide)]; exact hb2), ⟨_, by show [(act.put _ _).tmps.getD _ undef] = _; rw [put_same _ _ _ (by omega)], l2⟩⟩
    · have g2 : act.tmps.getD 2 undef = .int .i64 sd := hold 2 (free_spec (by kernel_rfl))
      refine exec_same (v := .int .i64 sd) ?_ ⟨_, rfl, (by show (if _ then _ else _); rw [if_neg (by decide)]; exact Below.refl _ _), at_one (by omega) rfl⟩
      simp [go_sem, Act.eval, g2]
    · have g3 : act.tmps.getD 3 undef = .int .i64 d := hold 3 (free_spec (by kernel_rfl))
      refine exec_same (v := .int .i64 d) ?_ ⟨_, rfl, (by show (if _ then _ else _); rw [if_neg (by decide)]; exact Below.refl _ _), at_one (by omega) rfl⟩
      simp [go_sem, Act.eval, g3]
    · have g13 : act.tmps.getD 13 undef = .int .i64 d := by have := of_one (hpre ⟨3, .data⟩ (by simp) rfl _ rfl); simpa using this
      refine exec_call (f := 115) (args := #[.int .i64 d]) (by simp [go_sem, Act.eval, g13]) ?_
      refine Calls.mono (toldAt_any d wq hI.size) ?_
      rintro e w2 ⟨v2, rfl, l2, hb2⟩
      exact ⟨_, rfl, _, rfl, (by show (if _ then _ else _); rw [if_neg (by decide)]; exact hb2), ⟨_, by show [(act.put _ _).tmps.getD _ undef] = _; rw [put_same _ _ _ (by omega)], l2⟩⟩
    · obtain ⟨u1, h1_1, l1⟩ := hpre ⟨1, .data⟩ (by simp) rfl _ rfl
      have g11 : act.tmps.getD 11 undef = u1 := by simpa using h1_1
      have g12 : act.tmps.getD 12 undef = .int .i64 sd := by have := of_one (hpre ⟨2, .data⟩ (by simp) rfl _ rfl); simpa using this
      obtain ⟨u4, h1_4, l4⟩ := hpre ⟨4, .data⟩ (by simp) rfl _ rfl
      have g14 : act.tmps.getD 14 undef = u4 := by simpa using h1_4
      refine exec_call (f := 119) (args := #[u1, .int .i64 sd, u4]) (by simp [go_sem, Act.eval, g11, g12, g14]) ?_
      refine Calls.mono (toldDone_any (L := (w.heap.size + 2)) _ u1 sd _ u4 wq hI.size l1 l4 HM.out) ?_
      rintro e w2 ⟨v2, rfl, l2, hb2⟩
      exact ⟨_, rfl, _, rfl, (by show (if _ then _ else _); rw [if_neg (by decide)]; exact hb2), ⟨_, by show [(act.put _ _).tmps.getD _ undef] = _; rw [put_same _ _ _ (by omega)], l2⟩⟩
    · have g4 : act.tmps.getD 4 undef = .pointer (some ⟨w.heap.size, 0, none⟩) := hold 4 (free_spec (by kernel_rfl))
      have hc : wq.cell? ⟨w.heap.size, 0, none⟩ = some (.slice a ns.length cap) := (cell_of_row _ _ 0 _ _ _ hI.box).trans rfl
      refine exec_same (v := .agg #[.slice a ns.length cap]) ?_ ⟨_, rfl, (by show (if _ then _ else _); rw [if_neg (by decide)]; exact Below.refl _ _), at_one (by omega) rfl⟩
      simp [go_sem, Act.eval, g4, hc]
    · obtain ⟨u5, h1_5, l5⟩ := hpre ⟨5, .data⟩ (by simp) rfl _ rfl
      have g15 : act.tmps.getD 15 undef = u5 := by simpa using h1_5
      have g16 : act.tmps.getD 16 undef = .agg #[.slice a ns.length cap] := by have := of_one (hpre ⟨6, .data⟩ (by simp) rfl _ rfl); simpa using this
      refine exec_call (f := 112) (args := #[u5, .agg #[.slice a ns.length cap]]) (by simp [go_sem, Act.eval, g15, g16]) ?_
      refine Calls.mono (HFN.out _ wq hI.below l5) ?_
      rintro e w2 ⟨v2, rfl, l2, hb2⟩
      exact ⟨_, rfl, _, rfl, (by show (if _ then _ else _); rw [if_neg (by decide)]; exact hb2), ⟨_, by show [(act.put _ _).tmps.getD _ undef] = _; rw [put_same _ _ _ (by omega)], l2.base (by have := hI.size; omega)⟩⟩
    · obtain ⟨uu, h1u, lu⟩ := hpre ⟨7, .data⟩ (by simp) rfl _ rfl
      have gu : act.tmps[17]?.getD undef = .tuple #[.agg #[uu], .int .i64 KK] := by simpa using h1u
      refine exec_same (v := .agg #[uu]) ?_ ⟨_, rfl, (by show (if _ then _ else _); rw [if_neg (by decide)]; exact Below.refl _ _), ⟨_, by show [(act.put _ _).tmps.getD _ undef] = _; rw [put_same _ _ _ (by omega)], lu⟩⟩
      simp [go_sem, Act.eval, gu]
    · obtain ⟨uu, h1u, lu⟩ := hpre ⟨7, .data⟩ (by simp) rfl _ rfl
      have gu : act.tmps[17]?.getD undef = .tuple #[.agg #[uu], .int .i64 KK] := by simpa using h1u
      refine exec_same (v := .int .i64 KK) ?_ ⟨_, rfl, (by show (if _ then _ else _); rw [if_neg (by decide)]; exact Below.refl _ _), at_one (by omega) rfl⟩
      simp [go_sem, Act.eval, gu]
    · obtain ⟨uu, h1u, lu⟩ := hpre ⟨8, .data⟩ (by simp) rfl _ rfl
      have gu : act.tmps[18]?.getD undef = .agg #[uu] := by simpa using h1u
      obtain ⟨a9, c9, rfl, -, -⟩ := lu.row
      have g8 : act.tmps.getD 8 undef = .pointer (some ⟨w.heap.size + 1, 0, none⟩) := hold 8 (free_spec (by kernel_rfl))
      obtain ⟨u0, hu0⟩ := hI.res
      have hcg : wq.cell? ⟨w.heap.size + 1, 0, none⟩ = some u0 := by rw [cell_of_row wq _ 0 _ _ _ hu0]; rfl
      have hfg : wq.frozen? ⟨w.heap.size + 1, 0, none⟩ = false := frozen_of_row wq _ 0 _ _ hu0
      have hRR : RgR (w.heap.size + 1) 10 10 wq (wq.setCell ⟨w.heap.size + 1, 0, none⟩ (.slice a9 KP.length c9)) := by show (if _ then _ else _); rw [if_pos rfl]; exact ⟨_, rfl⟩
      refine exec_skip (w' := wq.setCell ⟨w.heap.size + 1, 0, none⟩ (.slice a9 KP.length c9)) ?_ ⟨_, rfl, hRR, ⟨a9, c9, (heap_setCell_same wq _ 0 _ _ _ hu0).trans rfl, RgR.own hRR (by omega) lu⟩⟩
      simp [go_sem, Act.eval, g8, gu, hcg, hfg]
    · have g19 : act.tmps.getD 19 undef = .int .i64 KK := by have := of_one (hpre ⟨9, .data⟩ (by simp) rfl _ rfl); simpa using this
      refine exec_same (v := .int .i64 KK) ?_ ⟨_, rfl, (by show (if _ then _ else _); rw [if_neg (by decide)]; exact Below.refl _ _), at_one (by omega) rfl⟩
      simp [go_sem, Act.eval, g19]
  case fin =>
    intro zs w5 hzl hI hF
    obtain ⟨z0, z1, z2, z3, z4, z5, z6, z7, z8, z9, z10, z11, rfl⟩ := list12 zs hzl
    obtain ⟨a9, c9, hbox, hown⟩ := hF 10 _ rfl
    have hint := of_one (hF 11 _ rfl)
    simp only [List.cons.injEq, and_true] at hint
    have hs3 := last_is (i := 11) (v := z11) (n := 20) hint (by kernel_rfl) rfl rfl (by omega)
    clear hint
    subst hs3
    clear hF
    simp only [putAll, Act.put, List.setIfInBounds_toArray, List.set_cons_succ, List.set_cons_zero]
    have HE : Hid _ := And.intro hbox (And.intro hown hI.below)
    clear hbox hI hown
    go_wp2
    refine bodyPost_ret (res_cell2 rfl _ _ (w.heap.size + 1) 28 #[.slice a9 KP.length c9] (0, 0) _ rfl ?_ Try.underlying28 rfl arenaSize) rfl ?_
    · exact HE.out.1
    · exact ⟨_, rfl, HE.out.2.1.base (by omega), HE.out.2.2⟩
set_option maxHeartbeats 1600000 in
set_option maxRecDepth 20000 in
theorem implApp_any (a : Option Addr) (cap : Nat) (ns : List Nd) (s : Int) (d : Int) (w : World) (hl : ns.length ≤ 1048576) (hf : ∀ y ∈ ns, y.Fits) (hs : (Lit.int .i64 s).wf = true) (hd : (Lit.int .i64 d).wf = true) (ha : AddrN a cap) (hr : RowN w.heap.size w a ns) :
    Calls Try.prog 44 #[.agg #[.slice a ns.length cap], .int .i64 s, .int .i64 d] w fun e w' => ∃ v, e = .returned (.tuple #[.agg #[v], .int .i64 (overK ns 4 s 20 d)]) ∧ OwnC w.heap.size w' v (keptA ns (overA ns 4 s 20 d) (overK ns 4 s 20 d)) ∧ Below w.heap.size w w' := by
  have HFN : Hid (∀ (v : Value) (wz : World), Below w.heap.size w wz → ToldIs (w.heap.size + 2) wz.heap.size wz (overT 4 s 20 d) v → Calls Try.prog 112 #[v, .agg #[.slice a ns.length cap]] wz fun e w' => ∃ v', e = .returned (.tuple #[.agg #[v'], .int .i64 (overK ns 4 s 20 d)]) ∧ OwnC wz.heap.size w' v' (keptA ns (overA ns 4 s 20 d) (overK ns 4 s 20 d)) ∧ Below wz.heap.size wz w') := fun v wz hb ht => by
    have := putIn_any (overT 4 s 20 d) v a cap ns wz ⟨by omega, by omega, ⟨by omega, by omega, hs, wf20⟩, hd⟩ ht hl hf ha (hr.grown hb)
    rw [overT_f 4 s 20 d ns (by omega), ifneg_same overK_neg] at this
    exact this
  generalize overK ns 4 s 20 d = KK at HFN ⊢
  generalize overA ns 4 s 20 d = AA at HFN ⊢
  obtain ⟨KP, hKP⟩ : ∃ X, keptA ns AA KK = X := ⟨_, rfl⟩
  rw [hKP] at HFN ⊢
  clear hKP
  clear hf ha hr
  obtain ⟨w0, he, hb0, hs0, hA0, hr0⟩ := two_cells a ns.length cap w
  have HC0 : Hid (w0.heap[w.heap.size]? = some (.cells #[.slice a ns.length cap] 28 (0, 0)) ∧ w0.heap[w.heap.size + 1]? = some (.cells #[.slice none 0 0] 28 (0, 0)) ∧ Below w.heap.size w w0 ∧ w.heap.size + 2 ≤ w0.heap.size) := ⟨hA0, hr0, hb0, by omega⟩
  clear hb0 hs0 hA0 hr0
  go_enter Try.func44, Try.ntmps44
  go_wp2_with fail
  rw [← he]
  clear he
  refine Calls.mono (toldAt_any s w0 HC0.out.2.2.2) ?_
  rintro e w1 ⟨v1, rfl, ht, hb⟩
  obtain ⟨F1, cs1, rfl⟩ := ht.fn
  have HC1 : Hid (w1.heap[w.heap.size]? = some (.cells #[.slice a ns.length cap] 28 (0, 0)) ∧ w1.heap[w.heap.size + 1]? = some (.cells #[.slice none 0 0] 28 (0, 0)) ∧ Below w.heap.size w w1 ∧ w.heap.size + 2 ≤ w1.heap.size) := ⟨(hb.block _ (by have := HC0.out.2.2.2; omega)).trans HC0.out.1, (hb.block _ (by have := HC0.out.2.2.2; omega)).trans HC0.out.2.1, HC0.out.2.2.1.trans (hb.mono (by have := HC0.out.2.2.2; omega)), by have := HC0.out.2.2.2; have := hb.size; omega⟩
  have T1 : Hid (ToldIs (w.heap.size + 2) w1.heap.size w1 _ (.func (.func F1) #[] cs1)) := ht
  clear ht hb HC0
  go_wp2_with fail
  refine Calls.mono (toldAtom_any 20 w1 HC1.out.2.2.2) ?_
  rintro e w2 ⟨v2, rfl, ht, hb⟩
  obtain ⟨F2, cs2, rfl⟩ := ht.fn
  have HC2 : Hid (w2.heap[w.heap.size]? = some (.cells #[.slice a ns.length cap] 28 (0, 0)) ∧ w2.heap[w.heap.size + 1]? = some (.cells #[.slice none 0 0] 28 (0, 0)) ∧ Below w.heap.size w w2 ∧ w.heap.size + 2 ≤ w2.heap.size) := ⟨(hb.block _ (by have := HC1.out.2.2.2; omega)).trans HC1.out.1, (hb.block _ (by have := HC1.out.2.2.2; omega)).trans HC1.out.2.1, HC1.out.2.2.1.trans (hb.mono (by have := HC1.out.2.2.2; omega)), by have := HC1.out.2.2.2; have := hb.size; omega⟩
  have T2 : Hid (ToldIs (w.heap.size + 2) w2.heap.size w2 _ (.func (.func F2) #[] cs2)) := ht
  replace T1 : Hid (ToldIs (w.heap.size + 2) w2.heap.size w2 _ (.func (.func F1) #[] cs1)) := ToldIs.base hb.size _ (ToldIs.later hb _ T1.out)
  clear ht hb HC1
  go_wp2_with fail
  refine Calls.mono (toldKdf_any _ _ _ _ w2 HC2.out.2.2.2 T1.out T2.out) ?_
  rintro e w3 ⟨v3, rfl, ht, hb⟩
  obtain ⟨F3, cs3, rfl⟩ := ht.fn
  have HC3 : Hid (w3.heap[w.heap.size]? = some (.cells #[.slice a ns.length cap] 28 (0, 0)) ∧ w3.heap[w.heap.size + 1]? = some (.cells #[.slice none 0 0] 28 (0, 0)) ∧ Below w.heap.size w w3 ∧ w.heap.size + 2 ≤ w3.heap.size) := ⟨(hb.block _ (by have := HC2.out.2.2.2; omega)).trans HC2.out.1, (hb.block _ (by have := HC2.out.2.2.2; omega)).trans HC2.out.2.1, HC2.out.2.2.1.trans (hb.mono (by have := HC2.out.2.2.2; omega)), by have := HC2.out.2.2.2; have := hb.size; omega⟩
  have T3 : Hid (ToldIs (w.heap.size + 2) w3.heap.size w3 _ (.func (.func F3) #[] cs3)) := ht
  clear ht hb HC2
  go_wp2_with fail
  have HI : Hid (RgI w a ns.length cap [(.two 4 (.pl s) (.atom 20), .func (.func F3) #[] cs3)] w3) := ⟨HC3.out.2.2.1, HC3.out.1, ⟨_, HC3.out.2.1⟩, HC3.out.2.2.2, fun p hp => by rw [List.mem_singleton] at hp; subst hp; exact T3.out⟩
  clear HC3 T3
  refine wp_region_list (I := RgI w a ns.length cap [(.two 4 (.pl s) (.atom 20), .func (.func F3) #[] cs3)]) (R := RgR (w.heap.size + 1) 9)
    (fs := #[⟨[13], fun vs w' => ∃ v, vs = [v] ∧ ToldIs (w.heap.size + 2) w'.heap.size w' (.two 4 (.pl s) (.atom 20)) v⟩, ⟨[14], fun vs _ => vs = [.int .i64 d]⟩, ⟨[15], fun vs w' => ∃ v, vs = [v] ∧ ToldIs (w.heap.size + 2) w'.heap.size w' (.pl d) v⟩, ⟨[16], fun vs w' => ∃ v, vs = [v] ∧ ToldIs (w.heap.size + 2) w'.heap.size w' (.hash (.pl d)) v⟩, ⟨[17], fun vs w' => ∃ v, vs = [v] ∧ ToldIs (w.heap.size + 2) w'.heap.size w' (.two 4 (.two 4 (.pl s) (.atom 20)) (.hash (.pl d))) v⟩, ⟨[18], fun vs _ => vs = [.agg #[.slice a ns.length cap]]⟩, ⟨[19], fun vs w' => ∃ v, vs = [.tuple #[.agg #[v], .int .i64 KK]] ∧ OwnC (w.heap.size + 2) w' v KP⟩, ⟨[20], fun vs w' => ∃ v, vs = [.agg #[v]] ∧ OwnC (w.heap.size + 2) w' v KP⟩, ⟨[21], fun vs _ => vs = [.int .i64 KK]⟩, ⟨[], fun vs w' => ∃ a9 c9, w'.heap[w.heap.size + 1]? = some (.cells #[.slice a9 KP.length c9] 28 (0, 0)) ∧ OwnC (w.heap.size + 2) w' (.slice a9 KP.length c9) KP⟩, ⟨[7], fun vs _ => vs = [.int .i64 KK]⟩])
    (by kernel_rfl) 22 rfl (by kernel_rfl) ?stab ?istab ?start ?exec ?fin
  case stab =>
    intro k i f hki hf
    have hk : k < 11 := (Array.getElem?_eq_some_iff.1 hf).1
    rcases (show k = 0 ∨ k = 1 ∨ k = 2 ∨ k = 3 ∨ k = 4 ∨ k = 5 ∨ k = 6 ∨ k = 7 ∨ k = 8 ∨ k = 9 ∨ k = 10 by omega) with rfl | rfl | rfl | rfl | rfl | rfl | rfl | rfl | rfl | rfl | rfl
    all_goals
      simp only [List.getElem?_toArray, List.getElem?_cons_succ, List.getElem?_cons_zero, Option.some.injEq] at hf
      subst hf
    · exact fun vs w' w'' hR ⟨v, h1, h2⟩ => ⟨v, h1, RgR.told hR (by omega) _ h2⟩
    · exact fun vs _ _ _ h => h
    · exact fun vs w' w'' hR ⟨v, h1, h2⟩ => ⟨v, h1, RgR.told hR (by omega) _ h2⟩
    · exact fun vs w' w'' hR ⟨v, h1, h2⟩ => ⟨v, h1, RgR.told hR (by omega) _ h2⟩
    · exact fun vs w' w'' hR ⟨v, h1, h2⟩ => ⟨v, h1, RgR.told hR (by omega) _ h2⟩
    · exact fun vs _ _ _ h => h
    · exact fun vs w' w'' hR ⟨v, h1, h2⟩ => ⟨v, h1, RgR.own hR (by omega) h2⟩
    · exact fun vs w' w'' hR ⟨v, h1, h2⟩ => ⟨v, h1, RgR.own hR (by omega) h2⟩
    · exact fun vs _ _ _ h => h
    · exact fun vs w' w'' hR ⟨a9, c9, h1, h2⟩ => ⟨a9, c9, by have h3 := hR; unfold RgR at h3; rw [if_neg (Ne.symm hki)] at h3; exact (h3.block _ (Array.getElem?_eq_some_iff.1 h1).1).trans h1, RgR.own hR (by omega) h2⟩
    · exact fun vs _ _ _ h => h
  case istab => exact fun i w' w'' hR h => h.next hR
  case start => exact HI.out.drew
  case exec =>
    intro i o f hi hf act wq hsz hI hold hpre
    have hi11 : i < 11 := (Array.getElem?_eq_some_iff.1 hi).1
    rcases (show i = 0 ∨ i = 1 ∨ i = 2 ∨ i = 3 ∨ i = 4 ∨ i = 5 ∨ i = 6 ∨ i = 7 ∨ i = 8 ∨ i = 9 ∨ i = 10 by omega) with rfl | rfl | rfl | rfl | rfl | rfl | rfl | rfl | rfl | rfl | rfl
    all_goals
      simp only [List.getElem?_toArray, List.getElem?_cons_succ, List.getElem?_cons_zero, Option.some.injEq] at hi hf
      subst hi hf
    · have g8 : act.tmps.getD 8 undef = .func (.func F3) #[] cs3 := hold 8 (free_spec (by kernel_rfl))
      refine exec_same (v := .func (.func F3) #[] cs3) ?_ ⟨_, rfl, (by show (if _ then _ else _); rw [if_neg (by decide)]; exact Below.refl _ _), ⟨_, by show [(act.put _ _).tmps.getD _ undef] = _; rw [put_same _ _ _ (by omega)], hI.told _ (List.mem_cons_self ..)⟩⟩
      simp [go_sem, Act.eval, g8]
    · have g2 : act.tmps.getD 2 undef = .int .i64 d := hold 2 (free_spec (by kernel_rfl))
      refine exec_same (v := .int .i64 d) ?_ ⟨_, rfl, (by show (if _ then _ else _); rw [if_neg (by decide)]; exact Below.refl _ _), at_one (by omega) rfl⟩
      simp [go_sem, Act.eval, g2]
    · have g14 : act.tmps.getD 14 undef = .int .i64 d := by have := of_one (hpre ⟨1, .data⟩ (by simp) rfl _ rfl); simpa using this
      refine exec_call (f := 115) (args := #[.int .i64 d]) (by simp [go_sem, Act.eval, g14]) ?_
      refine Calls.mono (toldAt_any d wq hI.size) ?_
      rintro e w2 ⟨v2, rfl, l2, hb2⟩
      exact ⟨_, rfl, _, rfl, (by show (if _ then _ else _); rw [if_neg (by decide)]; exact hb2), ⟨_, by show [(act.put _ _).tmps.getD _ undef] = _; rw [put_same _ _ _ (by omega)], l2⟩⟩
    · obtain ⟨u2, h1_2, l2⟩ := hpre ⟨2, .data⟩ (by simp) rfl _ rfl
      have g15 : act.tmps.getD 15 undef = u2 := by simpa using h1_2
      refine exec_call (f := 118) (args := #[u2]) (by simp [go_sem, Act.eval, g15]) ?_
      refine Calls.mono (toldHash_any _ u2 wq hI.size l2) ?_
      rintro e w2 ⟨v2, rfl, l2, hb2⟩
      exact ⟨_, rfl, _, rfl, (by show (if _ then _ else _); rw [if_neg (by decide)]; exact hb2), ⟨_, by show [(act.put _ _).tmps.getD _ undef] = _; rw [put_same _ _ _ (by omega)], l2⟩⟩
    · obtain ⟨u0, h1_0, l0⟩ := hpre ⟨0, .data⟩ (by simp) rfl _ rfl
      have g13 : act.tmps.getD 13 undef = u0 := by simpa using h1_0
      obtain ⟨u3, h1_3, l3⟩ := hpre ⟨3, .data⟩ (by simp) rfl _ rfl
      have g16 : act.tmps.getD 16 undef = u3 := by simpa using h1_3
      refine exec_call (f := 116) (args := #[u0, u3]) (by simp [go_sem, Act.eval, g13, g16]) ?_
      refine Calls.mono (toldKdf_any _ _ u0 u3 wq hI.size l0 l3) ?_
      rintro e w2 ⟨v2, rfl, l2, hb2⟩
      exact ⟨_, rfl, _, rfl, (by show (if _ then _ else _); rw [if_neg (by decide)]; exact hb2), ⟨_, by show [(act.put _ _).tmps.getD _ undef] = _; rw [put_same _ _ _ (by omega)], l2⟩⟩
    · have g3 : act.tmps.getD 3 undef = .pointer (some ⟨w.heap.size, 0, none⟩) := hold 3 (free_spec (by kernel_rfl))
      have hc : wq.cell? ⟨w.heap.size, 0, none⟩ = some (.slice a ns.length cap) := (cell_of_row _ _ 0 _ _ _ hI.box).trans rfl
      refine exec_same (v := .agg #[.slice a ns.length cap]) ?_ ⟨_, rfl, (by show (if _ then _ else _); rw [if_neg (by decide)]; exact Below.refl _ _), at_one (by omega) rfl⟩
      simp [go_sem, Act.eval, g3, hc]
    · obtain ⟨u4, h1_4, l4⟩ := hpre ⟨4, .data⟩ (by simp) rfl _ rfl
      have g17 : act.tmps.getD 17 undef = u4 := by simpa using h1_4
      have g18 : act.tmps.getD 18 undef = .agg #[.slice a ns.length cap] := by have := of_one (hpre ⟨5, .data⟩ (by simp) rfl _ rfl); simpa using this
      refine exec_call (f := 112) (args := #[u4, .agg #[.slice a ns.length cap]]) (by simp [go_sem, Act.eval, g17, g18]) ?_
      refine Calls.mono (HFN.out _ wq hI.below l4) ?_
      rintro e w2 ⟨v2, rfl, l2, hb2⟩
      exact ⟨_, rfl, _, rfl, (by show (if _ then _ else _); rw [if_neg (by decide)]; exact hb2), ⟨_, by show [(act.put _ _).tmps.getD _ undef] = _; rw [put_same _ _ _ (by omega)], l2.base (by have := hI.size; omega)⟩⟩
    · obtain ⟨uu, h1u, lu⟩ := hpre ⟨6, .data⟩ (by simp) rfl _ rfl
      have gu : act.tmps[19]?.getD undef = .tuple #[.agg #[uu], .int .i64 KK] := by simpa using h1u
      refine exec_same (v := .agg #[uu]) ?_ ⟨_, rfl, (by show (if _ then _ else _); rw [if_neg (by decide)]; exact Below.refl _ _), ⟨_, by show [(act.put _ _).tmps.getD _ undef] = _; rw [put_same _ _ _ (by omega)], lu⟩⟩
      simp [go_sem, Act.eval, gu]
    · obtain ⟨uu, h1u, lu⟩ := hpre ⟨6, .data⟩ (by simp) rfl _ rfl
      have gu : act.tmps[19]?.getD undef = .tuple #[.agg #[uu], .int .i64 KK] := by simpa using h1u
      refine exec_same (v := .int .i64 KK) ?_ ⟨_, rfl, (by show (if _ then _ else _); rw [if_neg (by decide)]; exact Below.refl _ _), at_one (by omega) rfl⟩
      simp [go_sem, Act.eval, gu]
    · obtain ⟨uu, h1u, lu⟩ := hpre ⟨7, .data⟩ (by simp) rfl _ rfl
      have gu : act.tmps[20]?.getD undef = .agg #[uu] := by simpa using h1u
      obtain ⟨a9, c9, rfl, -, -⟩ := lu.row
      have g6 : act.tmps.getD 6 undef = .pointer (some ⟨w.heap.size + 1, 0, none⟩) := hold 6 (free_spec (by kernel_rfl))
      obtain ⟨u0, hu0⟩ := hI.res
      have hcg : wq.cell? ⟨w.heap.size + 1, 0, none⟩ = some u0 := by rw [cell_of_row wq _ 0 _ _ _ hu0]; rfl
      have hfg : wq.frozen? ⟨w.heap.size + 1, 0, none⟩ = false := frozen_of_row wq _ 0 _ _ hu0
      have hRR : RgR (w.heap.size + 1) 9 9 wq (wq.setCell ⟨w.heap.size + 1, 0, none⟩ (.slice a9 KP.length c9)) := by show (if _ then _ else _); rw [if_pos rfl]; exact ⟨_, rfl⟩
      refine exec_skip (w' := wq.setCell ⟨w.heap.size + 1, 0, none⟩ (.slice a9 KP.length c9)) ?_ ⟨_, rfl, hRR, ⟨a9, c9, (heap_setCell_same wq _ 0 _ _ _ hu0).trans rfl, RgR.own hRR (by omega) lu⟩⟩
      simp [go_sem, Act.eval, g6, gu, hcg, hfg]
    · have g21 : act.tmps.getD 21 undef = .int .i64 KK := by have := of_one (hpre ⟨8, .data⟩ (by simp) rfl _ rfl); simpa using this
      refine exec_same (v := .int .i64 KK) ?_ ⟨_, rfl, (by show (if _ then _ else _); rw [if_neg (by decide)]; exact Below.refl _ _), at_one (by omega) rfl⟩
      simp [go_sem, Act.eval, g21]
  case fin =>
    intro zs w5 hzl hI hF
    obtain ⟨z0, z1, z2, z3, z4, z5, z6, z7, z8, z9, z10, rfl⟩ := list11 zs hzl
    obtain ⟨a9, c9, hbox, hown⟩ := hF 9 _ rfl
    have hint := of_one (hF 10 _ rfl)
    simp only [List.cons.injEq, and_true] at hint
    have hs3 := last_is (i := 10) (v := z10) (n := 22) hint (by kernel_rfl) rfl rfl (by omega)
    clear hint
    subst hs3
    clear hF
    simp only [putAll, Act.put, List.setIfInBounds_toArray, List.set_cons_succ, List.set_cons_zero]
    have HE : Hid _ := And.intro hbox (And.intro hown hI.below)
    clear hbox hI hown
    go_wp2
    refine bodyPost_ret (res_cell2 rfl _ _ (w.heap.size + 1) 28 #[.slice a9 KP.length c9] (0, 0) _ rfl ?_ Try.underlying28 rfl arenaSize) rfl ?_
    · exact HE.out.1
    · exact ⟨_, rfl, HE.out.2.1.base (by omega), HE.out.2.2⟩
set_option maxHeartbeats 1600000 in
set_option maxRecDepth 20000 in
theorem implSide_any (a : Option Addr) (cap : Nat) (ns : List Nd) (s : Int) (n : Int) (w : World) (hl : ns.length ≤ 1048576) (hf : ∀ y ∈ ns, y.Fits) (hs : (Lit.int .i64 s).wf = true) (hn : (Lit.int .i64 n).wf = true) (ha : AddrN a cap) (hr : RowN w.heap.size w a ns) :
    Calls Try.prog 43 #[.agg #[.slice a ns.length cap], .int .i64 s, .int .i64 n] w fun e w' => ∃ v, e = .returned (.tuple #[.agg #[v], .int .i64 (sideK ns s n)]) ∧ OwnC w.heap.size w' v (keptA ns (sideA ns s n) (sideK ns s n)) ∧ Below w.heap.size w w' := by
  have HFN : Hid (∀ (v : Value) (wz : World), Below w.heap.size w wz → ToldIs (w.heap.size + 2) wz.heap.size wz (sideT (.pl s) n) v → Calls Try.prog 112 #[v, .agg #[.slice a ns.length cap]] wz fun e w' => ∃ v', e = .returned (.tuple #[.agg #[v'], .int .i64 (sideK ns s n)]) ∧ OwnC wz.heap.size w' v' (keptA ns (sideA ns s n) (sideK ns s n)) ∧ Below wz.heap.size wz w') := fun v wz hb ht => by
    have := putIn_any (sideT (.pl s) n) v a cap ns wz ⟨by omega, by omega, hs, hn⟩ ht hl hf ha (hr.grown hb)
    rw [show (sideT (.pl s) n).f ns = (sideA ns s n, sideK ns s n) from sideT_f (.pl s) n ns, ifneg_same (sideK_neg (ns := ns) (s := s) (n := n))] at this
    exact this
  generalize sideK ns s n = KK at HFN ⊢
  generalize sideA ns s n = AA at HFN ⊢
  obtain ⟨KP, hKP⟩ : ∃ X, keptA ns AA KK = X := ⟨_, rfl⟩
  rw [hKP] at HFN ⊢
  clear hKP
  clear hf ha hr
  obtain ⟨w0, he, hb0, hs0, hA0, hr0⟩ := two_cells a ns.length cap w
  have HC0 : Hid (w0.heap[w.heap.size]? = some (.cells #[.slice a ns.length cap] 28 (0, 0)) ∧ w0.heap[w.heap.size + 1]? = some (.cells #[.slice none 0 0] 28 (0, 0)) ∧ Below w.heap.size w w0 ∧ w.heap.size + 2 ≤ w0.heap.size) := ⟨hA0, hr0, hb0, by omega⟩
  clear hb0 hs0 hA0 hr0
  go_enter Try.func43, Try.ntmps43
  go_wp2_with fail
  rw [← he]
  clear he
  have HI : Hid (RgI w a ns.length cap [] w0) := ⟨HC0.out.2.2.1, HC0.out.1, ⟨_, HC0.out.2.1⟩, HC0.out.2.2.2, fun p hp => by cases hp⟩
  clear HC0
  refine wp_region_list (I := RgI w a ns.length cap []) (R := RgR (w.heap.size + 1) 8)
    (fs := #[⟨[8], fun vs _ => vs = [.int .i64 s]⟩, ⟨[9], fun vs w' => ∃ v, vs = [v] ∧ ToldIs (w.heap.size + 2) w'.heap.size w' (.pl s) v⟩, ⟨[10], fun vs _ => vs = [.int .i64 n]⟩, ⟨[11], fun vs w' => ∃ v, vs = [v] ∧ ToldIs (w.heap.size + 2) w'.heap.size w' (.two 4 (.pl s) (.atom n)) v⟩, ⟨[12], fun vs _ => vs = [.agg #[.slice a ns.length cap]]⟩, ⟨[13], fun vs w' => ∃ v, vs = [.tuple #[.agg #[v], .int .i64 KK]] ∧ OwnC (w.heap.size + 2) w' v KP⟩, ⟨[14], fun vs w' => ∃ v, vs = [.agg #[v]] ∧ OwnC (w.heap.size + 2) w' v KP⟩, ⟨[15], fun vs _ => vs = [.int .i64 KK]⟩, ⟨[], fun vs w' => ∃ a9 c9, w'.heap[w.heap.size + 1]? = some (.cells #[.slice a9 KP.length c9] 28 (0, 0)) ∧ OwnC (w.heap.size + 2) w' (.slice a9 KP.length c9) KP⟩, ⟨[7], fun vs _ => vs = [.int .i64 KK]⟩])
    (by kernel_rfl) 16 rfl (by kernel_rfl) ?stab ?istab ?start ?exec ?fin
  case stab =>
    intro k i f hki hf
    have hk : k < 10 := (Array.getElem?_eq_some_iff.1 hf).1
    rcases (show k = 0 ∨ k = 1 ∨ k = 2 ∨ k = 3 ∨ k = 4 ∨ k = 5 ∨ k = 6 ∨ k = 7 ∨ k = 8 ∨ k = 9 by omega) with rfl | rfl | rfl | rfl | rfl | rfl | rfl | rfl | rfl | rfl
    all_goals
      simp only [List.getElem?_toArray, List.getElem?_cons_succ, List.getElem?_cons_zero, Option.some.injEq] at hf
      subst hf
    · exact fun vs _ _ _ h => h
    · exact fun vs w' w'' hR ⟨v, h1, h2⟩ => ⟨v, h1, RgR.told hR (by omega) _ h2⟩
    · exact fun vs _ _ _ h => h
    · exact fun vs w' w'' hR ⟨v, h1, h2⟩ => ⟨v, h1, RgR.told hR (by omega) _ h2⟩
    · exact fun vs _ _ _ h => h
    · exact fun vs w' w'' hR ⟨v, h1, h2⟩ => ⟨v, h1, RgR.own hR (by omega) h2⟩
    · exact fun vs w' w'' hR ⟨v, h1, h2⟩ => ⟨v, h1, RgR.own hR (by omega) h2⟩
    · exact fun vs _ _ _ h => h
    · exact fun vs w' w'' hR ⟨a9, c9, h1, h2⟩ => ⟨a9, c9, by have h3 := hR; unfold RgR at h3; rw [if_neg (Ne.symm hki)] at h3; exact (h3.block _ (Array.getElem?_eq_some_iff.1 h1).1).trans h1, RgR.own hR (by omega) h2⟩
    · exact fun vs _ _ _ h => h
  case istab => exact fun i w' w'' hR h => h.next hR
  case start => exact HI.out.drew
  case exec =>
    intro i o f hi hf act wq hsz hI hold hpre
    have hi11 : i < 10 := (Array.getElem?_eq_some_iff.1 hi).1
    rcases (show i = 0 ∨ i = 1 ∨ i = 2 ∨ i = 3 ∨ i = 4 ∨ i = 5 ∨ i = 6 ∨ i = 7 ∨ i = 8 ∨ i = 9 by omega) with rfl | rfl | rfl | rfl | rfl | rfl | rfl | rfl | rfl | rfl
    all_goals
      simp only [List.getElem?_toArray, List.getElem?_cons_succ, List.getElem?_cons_zero, Option.some.injEq] at hi hf
      subst hi hf
    · have g1 : act.tmps.getD 1 undef = .int .i64 s := hold 1 (free_spec (by kernel_rfl))
      refine exec_same (v := .int .i64 s) ?_ ⟨_, rfl, (by show (if _ then _ else _); rw [if_neg (by decide)]; exact Below.refl _ _), at_one (by omega) rfl⟩
      simp [go_sem, Act.eval, g1]
    · have g8 : act.tmps.getD 8 undef = .int .i64 s := by have := of_one (hpre ⟨0, .data⟩ (by simp) rfl _ rfl); simpa using this
      refine exec_call (f := 115) (args := #[.int .i64 s]) (by simp [go_sem, Act.eval, g8]) ?_
      refine Calls.mono (toldAt_any s wq hI.size) ?_
      rintro e w2 ⟨v2, rfl, l2, hb2⟩
      exact ⟨_, rfl, _, rfl, (by show (if _ then _ else _); rw [if_neg (by decide)]; exact hb2), ⟨_, by show [(act.put _ _).tmps.getD _ undef] = _; rw [put_same _ _ _ (by omega)], l2⟩⟩
    · have g2 : act.tmps.getD 2 undef = .int .i64 n := hold 2 (free_spec (by kernel_rfl))
      refine exec_same (v := .int .i64 n) ?_ ⟨_, rfl, (by show (if _ then _ else _); rw [if_neg (by decide)]; exact Below.refl _ _), at_one (by omega) rfl⟩
      simp [go_sem, Act.eval, g2]
    · obtain ⟨u1, h1_1, l1⟩ := hpre ⟨1, .data⟩ (by simp) rfl _ rfl
      have g9 : act.tmps.getD 9 undef = u1 := by simpa using h1_1
      have g10 : act.tmps.getD 10 undef = .int .i64 n := by have := of_one (hpre ⟨2, .data⟩ (by simp) rfl _ rfl); simpa using this
      refine exec_call (f := 114) (args := #[u1, .int .i64 n]) (by simp [go_sem, Act.eval, g9, g10]) ?_
      refine Calls.mono (toldSideKey_any (L := (w.heap.size + 2)) _ u1 n wq hI.size l1) ?_
      rintro e w2 ⟨v2, rfl, l2, hb2⟩
      exact ⟨_, rfl, _, rfl, (by show (if _ then _ else _); rw [if_neg (by decide)]; exact hb2), ⟨_, by show [(act.put _ _).tmps.getD _ undef] = _; rw [put_same _ _ _ (by omega)], l2⟩⟩
    · have g3 : act.tmps.getD 3 undef = .pointer (some ⟨w.heap.size, 0, none⟩) := hold 3 (free_spec (by kernel_rfl))
      have hc : wq.cell? ⟨w.heap.size, 0, none⟩ = some (.slice a ns.length cap) := (cell_of_row _ _ 0 _ _ _ hI.box).trans rfl
      refine exec_same (v := .agg #[.slice a ns.length cap]) ?_ ⟨_, rfl, (by show (if _ then _ else _); rw [if_neg (by decide)]; exact Below.refl _ _), at_one (by omega) rfl⟩
      simp [go_sem, Act.eval, g3, hc]
    · obtain ⟨u3, h1_3, l3⟩ := hpre ⟨3, .data⟩ (by simp) rfl _ rfl
      have g11 : act.tmps.getD 11 undef = u3 := by simpa using h1_3
      have g12 : act.tmps.getD 12 undef = .agg #[.slice a ns.length cap] := by have := of_one (hpre ⟨4, .data⟩ (by simp) rfl _ rfl); simpa using this
      refine exec_call (f := 112) (args := #[u3, .agg #[.slice a ns.length cap]]) (by simp [go_sem, Act.eval, g11, g12]) ?_
      refine Calls.mono (HFN.out _ wq hI.below l3) ?_
      rintro e w2 ⟨v2, rfl, l2, hb2⟩
      exact ⟨_, rfl, _, rfl, (by show (if _ then _ else _); rw [if_neg (by decide)]; exact hb2), ⟨_, by show [(act.put _ _).tmps.getD _ undef] = _; rw [put_same _ _ _ (by omega)], l2.base (by have := hI.size; omega)⟩⟩
    · obtain ⟨uu, h1u, lu⟩ := hpre ⟨5, .data⟩ (by simp) rfl _ rfl
      have gu : act.tmps[13]?.getD undef = .tuple #[.agg #[uu], .int .i64 KK] := by simpa using h1u
      refine exec_same (v := .agg #[uu]) ?_ ⟨_, rfl, (by show (if _ then _ else _); rw [if_neg (by decide)]; exact Below.refl _ _), ⟨_, by show [(act.put _ _).tmps.getD _ undef] = _; rw [put_same _ _ _ (by omega)], lu⟩⟩
      simp [go_sem, Act.eval, gu]
    · obtain ⟨uu, h1u, lu⟩ := hpre ⟨5, .data⟩ (by simp) rfl _ rfl
      have gu : act.tmps[13]?.getD undef = .tuple #[.agg #[uu], .int .i64 KK] := by simpa using h1u
      refine exec_same (v := .int .i64 KK) ?_ ⟨_, rfl, (by show (if _ then _ else _); rw [if_neg (by decide)]; exact Below.refl _ _), at_one (by omega) rfl⟩
      simp [go_sem, Act.eval, gu]
    · obtain ⟨uu, h1u, lu⟩ := hpre ⟨6, .data⟩ (by simp) rfl _ rfl
      have gu : act.tmps[14]?.getD undef = .agg #[uu] := by simpa using h1u
      obtain ⟨a9, c9, rfl, -, -⟩ := lu.row
      have g6 : act.tmps.getD 6 undef = .pointer (some ⟨w.heap.size + 1, 0, none⟩) := hold 6 (free_spec (by kernel_rfl))
      obtain ⟨u0, hu0⟩ := hI.res
      have hcg : wq.cell? ⟨w.heap.size + 1, 0, none⟩ = some u0 := by rw [cell_of_row wq _ 0 _ _ _ hu0]; rfl
      have hfg : wq.frozen? ⟨w.heap.size + 1, 0, none⟩ = false := frozen_of_row wq _ 0 _ _ hu0
      have hRR : RgR (w.heap.size + 1) 8 8 wq (wq.setCell ⟨w.heap.size + 1, 0, none⟩ (.slice a9 KP.length c9)) := by show (if _ then _ else _); rw [if_pos rfl]; exact ⟨_, rfl⟩
      refine exec_skip (w' := wq.setCell ⟨w.heap.size + 1, 0, none⟩ (.slice a9 KP.length c9)) ?_ ⟨_, rfl, hRR, ⟨a9, c9, (heap_setCell_same wq _ 0 _ _ _ hu0).trans rfl, RgR.own hRR (by omega) lu⟩⟩
      simp [go_sem, Act.eval, g6, gu, hcg, hfg]
    · have g15 : act.tmps.getD 15 undef = .int .i64 KK := by have := of_one (hpre ⟨7, .data⟩ (by simp) rfl _ rfl); simpa using this
      refine exec_same (v := .int .i64 KK) ?_ ⟨_, rfl, (by show (if _ then _ else _); rw [if_neg (by decide)]; exact Below.refl _ _), at_one (by omega) rfl⟩
      simp [go_sem, Act.eval, g15]
  case fin =>
    intro zs w5 hzl hI hF
    obtain ⟨z0, z1, z2, z3, z4, z5, z6, z7, z8, z9, rfl⟩ := list10 zs hzl
    obtain ⟨a9, c9, hbox, hown⟩ := hF 8 _ rfl
    have hint := of_one (hF 9 _ rfl)
    simp only [List.cons.injEq, and_true] at hint
    have hs3 := last_is (i := 9) (v := z9) (n := 16) hint (by kernel_rfl) rfl rfl (by omega)
    clear hint
    subst hs3
    clear hF
    simp only [putAll, Act.put, List.setIfInBounds_toArray, List.set_cons_succ, List.set_cons_zero]
    have HE : Hid _ := And.intro hbox (And.intro hown hI.below)
    clear hbox hI hown
    go_wp2
    refine bodyPost_ret (res_cell2 rfl _ _ (w.heap.size + 1) 28 #[.slice a9 KP.length c9] (0, 0) _ rfl ?_ Try.underlying28 rfl arenaSize) rfl ?_
    · exact HE.out.1
    · exact ⟨_, rfl, HE.out.2.1.base (by omega), HE.out.2.2⟩
theorem epoch_no {ns : List Nd} {k ep : Int} (h : epochB ns k ep = false) : epochK ns k ep = -1 ∧ keptA ns (epochA ns k ep) (epochK ns k ep) = ns := by
  have e : epochK ns k ep = -1 := by unfold epochK; rw [h]; rfl
  exact ⟨e, keptA_neg (by rw [e]; omega)⟩
theorem epochT_neg {ns : List Nd} {k : Int} (h : okAt ns k = true) (m : Nat) : (epochF ns k m).2 < 0 → (epochF ns k m).2 = -1 := by
  obtain ⟨i, e, _⟩ := okAt_in h
  exact epochF_neg (by omega) m
set_option maxHeartbeats 1600000 in
set_option maxRecDepth 20000 in
theorem toldEpoch_any {L : Nat} (k : Int) (m0 : Nat) (w : World) (hm8 : m0 ≤ 8) (hL : L ≤ w.heap.size) :
    Calls Try.prog 111 #[.int .i64 k, .int .i64 (m0 : Int)] w fun e w' => ∃ v, e = .returned v ∧ ToldIs L w'.heap.size w' (epochT k m0) v ∧ Below w.heap.size w w' := by
  go_enter Try.func111, Try.ntmps111
  go_wp2_with fail
  refine Calls.mono (toldAt_any (L := L) k w hL) ?_
  rintro e w2 ⟨v2, rfl, ht, hb⟩
  have HC2 : Hid (Below w.heap.size w w2 ∧ L ≤ w2.heap.size) := ⟨hb, Nat.le_trans hL hb.size⟩
  have T2 : Hid (ToldIs L w2.heap.size w2 (epochT k 0) v2) := ht
  clear ht hb hL
  obtain ⟨F2, cs2, rfl⟩ := T2.out.fn
  go_wp2
  go_loopw [5, 9] (fun sv iv wr => ∃ (m : Nat) (F : FuncId) (cs : Array Value), m ≤ m0 ∧ iv = .int .i64 (m : Int) ∧ sv = .func (.func F) #[] cs ∧ Hid (ToldIs L wr.heap.size wr (epochT k m) (.func (.func F) #[] cs)) ∧ Hid (Below w.heap.size w wr ∧ L ≤ wr.heap.size))
    (fun _ iv _ => m0 - (intOf iv).toNat)
  case atStart => exact ⟨0, _, _, Nat.zero_le _, rfl, rfl, T2, HC2⟩
  case round =>
    clear T2 HC2
    obtain ⟨m, F, cs, hm, rfl, rfl, T3, HC3'⟩ := hrel
    obtain ⟨w3, rfl⟩ : ∃ w3, w3 = wr := ⟨_, rfl⟩
    have HC3 : Hid (Below w.heap.size w w3 ∧ L ≤ w3.heap.size) := HC3'
    clear HC3'
    by_cases hlt : m < m0
    · have hi1 : (m : Int) < (m0 : Int) := by omega
      go_wp2_with fail
      refine Calls.mono (toldAtom_any (L := L) 30 w3 HC3.out.2) ?_
      rintro e w4 ⟨v4, rfl, ht, hb⟩
      have HC4 : Hid (Below w.heap.size w w4 ∧ L ≤ w4.heap.size) := ⟨HC3.out.1.trans (hb.mono HC3.out.1.size), Nat.le_trans HC3.out.2 hb.size⟩
      have T4 : Hid (ToldIs L w4.heap.size w4 (epochT k m) (.func (.func F) #[] cs)) := ToldIs.base hb.size _ (ToldIs.later hb _ T3.out)
      obtain ⟨F4, cs4, rfl⟩ := ht.fn
      have T5 : Hid (ToldIs L w4.heap.size w4 (.atom 30) (.func (.func F4) #[] cs4)) := ht
      clear ht hb HC3 T3
      go_wp2_with fail
      refine Calls.mono (toldKdf_any (L := L) (epochT k m) (.atom 30) _ _ w4 HC4.out.2 T4.out T5.out) ?_
      rintro e w5 ⟨v5, rfl, ht, hb⟩
      have HC5 : Hid (Below w.heap.size w w5 ∧ L ≤ w5.heap.size) := ⟨HC4.out.1.trans (hb.mono HC4.out.1.size), Nat.le_trans HC4.out.2 hb.size⟩
      obtain ⟨F5, cs5, rfl⟩ := ht.fn
      have T6 : Hid (ToldIs L w5.heap.size w5 (epochT k (m + 1)) (.func (.func F5) #[] cs5)) := ht
      clear ht hb HC4 T4 T5
      go_wp2
      go_roundw
      case rel => exact ⟨m + 1, _, _, by omega, by go_num, rfl, T6, HC5⟩
      case measure => simp [intOf] <;> omega
    · obtain rfl : m = m0 := by omega
      go_wp2
      go_ret
      exact ⟨_, rfl, T3.out, HC3.out.1⟩
set_option maxHeartbeats 3200000 in
set_option maxRecDepth 20000 in
theorem implEpoch_any (a : Option Addr) (cap : Nat) (ns : List Nd) (k : Int) (ep : Int) (w : World) (hl : ns.length ≤ 1048576) (hf : ∀ y ∈ ns, y.Fits) (hk : (Lit.int .i64 k).wf = true) (hep : (Lit.int .i64 ep).wf = true) (ha : AddrN a cap) (hr : RowN w.heap.size w a ns) :
    Calls Try.prog 41 #[.agg #[.slice a ns.length cap], .int .i64 k, .int .i64 ep] w fun e w' => ∃ v, e = .returned (.tuple #[.agg #[v], .int .i64 (epochK ns k ep)]) ∧ OwnC w.heap.size w' v (keptA ns (epochA ns k ep) (epochK ns k ep)) ∧ Below w.heap.size w w' := by
  obtain ⟨KK, hKK⟩ : ∃ X, epochK ns k ep = X := ⟨_, rfl⟩
  obtain ⟨KP, hKP⟩ : ∃ X, keptA ns (epochA ns k ep) (epochK ns k ep) = X := ⟨_, rfl⟩
  have HEQ : Hid (epochK ns k ep = KK ∧ keptA ns (epochA ns k ep) (epochK ns k ep) = KP) := ⟨hKK, hKP⟩
  rw [hKP, hKK]
  clear hKP hKK
  obtain ⟨w0, he, hb0, hs0, hA0, hr0⟩ := two_cells a ns.length cap w
  have HC0 : Hid (w0.heap[w.heap.size]? = some (.cells #[.slice a ns.length cap] 28 (0, 0)) ∧ w0.heap[w.heap.size + 1]? = some (.cells #[.slice none 0 0] 28 (0, 0)) ∧ Below w.heap.size w w0 ∧ w.heap.size + 2 ≤ w0.heap.size) := ⟨hA0, hr0, hb0, by omega⟩
  have HAD : Hid (AddrN a cap) := ha
  have HR : Hid (RowN w.heap.size w a ns) := hr
  have HF : Hid (∀ y ∈ ns, y.Fits) := hf
  clear ha hr hf hb0 hs0 hA0 hr0
  have c0 : w0.cell? ⟨w.heap.size, 0, none⟩ = some (.slice a ns.length cap) := (cell_of_row _ _ 0 _ _ _ HC0.out.1).trans rfl
  rw [he] at c0
  obtain ⟨d1, HD1⟩ : ∃ d, Hid (inB ep 0 8 = d) := ⟨_, rfl⟩
  go_enter Try.func41, Try.ntmps41
  go_wp2_with fail
  rw [← he] at c0 ⊢
  clear he
  refine Calls.mono (isEpoch_any ep w0) ?_
  rintro e w1 ⟨rfl, hb⟩
  rw [HD1.out]
  have HC1 : Hid (w1.heap[w.heap.size]? = some (.cells #[.slice a ns.length cap] 28 (0, 0)) ∧ w1.heap[w.heap.size + 1]? = some (.cells #[.slice none 0 0] 28 (0, 0)) ∧ Below w.heap.size w w1 ∧ w.heap.size + 2 ≤ w1.heap.size) := ⟨(hb.block _ (by have := HC0.out.2.2.2; omega)).trans HC0.out.1, (hb.block _ (by have := HC0.out.2.2.2; omega)).trans HC0.out.2.1, HC0.out.2.2.1.trans (hb.mono (by have := HC0.out.2.2.2; omega)), Nat.le_trans HC0.out.2.2.2 hb.size⟩
  clear hb HC0 c0
  have c0 : w1.cell? ⟨w.heap.size, 0, none⟩ = some (.slice a ns.length cap) := (cell_of_row _ _ 0 _ _ _ HC1.out.1).trans rfl
  cases d1
  · have HNO : Hid (KK = -1 ∧ KP = ns) := by obtain ⟨e1, e2⟩ := HEQ.out; rw [← e1, ← e2]; exact epoch_no (by unfold epochB; rw [HD1.out]; rfl)
    go_wp2_with fail
    refine Calls.mono (asIs_any a cap ns w1 hl HAD.out (HR.out.grown HC1.out.2.2.1)) ?_
    rintro e w9 ⟨v9, rfl, ho, hb⟩
    obtain ⟨a9, c9, rfl, -, -⟩ := ho.row
    obtain ⟨r0, f0, HE⟩ := fin_arena (HC1.out.2.2.1.trans (hb.mono (by have := HC1.out.2.2.2; omega))) ((hb.block _ (by have := HC1.out.2.2.2; omega)).trans HC1.out.2.1) (by have := HC1.out.2.2.2; omega) ho.clip
    clear ho hb c0 HC1
    go_wp2
    refine bodyPost_ret (res_cell2 rfl _ _ (w.heap.size + 1) 28 #[.slice a9 ns.length c9] (0, 0) _ rfl ?_ Try.underlying28 rfl arenaSize) rfl ?_
    · exact HE.out.1
    · exact ⟨_, by rw [HNO.out.1]; rfl, by rw [HNO.out.2]; exact HE.out.2.1, HE.out.2.2⟩
  obtain ⟨d2, HD2⟩ : ∃ d, Hid (okAt ns k = d) := ⟨_, rfl⟩
  go_wp2_with fail
  refine Calls.mono (implOk_any a cap ns k w1 hl (HR.out.grown HC1.out.2.2.1)) ?_
  rintro e w2 ⟨rfl, hb⟩
  rw [HD2.out]
  have HC2 : Hid (w2.heap[w.heap.size]? = some (.cells #[.slice a ns.length cap] 28 (0, 0)) ∧ w2.heap[w.heap.size + 1]? = some (.cells #[.slice none 0 0] 28 (0, 0)) ∧ Below w.heap.size w w2 ∧ w.heap.size + 2 ≤ w2.heap.size) := ⟨(hb.block _ (by have := HC1.out.2.2.2; omega)).trans HC1.out.1, (hb.block _ (by have := HC1.out.2.2.2; omega)).trans HC1.out.2.1, HC1.out.2.2.1.trans (hb.mono (by have := HC1.out.2.2.2; omega)), Nat.le_trans HC1.out.2.2.2 hb.size⟩
  clear hb HC1 c0
  have c0 : w2.cell? ⟨w.heap.size, 0, none⟩ = some (.slice a ns.length cap) := (cell_of_row _ _ 0 _ _ _ HC2.out.1).trans rfl
  cases d2
  · have HNO : Hid (KK = -1 ∧ KP = ns) := by obtain ⟨e1, e2⟩ := HEQ.out; rw [← e1, ← e2]; exact epoch_no (by unfold epochB; rw [HD2.out, Bool.and_false])
    go_wp2_with fail
    refine Calls.mono (asIs_any a cap ns w2 hl HAD.out (HR.out.grown HC2.out.2.2.1)) ?_
    rintro e w9 ⟨v9, rfl, ho, hb⟩
    obtain ⟨a9, c9, rfl, -, -⟩ := ho.row
    obtain ⟨r0, f0, HE⟩ := fin_arena (HC2.out.2.2.1.trans (hb.mono (by have := HC2.out.2.2.2; omega))) ((hb.block _ (by have := HC2.out.2.2.2; omega)).trans HC2.out.2.1) (by have := HC2.out.2.2.2; omega) ho.clip
    clear ho hb c0 HC2
    go_wp2
    refine bodyPost_ret (res_cell2 rfl _ _ (w.heap.size + 1) 28 #[.slice a9 ns.length c9] (0, 0) _ rfl ?_ Try.underlying28 rfl arenaSize) rfl ?_
    · exact HE.out.1
    · exact ⟨_, by rw [HNO.out.1]; rfl, by rw [HNO.out.2]; exact HE.out.2.1, HE.out.2.2⟩
  have hep : 0 ≤ ep ∧ ep ≤ 8 := by have h1 := HD1.out; unfold inB at h1; simp at h1; omega
  obtain ⟨m0, rfl⟩ := Int.eq_ofNat_of_zero_le hep.1
  have hm8 : m0 ≤ 8 := by omega
  clear hep HD1
  have HYES : Hid (∀ (v : Value) (wz : World), Below w.heap.size w wz → ToldIs (w.heap.size + 2) wz.heap.size wz (epochT k m0) v → Calls Try.prog 112 #[v, .agg #[.slice a ns.length cap]] wz fun e w' => ∃ v', e = .returned (.tuple #[.agg #[v'], .int .i64 KK]) ∧ OwnC wz.heap.size w' v' KP ∧ Below wz.heap.size wz w') := fun v wz hb ht => by
    have hB : epochB ns k (m0 : Int) = true := by unfold epochB inB; rw [HD2.out, decide_eq_true (show (0 : Int) ≤ (m0 : Int) by omega), decide_eq_true (show (m0 : Int) ≤ 8 by omega)]; rfl
    have e1 : epochK ns k (m0 : Int) = (epochF ns k m0).2 := by unfold epochK; rw [hB]; simp
    have e2 : epochA ns k (m0 : Int) = (epochF ns k m0).1 := by unfold epochA; rw [hB]; simp
    have := putIn_any (epochT k m0) v a cap ns wz (epochT_wf hk m0) ht hl HF.out HAD.out (HR.out.grown hb)
    rw [epochT_f, ifneg_same (epochT_neg HD2.out m0)] at this
    obtain ⟨q1, q2⟩ := HEQ.out
    rw [← q1, ← q2, e1, e2]
    exact this
  clear HAD HR HF HD2 HEQ
  go_wp2_with fail
  refine _root_.Go.wp_region_held (S := fun w' : World => w'.cell? ⟨w.heap.size, 0, none⟩ = some (.slice a ns.length cap)) (by kernel_rfl) ?_
  have hS : (fun w' : World => w'.cell? ⟨w.heap.size, 0, none⟩ = some (.slice a ns.length cap)) w2.drew := c0
  refine wpAnyH_take (i := 0) (v := ?_) rfl (by kernel_rfl) (by kernel_rfl) (by kernel_rfl) (fun _ _ _ h => h) (Or.inl ⟨by rfl, ?_⟩) hS ?_
  rotate_left
  · intro w hSw; have y0 := hSw; go_simp; try with_reducible rfl
  simp only [Act.put, List.getElem_toArray, List.getElem_cons_zero, List.setIfInBounds_toArray, List.set_cons_succ, List.set_cons_zero]
  refine wpAnyH_take (i := 1) (v := ?_) rfl (by kernel_rfl) (by kernel_rfl) (by kernel_rfl) (fun _ _ _ h => h) (Or.inl ⟨by rfl, ?_⟩) hS ?_
  rotate_left
  · intro w hSw; have y0 := hSw; go_simp; try with_reducible rfl
  simp only [Act.put, List.getElem_toArray, List.getElem_cons_succ, List.getElem_cons_zero, List.setIfInBounds_toArray, List.set_cons_succ, List.set_cons_zero]
  refine wpAnyH_take (i := 3) (v := ?_) rfl (by kernel_rfl) (by kernel_rfl) (by kernel_rfl) (fun _ _ _ h => h) (Or.inl ⟨by rfl, ?_⟩) hS ?_
  rotate_left
  · intro w hSw; have y0 := hSw; go_simp; try with_reducible rfl
  simp only [Act.put, List.getElem_toArray, List.getElem_cons_succ, List.getElem_cons_zero, List.setIfInBounds_toArray, List.set_cons_succ, List.set_cons_zero]
  refine wpAnyH_ready (rs := [2]) (by kernel_rfl) (by simp) ?_
  refine AllReadyH.cons rfl (fun K hK => ?_) AllReadyH.nil
  go_simp
  refine Calls.mono (toldEpoch_any (L := w.heap.size + 2) k m0 w2.drew hm8 HC2.out.2.2.2) ?_
  rintro e w3 ⟨v3, rfl, ht, hb⟩
  replace hb : Below w2.heap.size w2 w3 := ((Below.refl w2.heap.size w2).drew).trans (hb.mono (Nat.le_refl _))
  have HC3 : Hid (w3.heap[w.heap.size]? = some (.cells #[.slice a ns.length cap] 28 (0, 0)) ∧ w3.heap[w.heap.size + 1]? = some (.cells #[.slice none 0 0] 28 (0, 0)) ∧ Below w.heap.size w w3 ∧ w.heap.size + 2 ≤ w3.heap.size) := ⟨(hb.block _ (by have := HC2.out.2.2.2; omega)).trans HC2.out.1, (hb.block _ (by have := HC2.out.2.2.2; omega)).trans HC2.out.2.1, HC2.out.2.2.1.trans (hb.mono (by have := HC2.out.2.2.2; omega)), Nat.le_trans HC2.out.2.2.2 hb.size⟩
  clear hb HC2 c0
  have c0 : w3.cell? ⟨w.heap.size, 0, none⟩ = some (.slice a ns.length cap) := (cell_of_row _ _ 0 _ _ _ HC3.out.1).trans rfl
  refine hK.out _ _ c0 (fun hS => ?_)
  clear hK K
  obtain ⟨F3, cs3, rfl⟩ := ht.fn
  refine wpAnyH_ready (rs := [4]) (by kernel_rfl) (by simp) ?_
  refine AllReadyH.cons rfl (fun K hK => ?_) AllReadyH.nil
  go_simp
  refine Calls.mono (HYES.out _ w3 HC3.out.2.2.1 ht) ?_
  rintro e w9 ⟨v9, rfl, ho, hb⟩
  obtain ⟨a9, c9, rfl, -, -⟩ := ho.row
  obtain ⟨r0, f0, HE⟩ := fin_arena (HC3.out.2.2.1.trans (hb.mono (by have := HC3.out.2.2.2; omega))) ((hb.block _ (by have := HC3.out.2.2.2; omega)).trans HC3.out.2.1) (by have := HC3.out.2.2.2; omega) ho
  have q0 := (hb.cell (p := ⟨w.heap.size, 0, none⟩) (show w.heap.size < w3.heap.size by have := HC3.out.2.2.2; omega)).trans c0
  refine hK.out _ _ q0 (fun hS => ?_)
  clear hK K
  clear ho hb c0 HC3 ht HYES hS
  have hS : (fun w' : World => w'.cell? ⟨w.heap.size, 0, none⟩ = some (.slice a ns.length cap)) w9 := q0
  refine wpAnyH_take (i := 5) (v := ?_) rfl (by kernel_rfl) (by kernel_rfl) (by kernel_rfl) (fun _ _ _ h => h) (Or.inl ⟨by rfl, ?_⟩) hS ?_
  rotate_left
  · intro w hSw; have y0 := hSw; go_simp; try with_reducible rfl
  simp only [Act.put, List.getElem_toArray, List.getElem_cons_succ, List.getElem_cons_zero, List.setIfInBounds_toArray, List.set_cons_succ, List.set_cons_zero]
  refine wpAnyH_take (i := 6) (v := ?_) rfl (by kernel_rfl) (by kernel_rfl) (by kernel_rfl) (fun _ _ _ h => h) (Or.inl ⟨by rfl, ?_⟩) hS ?_
  rotate_left
  · intro w hSw; have y0 := hSw; go_simp; try with_reducible rfl
  simp only [Act.put, List.getElem_toArray, List.getElem_cons_succ, List.getElem_cons_zero, List.setIfInBounds_toArray, List.set_cons_succ, List.set_cons_zero]
  refine wpAnyH_ready (rs := [7]) (by kernel_rfl) (by simp) ?_
  refine AllReadyH.cons rfl (fun K hK => ?_) AllReadyH.nil
  go_simp
  refine hK.out _ _ ((World.cell?_of_block (Below.heap_setCell _ _ _ _ (show w.heap.size ≠ w.heap.size + 1 by omega))).trans q0) (fun hS => ?_)
  clear hK K
  refine wpAnyH_take (i := 8) (v := ?_) rfl (by kernel_rfl) (by kernel_rfl) (by kernel_rfl) (fun _ _ _ h => h) (Or.inl ⟨by rfl, ?_⟩) hS ?_
  rotate_left
  · intro w hSw; have y0 := hSw; go_simp; try with_reducible rfl
  simp only [Act.put, List.getElem_toArray, List.getElem_cons_succ, List.getElem_cons_zero, List.setIfInBounds_toArray, List.set_cons_succ, List.set_cons_zero]
  clear hS
  refine wpAnyH_done (by kernel_rfl) ?_ _
  clear r0 f0 q0
  go_wp2
  refine bodyPost_ret (res_cell2 rfl _ _ (w.heap.size + 1) 28 #[.slice a9 KP.length c9] (0, 0) _ rfl ?_ Try.underlying28 rfl arenaSize) rfl ?_
  · exact HE.out.1
  · exact ⟨_, rfl, HE.out.2.1, HE.out.2.2⟩

end Go.Proofs.Ytffnadnndmmliaa
