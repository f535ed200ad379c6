/- The program's PacketTerm (chapter 16). -/
import Derived.Test.YtclnhjkmhemebaaToldPk16
import Derived.Test.YtclnhjkmhemebaaPack16b
import Derived.Test.YtclnhjkmhemebaaLawClip
import Derived.OpenShut
import Derived.Test.YtclnhjkmhemebaaRegionK
import Derived.Test.YtclnhjkmhemebaaRegionA
namespace Go.Proofs.Ytclnhjkmhemebaa
open Go.RowKit Go.Maps
set_option linter.unusedVariables false
theorem ifneg_sameP {K : Int} (h : K < 0 → K = -1) : (if K < 0 then -1 else K) = K := by
  split
  · rename_i h1; exact (h h1).symm
  · rfl
theorem pkK_neg {ns : List Nd} {p : Nd} (h : pkK ns p < 0) : pkK ns p = -1 := by
  unfold pkK at h ⊢
  split
  · rename_i h1; rw [if_pos h1] at h; exact listF_neg _ _ h
  · rfl
theorem pkT_f (p0 p1 p2 p3 : Int) (ns : List Nd) (hk : pkOk ⟨p0, p1, p2, p3⟩ = true) : (Tl.list [.atom 90, .atom p0, .atom p1, .atom p2, .atom p3, .atom (p0 + p1 + p2 + p3)]).f ns = (pkA ns ⟨p0, p1, p2, p3⟩, pkK ns ⟨p0, p1, p2, p3⟩) := by
  unfold pkA pkK
  rw [hk, if_pos rfl, if_pos rfl, Tl.f_list, Tl.fs_cons, Tl.fs_cons, Tl.fs_cons, Tl.fs_cons, Tl.fs_cons, Tl.fs_cons, Tl.fs_nil]; rfl
theorem wf90 : (Lit.int .i64 90).wf = true := by decide
/-- What holds throughout PacketTerm's region. -/
structure RgP (w : World) (a : Option Addr) (n cap : Nat) (x0 x1 x2 x3 : Int) (w' : World) : Prop where
  below : Below w.heap.size w w'
  box : w'.heap[w.heap.size]? = some (.cells #[.slice a n cap] 50 (0, 0))
  hel : w'.heap[w.heap.size + 1]? = some (.cells #[.int .i64 x0, .int .i64 x1, .int .i64 x2, .int .i64 x3] 52 (0, 0))
  res : ∃ u, w'.heap[w.heap.size + 2]? = some (.cells #[u] 50 (0, 0))
  size : w.heap.size + 3 ≤ w'.heap.size
theorem RgP.next {w w' w'' : World} {a : Option Addr} {n cap s i : Nat} {x0 x1 x2 x3 : Int} (hR : RgR (w.heap.size + 2) s i w' w'') (h : RgP w a n cap x0 x1 x2 x3 w') : RgP w a n cap x0 x1 x2 x3 w'' := by
  have h1 := hR.below (B := w.heap.size + 2) (Nat.le_refl _) (by have := h.size; omega)
  have h2 := hR.size
  have h3 := h.size
  refine ⟨h.below.trans (h1.mono (by omega)), (h1.block _ (by omega)).trans h.box, (h1.block _ (by omega)).trans h.hel, ?_, by omega⟩
  obtain ⟨u0, hu0⟩ := h.res
  unfold RgR at hR
  split at hR
  · obtain ⟨u, rfl⟩ := hR
    exact ⟨u, (heap_setCell_same w' _ 0 _ _ _ hu0).trans rfl⟩
  · exact ⟨u0, (hR.block _ (by omega)).trans hu0⟩
theorem RgP.drew {w w' : World} {a : Option Addr} {n cap : Nat} {x0 x1 x2 x3 : Int} (h : RgP w a n cap x0 x1 x2 x3 w') : RgP w a n cap x0 x1 x2 x3 w'.drew := ⟨h.below.drew, h.box, h.hel, h.res, h.size⟩
theorem rgP_new (w : World) (a : Option Addr) (n cap : Nat) (x0 x1 x2 x3 : Int) : RgP w a n cap x0 x1 x2 x3 (((w.alloc (.cells #[.slice a n cap] 50)).alloc (.cells #[.int .i64 x0, .int .i64 x1, .int .i64 x2, .int .i64 x3] 52)).alloc (.cells #[.slice none 0 0] 50)) := by
  have e0 := heap_alloc_new w (.cells #[.slice a n cap] 50)
  have e1 := heap_alloc_new (w.alloc (.cells #[.slice a n cap] 50)) (.cells #[.int .i64 x0, .int .i64 x1, .int .i64 x2, .int .i64 x3] 52)
  have e2 := heap_alloc_new ((w.alloc (.cells #[.slice a n cap] 50)).alloc (.cells #[.int .i64 x0, .int .i64 x1, .int .i64 x2, .int .i64 x3] 52)) (.cells #[.slice none 0 0] 50)
  have s1 : (w.alloc (.cells #[.slice a n cap] 50)).heap.size = w.heap.size + 1 := by simp
  have s2 : ((w.alloc (.cells #[.slice a n cap] 50)).alloc (.cells #[.int .i64 x0, .int .i64 x1, .int .i64 x2, .int .i64 x3] 52)).heap.size = w.heap.size + 2 := by simp
  rw [s1] at e1
  rw [s2] at e2
  exact ⟨(((Below.refl _ _).alloc (Nat.le_refl _) _).alloc (by simp) _).alloc (by simp; omega) _, (heap_alloc_old _ _ (by rw [s2]; omega)).trans ((heap_alloc_old _ _ (by rw [s1]; omega)).trans e0), (heap_alloc_old _ _ (by rw [s2]; omega)).trans e1, ⟨_, e2⟩, by simp⟩

theorem RgP.grow {w w' w'' : World} {a : Option Addr} {n cap : Nat} {x0 x1 x2 x3 : Int} (h : RgP w a n cap x0 x1 x2 x3 w') (hb : Below w'.heap.size w' w'') : RgP w a n cap x0 x1 x2 x3 w'' := by
  have h3 := h.size
  obtain ⟨u, hu⟩ := h.res
  exact ⟨h.1.trans (hb.mono h.1.size), (hb.block _ (by omega)).trans h.box, (hb.block _ (by omega)).trans h.hel, ⟨u, (hb.block _ (by omega)).trans hu⟩, by have := hb.size; omega⟩
set_option maxHeartbeats 1600000 in
set_option maxRecDepth 20000 in
theorem implPacketX_any (a : Option Addr) (cap : Nat) (ns : List Nd) (p0 p1 p2 p3 : Int) (w : World) (hl : ns.length ≤ 1048576) (hf : ∀ y ∈ ns, y.Fits) (hp : (⟨p0, p1, p2, p3⟩ : Nd).Fits) (ha : AddrN a cap) (hr : RowN w.heap.size w a ns) :
    Calls Try.prog 41 #[.agg #[.slice a ns.length cap], .agg #[.int .i64 p0, .int .i64 p1, .int .i64 p2, .int .i64 p3]] w fun e w' => ∃ v, e = .returned (.tuple #[.agg #[v], .int .i64 (pkK ns ⟨p0, p1, p2, p3⟩)]) ∧ OwnC w.heap.size w' v (keptA ns (pkA ns ⟨p0, p1, p2, p3⟩) (pkK ns ⟨p0, p1, p2, p3⟩)) ∧ Below w.heap.size w w' := by
  cases hk : pkOk ⟨p0, p1, p2, p3⟩ with
  | false =>
    have e1 : pkK ns ⟨p0, p1, p2, p3⟩ = -1 := by unfold pkK; rw [hk]; rfl
    have e2 : keptA ns (pkA ns ⟨p0, p1, p2, p3⟩) (pkK ns ⟨p0, p1, p2, p3⟩) = ns := by rw [e1]; unfold keptA; rfl
    rw [e2, e1]
    have HI : Hid (RgP w a ns.length cap p0 p1 p2 p3 _) := rgP_new w a ns.length cap p0 p1 p2 p3
    have HC : Hid (∀ wz, Calls Try.prog 53 #[.agg #[.int .i64 p0, .int .i64 p1, .int .i64 p2, .int .i64 p3]] wz fun e w' => e = .returned (.bool false) ∧ Below wz.heap.size wz w') := fun wz => by have := implPkOk_any ⟨p0, p1, p2, p3⟩ wz hp; rw [hk] at this; exact this
    have HR : Hid (RowN w.heap.size w a ns) := hr
    have HA : Hid (AddrN a cap) := ha
    clear hk e1 e2 hr ha hf hp
    have hl1 := HI.out.hel
    have c0 := (cell_of_row _ _ 0 _ _ _ hl1).trans rfl
    have c1 := (cell_of_row _ _ 1 _ _ _ hl1).trans rfl
    have c2 := (cell_of_row _ _ 2 _ _ _ hl1).trans rfl
    have c3 := (cell_of_row _ _ 3 _ _ _ hl1).trans rfl
    clear hl1
    go_enter Try.func41, Try.ntmps41
    go_wp2_with fail
    refine Calls.mono (HC.out _) ?_
    rintro e w1 ⟨rfl, hb1⟩
    have HI1 : Hid (RgP w a ns.length cap p0 p1 p2 p3 w1) := HI.out.grow hb1
    clear hb1 HC HI c0 c1 c2 c3
    have hbx := HI1.out.box
    have d0 : w1.cell? ⟨w.heap.size, 0, none⟩ = some (.slice a ns.length cap) := (cell_of_row _ _ 0 _ _ _ hbx).trans rfl
    have HAI : Hid _ := asIs_any a cap ns w1 hl HA.out (HR.out.grown HI1.out.1)
    clear hbx
    go_wp2_with fail
    refine Calls.mono HAI.out ?_
    rintro e w2 ⟨v2, rfl, ho2, hb2⟩
    have HI2 : Hid (RgP w a ns.length cap p0 p1 p2 p3 w2) := HI1.out.grow hb2
    have HO2 : Hid (OwnN (w.heap.size + 3) w2 v2 ns) := ho2.base HI1.out.size
    obtain ⟨a2, c2, rfl, -, -⟩ := ho2.row
    obtain ⟨u0, hu0⟩ := HI2.out.res
    have e0 : w2.cell? ⟨w.heap.size + 2, 0, none⟩ = some u0 := (cell_of_row _ _ 0 _ _ _ hu0).trans rfl
    have f0 : w2.frozen? ⟨w.heap.size + 2, 0, none⟩ = false := frozen_of_row _ _ 0 _ _ hu0
    have HST : Hid ((w2.setCell ⟨w.heap.size + 2, 0, none⟩ (.slice a2 ns.length c2)).heap[w.heap.size + 2]? = some (.cells #[.slice a2 ns.length c2] 50 (0, 0))) := (heap_setCell_same w2 _ 0 _ _ _ hu0).trans rfl
    have HBE : Hid (Below w.heap.size w (w2.setCell ⟨w.heap.size + 2, 0, none⟩ (.slice a2 ns.length c2))) := HI2.out.1.setCell (show w.heap.size ≤ w.heap.size + 2 by omega) _
    have HOE : Hid (OwnN (w.heap.size + 3) (w2.setCell ⟨w.heap.size + 2, 0, none⟩ (.slice a2 ns.length c2)) (.slice a2 ns.length c2) ns) := by
      refine ⟨HO2.out.1, ?_⟩
      rcases HO2.out.2 with h0 | ⟨g, cap, cur, e, hg, hh, rest⟩
      · exact .inl h0
      · exact .inr ⟨g, cap, cur, e, hg, (Below.heap_setCell _ _ _ _ (show g ≠ w.heap.size + 2 by omega)).trans hh, rest⟩
    clear ho2 hb2 HAI hu0 HI2 HO2 d0 HI1
    go_wp2
    refine bodyPost_ret (res_cell2 rfl _ _ (w.heap.size + 2) 50 #[.slice a2 ns.length c2] (0, 0) _ rfl ?_ Try.underlying50 rfl arenaSize) rfl ?_
    · exact HST.out
    · exact ⟨_, rfl, (OwnN.clip HOE.out).base (by omega), HBE.out⟩
  | true =>
    have HPR : Hid (PkR p0 p1 p2 p3) := pkR_of hk
    have HFN : Hid (∀ (v : Value) (wz : World), Below w.heap.size w wz → ToldIs (w.heap.size + 3) wz.heap.size wz (Tl.list [.atom 90, .atom p0, .atom p1, .atom p2, .atom p3, .atom (p0 + p1 + p2 + p3)]) v → Calls Try.prog 95 #[v, .agg #[.slice a ns.length cap]] wz fun e w' => ∃ v', e = .returned (.tuple #[.agg #[v'], .int .i64 (pkK ns ⟨p0, p1, p2, p3⟩)]) ∧ OwnC wz.heap.size w' v' (keptA ns (pkA ns ⟨p0, p1, p2, p3⟩) (pkK ns ⟨p0, p1, p2, p3⟩)) ∧ Below wz.heap.size wz w') := fun v wz hb ht => by
      have hq := HPR.out
      unfold PkR at hq
      have := putIn_any (Tl.list [.atom 90, .atom p0, .atom p1, .atom p2, .atom p3, .atom (p0 + p1 + p2 + p3)]) v a cap ns wz ⟨by simp, wf90, WalkArith.wf_i64 (by omega), WalkArith.wf_i64 (by omega), WalkArith.wf_i64 (by omega), WalkArith.wf_i64 (by omega), WalkArith.wf_i64 (by omega), trivial⟩ ht hl hf ha (hr.grown hb)
      rw [pkT_f p0 p1 p2 p3 ns hk, ifneg_sameP pkK_neg] at this
      exact this
    have HC : Hid (∀ wz, Calls Try.prog 53 #[.agg #[.int .i64 p0, .int .i64 p1, .int .i64 p2, .int .i64 p3]] wz fun e w' => e = .returned (.bool true) ∧ Below wz.heap.size wz w') := fun wz => by have := implPkOk_any ⟨p0, p1, p2, p3⟩ wz hp; rw [hk] at this; exact this
    have HI0 : Hid (RgP w a ns.length cap p0 p1 p2 p3 _) := rgP_new w a ns.length cap p0 p1 p2 p3
    generalize pkK ns ⟨p0, p1, p2, p3⟩ = KK at HFN ⊢
    generalize pkA ns ⟨p0, p1, p2, p3⟩ = AA at HFN ⊢
    obtain ⟨KP, hKP⟩ : ∃ X, keptA ns AA KK = X := ⟨_, rfl⟩
    rw [hKP] at HFN ⊢
    clear hKP hk hf ha hr hp
    have hl1 := HI0.out.hel
    have c0 := (cell_of_row _ _ 0 _ _ _ hl1).trans rfl
    have c1 := (cell_of_row _ _ 1 _ _ _ hl1).trans rfl
    have c2 := (cell_of_row _ _ 2 _ _ _ hl1).trans rfl
    have c3 := (cell_of_row _ _ 3 _ _ _ hl1).trans rfl
    clear hl1
    go_enter Try.func41, Try.ntmps41
    go_wp2_with fail
    refine Calls.mono (HC.out _) ?_
    rintro e w1 ⟨rfl, hb1⟩
    have HI : Hid (RgP w a ns.length cap p0 p1 p2 p3 w1) := HI0.out.grow hb1
    clear hb1 HC HI0 c0 c1 c2 c3
    go_wp2_with fail
    refine wp_region_list (I := RgP w a ns.length cap p0 p1 p2 p3) (R := RgR (w.heap.size + 2) 6)
      (fs := #[⟨[13], fun vs _ => vs = [.agg #[.int .i64 p0, .int .i64 p1, .int .i64 p2, .int .i64 p3]]⟩, ⟨[14], fun vs w' => ∃ v, vs = [v] ∧ ToldIs (w.heap.size + 3) w'.heap.size w' (.list [.atom 90, .atom p0, .atom p1, .atom p2, .atom p3, .atom (p0 + p1 + p2 + p3)]) v⟩, ⟨[15], fun vs _ => vs = [.agg #[.slice a ns.length cap]]⟩, ⟨[16], fun vs w' => ∃ v, vs = [.tuple #[.agg #[v], .int .i64 KK]] ∧ OwnC (w.heap.size + 3) w' v KP⟩, ⟨[17], fun vs w' => ∃ v, vs = [.agg #[v]] ∧ OwnC (w.heap.size + 3) w' v KP⟩, ⟨[18], fun vs _ => vs = [.int .i64 KK]⟩, ⟨[], fun vs w' => ∃ a9 c9, w'.heap[w.heap.size + 2]? = some (.cells #[.slice a9 KP.length c9] 50 (0, 0)) ∧ OwnC (w.heap.size + 3) w' (.slice a9 KP.length c9) KP⟩, ⟨[5], fun vs _ => vs = [.int .i64 KK]⟩])
      (by kernel_rfl) 19 rfl (by kernel_rfl) ?stab ?istab ?start ?exec ?fin
    case stab =>
      intro k i f hki hf
      have hk : k < 8 := (Array.getElem?_eq_some_iff.1 hf).1
      rcases (show k = 0 ∨ k = 1 ∨ k = 2 ∨ k = 3 ∨ k = 4 ∨ k = 5 ∨ k = 6 ∨ k = 7 by omega) with rfl | rfl | rfl | rfl | rfl | rfl | rfl | rfl
      all_goals
        simp only [List.getElem?_toArray, List.getElem?_cons_succ, List.getElem?_cons_zero, Option.some.injEq] at hf
        subst hf
      · exact fun vs _ _ _ h => h
      · exact fun vs w' w'' hR ⟨v, h1, h2⟩ => ⟨v, h1, RgR.told hR (by omega) _ h2⟩
      · exact fun vs _ _ _ h => h
      · exact fun vs w' w'' hR ⟨v, h1, h2⟩ => ⟨v, h1, RgR.own hR (by omega) h2⟩
      · exact fun vs w' w'' hR ⟨v, h1, h2⟩ => ⟨v, h1, RgR.own hR (by omega) h2⟩
      · exact fun vs _ _ _ h => h
      · exact fun vs w' w'' hR ⟨a9, c9, h1, h2⟩ => ⟨a9, c9, by have h3 := hR; unfold RgR at h3; rw [if_neg (Ne.symm hki)] at h3; exact (h3.block _ (Array.getElem?_eq_some_iff.1 h1).1).trans h1, RgR.own hR (by omega) h2⟩
      · exact fun vs _ _ _ h => h
    case istab => exact fun i w' w'' hR h => h.next hR
    case start => exact HI.out.drew
    case exec =>
      intro i o f hi hf act wq hsz hI hold hpre
      have hi11 : i < 8 := (Array.getElem?_eq_some_iff.1 hi).1
      rcases (show i = 0 ∨ i = 1 ∨ i = 2 ∨ i = 3 ∨ i = 4 ∨ i = 5 ∨ i = 6 ∨ i = 7 by omega) with rfl | rfl | rfl | rfl | rfl | rfl | rfl | rfl
      all_goals
        simp only [List.getElem?_toArray, List.getElem?_cons_succ, List.getElem?_cons_zero, Option.some.injEq] at hi hf
        subst hi hf
      · have g3 : act.tmps.getD 3 undef = .pointer (some ⟨w.heap.size + 1, 0, none⟩) := hold 3 (free_spec (by kernel_rfl))
        have hc0 : wq.cell? ⟨w.heap.size + 1, 0, none⟩ = some (.int .i64 p0) := (cell_of_row _ _ 0 _ _ _ hI.hel).trans rfl
        have hc1 : wq.cell? ⟨w.heap.size + 1, 1, none⟩ = some (.int .i64 p1) := (cell_of_row _ _ 1 _ _ _ hI.hel).trans rfl
        have hc2 : wq.cell? ⟨w.heap.size + 1, 2, none⟩ = some (.int .i64 p2) := (cell_of_row _ _ 2 _ _ _ hI.hel).trans rfl
        have hc3 : wq.cell? ⟨w.heap.size + 1, 3, none⟩ = some (.int .i64 p3) := (cell_of_row _ _ 3 _ _ _ hI.hel).trans rfl
        refine exec_same (v := .agg #[.int .i64 p0, .int .i64 p1, .int .i64 p2, .int .i64 p3]) ?_ ⟨_, rfl, (by show (if _ then _ else _); rw [if_neg (by decide)]; exact Below.refl _ _), at_one (by omega) rfl⟩
        simp [go_sem, Act.eval, g3, hc0, hc1, hc2, hc3]
      · have g13 : act.tmps.getD 13 undef = .agg #[.int .i64 p0, .int .i64 p1, .int .i64 p2, .int .i64 p3] := by have := of_one (hpre ⟨0, .data⟩ (by simp) rfl _ rfl); simpa using this
        refine exec_call (f := 94) (args := #[.agg #[.int .i64 p0, .int .i64 p1, .int .i64 p2, .int .i64 p3]]) (by simp [go_sem, Act.eval, g13]) ?_
        refine Calls.mono (pkTold_any (L := (w.heap.size + 3)) p0 p1 p2 p3 wq hI.size HPR.out) ?_
        rintro e w2 ⟨v2, rfl, l2, hb2⟩
        exact ⟨_, rfl, _, rfl, (by show (if _ then _ else _); rw [if_neg (by decide)]; exact hb2), ⟨_, by show [(act.put _ _).tmps.getD _ undef] = _; rw [put_same _ _ _ (by omega)], l2⟩⟩
      · have g2 : act.tmps.getD 2 undef = .pointer (some ⟨w.heap.size, 0, none⟩) := hold 2 (free_spec (by kernel_rfl))
        have hc : wq.cell? ⟨w.heap.size, 0, none⟩ = some (.slice a ns.length cap) := (cell_of_row _ _ 0 _ _ _ hI.box).trans rfl
        refine exec_same (v := .agg #[.slice a ns.length cap]) ?_ ⟨_, rfl, (by show (if _ then _ else _); rw [if_neg (by decide)]; exact Below.refl _ _), at_one (by omega) rfl⟩
        simp [go_sem, Act.eval, g2, hc]
      · obtain ⟨u1, h1_1, l1⟩ := hpre ⟨1, .data⟩ (by simp) rfl _ rfl
        have g14 : act.tmps.getD 14 undef = u1 := by simpa using h1_1
        have g15 : act.tmps.getD 15 undef = .agg #[.slice a ns.length cap] := by have := of_one (hpre ⟨2, .data⟩ (by simp) rfl _ rfl); simpa using this
        refine exec_call (f := 95) (args := #[u1, .agg #[.slice a ns.length cap]]) (by simp [go_sem, Act.eval, g14, g15]) ?_
        refine Calls.mono (HFN.out _ wq hI.below l1) ?_
        rintro e w2 ⟨v2, rfl, l2, hb2⟩
        exact ⟨_, rfl, _, rfl, (by show (if _ then _ else _); rw [if_neg (by decide)]; exact hb2), ⟨_, by show [(act.put _ _).tmps.getD _ undef] = _; rw [put_same _ _ _ (by omega)], l2.base (by have := hI.size; omega)⟩⟩
      · obtain ⟨uu, h1u, lu⟩ := hpre ⟨3, .data⟩ (by simp) rfl _ rfl
        have gu : act.tmps[16]?.getD undef = .tuple #[.agg #[uu], .int .i64 KK] := by simpa using h1u
        refine exec_same (v := .agg #[uu]) ?_ ⟨_, rfl, (by show (if _ then _ else _); rw [if_neg (by decide)]; exact Below.refl _ _), ⟨_, by show [(act.put _ _).tmps.getD _ undef] = _; rw [put_same _ _ _ (by omega)], lu⟩⟩
        simp [go_sem, Act.eval, gu]
      · obtain ⟨uu, h1u, lu⟩ := hpre ⟨3, .data⟩ (by simp) rfl _ rfl
        have gu : act.tmps[16]?.getD undef = .tuple #[.agg #[uu], .int .i64 KK] := by simpa using h1u
        refine exec_same (v := .int .i64 KK) ?_ ⟨_, rfl, (by show (if _ then _ else _); rw [if_neg (by decide)]; exact Below.refl _ _), at_one (by omega) rfl⟩
        simp [go_sem, Act.eval, gu]
      · obtain ⟨uu, h1u, lu⟩ := hpre ⟨4, .data⟩ (by simp) rfl _ rfl
        have gu : act.tmps[17]?.getD undef = .agg #[uu] := by simpa using h1u
        obtain ⟨a9, c9, rfl, -, -⟩ := lu.row
        have g4 : act.tmps.getD 4 undef = .pointer (some ⟨w.heap.size + 2, 0, none⟩) := hold 4 (free_spec (by kernel_rfl))
        obtain ⟨u0, hu0⟩ := hI.res
        have hcg : wq.cell? ⟨w.heap.size + 2, 0, none⟩ = some u0 := by rw [cell_of_row wq _ 0 _ _ _ hu0]; rfl
        have hfg : wq.frozen? ⟨w.heap.size + 2, 0, none⟩ = false := frozen_of_row wq _ 0 _ _ hu0
        have hRR : RgR (w.heap.size + 2) 6 6 wq (wq.setCell ⟨w.heap.size + 2, 0, none⟩ (.slice a9 KP.length c9)) := by show (if _ then _ else _); rw [if_pos rfl]; exact ⟨_, rfl⟩
        refine exec_skip (w' := wq.setCell ⟨w.heap.size + 2, 0, none⟩ (.slice a9 KP.length c9)) ?_ ⟨_, rfl, hRR, ⟨a9, c9, (heap_setCell_same wq _ 0 _ _ _ hu0).trans rfl, RgR.own hRR (by omega) lu⟩⟩
        simp [go_sem, Act.eval, g4, gu, hcg, hfg]
      · have g18 : act.tmps.getD 18 undef = .int .i64 KK := by have := of_one (hpre ⟨5, .data⟩ (by simp) rfl _ rfl); simpa using this
        refine exec_same (v := .int .i64 KK) ?_ ⟨_, rfl, (by show (if _ then _ else _); rw [if_neg (by decide)]; exact Below.refl _ _), at_one (by omega) rfl⟩
        simp [go_sem, Act.eval, g18]
    case fin =>
      intro zs w5 hzl hI hF
      obtain ⟨z0, z1, z2, z3, z4, z5, z6, z7, rfl⟩ := list8 zs hzl
      obtain ⟨a9, c9, hbox, hown⟩ := hF 6 _ rfl
      have hint := of_one (hF 7 _ rfl)
      simp only [List.cons.injEq, and_true] at hint
      have hs3 := last_is (i := 7) (v := z7) (n := 19) hint (by kernel_rfl) rfl rfl (by omega)
      clear hint
      subst hs3
      clear hF
      simp only [putAll, Act.put, List.setIfInBounds_toArray, List.set_cons_succ, List.set_cons_zero]
      have HE : Hid _ := And.intro hbox (And.intro hown hI.below)
      clear hbox hI hown
      go_wp2
      refine bodyPost_ret (res_cell2 rfl _ _ (w.heap.size + 2) 50 #[.slice a9 KP.length c9] (0, 0) _ rfl ?_ Try.underlying50 rfl arenaSize) rfl ?_
      · exact HE.out.1
      · exact ⟨_, rfl, HE.out.2.1.base (by omega), HE.out.2.2⟩
theorem implPacket_any (a : Option Addr) (cap : Nat) (ns : List Nd) (p : Nd) (w : World) (hl : ns.length ≤ 1048576) (hf : ∀ y ∈ ns, y.Fits) (hp : p.Fits) (ha : AddrN a cap) (hr : RowN w.heap.size w a ns) :
    Calls Try.prog 41 #[.agg #[.slice a ns.length cap], .agg #[.int .i64 p.k, .int .i64 p.n, .int .i64 p.a, .int .i64 p.b]] w fun e w' => ∃ v, e = .returned (.tuple #[.agg #[v], .int .i64 (pkK ns p)]) ∧ OwnC w.heap.size w' v (keptA ns (pkA ns p) (pkK ns p)) ∧ Below w.heap.size w w' :=
  implPacketX_any a cap ns p.k p.n p.a p.b w hl hf hp ha hr
end Go.Proofs.Ytclnhjkmhemebaa
