/- The program's RecordOf (chapter 8): a record is told by closures, put whole or not at all. -/
import Derived.Test.YtnjihmailppjkaaRec8
import Derived.Test.YtnjihmailppjkaaPlainFM
import Derived.Test.YtnjihmailppjkaaTold7
import Derived.Test.YtnjihmailppjkaaLawClip
import Derived.OpenShut
import Derived.Test.YtnjihmailppjkaaRegionK
import Derived.Test.YtnjihmailppjkaaTold8
import Derived.Test.YtnjihmailppjkaaSoFar
import Derived.Deep.RegionHeld3
namespace Go.Proofs.Ytnjihmailppjkaa
open Go.RowKit Go.Maps
set_option linter.unusedVariables false
set_option maxHeartbeats 1600000 in
theorem within_any (ep sq : Int) (w : World) : Calls Try.prog 67 #[.agg #[.int .i64 ep, .int .i64 sq]] w fun e w' => e = .returned (.bool (inB ep 0 8 && inB sq 0 9999)) ∧ Below w.heap.size w w' := by
  rw [show inB sq 0 9999 = (decide (0 ≤ sq) && decide (sq ≤ 9999)) by unfold inB; first | rfl | (rw [Bool.eq_iff_iff]; simp)]
  have hb0 : Below w.heap.size w (w.alloc (.cells #[.int .i64 ep, .int .i64 sq] 81)) := (Below.refl _ _).alloc (Nat.le_refl _) _
  have hX := heap_alloc_new w (.cells #[.int .i64 ep, .int .i64 sq] 81)
  generalize hw0 : w.alloc (.cells #[.int .i64 ep, .int .i64 sq] 81) = w0 at hb0 hX
  have hlt : w.heap.size < w0.heap.size := (Array.getElem?_eq_some_iff.1 hX).1
  have z0 : w0.cell? ⟨w.heap.size, 0, none⟩ = some (.int .i64 ep) := (cell_of_row _ _ 0 _ _ _ hX).trans rfl
  go_enter Try.func67, Try.ntmps67
  go_wp2_with fail
  refine (isEpoch_any _ _).mono ?_
  rintro e w1 ⟨rfl, hb1⟩
  have hX1 := (hb1.block _ hlt).trans hX
  have HB1 : Hid (Below w.heap.size w w1) := hb0.trans (hb1.mono (by omega))
  have z1 : w1.cell? ⟨w.heap.size, 1, none⟩ = some (.int .i64 sq) := (cell_of_row _ _ 1 _ _ _ hX1).trans rfl
  clear z0 hX hX1 hb0 hb1 hw0
  cases h0 : inB ep 0 8 with
  | false =>
    go_wp2
    go_ret
    exact ⟨by rw [h0]; rfl, HB1.out⟩
  | true =>
    cases h1 : decide (0 ≤ sq) with
    | false =>
      go_wp2
      go_ret
      exact ⟨by rw [h0, h1]; rfl, HB1.out⟩
    | true =>
      go_wp2
      go_ret
      exact ⟨by rw [h0, h1]; rfl, HB1.out⟩
/-- What a region that makes memory alone keeps: a term that is told. -/
theorem ToldIs.on {L : Nat} {w w' : World} {t : Tl} {v : Value} (hb : Below w.heap.size w w') (h : ToldIs L w.heap.size w t v) : ToldIs L w'.heap.size w' t v := ToldIs.base hb.size _ (ToldIs.later hb _ h)
theorem ToldAll.on {L : Nat} {w w' : World} {xs : List Tl} {vs : List Value} (hb : Below w.heap.size w w') (h : ToldAll L w.heap.size w xs vs) : ToldAll L w'.heap.size w' xs vs := ⟨h.1, fun m hm => (h.2 m hm).on hb⟩
theorem toldAll3 {L B : Nat} {w : World} {x y z : Tl} {a b c : Value} (h1 : ToldIs L B w x a) (h2 : ToldIs L B w y b) (h3 : ToldIs L B w z c) : ToldAll L B w [x, y, z] [a, b, c] := by
  refine ⟨rfl, fun m hm => ?_⟩
  rcases (show m = 0 ∨ m = 1 ∨ m = 2 by simp at hm; omega) with rfl | rfl | rfl
  · exact h1
  · exact h2
  · exact h3

set_option maxHeartbeats 3200000 in
set_option maxRecDepth 20000 in
theorem numAhead_any {L : Nat} (ep sq : Int) (t : Tl) (v : Value) (w : World) (hL : L ≤ w.heap.size) (hx : ToldIs L w.heap.size w t v) :
    Calls Try.prog 80 #[.agg #[.int .i64 ep, .int .i64 sq], v] w (ToldP L (.list [.atom ep, .atom sq, t]) w) := by
  obtain ⟨F, cs, rfl⟩ := hx.fn
  have hb0 : Below w.heap.size w (w.alloc (.cells #[.int .i64 ep, .int .i64 sq] 81)) := (Below.refl _ _).alloc (Nat.le_refl _) _
  have h0 := heap_alloc_new w (.cells #[.int .i64 ep, .int .i64 sq] 81)
  have HI : Hid ((w.alloc (.cells #[.int .i64 ep, .int .i64 sq] 81)).heap[w.heap.size]? = some (.cells #[.int .i64 ep, .int .i64 sq] 81 (0, 0)) ∧ ToldIs L (w.alloc (.cells #[.int .i64 ep, .int .i64 sq] 81)).heap.size (w.alloc (.cells #[.int .i64 ep, .int .i64 sq] 81)) t (.func (.func F) #[] cs) ∧ w.heap.size < (w.alloc (.cells #[.int .i64 ep, .int .i64 sq] 81)).heap.size ∧ Below w.heap.size w (w.alloc (.cells #[.int .i64 ep, .int .i64 sq] 81))) := ⟨h0, hx.on hb0, by simp, hb0⟩
  clear h0 hb0 hx
  go_enter Try.func80, Try.ntmps80
  go_wp2_with fail
  generalize w.alloc (.cells #[.int .i64 ep, .int .i64 sq] 81) = w1 at HI ⊢
  refine wp_region_list (I := fun w' => w'.heap[w.heap.size]? = some (.cells #[.int .i64 ep, .int .i64 sq] 81 (0, 0)) ∧ ToldIs L w'.heap.size w' t (.func (.func F) #[] cs) ∧ w.heap.size < w'.heap.size ∧ Below w.heap.size w w') (R := fun _ w' w'' => Below w'.heap.size w' w'')
    (fs := #[⟨[5], fun vs _ => vs = [.pointer (some ⟨w.heap.size, 0, none⟩)]⟩, ⟨[6], fun vs _ => vs = [.int .i64 ep]⟩, ⟨[7], fun vs w' => ∃ v, vs = [v] ∧ ToldIs L w'.heap.size w' (.atom ep) v⟩, ⟨[8], fun vs _ => vs = [.pointer (some ⟨w.heap.size, 1, none⟩)]⟩, ⟨[9], fun vs _ => vs = [.int .i64 sq]⟩, ⟨[10], fun vs w' => ∃ v, vs = [v] ∧ ToldIs L w'.heap.size w' (.atom sq) v⟩, ⟨[11], fun vs _ => vs = [.func (.func F) #[] cs]⟩, ⟨[12], fun vs w' => ∃ h u0 u1, vs = [.slice (some ⟨h, 0, none⟩) 3 3] ∧ (L ≤ h ∧ h < w'.heap.size) ∧ w'.heap[h]? = some (.cells #[u0, u1, .func (.func F) #[] cs] 74 (0, 0)) ∧ ToldAll L w'.heap.size w' [.atom ep, .atom sq, t] [u0, u1, .func (.func F) #[] cs]⟩, ⟨[13], fun vs w' => ∃ v, vs = [v] ∧ ToldIs L w'.heap.size w' (.list [.atom ep, .atom sq, t]) v⟩, ⟨[4], fun vs w' => ∃ v, vs = [v] ∧ ToldIs L w'.heap.size w' (.list [.atom ep, .atom sq, t]) v⟩])
    (by kernel_rfl) 14 rfl (by kernel_rfl) ?stab ?istab ?start ?exec ?fin
  case stab =>
    intro k i f hki hf
    have hk : k < 10 := (Array.getElem?_eq_some_iff.1 hf).1
    rcases (show k = 0 ∨ k = 1 ∨ k = 2 ∨ k = 3 ∨ k = 4 ∨ k = 5 ∨ k = 6 ∨ k = 7 ∨ k = 8 ∨ k = 9 by omega) with rfl | rfl | rfl | rfl | rfl | rfl | rfl | rfl | rfl | rfl
    all_goals
      simp only [List.getElem?_toArray, List.getElem?_cons_succ, List.getElem?_cons_zero, Option.some.injEq] at hf
      subst hf
    · exact fun vs _ _ _ h => h
    · exact fun vs _ _ _ h => h
    · exact fun vs w' w'' hR ⟨v, h1, h2⟩ => ⟨v, h1, h2.on hR⟩
    · exact fun vs _ _ _ h => h
    · exact fun vs _ _ _ h => h
    · exact fun vs w' w'' hR ⟨v, h1, h2⟩ => ⟨v, h1, h2.on hR⟩
    · exact fun vs _ _ _ h => h
    · exact fun vs w' w'' hR ⟨h, u0, u1, h1, h2, h3, h4⟩ => ⟨h, u0, u1, h1, ⟨h2.1, by have := Below.size hR; omega⟩, (Below.block hR h h2.2).trans h3, h4.on hR⟩
    · exact fun vs w' w'' hR ⟨v, h1, h2⟩ => ⟨v, h1, h2.on hR⟩
    · exact fun vs w' w'' hR ⟨v, h1, h2⟩ => ⟨v, h1, h2.on hR⟩
  case istab => exact fun i w' w'' hR ⟨h1, h2, h3, h4⟩ => ⟨(Below.block hR _ h3).trans h1, h2.on hR, by have := Below.size hR; omega, h4.trans (Below.mono hR (by omega))⟩
  case start => exact ⟨HI.out.1, ToldIs.kept (fun _ _ _ => rfl) _ HI.out.2.1, HI.out.2.2.1, HI.out.2.2.2.drew⟩
  case exec =>
    intro i o f hi hf act wq hsz hI hold hpre
    have hi11 : i < 10 := (Array.getElem?_eq_some_iff.1 hi).1
    rcases (show i = 0 ∨ i = 1 ∨ i = 2 ∨ i = 3 ∨ i = 4 ∨ i = 5 ∨ i = 6 ∨ i = 7 ∨ i = 8 ∨ i = 9 by omega) with rfl | rfl | rfl | rfl | rfl | rfl | rfl | rfl | rfl | rfl
    all_goals
      simp only [List.getElem?_toArray, List.getElem?_cons_succ, List.getElem?_cons_zero, Option.some.injEq] at hi hf
      subst hi hf
    · have g2 : act.tmps.getD 2 undef = .pointer (some ⟨w.heap.size, 0, none⟩) := hold 2 (free_spec (by kernel_rfl))
      refine exec_same (v := .pointer (some ⟨w.heap.size, 0, none⟩)) ?_ ⟨_, rfl, Below.refl _ _, at_one (by omega) rfl⟩
      simp [go_sem, Act.eval, g2]
    · have g5 : act.tmps.getD 5 undef = .pointer (some ⟨w.heap.size, 0, none⟩) := by have := of_one (hpre ⟨0, .data⟩ (by simp) rfl _ rfl); simpa using this
      have hc : wq.cell? ⟨w.heap.size, 0, none⟩ = some (.int .i64 ep) := (cell_of_row _ _ 0 _ _ _ hI.1).trans rfl
      refine exec_same (v := .int .i64 ep) ?_ ⟨_, rfl, Below.refl _ _, at_one (by omega) rfl⟩
      simp [go_sem, Act.eval, g5, hc]
    · have g6 : act.tmps.getD 6 undef = .int .i64 ep := by have := of_one (hpre ⟨1, .data⟩ (by simp) rfl _ rfl); simpa using this
      refine exec_call (f := 92) (args := #[.int .i64 ep]) (by simp [go_sem, Act.eval, g6]) ?_
      refine Calls.mono (toldAtom_any (L := L) ep wq (by have := hI.2.2.1; omega)) ?_
      rintro e w2 ⟨v2, rfl, l2, hb2⟩
      exact ⟨_, rfl, _, rfl, hb2, ⟨_, by show [(act.put _ _).tmps.getD _ undef] = _; rw [put_same _ _ _ (by omega)], l2⟩⟩
    · have g2 : act.tmps.getD 2 undef = .pointer (some ⟨w.heap.size, 0, none⟩) := hold 2 (free_spec (by kernel_rfl))
      refine exec_same (v := .pointer (some ⟨w.heap.size, 1, none⟩)) ?_ ⟨_, rfl, Below.refl _ _, at_one (by omega) rfl⟩
      simp [go_sem, Act.eval, g2]
    · have g8 : act.tmps.getD 8 undef = .pointer (some ⟨w.heap.size, 1, none⟩) := by have := of_one (hpre ⟨3, .data⟩ (by simp) rfl _ rfl); simpa using this
      have hc : wq.cell? ⟨w.heap.size, 1, none⟩ = some (.int .i64 sq) := (cell_of_row _ _ 1 _ _ _ hI.1).trans rfl
      refine exec_same (v := .int .i64 sq) ?_ ⟨_, rfl, Below.refl _ _, at_one (by omega) rfl⟩
      simp [go_sem, Act.eval, g8, hc]
    · have g9 : act.tmps.getD 9 undef = .int .i64 sq := by have := of_one (hpre ⟨4, .data⟩ (by simp) rfl _ rfl); simpa using this
      refine exec_call (f := 92) (args := #[.int .i64 sq]) (by simp [go_sem, Act.eval, g9]) ?_
      refine Calls.mono (toldAtom_any (L := L) sq wq (by have := hI.2.2.1; omega)) ?_
      rintro e w2 ⟨v2, rfl, l2, hb2⟩
      exact ⟨_, rfl, _, rfl, hb2, ⟨_, by show [(act.put _ _).tmps.getD _ undef] = _; rw [put_same _ _ _ (by omega)], l2⟩⟩
    · have g1 : act.tmps.getD 1 undef = .func (.func F) #[] cs := hold 1 (free_spec (by kernel_rfl))
      refine exec_same (v := .func (.func F) #[] cs) ?_ ⟨_, rfl, Below.refl _ _, at_one (by omega) rfl⟩
      simp [go_sem, Act.eval, g1]
    · obtain ⟨ua, h1_ua, lua⟩ := hpre ⟨2, .data⟩ (by simp) rfl _ rfl
      have g7 : act.tmps.getD 7 undef = ua := by simpa using h1_ua
      have g7' : act.tmps[7]?.getD undef = ua := by simpa using g7
      obtain ⟨ub, h1_ub, lub⟩ := hpre ⟨5, .data⟩ (by simp) rfl _ rfl
      have g10 : act.tmps.getD 10 undef = ub := by simpa using h1_ub
      have g10' : act.tmps[10]?.getD undef = ub := by simpa using g10
      have g11 : act.tmps.getD 11 undef = .func (.func F) #[] cs := by have := of_one (hpre ⟨6, .data⟩ (by simp) rfl _ rfl); simpa using this
      have g11' : act.tmps[11]?.getD undef = .func (.func F) #[] cs := by simpa using g11
      obtain ⟨Fa, ca, rfl⟩ := lua.fn
      obtain ⟨Fb, cb, rfl⟩ := lub.fn
      have hbN : Below wq.heap.size wq (wq.alloc (.cells #[.func (.func Fa) #[] ca, .func (.func Fb) #[] cb, .func (.func F) #[] cs] 74)) := (Below.refl _ _).alloc (Nat.le_refl _) _
      refine exec_made (w' := wq.alloc (.cells #[.func (.func Fa) #[] ca, .func (.func Fb) #[] cb, .func (.func F) #[] cs] 74)) (v := .slice (some ⟨wq.heap.size, 0, none⟩) 3 3) ?_ ⟨_, rfl, hbN, ⟨_, _, _, by show [(act.put _ _).tmps.getD _ undef] = _; rw [put_same _ _ _ (by omega)], ⟨by have := hI.2.2.1; omega, by simp⟩, heap_alloc_new _ _, (toldAll3 lua lub hI.2.1).on hbN⟩⟩
      simp [go_sem, Act.eval, g7', g10', g11']
    · obtain ⟨h, u0, u1, h1, h2, h3, h4⟩ := hpre ⟨7, .data⟩ (by simp) rfl _ rfl
      have g12 : act.tmps.getD 12 undef = .slice (some ⟨h, 0, none⟩) 3 3 := by simpa using h1
      refine exec_call (f := 97) (args := #[.slice (some ⟨h, 0, none⟩) 3 3]) (by simp [go_sem, Act.eval, g12]) ?_
      refine Calls.mono (toldList_any _ [u0, u1, .func (.func F) #[] cs] wq (by have := hI.2.2.1; omega) h2 h3 h4) ?_
      rintro e w2 ⟨v2, rfl, l2, hb2⟩
      exact ⟨_, rfl, _, rfl, hb2, ⟨_, by show [(act.put _ _).tmps.getD _ undef] = _; rw [put_same _ _ _ (by omega)], l2⟩⟩
    · obtain ⟨ux, h1_ux, lux⟩ := hpre ⟨8, .data⟩ (by simp) rfl _ rfl
      have g13 : act.tmps.getD 13 undef = ux := by simpa using h1_ux
      have g13' : act.tmps[13]?.getD undef = ux := by simpa using g13
      refine exec_same (v := ux) ?_ ⟨_, rfl, Below.refl _ _, ⟨_, by show [(act.put _ _).tmps.getD _ undef] = _; rw [put_same _ _ _ (by omega)], lux⟩⟩
      simp [go_sem, Act.eval, g13]
  case fin =>
    intro zs w5 hzl hI hF
    obtain ⟨z0, z1, z2, z3, z4, z5, z6, z7, z8, z9, rfl⟩ := list10 zs hzl
    obtain ⟨vr, hv, lr⟩ := of_one (hF 9 _ rfl)
    simp only [List.cons.injEq, and_true] at hv
    have hs3 := last_is (i := 9) (v := z9) (n := 14) hv (by kernel_rfl) rfl rfl (by omega)
    clear hv
    subst hs3
    have HE : Hid (ToldP L (.list [.atom ep, .atom sq, t]) w (.returned z9) w5) := ⟨_, rfl, lr, hI.2.2.2⟩
    clear hF lr hI
    simp only [putAll, Act.put, List.setIfInBounds_toArray, List.set_cons_succ, List.set_cons_zero]
    go_wp2
    go_ret
    exact HE.out
theorem putA_full {ns : List Nd} {x : Nd} (h : 3000 ≤ ns.length) : putA ns x = ns := by unfold putA; rw [if_neg (by omega)]
theorem findFrom_app (x : Nd) : ∀ (l t : List Nd) (i : Nat), findFrom x l i ≠ -1 → findFrom x (l ++ t) i = findFrom x l i
  | [], t, i, h => absurd rfl h
  | y :: l, t, i, h => by
    rw [List.cons_append, findFrom, findFrom] at *
    split
    · rfl
    · rename_i h1
      rw [if_neg h1] at h
      exact findFrom_app x l t (i + 1) h
theorem findFrom_new (x : Nd) : ∀ (l t : List Nd) (i : Nat), findFrom x l i = -1 → findFrom x (l ++ x :: t) i = ((i + l.length : Nat) : Int)
  | [], t, i, h => by simp [findFrom]
  | y :: l, t, i, h => by
    rw [findFrom] at h
    rw [List.cons_append, findFrom]
    split at h
    · omega
    · rename_i h1
      rw [if_neg h1, findFrom_new x l t (i + 1) h]
      simp; omega
/-- What was put, or can't be, is the same when it is put again. -/
theorem put_again {x : Nd} {ns ms : List Nd} (hx : ∀ m m', nodeB x m = nodeB x m') (hp : putA ns x <+: ms) (hfull : 3000 ≤ ns.length → ms = ns) : putA ms x = ms ∧ putK ms x = putK ns x := by
  by_cases hn : nodeB x ns.length = true
  · have hn2 : nodeB x ms.length = true := by rw [← hn]; exact hx _ _
    by_cases hl : ns.length < 3000
    · by_cases hf : findN ns x = -1
      · have e1 : putA ns x = ns ++ [x] := by unfold putA; rw [if_pos ⟨hn, hf, hl⟩]
        have e2 : putK ns x = (ns.length : Int) := by unfold putK; rw [if_pos hn, if_pos ⟨hf, hl⟩]
        rw [e1] at hp
        obtain ⟨t, rfl⟩ := hp
        have e3 : findN (ns ++ [x] ++ t) x = (ns.length : Int) := by
          unfold findN at hf ⊢
          have := findFrom_new x ns t 0 hf
          simpa using this
        rw [e2]
        refine ⟨?_, ?_⟩
        · unfold putA; rw [if_neg (by rw [e3]; omega)]
        · unfold putK; rw [if_pos hn2, if_neg (by rw [e3]; omega), e3]
      · have e1 : putA ns x = ns := by unfold putA; rw [if_neg (fun h => hf h.2.1)]
        have e2 : putK ns x = findN ns x := by unfold putK; rw [if_pos hn, if_neg (fun h => hf h.1)]
        rw [e1] at hp
        obtain ⟨t, rfl⟩ := hp
        have e3 : findN (ns ++ t) x = findN ns x := findFrom_app x ns t 0 hf
        rw [e2]
        refine ⟨?_, ?_⟩
        · unfold putA; rw [if_neg (fun h => hf (by rw [← e3]; exact h.2.1))]
        · unfold putK; rw [if_pos hn2, if_neg (fun h => hf (by rw [← e3]; exact h.1)), e3]
    · have e := hfull (by omega)
      subst e
      exact ⟨putA_full (by omega), rfl⟩
  · have hn2 : ¬ nodeB x ms.length = true := by rw [hx ms.length ns.length]; exact hn
    refine ⟨?_, ?_⟩
    · unfold putA; rw [if_neg (fun h => hn2 h.1)]
    · unfold putK; rw [if_neg hn2, if_neg hn]
theorem atom_any (n : Int) (m m' : Int) : nodeB ⟨1, n, 0, 0⟩ m = nodeB ⟨1, n, 0, 0⟩ m' := by unfold nodeB; simp
def recT (key ep sq body : Int) : Tl := .list [.atom ep, .atom sq, .two 5 (.pl key) (.list [.atom ep, .atom sq, .pl body])]
theorem make_as8 {ns : List Nd} {k x y : Int} (h : ¬ (k = 1 ∨ k = 7)) : makeA ns k x y = putA ns (mkNd k x y) ∧ makeK ns k x y = putK ns (mkNd k x y) := by
  unfold makeA makeK; rw [if_neg h, if_neg h]; exact ⟨rfl, rfl⟩
theorem recT_f (ns : List Nd) (key ep sq body : Int) : (recT key ep sq body).f ns = recF ns key ep sq body := by
  obtain ⟨a1, b1⟩ := put_again (ns := ns) (ms := rcA2 ns ep sq) (atom_any ep) (show putA ns _ <+: _ from putA_preT _ _) (fun h => by unfold rcA2 rcA1; rw [putA_full h, putA_full h])
  obtain ⟨a2, b2⟩ := put_again (ns := rcA1 ns ep) (ms := rcA2 ns ep sq) (atom_any sq) (List.prefix_refl _) (fun h => putA_full h)
  have e : (Tl.list [.atom ep, .atom sq, .pl body]).f (rcA2 ns ep sq) = rcIn ns ep sq body := by
    show listF [putK (rcA2 ns ep sq) ⟨1, ep, 0, 0⟩, putK (putA (rcA2 ns ep sq) ⟨1, ep, 0, 0⟩) ⟨1, sq, 0, 0⟩, body] (putA (putA (rcA2 ns ep sq) ⟨1, ep, 0, 0⟩) ⟨1, sq, 0, 0⟩) = _
    rw [a1, a2, b1, b2]
    rfl
  show listF [putK ns ⟨1, ep, 0, 0⟩, putK (putA ns ⟨1, ep, 0, 0⟩) ⟨1, sq, 0, 0⟩, putK ((Tl.list [.atom ep, .atom sq, .pl body]).f (rcA2 ns ep sq)).1 (mkNd 5 key ((Tl.list [.atom ep, .atom sq, .pl body]).f (rcA2 ns ep sq)).2)] (putA ((Tl.list [.atom ep, .atom sq, .pl body]).f (rcA2 ns ep sq)).1 (mkNd 5 key ((Tl.list [.atom ep, .atom sq, .pl body]).f (rcA2 ns ep sq)).2)) = _
  rw [e]
  unfold recF rcA4 rcK4
  rw [(make_as8 (by omega)).1, (make_as8 (by omega)).2]
  rfl
theorem ifneg8 {K : Int} (h : K < 0 → K = -1) : (if K < 0 then -1 else K) = K := by
  split
  · rename_i h1; exact (h h1).symm
  · rfl
theorem rec_no {ns : List Nd} {key ep sq body : Int} (h : recB ns key ep sq body = false) : recK ns key ep sq body = -1 ∧ keptA ns (recA ns key ep sq body) (recK ns key ep sq body) = ns := by
  have e : recK ns key ep sq body = -1 := by unfold recK; rw [h]; rfl
  exact ⟨e, keptA_neg (by rw [e]; omega)⟩
/-- A record that is told: of a key that is told, a number, and a body. -/
def Tl.recd (x : Tl) (ep sq bd : Int) : Tl := ⟨fun mx ns => if ((inB ep 0 8 && inB sq 0 9999) && (okAt (x.g mx ns).1 (x.g mx ns).2 && okAt (x.g mx ns).1 bd)) = true then (recT (x.g mx ns).2 ep sq bd).g mx (x.g mx ns).1 else ((x.g mx ns).1, -1), x.Wf ∧ (Lit.int .i64 ep).wf = true ∧ (Lit.int .i64 sq).wf = true ∧ (Lit.int .i64 bd).wf = true⟩
theorem recT_ok {key ep sq bd : Int} (hk : (Lit.int .i64 key).wf = true) (hb : (Lit.int .i64 bd).wf = true) : TlOk (recT key ep sq bd) := by
  refine .list (fun x hx => ?_)
  simp only [List.mem_cons, List.not_mem_nil, or_false] at hx
  rcases hx with rfl | rfl | rfl
  · exact .atom _
  · exact .atom _
  · refine .two (.pl hk) (.list (fun x hx => ?_))
    simp only [List.mem_cons, List.not_mem_nil, or_false] at hx
    rcases hx with rfl | rfl | rfl
    · exact .atom _
    · exact .atom _
    · exact .pl hb
theorem two_pre' {x y : Tl} (k : Int) (hx : ∀ mx ns, ns <+: (x.g mx ns).1) (hy : ∀ mx ns, ns <+: (y.g mx ns).1) (mx : Nat) (ns : List Nd) : ns <+: ((Tl.two k x y).g mx ns).1 := ((hx mx ns).trans (hy mx _)).trans (putAm_pre _ _ _)
theorem gs_pre' (mx : Nat) : ∀ (xs : List Tl) (ns : List Nd), (∀ x ∈ xs, ∀ mx ns, ns <+: (x.g mx ns).1) → ns <+: (Tl.gs mx xs ns).1
  | [], ns, _ => List.prefix_refl _
  | x :: xs, ns, h => by
    rw [Tl.gs_cons]
    exact (h x (List.mem_cons_self ..) mx ns).trans (gs_pre' mx xs _ (fun y hy => h y (List.mem_cons_of_mem _ hy)))
theorem list_pre' {xs : List Tl} (h : ∀ x ∈ xs, ∀ mx ns, ns <+: (x.g mx ns).1) (mx : Nat) (ns : List Nd) : ns <+: ((Tl.list xs).g mx ns).1 := by
  rw [Tl.g_list]
  exact (gs_pre' mx xs ns h).trans (listFm_pre _ _ _)
theorem recT_pre (key ep sq bd : Int) (mx : Nat) (ns : List Nd) : ns <+: ((recT key ep sq bd).g mx ns).1 := by
  refine list_pre' (fun x hx => ?_) mx ns
  simp only [List.mem_cons, List.not_mem_nil, or_false] at hx
  rcases hx with rfl | rfl | rfl
  · exact fun mx ns => putAm_pre _ _ _
  · exact fun mx ns => putAm_pre _ _ _
  · refine two_pre' 5 (fun mx ns => List.prefix_refl _) (list_pre' (fun x hx => ?_))
    simp only [List.mem_cons, List.not_mem_nil, or_false] at hx
    rcases hx with rfl | rfl | rfl
    · exact fun mx ns => putAm_pre _ _ _
    · exact fun mx ns => putAm_pre _ _ _
    · exact fun mx ns => List.prefix_refl _
theorem recT_wf {key ep sq bd : Int} (h1 : (Lit.int .i64 key).wf = true) (h2 : (Lit.int .i64 ep).wf = true) (h3 : (Lit.int .i64 sq).wf = true) (h4 : (Lit.int .i64 bd).wf = true) : (recT key ep sq bd).Wf := ⟨by simp, h2, h3, ⟨by omega, by omega, h1, by simp, h2, h3, h4, trivial⟩, trivial⟩
theorem TlOk.recd {x : Tl} {ep sq bd : Int} (hx : TlOk x) (hb : (Lit.int .i64 bd).wf = true) : TlOk (.recd x ep sq bd) := by
  have hk : ∀ {mx : Nat} {ns : List Nd}, mx ≤ 1048576 → ns.length ≤ 1048576 → (Lit.int .i64 (x.g mx ns).2).wf = true := fun hm h => WalkArith.wf_i64 (hx.bdm hm h)
  refine ⟨fun {mx ns} hm h => ?_, fun mx ns => ?_, fun {mx ns} hm h => ?_⟩
  · show (ite _ _ _ : List Nd × Int).1.length ≤ _
    split
    · exact (recT_ok (hk hm h) hb).lem hm (hx.lem hm h)
    · exact hx.lem hm h
  · show ns <+: (ite _ _ _ : List Nd × Int).1
    split
    · exact (hx.prem mx ns).trans (recT_pre _ _ _ _ _ _)
    · exact hx.prem mx ns
  · show _ ≤ (ite _ _ _ : List Nd × Int).2 ∧ (ite _ _ _ : List Nd × Int).2 ≤ _
    split
    · exact (recT_ok (hk hm h) hb).bdm hm (hx.lem hm h)
    · exact ⟨by show _ ≤ (-1 : Int); omega, by show (-1 : Int) ≤ _; omega⟩
set_option maxHeartbeats 6400000 in
set_option maxRecDepth 20000 in
theorem tl_recd (mx B gb gm f g1 g2 g3 : Nat) (x : Tl) (F : FuncId) (cs : Array Value) (ep sq bd : Int) (ns : List Nd) (u : Value) (w : World) (hep : (Lit.int .i64 ep).wf = true) (hsq : (Lit.int .i64 sq).wf = true) (hbd : (Lit.int .i64 bd).wf = true) (hw : TlOk x) (hmx : mx ≤ 1048576) (hl : ns.length ≤ 1048576) (p2 : g2 < w.heap.size ∧ Apt gb gm u g2) (p3 : g3 < w.heap.size ∧ Apt gb gm u g3)
    (h1 : w.heap[g1]? = some (.cells #[.func (.func F) #[] cs] 74 (0, 0))) (h2 : w.heap[g2]? = some (.cells #[.int .i64 ep, .int .i64 sq] 81 (0, 0))) (h3 : w.heap[g3]? = some (.cells #[.int .i64 bd] 3 (0, 0)))
    (eg : ∀ args w, (callFunc F args).run Try.prog w = .ok (.enter F args) w) (hx : Calls Try.prog F (#[.pointer (some ⟨gb, 0, none⟩)] ++ cs) w (TlPost mx B gb gm f (x.g mx ns) u w)) :
    Calls Try.prog 77 #[.pointer (some ⟨gb, 0, none⟩), .pointer (some ⟨g1, 0, none⟩), .pointer (some ⟨g2, 0, none⟩), .pointer (some ⟨g3, 0, none⟩)] w (TlPost mx B gb gm f ((Tl.recd x ep sq bd).g mx ns) u w) := by
  have c0 : w.cell? ⟨g1, 0, none⟩ = some (.func (.func F) #[] cs) := (cell_of_row _ _ 0 _ _ _ h1).trans rfl
  have HMS : Hid ((x.g mx ns).1.length ≤ 1048576 ∧ (Lit.int .i64 (x.g mx ns).2).wf = true) := ⟨hw.lem hmx hl, WalkArith.wf_i64 (hw.bdm hmx hl)⟩
  have HW : Hid ((Lit.int .i64 ep).wf = true ∧ (Lit.int .i64 sq).wf = true ∧ (Lit.int .i64 bd).wf = true) := ⟨hep, hsq, hbd⟩
  clear hep hsq hbd
  obtain ⟨R, HR⟩ : ∃ R, Hid ((Tl.recd x ep sq bd).g mx ns = R) := ⟨_, rfl⟩
  rw [HR.out]
  have HR2 : Hid ((if ((inB ep 0 8 && inB sq 0 9999) && (okAt (x.g mx ns).1 (x.g mx ns).2 && okAt (x.g mx ns).1 bd)) = true then (recT (x.g mx ns).2 ep sq bd).g mx (x.g mx ns).1 else ((x.g mx ns).1, -1)) = R) := HR.out
  clear HR
  have HX : Hid (Calls Try.prog F (#[.pointer (some ⟨gb, 0, none⟩)] ++ cs) w (fun e w' => e = .returned (.int .i64 (x.g mx ns).2) ∧ ∃ v1, Hid (BldM mx B gb gm (x.g mx ns).1.length f (x.g mx ns).1 v1 w' ∧ Keep gb gm u v1 w w' ∧ Below B w w' ∧ w'.heap[g2]? = some (.cells #[.int .i64 ep, .int .i64 sq] 81 (0, 0)) ∧ w'.heap[g3]? = some (.cells #[.int .i64 bd] 3 (0, 0))))) := by
    refine Calls.mono hx ?_
    rintro e w2 ⟨rfl, v2, hbl2, hk2, hb2⟩
    exact ⟨rfl, v2, hbl2, hk2, hb2, (hk2.atk p2).trans h2, (hk2.atk p3).trans h3⟩
  clear hx h1 h2 h3 hw hl p2 p3
  generalize (x.g mx ns).1 = ms at HX HR2 HMS
  generalize (x.g mx ns).2 = kx at HX HR2 HMS
  go_enter Try.func77, Try.ntmps77
  go_wp2_with fail
  refine Calls.mono HX.out ?_
  rintro e w1 ⟨rfl, v1, H1⟩
  clear HX c0 eg
  obtain ⟨av, cv, hve, hrow⟩ : ∃ av cv, v1 = .slice av ms.length cv ∧ RowN w1.heap.size w1 av ms := by
    obtain ⟨D, _, hv, _⟩ := H1.out.1
    obtain ⟨av, cv, e, _, hr⟩ := hv.row
    exact ⟨av, cv, e, hr⟩
  subst hve
  have HC : Hid (∀ wz, Below w1.heap.size w1 wz → (fun w' : World => w'.cell? ⟨g2, 0, none⟩ = some (.int .i64 ep) ∧ w'.cell? ⟨g2, 1, none⟩ = some (.int .i64 sq) ∧ w'.cell? ⟨g3, 0, none⟩ = some (.int .i64 bd)) wz) := fun wz hz => ⟨(cell_of_row _ _ 0 _ _ _ ((hz.block _ (Array.getElem?_eq_some_iff.1 H1.out.2.2.2.1).1).trans H1.out.2.2.2.1)).trans rfl, (cell_of_row _ _ 1 _ _ _ ((hz.block _ (Array.getElem?_eq_some_iff.1 H1.out.2.2.2.1).1).trans H1.out.2.2.2.1)).trans rfl, (cell_of_row _ _ 0 _ _ _ ((hz.block _ (Array.getElem?_eq_some_iff.1 H1.out.2.2.2.2).1).trans H1.out.2.2.2.2)).trans rfl⟩
  obtain ⟨d0, HD0⟩ : ∃ d, Hid ((inB ep 0 8 && inB sq 0 9999) = d) := ⟨_, rfl⟩
  obtain ⟨d1, HD1⟩ : ∃ d, Hid (okAt ms kx = d) := ⟨_, rfl⟩
  obtain ⟨d2, HD2⟩ : ∃ d, Hid (okAt ms bd = d) := ⟨_, rfl⟩
  have UP : Hid (∀ {wz wy : World}, Below w1.heap.size w1 wz → Below wz.heap.size wz wy → Below w1.heap.size w1 wy) := fun h1 h2 => h1.trans (h2.mono h1.size)
  have HSF : Hid (∀ wz, Below w1.heap.size w1 wz → Calls Try.prog 58 #[.pointer (some ⟨gb, 0, none⟩)] wz fun e w' => e = .returned (.agg #[.slice av ms.length cv]) ∧ Below w1.heap.size w1 w') := fun wz hz => (soFar_any mx B gb gm f ms av cv wz (H1.out.1.later hz)).mono fun e w' h => ⟨h.1, UP.out hz h.2⟩
  have HWI : Hid (∀ wz, Below w1.heap.size w1 wz → Calls Try.prog 67 #[.agg #[.int .i64 ep, .int .i64 sq]] wz fun e w' => e = .returned (.bool d0) ∧ Below w1.heap.size w1 w') := fun wz hz => (within_any ep sq wz).mono fun e w' h => ⟨by rw [← HD0.out]; exact h.1, UP.out hz h.2⟩
  have HO1 : Hid (∀ wz, Below w1.heap.size w1 wz → Calls Try.prog 49 #[.agg #[.slice av ms.length cv], .int .i64 kx] wz fun e w' => e = .returned (.bool d1) ∧ Below w1.heap.size w1 w') := fun wz hz => (implOk_any av cv ms kx wz HMS.out.1 (hrow.grown hz)).mono fun e w' h => ⟨by rw [← HD1.out]; exact h.1, UP.out hz h.2⟩
  have HO2 : Hid (∀ wz, Below w1.heap.size w1 wz → Calls Try.prog 49 #[.agg #[.slice av ms.length cv], .int .i64 bd] wz fun e w' => e = .returned (.bool d2) ∧ Below w1.heap.size w1 w') := fun wz hz => (implOk_any av cv ms bd wz HMS.out.1 (hrow.grown hz)).mono fun e w' h => ⟨by rw [← HD2.out]; exact h.1, UP.out hz h.2⟩
  have hd : Below w1.heap.size w1 w1.drew := (Below.refl _ _).drew
  clear hrow
  go_wp2_with fail
  cases d0 with
  | false =>
    refine _root_.Go.wp_region_held (S := fun w' : World => w'.cell? ⟨g2, 0, none⟩ = some (.int .i64 ep) ∧ w'.cell? ⟨g2, 1, none⟩ = some (.int .i64 sq) ∧ w'.cell? ⟨g3, 0, none⟩ = some (.int .i64 bd)) (by kernel_rfl) ?_
    have hS : (fun w' : World => w'.cell? ⟨g2, 0, none⟩ = some (.int .i64 ep) ∧ w'.cell? ⟨g2, 1, none⟩ = some (.int .i64 sq) ∧ w'.cell? ⟨g3, 0, none⟩ = some (.int .i64 bd)) w1.drew := HC.out _ hd
    refine wpAnyH_take (i := 0) (v := ?_) rfl (by kernel_rfl) (by kernel_rfl) (by kernel_rfl) (fun _ _ _ h => h) (Or.inl ⟨by rfl, ?_⟩) hS ?_
    rotate_left
    · intro w hSw; obtain ⟨y0, y1, y2⟩ := hSw; go_simp; try with_reducible rfl
    simp only [Act.put, List.getElem_toArray, List.getElem_cons_zero, List.setIfInBounds_toArray, List.set_cons_succ, List.set_cons_zero]
    refine wpAnyH_ready (rs := [1]) (by kernel_rfl) (by simp) ?_
    refine AllReadyH.cons rfl (fun K hK => ?_) AllReadyH.nil
    go_simp
    refine Calls.mono (HWI.out _ hd) ?_
    rintro e w2 ⟨rfl, h2⟩
    refine hK.out _ _ (HC.out _ h2) (fun hS => ?_)
    clear hK K
    refine wpAnyH_take (i := 2) (v := ?_) rfl (by kernel_rfl) (by kernel_rfl) (by kernel_rfl) (fun _ _ _ h => h) (Or.inl ⟨by rfl, ?_⟩) hS ?_
    rotate_left
    · intro w hSw; obtain ⟨y0, y1, y2⟩ := hSw; go_simp; try with_reducible rfl
    simp only [Act.put, List.getElem_toArray, List.getElem_cons_succ, List.getElem_cons_zero, List.setIfInBounds_toArray, List.set_cons_succ, List.set_cons_zero]
    refine wpAnyH_take (i := 3) (v := ?_) rfl (by kernel_rfl) (by kernel_rfl) (by kernel_rfl) (fun _ _ _ h => h) (Or.inl ⟨by rfl, ?_⟩) hS ?_
    rotate_left
    · intro w hSw; obtain ⟨y0, y1, y2⟩ := hSw; go_simp; try with_reducible rfl
    simp only [Act.put, List.getElem_toArray, List.getElem_cons_succ, List.getElem_cons_zero, List.setIfInBounds_toArray, List.set_cons_succ, List.set_cons_zero]
    refine wpAnyH_take (i := 4) (v := undef) rfl (by kernel_rfl) (by kernel_rfl) (by kernel_rfl) (fun _ _ _ h => h) (Or.inr ⟨by rfl, rfl⟩) hS ?_
    simp only [Act.put, List.getElem_toArray, List.getElem_cons_succ, List.getElem_cons_zero, List.setIfInBounds_toArray, List.set_cons_succ, List.set_cons_zero]
    refine wpAnyH_take (i := 5) (v := undef) rfl (by kernel_rfl) (by kernel_rfl) (by kernel_rfl) (fun _ _ _ h => h) (Or.inr ⟨by rfl, rfl⟩) hS ?_
    simp only [Act.put, List.getElem_toArray, List.getElem_cons_succ, List.getElem_cons_zero, List.setIfInBounds_toArray, List.set_cons_succ, List.set_cons_zero]
    refine wpAnyH_take (i := 6) (v := undef) rfl (by kernel_rfl) (by kernel_rfl) (by kernel_rfl) (fun _ _ _ h => h) (Or.inr ⟨by rfl, rfl⟩) hS ?_
    simp only [Act.put, List.getElem_toArray, List.getElem_cons_succ, List.getElem_cons_zero, List.setIfInBounds_toArray, List.set_cons_succ, List.set_cons_zero]
    refine wpAnyH_take (i := 7) (v := undef) rfl (by kernel_rfl) (by kernel_rfl) (by kernel_rfl) (fun _ _ _ h => h) (Or.inr ⟨by rfl, rfl⟩) hS ?_
    simp only [Act.put, List.getElem_toArray, List.getElem_cons_succ, List.getElem_cons_zero, List.setIfInBounds_toArray, List.set_cons_succ, List.set_cons_zero]
    refine wpAnyH_take (i := 8) (v := undef) rfl (by kernel_rfl) (by kernel_rfl) (by kernel_rfl) (fun _ _ _ h => h) (Or.inr ⟨by rfl, rfl⟩) hS ?_
    simp only [Act.put, List.getElem_toArray, List.getElem_cons_succ, List.getElem_cons_zero, List.setIfInBounds_toArray, List.set_cons_succ, List.set_cons_zero]
    refine wpAnyH_take (i := 9) (v := ?_) rfl (by kernel_rfl) (by kernel_rfl) (by kernel_rfl) (fun _ _ _ h => h) (Or.inl ⟨by rfl, ?_⟩) hS ?_
    rotate_left
    · intro w hSw; obtain ⟨y0, y1, y2⟩ := hSw; go_simp; try with_reducible rfl
    simp only [Act.put, List.getElem_toArray, List.getElem_cons_succ, List.getElem_cons_zero, List.setIfInBounds_toArray, List.set_cons_succ, List.set_cons_zero]
    refine wpAnyH_take (i := 10) (v := ?_) rfl (by kernel_rfl) (by kernel_rfl) (by kernel_rfl) (fun _ _ _ h => h) (Or.inl ⟨by rfl, ?_⟩) hS ?_
    rotate_left
    · intro w hSw; obtain ⟨y0, y1, y2⟩ := hSw; go_simp; try with_reducible rfl
    simp only [Act.put, List.getElem_toArray, List.getElem_cons_succ, List.getElem_cons_zero, List.setIfInBounds_toArray, List.set_cons_succ, List.set_cons_zero]
    refine wpAnyH_take (i := 11) (v := undef) rfl (by kernel_rfl) (by kernel_rfl) (by kernel_rfl) (fun _ _ _ h => h) (Or.inr ⟨by rfl, rfl⟩) hS ?_
    simp only [Act.put, List.getElem_toArray, List.getElem_cons_succ, List.getElem_cons_zero, List.setIfInBounds_toArray, List.set_cons_succ, List.set_cons_zero]
    refine wpAnyH_take (i := 12) (v := undef) rfl (by kernel_rfl) (by kernel_rfl) (by kernel_rfl) (fun _ _ _ h => h) (Or.inr ⟨by rfl, rfl⟩) hS ?_
    simp only [Act.put, List.getElem_toArray, List.getElem_cons_succ, List.getElem_cons_zero, List.setIfInBounds_toArray, List.set_cons_succ, List.set_cons_zero]
    refine wpAnyH_take (i := 13) (v := undef) rfl (by kernel_rfl) (by kernel_rfl) (by kernel_rfl) (fun _ _ _ h => h) (Or.inr ⟨by rfl, rfl⟩) hS ?_
    simp only [Act.put, List.getElem_toArray, List.getElem_cons_succ, List.getElem_cons_zero, List.setIfInBounds_toArray, List.set_cons_succ, List.set_cons_zero]
    refine wpAnyH_take (i := 14) (v := undef) rfl (by kernel_rfl) (by kernel_rfl) (by kernel_rfl) (fun _ _ _ h => h) (Or.inr ⟨by rfl, rfl⟩) hS ?_
    simp only [Act.put, List.getElem_toArray, List.getElem_cons_succ, List.getElem_cons_zero, List.setIfInBounds_toArray, List.set_cons_succ, List.set_cons_zero]
    refine wpAnyH_take (i := 15) (v := undef) rfl (by kernel_rfl) (by kernel_rfl) (by kernel_rfl) (fun _ _ _ h => h) (Or.inr ⟨by rfl, rfl⟩) hS ?_
    simp only [Act.put, List.getElem_toArray, List.getElem_cons_succ, List.getElem_cons_zero, List.setIfInBounds_toArray, List.set_cons_succ, List.set_cons_zero]
    refine wpAnyH_take (i := 16) (v := ?_) rfl (by kernel_rfl) (by kernel_rfl) (by kernel_rfl) (fun _ _ _ h => h) (Or.inl ⟨by rfl, ?_⟩) hS ?_
    rotate_left
    · intro w hSw; obtain ⟨y0, y1, y2⟩ := hSw; go_simp; try with_reducible rfl
    simp only [Act.put, List.getElem_toArray, List.getElem_cons_succ, List.getElem_cons_zero, List.setIfInBounds_toArray, List.set_cons_succ, List.set_cons_zero]
    clear hS
    refine wpAnyH_done (by kernel_rfl) ?_ _
    have HE : Hid (TlPost mx B gb gm f R u w (.returned (.int .i64 (-1))) w2) := by
      rw [← HR2.out, if_neg (by rw [HD0.out]; simp)]
      exact ⟨rfl, _, H1.out.1.later h2, H1.out.2.1.trans (Keep.below h2), H1.out.2.2.1.trans (h2.mono H1.out.1.size)⟩
    clear HC HSF HWI HO1 HO2 UP
    go_wp2
    go_ret
    exact HE.out
  | true =>
    cases d1 with
    | false =>
      refine _root_.Go.wp_region_held (S := fun w' : World => w'.cell? ⟨g2, 0, none⟩ = some (.int .i64 ep) ∧ w'.cell? ⟨g2, 1, none⟩ = some (.int .i64 sq) ∧ w'.cell? ⟨g3, 0, none⟩ = some (.int .i64 bd)) (by kernel_rfl) ?_
      have hS : (fun w' : World => w'.cell? ⟨g2, 0, none⟩ = some (.int .i64 ep) ∧ w'.cell? ⟨g2, 1, none⟩ = some (.int .i64 sq) ∧ w'.cell? ⟨g3, 0, none⟩ = some (.int .i64 bd)) w1.drew := HC.out _ hd
      refine wpAnyH_take (i := 0) (v := ?_) rfl (by kernel_rfl) (by kernel_rfl) (by kernel_rfl) (fun _ _ _ h => h) (Or.inl ⟨by rfl, ?_⟩) hS ?_
      rotate_left
      · intro w hSw; obtain ⟨y0, y1, y2⟩ := hSw; go_simp; try with_reducible rfl
      simp only [Act.put, List.getElem_toArray, List.getElem_cons_zero, List.setIfInBounds_toArray, List.set_cons_succ, List.set_cons_zero]
      refine wpAnyH_ready (rs := [1]) (by kernel_rfl) (by simp) ?_
      refine AllReadyH.cons rfl (fun K hK => ?_) AllReadyH.nil
      go_simp
      refine Calls.mono (HWI.out _ hd) ?_
      rintro e w2 ⟨rfl, h2⟩
      refine hK.out _ _ (HC.out _ h2) (fun hS => ?_)
      clear hK K
      refine wpAnyH_take (i := 2) (v := ?_) rfl (by kernel_rfl) (by kernel_rfl) (by kernel_rfl) (fun _ _ _ h => h) (Or.inl ⟨by rfl, ?_⟩) hS ?_
      rotate_left
      · intro w hSw; obtain ⟨y0, y1, y2⟩ := hSw; go_simp; try with_reducible rfl
      simp only [Act.put, List.getElem_toArray, List.getElem_cons_succ, List.getElem_cons_zero, List.setIfInBounds_toArray, List.set_cons_succ, List.set_cons_zero]
      refine wpAnyH_take (i := 3) (v := ?_) rfl (by kernel_rfl) (by kernel_rfl) (by kernel_rfl) (fun _ _ _ h => h) (Or.inl ⟨by rfl, ?_⟩) hS ?_
      rotate_left
      · intro w hSw; obtain ⟨y0, y1, y2⟩ := hSw; go_simp; try with_reducible rfl
      simp only [Act.put, List.getElem_toArray, List.getElem_cons_succ, List.getElem_cons_zero, List.setIfInBounds_toArray, List.set_cons_succ, List.set_cons_zero]
      refine wpAnyH_take (i := 4) (v := ?_) rfl (by kernel_rfl) (by kernel_rfl) (by kernel_rfl) (fun _ _ _ h => h) (Or.inl ⟨by rfl, ?_⟩) hS ?_
      rotate_left
      · intro w hSw; obtain ⟨y0, y1, y2⟩ := hSw; go_simp; try with_reducible rfl
      simp only [Act.put, List.getElem_toArray, List.getElem_cons_succ, List.getElem_cons_zero, List.setIfInBounds_toArray, List.set_cons_succ, List.set_cons_zero]
      refine wpAnyH_take (i := 6) (v := ?_) rfl (by kernel_rfl) (by kernel_rfl) (by kernel_rfl) (fun _ _ _ h => h) (Or.inl ⟨by rfl, ?_⟩) hS ?_
      rotate_left
      · intro w hSw; obtain ⟨y0, y1, y2⟩ := hSw; go_simp; try with_reducible rfl
      simp only [Act.put, List.getElem_toArray, List.getElem_cons_succ, List.getElem_cons_zero, List.setIfInBounds_toArray, List.set_cons_succ, List.set_cons_zero]
      refine wpAnyH_ready (rs := [5]) (by kernel_rfl) (by simp) ?_
      refine AllReadyH.cons rfl (fun K hK => ?_) AllReadyH.nil
      go_simp
      refine Calls.mono (HSF.out _ h2) ?_
      rintro e w3 ⟨rfl, h3⟩
      refine hK.out _ _ (HC.out _ h3) (fun hS => ?_)
      clear hK K
      refine wpAnyH_ready (rs := [7]) (by kernel_rfl) (by simp) ?_
      refine AllReadyH.cons rfl (fun K hK => ?_) AllReadyH.nil
      go_simp
      refine Calls.mono (HO1.out _ h3) ?_
      rintro e w4 ⟨rfl, h4⟩
      refine hK.out _ _ (HC.out _ h4) (fun hS => ?_)
      clear hK K
      refine wpAnyH_take (i := 8) (v := ?_) rfl (by kernel_rfl) (by kernel_rfl) (by kernel_rfl) (fun _ _ _ h => h) (Or.inl ⟨by rfl, ?_⟩) hS ?_
      rotate_left
      · intro w hSw; obtain ⟨y0, y1, y2⟩ := hSw; go_simp; try with_reducible rfl
      simp only [Act.put, List.getElem_toArray, List.getElem_cons_succ, List.getElem_cons_zero, List.setIfInBounds_toArray, List.set_cons_succ, List.set_cons_zero]
      refine wpAnyH_take (i := 9) (v := ?_) rfl (by kernel_rfl) (by kernel_rfl) (by kernel_rfl) (fun _ _ _ h => h) (Or.inl ⟨by rfl, ?_⟩) hS ?_
      rotate_left
      · intro w hSw; obtain ⟨y0, y1, y2⟩ := hSw; go_simp; try with_reducible rfl
      simp only [Act.put, List.getElem_toArray, List.getElem_cons_succ, List.getElem_cons_zero, List.setIfInBounds_toArray, List.set_cons_succ, List.set_cons_zero]
      refine wpAnyH_take (i := 10) (v := ?_) rfl (by kernel_rfl) (by kernel_rfl) (by kernel_rfl) (fun _ _ _ h => h) (Or.inl ⟨by rfl, ?_⟩) hS ?_
      rotate_left
      · intro w hSw; obtain ⟨y0, y1, y2⟩ := hSw; go_simp; try with_reducible rfl
      simp only [Act.put, List.getElem_toArray, List.getElem_cons_succ, List.getElem_cons_zero, List.setIfInBounds_toArray, List.set_cons_succ, List.set_cons_zero]
      refine wpAnyH_take (i := 11) (v := undef) rfl (by kernel_rfl) (by kernel_rfl) (by kernel_rfl) (fun _ _ _ h => h) (Or.inr ⟨by rfl, rfl⟩) hS ?_
      simp only [Act.put, List.getElem_toArray, List.getElem_cons_succ, List.getElem_cons_zero, List.setIfInBounds_toArray, List.set_cons_succ, List.set_cons_zero]
      refine wpAnyH_take (i := 12) (v := undef) rfl (by kernel_rfl) (by kernel_rfl) (by kernel_rfl) (fun _ _ _ h => h) (Or.inr ⟨by rfl, rfl⟩) hS ?_
      simp only [Act.put, List.getElem_toArray, List.getElem_cons_succ, List.getElem_cons_zero, List.setIfInBounds_toArray, List.set_cons_succ, List.set_cons_zero]
      refine wpAnyH_take (i := 13) (v := undef) rfl (by kernel_rfl) (by kernel_rfl) (by kernel_rfl) (fun _ _ _ h => h) (Or.inr ⟨by rfl, rfl⟩) hS ?_
      simp only [Act.put, List.getElem_toArray, List.getElem_cons_succ, List.getElem_cons_zero, List.setIfInBounds_toArray, List.set_cons_succ, List.set_cons_zero]
      refine wpAnyH_take (i := 14) (v := undef) rfl (by kernel_rfl) (by kernel_rfl) (by kernel_rfl) (fun _ _ _ h => h) (Or.inr ⟨by rfl, rfl⟩) hS ?_
      simp only [Act.put, List.getElem_toArray, List.getElem_cons_succ, List.getElem_cons_zero, List.setIfInBounds_toArray, List.set_cons_succ, List.set_cons_zero]
      refine wpAnyH_take (i := 15) (v := undef) rfl (by kernel_rfl) (by kernel_rfl) (by kernel_rfl) (fun _ _ _ h => h) (Or.inr ⟨by rfl, rfl⟩) hS ?_
      simp only [Act.put, List.getElem_toArray, List.getElem_cons_succ, List.getElem_cons_zero, List.setIfInBounds_toArray, List.set_cons_succ, List.set_cons_zero]
      refine wpAnyH_take (i := 16) (v := ?_) rfl (by kernel_rfl) (by kernel_rfl) (by kernel_rfl) (fun _ _ _ h => h) (Or.inl ⟨by rfl, ?_⟩) hS ?_
      rotate_left
      · intro w hSw; obtain ⟨y0, y1, y2⟩ := hSw; go_simp; try with_reducible rfl
      simp only [Act.put, List.getElem_toArray, List.getElem_cons_succ, List.getElem_cons_zero, List.setIfInBounds_toArray, List.set_cons_succ, List.set_cons_zero]
      clear hS
      refine wpAnyH_done (by kernel_rfl) ?_ _
      have HE : Hid (TlPost mx B gb gm f R u w (.returned (.int .i64 (-1))) w4) := by
        rw [← HR2.out, if_neg (by rw [HD0.out, HD1.out]; simp)]
        exact ⟨rfl, _, H1.out.1.later h4, H1.out.2.1.trans (Keep.below h4), H1.out.2.2.1.trans (h4.mono H1.out.1.size)⟩
      clear HC HSF HWI HO1 HO2 UP
      go_wp2
      go_ret
      exact HE.out
    | true =>
      refine _root_.Go.wp_region_held (S := fun w' : World => w'.cell? ⟨g2, 0, none⟩ = some (.int .i64 ep) ∧ w'.cell? ⟨g2, 1, none⟩ = some (.int .i64 sq) ∧ w'.cell? ⟨g3, 0, none⟩ = some (.int .i64 bd)) (by kernel_rfl) ?_
      have hS : (fun w' : World => w'.cell? ⟨g2, 0, none⟩ = some (.int .i64 ep) ∧ w'.cell? ⟨g2, 1, none⟩ = some (.int .i64 sq) ∧ w'.cell? ⟨g3, 0, none⟩ = some (.int .i64 bd)) w1.drew := HC.out _ hd
      refine wpAnyH_take (i := 0) (v := ?_) rfl (by kernel_rfl) (by kernel_rfl) (by kernel_rfl) (fun _ _ _ h => h) (Or.inl ⟨by rfl, ?_⟩) hS ?_
      rotate_left
      · intro w hSw; obtain ⟨y0, y1, y2⟩ := hSw; go_simp; try with_reducible rfl
      simp only [Act.put, List.getElem_toArray, List.getElem_cons_zero, List.setIfInBounds_toArray, List.set_cons_succ, List.set_cons_zero]
      refine wpAnyH_ready (rs := [1]) (by kernel_rfl) (by simp) ?_
      refine AllReadyH.cons rfl (fun K hK => ?_) AllReadyH.nil
      go_simp
      refine Calls.mono (HWI.out _ hd) ?_
      rintro e w2 ⟨rfl, h2⟩
      refine hK.out _ _ (HC.out _ h2) (fun hS => ?_)
      clear hK K
      refine wpAnyH_take (i := 2) (v := ?_) rfl (by kernel_rfl) (by kernel_rfl) (by kernel_rfl) (fun _ _ _ h => h) (Or.inl ⟨by rfl, ?_⟩) hS ?_
      rotate_left
      · intro w hSw; obtain ⟨y0, y1, y2⟩ := hSw; go_simp; try with_reducible rfl
      simp only [Act.put, List.getElem_toArray, List.getElem_cons_succ, List.getElem_cons_zero, List.setIfInBounds_toArray, List.set_cons_succ, List.set_cons_zero]
      refine wpAnyH_take (i := 3) (v := ?_) rfl (by kernel_rfl) (by kernel_rfl) (by kernel_rfl) (fun _ _ _ h => h) (Or.inl ⟨by rfl, ?_⟩) hS ?_
      rotate_left
      · intro w hSw; obtain ⟨y0, y1, y2⟩ := hSw; go_simp; try with_reducible rfl
      simp only [Act.put, List.getElem_toArray, List.getElem_cons_succ, List.getElem_cons_zero, List.setIfInBounds_toArray, List.set_cons_succ, List.set_cons_zero]
      refine wpAnyH_take (i := 4) (v := ?_) rfl (by kernel_rfl) (by kernel_rfl) (by kernel_rfl) (fun _ _ _ h => h) (Or.inl ⟨by rfl, ?_⟩) hS ?_
      rotate_left
      · intro w hSw; obtain ⟨y0, y1, y2⟩ := hSw; go_simp; try with_reducible rfl
      simp only [Act.put, List.getElem_toArray, List.getElem_cons_succ, List.getElem_cons_zero, List.setIfInBounds_toArray, List.set_cons_succ, List.set_cons_zero]
      refine wpAnyH_take (i := 6) (v := ?_) rfl (by kernel_rfl) (by kernel_rfl) (by kernel_rfl) (fun _ _ _ h => h) (Or.inl ⟨by rfl, ?_⟩) hS ?_
      rotate_left
      · intro w hSw; obtain ⟨y0, y1, y2⟩ := hSw; go_simp; try with_reducible rfl
      simp only [Act.put, List.getElem_toArray, List.getElem_cons_succ, List.getElem_cons_zero, List.setIfInBounds_toArray, List.set_cons_succ, List.set_cons_zero]
      refine wpAnyH_ready (rs := [5]) (by kernel_rfl) (by simp) ?_
      refine AllReadyH.cons rfl (fun K hK => ?_) AllReadyH.nil
      go_simp
      refine Calls.mono (HSF.out _ h2) ?_
      rintro e w3 ⟨rfl, h3⟩
      refine hK.out _ _ (HC.out _ h3) (fun hS => ?_)
      clear hK K
      refine wpAnyH_ready (rs := [7]) (by kernel_rfl) (by simp) ?_
      refine AllReadyH.cons rfl (fun K hK => ?_) AllReadyH.nil
      go_simp
      refine Calls.mono (HO1.out _ h3) ?_
      rintro e w4 ⟨rfl, h4⟩
      refine hK.out _ _ (HC.out _ h4) (fun hS => ?_)
      clear hK K
      refine wpAnyH_take (i := 8) (v := ?_) rfl (by kernel_rfl) (by kernel_rfl) (by kernel_rfl) (fun _ _ _ h => h) (Or.inl ⟨by rfl, ?_⟩) hS ?_
      rotate_left
      · intro w hSw; obtain ⟨y0, y1, y2⟩ := hSw; go_simp; try with_reducible rfl
      simp only [Act.put, List.getElem_toArray, List.getElem_cons_succ, List.getElem_cons_zero, List.setIfInBounds_toArray, List.set_cons_succ, List.set_cons_zero]
      refine wpAnyH_take (i := 9) (v := ?_) rfl (by kernel_rfl) (by kernel_rfl) (by kernel_rfl) (fun _ _ _ h => h) (Or.inl ⟨by rfl, ?_⟩) hS ?_
      rotate_left
      · intro w hSw; obtain ⟨y0, y1, y2⟩ := hSw; go_simp; try with_reducible rfl
      simp only [Act.put, List.getElem_toArray, List.getElem_cons_succ, List.getElem_cons_zero, List.setIfInBounds_toArray, List.set_cons_succ, List.set_cons_zero]
      refine wpAnyH_take (i := 10) (v := ?_) rfl (by kernel_rfl) (by kernel_rfl) (by kernel_rfl) (fun _ _ _ h => h) (Or.inl ⟨by rfl, ?_⟩) hS ?_
      rotate_left
      · intro w hSw; obtain ⟨y0, y1, y2⟩ := hSw; go_simp; try with_reducible rfl
      simp only [Act.put, List.getElem_toArray, List.getElem_cons_succ, List.getElem_cons_zero, List.setIfInBounds_toArray, List.set_cons_succ, List.set_cons_zero]
      refine wpAnyH_take (i := 11) (v := ?_) rfl (by kernel_rfl) (by kernel_rfl) (by kernel_rfl) (fun _ _ _ h => h) (Or.inl ⟨by rfl, ?_⟩) hS ?_
      rotate_left
      · intro w hSw; obtain ⟨y0, y1, y2⟩ := hSw; go_simp; try with_reducible rfl
      simp only [Act.put, List.getElem_toArray, List.getElem_cons_succ, List.getElem_cons_zero, List.setIfInBounds_toArray, List.set_cons_succ, List.set_cons_zero]
      refine wpAnyH_take (i := 13) (v := ?_) rfl (by kernel_rfl) (by kernel_rfl) (by kernel_rfl) (fun _ _ _ h => h) (Or.inl ⟨by rfl, ?_⟩) hS ?_
      rotate_left
      · intro w hSw; obtain ⟨y0, y1, y2⟩ := hSw; go_simp; try with_reducible rfl
      simp only [Act.put, List.getElem_toArray, List.getElem_cons_succ, List.getElem_cons_zero, List.setIfInBounds_toArray, List.set_cons_succ, List.set_cons_zero]
      refine wpAnyH_ready (rs := [12]) (by kernel_rfl) (by simp) ?_
      refine AllReadyH.cons rfl (fun K hK => ?_) AllReadyH.nil
      go_simp
      refine Calls.mono (HSF.out _ h4) ?_
      rintro e w5 ⟨rfl, h5⟩
      refine hK.out _ _ (HC.out _ h5) (fun hS => ?_)
      clear hK K
      refine wpAnyH_ready (rs := [14]) (by kernel_rfl) (by simp) ?_
      refine AllReadyH.cons rfl (fun K hK => ?_) AllReadyH.nil
      go_simp
      refine Calls.mono (HO2.out _ h5) ?_
      rintro e w6 ⟨rfl, h6⟩
      refine hK.out _ _ (HC.out _ h6) (fun hS => ?_)
      clear hK K
      refine wpAnyH_take (i := 15) (v := ?_) rfl (by kernel_rfl) (by kernel_rfl) (by kernel_rfl) (fun _ _ _ h => h) (Or.inl ⟨by rfl, ?_⟩) hS ?_
      rotate_left
      · intro w hSw; obtain ⟨y0, y1, y2⟩ := hSw; go_simp; try with_reducible rfl
      simp only [Act.put, List.getElem_toArray, List.getElem_cons_succ, List.getElem_cons_zero, List.setIfInBounds_toArray, List.set_cons_succ, List.set_cons_zero]
      refine wpAnyH_take (i := 16) (v := ?_) rfl (by kernel_rfl) (by kernel_rfl) (by kernel_rfl) (fun _ _ _ h => h) (Or.inl ⟨by rfl, ?_⟩) hS ?_
      rotate_left
      · intro w hSw; obtain ⟨y0, y1, y2⟩ := hSw; go_simp; try with_reducible rfl
      simp only [Act.put, List.getElem_toArray, List.getElem_cons_succ, List.getElem_cons_zero, List.setIfInBounds_toArray, List.set_cons_succ, List.set_cons_zero]
      cases d2 with
      | false =>
        clear hS
        refine wpAnyH_done (by kernel_rfl) ?_ _
        have HE : Hid (TlPost mx B gb gm f R u w (.returned (.int .i64 (-1))) w6) := by
          rw [← HR2.out, if_neg (by rw [HD0.out, HD1.out, HD2.out]; simp)]
          exact ⟨rfl, _, H1.out.1.later h6, H1.out.2.1.trans (Keep.below h6), H1.out.2.2.1.trans (h6.mono H1.out.1.size)⟩
        clear HC HSF HWI HO1 HO2 UP
        go_wp2
        go_ret
        exact HE.out
      | true =>
        clear hS
        refine wpAnyH_done (by kernel_rfl) ?_ _
        have HRT : Hid ((recT kx ep sq bd).g mx ms = R) := by show _ = _; rw [← HR2.out, if_pos (by rw [HD0.out, HD1.out, HD2.out]; rfl)]
        clear HSF HWI HO1 HO2 HR2 HD0 HD1 HD2
        go_wp2_with fail
        have h7 : Below w1.heap.size w1 w6.drew := h6.drew
        refine _root_.Go.wp_region_held (S := fun w' : World => w'.cell? ⟨g2, 0, none⟩ = some (.int .i64 ep) ∧ w'.cell? ⟨g2, 1, none⟩ = some (.int .i64 sq) ∧ w'.cell? ⟨g3, 0, none⟩ = some (.int .i64 bd)) (by kernel_rfl) ?_
        have hS : (fun w' : World => w'.cell? ⟨g2, 0, none⟩ = some (.int .i64 ep) ∧ w'.cell? ⟨g2, 1, none⟩ = some (.int .i64 sq) ∧ w'.cell? ⟨g3, 0, none⟩ = some (.int .i64 bd)) w6.drew := HC.out _ h7
        refine wpAnyH_take (i := 0) (v := ?_) rfl (by kernel_rfl) (by kernel_rfl) (by kernel_rfl) (fun _ _ _ h => h) (Or.inl ⟨by rfl, ?_⟩) hS ?_
        rotate_left
        · intro w hSw; obtain ⟨y0, y1, y2⟩ := hSw; go_simp; try with_reducible rfl
        simp only [Act.put, List.getElem_toArray, List.getElem_cons_zero, List.setIfInBounds_toArray, List.set_cons_succ, List.set_cons_zero]
        refine wpAnyH_take (i := 2) (v := ?_) rfl (by kernel_rfl) (by kernel_rfl) (by kernel_rfl) (fun _ _ _ h => h) (Or.inl ⟨by rfl, ?_⟩) hS ?_
        rotate_left
        · intro w hSw; obtain ⟨y0, y1, y2⟩ := hSw; go_simp; try with_reducible rfl
        simp only [Act.put, List.getElem_toArray, List.getElem_cons_succ, List.getElem_cons_zero, List.setIfInBounds_toArray, List.set_cons_succ, List.set_cons_zero]
        refine wpAnyH_take (i := 3) (v := ?_) rfl (by kernel_rfl) (by kernel_rfl) (by kernel_rfl) (fun _ _ _ h => h) (Or.inl ⟨by rfl, ?_⟩) hS ?_
        rotate_left
        · intro w hSw; obtain ⟨y0, y1, y2⟩ := hSw; go_simp; try with_reducible rfl
        simp only [Act.put, List.getElem_toArray, List.getElem_cons_succ, List.getElem_cons_zero, List.setIfInBounds_toArray, List.set_cons_succ, List.set_cons_zero]
        have s7 : w6.heap.size ≤ w6.drew.heap.size := Nat.le_refl _
        refine wpAnyH_ready (rs := [1]) (by kernel_rfl) (by simp) ?_
        refine AllReadyH.cons rfl (fun K hK => ?_) AllReadyH.nil
        go_simp
        refine Calls.mono (toldAt_any (L := w6.heap.size) kx w6.drew s7) ?_
        rintro e w8 ⟨v8, rfl, t8, hb⟩
        have h8 := UP.out h7 hb
        have s8 := Nat.le_trans s7 hb.size
        clear hb
        refine hK.out _ _ (HC.out _ h8) (fun hS => ?_)
        clear hK K
        refine wpAnyH_ready (rs := [4]) (by kernel_rfl) (by simp) ?_
        refine AllReadyH.cons rfl (fun K hK => ?_) AllReadyH.nil
        go_simp
        refine Calls.mono (toldAt_any (L := w6.heap.size) bd w8 s8) ?_
        rintro e w9 ⟨v9, rfl, t9, hb⟩
        have h9 := UP.out h8 hb
        replace t8 := ToldIs.on hb t8
        have s9 := Nat.le_trans s8 hb.size
        clear hb
        refine hK.out _ _ (HC.out _ h9) (fun hS => ?_)
        clear hK K
        refine wpAnyH_ready (rs := [5]) (by kernel_rfl) (by simp) ?_
        refine AllReadyH.cons rfl (fun K hK => ?_) AllReadyH.nil
        go_simp
        refine Calls.mono (numAhead_any (L := w6.heap.size) ep sq (.pl bd) _ w9 s9 t9) ?_
        rintro e w10 ⟨v10, rfl, t10, hb⟩
        have h10 := UP.out h9 hb
        replace t8 := ToldIs.on hb t8
        have s10 := Nat.le_trans s9 hb.size
        clear hb
        refine hK.out _ _ (HC.out _ h10) (fun hS => ?_)
        clear hK K
        refine wpAnyH_ready (rs := [6]) (by kernel_rfl) (by simp) ?_
        refine AllReadyH.cons rfl (fun K hK => ?_) AllReadyH.nil
        go_simp
        refine Calls.mono (toldTwo_any (L := w6.heap.size) 5 (.pl kx) _ _ _ w10 s10 t8 t10) ?_
        rintro e w11 ⟨v11, rfl, t11, hb⟩
        have h11 := UP.out h10 hb
        have s11 := Nat.le_trans s10 hb.size
        clear hb
        refine hK.out _ _ (HC.out _ h11) (fun hS => ?_)
        clear hK K
        refine wpAnyH_take (i := 7) (v := ?_) rfl (by kernel_rfl) (by kernel_rfl) (by kernel_rfl) (fun _ _ _ h => h) (Or.inl ⟨by rfl, ?_⟩) hS ?_
        rotate_left
        · intro w hSw; obtain ⟨y0, y1, y2⟩ := hSw; go_simp; try with_reducible rfl
        simp only [Act.put, List.getElem_toArray, List.getElem_cons_succ, List.getElem_cons_zero, List.setIfInBounds_toArray, List.set_cons_succ, List.set_cons_zero]
        clear hS
        refine wpAnyH_done (by kernel_rfl) ?_ _
        have q0 := (HC.out _ h11).1
        have q1 := (HC.out _ h11).2.1
        go_wp2_with fail
        clear q0 q1
        refine Calls.mono (numAhead_any (L := w6.heap.size) ep sq _ _ w11 s11 t11) ?_
        rintro e w12 ⟨v12, rfl, t12, hb⟩
        have h12 := UP.out h11 hb
        have s12 := Nat.le_trans s11 hb.size
        clear hb t8 t9 t10 t11
        obtain ⟨G, ds, rfl⟩ := t12.fn
        have eg := t12.eg
        have HCL : Hid _ := t12.callA (recT_wf HMS.out.2 HW.out.1 HW.out.2.1 HW.out.2.2) w12 mx B gb gm f ms _ hmx (fun _ _ _ => rfl) (fun k hk1 hk2 => ⟨hk2, by have := H1.out.1.lts.1; have := h6.size; omega, by have := H1.out.1.lts.2.1; have := h6.size; omega, fun e => by have := H1.out.1.lts.2.2 k e; have := h6.size; omega⟩) HMS.out.1 (H1.out.1.later h12)
        rw [show (Tl.list [.atom ep, .atom sq, .two 5 (.pl kx) (.list [.atom ep, .atom sq, .pl bd])]).g mx ms = R from HRT.out] at HCL
        have HFIN : Hid (∀ e w', TlPost mx B gb gm f R (.slice av ms.length cv) w12 e w' → e = .returned (.int .i64 R.2) ∧ Hid (TlPost mx B gb gm f R u w e w')) := fun e w' ⟨q1, u', q2, q3, q4⟩ => ⟨q1, q1, u', q2, (H1.out.2.1.trans (Keep.below h12)).trans q3, (H1.out.2.2.1.trans (h12.mono H1.out.1.size)).trans q4⟩
        clear t12 HC UP
        go_wp2_with fail
        refine Calls.mono HCL.out ?_
        intro e w13 hpost
        obtain ⟨rfl, hh⟩ := HFIN.out _ _ hpost
        clear hpost HCL HFIN
        go_wp2
        go_ret
        exact hh.out
theorem toldIs_recd {L B g1 g2 g3 : Nat} {w : World} (x : Tl) (ep sq bd : Int) (u : Value) (h1 : L ≤ g1 ∧ g1 < B) (h2 : L ≤ g2 ∧ g2 < B) (h3 : L ≤ g3 ∧ g3 < B) (e1 : w.heap[g1]? = some (.cells #[u] 74 (0, 0))) (e2 : w.heap[g2]? = some (.cells #[.int .i64 ep, .int .i64 sq] 81 (0, 0))) (e3 : w.heap[g3]? = some (.cells #[.int .i64 bd] 3 (0, 0))) (hx : ToldIs L B w x u) :
    ToldIs L B w (.recd x ep sq bd) (.func (.func 77) #[] #[.pointer (some ⟨g1, 0, none⟩), .pointer (some ⟨g2, 0, none⟩), .pointer (some ⟨g3, 0, none⟩)]) := by
  obtain ⟨F, cs, rfl⟩ := hx.fn
  exact ⟨fun hw => .recd (hx.1 hw.1) hw.2.2.2, _, _, rfl, Try.call77, fun hw w' mx B' gb gm fl ns u hmx ha hp hl hb => tl_recd mx B' gb gm fl g1 g2 g3 x F cs ep sq bd ns u w' hw.2.1 hw.2.2.1 hw.2.2.2 (hx.1 hw.1) hmx hl (hp g2 h2.1 h2.2) (hp g3 h3.1 h3.2) ((ha g1 h1.1 h1.2).trans e1) ((ha g2 h2.1 h2.2).trans e2) ((ha g3 h3.1 h3.2).trans e3) hx.eg (hx.callA hw.1 w' mx B' gb gm fl ns u hmx ha hp hl hb)⟩
set_option maxHeartbeats 1600000 in
theorem toldRecord_any {L : Nat} (x : Tl) (v : Value) (ep sq bd : Int) (w : World) (hL : L ≤ w.heap.size) (hx : ToldIs L w.heap.size w x v) : Calls Try.prog 60 #[v, .agg #[.int .i64 ep, .int .i64 sq], .int .i64 bd] w (ToldP L (.recd x ep sq bd) w) := by
  obtain ⟨F, cs, rfl⟩ := hx.fn
  have hb : Below w.heap.size w (((w.alloc (.cells #[.func (.func F) #[] cs] 74)).alloc (.cells #[.int .i64 ep, .int .i64 sq] 81)).alloc (.cells #[.int .i64 bd] 3)) := (((Below.refl _ _).alloc (Nat.le_refl _) _).alloc (by simp) _).alloc (by simp; omega) _
  have hs : (((w.alloc (.cells #[.func (.func F) #[] cs] 74)).alloc (.cells #[.int .i64 ep, .int .i64 sq] 81)).alloc (.cells #[.int .i64 bd] 3)).heap.size = w.heap.size + 3 := by simp
  have a1 : (((w.alloc (.cells #[.func (.func F) #[] cs] 74)).alloc (.cells #[.int .i64 ep, .int .i64 sq] 81)).alloc (.cells #[.int .i64 bd] 3)).heap[w.heap.size]? = some (.cells #[.func (.func F) #[] cs] 74 (0, 0)) := (heap_alloc_old _ _ (by simp; omega)).trans ((heap_alloc_old _ _ (by simp)).trans (heap_alloc_new w _))
  have a2 : (((w.alloc (.cells #[.func (.func F) #[] cs] 74)).alloc (.cells #[.int .i64 ep, .int .i64 sq] 81)).alloc (.cells #[.int .i64 bd] 3)).heap[w.heap.size + 1]? = some (.cells #[.int .i64 ep, .int .i64 sq] 81 (0, 0)) := (heap_alloc_old _ _ (by simp)).trans (by have := heap_alloc_new (w.alloc (.cells #[.func (.func F) #[] cs] 74)) (.cells #[.int .i64 ep, .int .i64 sq] 81); simpa using this)
  have a3 : (((w.alloc (.cells #[.func (.func F) #[] cs] 74)).alloc (.cells #[.int .i64 ep, .int .i64 sq] 81)).alloc (.cells #[.int .i64 bd] 3)).heap[w.heap.size + 2]? = some (.cells #[.int .i64 bd] 3 (0, 0)) := by have := heap_alloc_new ((w.alloc (.cells #[.func (.func F) #[] cs] 74)).alloc (.cells #[.int .i64 ep, .int .i64 sq] 81)) (.cells #[.int .i64 bd] 3); rw [show ((w.alloc (.cells #[.func (.func F) #[] cs] 74)).alloc (.cells #[.int .i64 ep, .int .i64 sq] 81)).heap.size = w.heap.size + 2 by simp] at this; exact this
  have HF : Hid (ToldP L (.recd x ep sq bd) w (.returned (.func (.func 77) #[] #[.pointer (some ⟨w.heap.size, 0, none⟩), .pointer (some ⟨w.heap.size + 1, 0, none⟩), .pointer (some ⟨w.heap.size + 1 + 1, 0, none⟩)])) (((w.alloc (.cells #[.func (.func F) #[] cs] 74)).alloc (.cells #[.int .i64 ep, .int .i64 sq] 81)).alloc (.cells #[.int .i64 bd] 3))) := ⟨_, rfl, toldIs_recd x ep sq bd _ ⟨hL, by omega⟩ ⟨by omega, by omega⟩ ⟨by omega, by omega⟩ a1 a2 a3 (ToldIs.on hb hx), hb⟩
  have hmf : ∀ (fn : Fn) (first cap : Array Value) (w : World), (Instr.makeFunc fn first cap).run Try.prog w = .ok (.func fn first cap) w := fun _ _ _ _ => rfl
  clear hb hs a1 a2 a3 hx hL
  go_enter Try.func60, Try.ntmps60
  go_wp2
  go_ret
  exact HF.out
end Go.Proofs.Ytnjihmailppjkaa
