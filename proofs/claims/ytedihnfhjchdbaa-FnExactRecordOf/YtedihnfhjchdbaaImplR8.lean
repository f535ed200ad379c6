/- The program's RecordOf (chapter 8): a record is told by closures, put whole or not at all. -/
import Derived.Test.YtedihnfhjchdbaaRec8
import Derived.Test.YtedihnfhjchdbaaListP
import Derived.Test.YtedihnfhjchdbaaTold7
import Derived.Test.YtedihnfhjchdbaaLawClip
import Derived.OpenShut
import Derived.Test.YtedihnfhjchdbaaRegionK
import Derived.Test.YtedihnfhjchdbaaRegionA
namespace Go.Proofs.Ytedihnfhjchdbaa
open Go.RowKit Go.Maps
set_option linter.unusedVariables false
set_option maxHeartbeats 1600000 in
theorem within_any (ep sq : Int) (w : World) : Calls Try.prog 81 #[.agg #[.int .i64 ep, .int .i64 sq]] w fun e w' => e = .returned (.bool (inB ep 0 8 && inB sq 0 9999)) ∧ Below w.heap.size w w' := by
  have hb : Below w.heap.size w (w.alloc (.cells #[.int .i64 ep, .int .i64 sq] 86)) := (Below.refl _ _).alloc (Nat.le_refl _) _
  have h0 := heap_alloc_new w (.cells #[.int .i64 ep, .int .i64 sq] 86)
  have c0 : (w.alloc (.cells #[.int .i64 ep, .int .i64 sq] 86)).cell? ⟨w.heap.size, 0, none⟩ = some (.int .i64 ep) := (cell_of_row _ _ 0 _ _ _ h0).trans rfl
  have c1 : (w.alloc (.cells #[.int .i64 ep, .int .i64 sq] 86)).cell? ⟨w.heap.size, 1, none⟩ = some (.int .i64 sq) := (cell_of_row _ _ 1 _ _ _ h0).trans rfl
  have HB : Hid _ := hb
  clear hb h0
  by_cases h1 : 0 ≤ ep
  · by_cases h2 : ep ≤ 8
    · by_cases h3 : 0 ≤ sq
      · by_cases h4 : sq ≤ 9999
        · have HE : Hid ((inB ep 0 8 && inB sq 0 9999) = true) := by show _ = _; unfold inB; simp [h1, h2, h3, h4]
          go_enter Try.func81, Try.ntmps81
          go_wp2
          go_ret
          exact ⟨by rw [HE.out]; rfl, HB.out⟩
        · have HE : Hid ((inB ep 0 8 && inB sq 0 9999) = false) := by show _ = _; unfold inB; simp [h4]
          go_enter Try.func81, Try.ntmps81
          go_wp2
          go_ret
          exact ⟨by rw [HE.out]; rfl, HB.out⟩
      · have HE : Hid ((inB ep 0 8 && inB sq 0 9999) = false) := by show _ = _; unfold inB; simp [h3]
        go_enter Try.func81, Try.ntmps81
        go_wp2
        go_ret
        exact ⟨by rw [HE.out]; rfl, HB.out⟩
    · have HE : Hid ((inB ep 0 8 && inB sq 0 9999) = false) := by show _ = _; unfold inB; simp [h2]
      go_enter Try.func81, Try.ntmps81
      go_wp2
      go_ret
      exact ⟨by rw [HE.out]; rfl, HB.out⟩
  · have HE : Hid ((inB ep 0 8 && inB sq 0 9999) = false) := by show _ = _; unfold inB; simp [h1]
    go_enter Try.func81, Try.ntmps81
    go_wp2
    go_ret
    exact ⟨by rw [HE.out]; rfl, HB.out⟩
/-- What a region that makes memory alone keeps: a term that is told. -/
theorem ToldIs.on {L : Nat} {w w' : World} {t : Tl} {v : Value} (hb : Below w.heap.size w w') (h : ToldIs L w.heap.size w t v) : ToldIs L w'.heap.size w' t v := ToldIs.base hb.size _ (ToldIs.later hb _ h)
theorem ToldAll.on {L : Nat} {w w' : World} {xs : List Tl} {vs : List Value} (hb : Below w.heap.size w w') (h : ToldAll L w.heap.size w xs vs) : ToldAll L w'.heap.size w' xs vs := ⟨h.1, fun m hm => (h.2 m hm).on hb⟩
theorem toldAll3 {L B : Nat} {w : World} {x y z : Tl} {a b c : Value} (h1 : ToldIs L B w x a) (h2 : ToldIs L B w y b) (h3 : ToldIs L B w z c) : ToldAll L B w [x, y, z] [a, b, c] := by
  refine ⟨rfl, fun m hm => ?_⟩
  rcases (show m = 0 ∨ m = 1 ∨ m = 2 by simp at hm; omega) with rfl | rfl | rfl
  · exact h1
  · exact h2
  · exact h3

set_option maxHeartbeats 3200000 in
set_option maxRecDepth 20000 in
theorem numAhead_any {L : Nat} (ep sq : Int) (t : Tl) (v : Value) (w : World) (hL : L ≤ w.heap.size) (hx : ToldIs L w.heap.size w t v) :
    Calls Try.prog 83 #[.agg #[.int .i64 ep, .int .i64 sq], v] w (ToldP L (.list [.atom ep, .atom sq, t]) w) := by
  obtain ⟨F, cs, rfl⟩ := hx.fn
  have hb0 : Below w.heap.size w (w.alloc (.cells #[.int .i64 ep, .int .i64 sq] 86)) := (Below.refl _ _).alloc (Nat.le_refl _) _
  have h0 := heap_alloc_new w (.cells #[.int .i64 ep, .int .i64 sq] 86)
  have HI : Hid ((w.alloc (.cells #[.int .i64 ep, .int .i64 sq] 86)).heap[w.heap.size]? = some (.cells #[.int .i64 ep, .int .i64 sq] 86 (0, 0)) ∧ ToldIs L (w.alloc (.cells #[.int .i64 ep, .int .i64 sq] 86)).heap.size (w.alloc (.cells #[.int .i64 ep, .int .i64 sq] 86)) t (.func (.func F) #[] cs) ∧ w.heap.size < (w.alloc (.cells #[.int .i64 ep, .int .i64 sq] 86)).heap.size ∧ Below w.heap.size w (w.alloc (.cells #[.int .i64 ep, .int .i64 sq] 86))) := ⟨h0, hx.on hb0, by simp, hb0⟩
  clear h0 hb0 hx
  go_enter Try.func83, Try.ntmps83
  go_wp2_with fail
  generalize w.alloc (.cells #[.int .i64 ep, .int .i64 sq] 86) = w1 at HI ⊢
  refine wp_region_list (I := fun w' => w'.heap[w.heap.size]? = some (.cells #[.int .i64 ep, .int .i64 sq] 86 (0, 0)) ∧ ToldIs L w'.heap.size w' t (.func (.func F) #[] cs) ∧ w.heap.size < w'.heap.size ∧ Below w.heap.size w w') (R := fun _ w' w'' => Below w'.heap.size w' w'')
    (fs := #[⟨[5], fun vs _ => vs = [.pointer (some ⟨w.heap.size, 0, none⟩)]⟩, ⟨[6], fun vs _ => vs = [.int .i64 ep]⟩, ⟨[7], fun vs w' => ∃ v, vs = [v] ∧ ToldIs L w'.heap.size w' (.atom ep) v⟩, ⟨[8], fun vs _ => vs = [.pointer (some ⟨w.heap.size, 1, none⟩)]⟩, ⟨[9], fun vs _ => vs = [.int .i64 sq]⟩, ⟨[10], fun vs w' => ∃ v, vs = [v] ∧ ToldIs L w'.heap.size w' (.atom sq) v⟩, ⟨[11], fun vs _ => vs = [.func (.func F) #[] cs]⟩, ⟨[12], fun vs w' => ∃ h u0 u1, vs = [.slice (some ⟨h, 0, none⟩) 3 3] ∧ (L ≤ h ∧ h < w'.heap.size) ∧ w'.heap[h]? = some (.cells #[u0, u1, .func (.func F) #[] cs] 59 (0, 0)) ∧ ToldAll L w'.heap.size w' [.atom ep, .atom sq, t] [u0, u1, .func (.func F) #[] cs]⟩, ⟨[13], fun vs w' => ∃ v, vs = [v] ∧ ToldIs L w'.heap.size w' (.list [.atom ep, .atom sq, t]) v⟩, ⟨[4], fun vs w' => ∃ v, vs = [v] ∧ ToldIs L w'.heap.size w' (.list [.atom ep, .atom sq, t]) v⟩])
    (by kernel_rfl) 14 rfl (by kernel_rfl) ?stab ?istab ?start ?exec ?fin
  case stab =>
    intro k i f hki hf
    have hk : k < 10 := (Array.getElem?_eq_some_iff.1 hf).1
    rcases (show k = 0 ∨ k = 1 ∨ k = 2 ∨ k = 3 ∨ k = 4 ∨ k = 5 ∨ k = 6 ∨ k = 7 ∨ k = 8 ∨ k = 9 by omega) with rfl | rfl | rfl | rfl | rfl | rfl | rfl | rfl | rfl | rfl
    all_goals
      simp only [List.getElem?_toArray, List.getElem?_cons_succ, List.getElem?_cons_zero, Option.some.injEq] at hf
      subst hf
    · exact fun vs _ _ _ h => h
    · exact fun vs _ _ _ h => h
    · exact fun vs w' w'' hR ⟨v, h1, h2⟩ => ⟨v, h1, h2.on hR⟩
    · exact fun vs _ _ _ h => h
    · exact fun vs _ _ _ h => h
    · exact fun vs w' w'' hR ⟨v, h1, h2⟩ => ⟨v, h1, h2.on hR⟩
    · exact fun vs _ _ _ h => h
    · exact fun vs w' w'' hR ⟨h, u0, u1, h1, h2, h3, h4⟩ => ⟨h, u0, u1, h1, ⟨h2.1, by have := Below.size hR; omega⟩, (Below.block hR h h2.2).trans h3, h4.on hR⟩
    · exact fun vs w' w'' hR ⟨v, h1, h2⟩ => ⟨v, h1, h2.on hR⟩
    · exact fun vs w' w'' hR ⟨v, h1, h2⟩ => ⟨v, h1, h2.on hR⟩
  case istab => exact fun i w' w'' hR ⟨h1, h2, h3, h4⟩ => ⟨(Below.block hR _ h3).trans h1, h2.on hR, by have := Below.size hR; omega, h4.trans (Below.mono hR (by omega))⟩
  case start => exact ⟨HI.out.1, ToldIs.kept (fun _ _ _ => rfl) _ HI.out.2.1, HI.out.2.2.1, HI.out.2.2.2.drew⟩
  case exec =>
    intro i o f hi hf act wq hsz hI hold hpre
    have hi11 : i < 10 := (Array.getElem?_eq_some_iff.1 hi).1
    rcases (show i = 0 ∨ i = 1 ∨ i = 2 ∨ i = 3 ∨ i = 4 ∨ i = 5 ∨ i = 6 ∨ i = 7 ∨ i = 8 ∨ i = 9 by omega) with rfl | rfl | rfl | rfl | rfl | rfl | rfl | rfl | rfl | rfl
    all_goals
      simp only [List.getElem?_toArray, List.getElem?_cons_succ, List.getElem?_cons_zero, Option.some.injEq] at hi hf
      subst hi hf
    · have g2 : act.tmps.getD 2 undef = .pointer (some ⟨w.heap.size, 0, none⟩) := hold 2 (free_spec (by kernel_rfl))
      refine exec_same (v := .pointer (some ⟨w.heap.size, 0, none⟩)) ?_ ⟨_, rfl, Below.refl _ _, at_one (by omega) rfl⟩
      simp [go_sem, Act.eval, g2]
    · have g5 : act.tmps.getD 5 undef = .pointer (some ⟨w.heap.size, 0, none⟩) := by have := of_one (hpre ⟨0, .data⟩ (by simp) rfl _ rfl); simpa using this
      have hc : wq.cell? ⟨w.heap.size, 0, none⟩ = some (.int .i64 ep) := (cell_of_row _ _ 0 _ _ _ hI.1).trans rfl
      refine exec_same (v := .int .i64 ep) ?_ ⟨_, rfl, Below.refl _ _, at_one (by omega) rfl⟩
      simp [go_sem, Act.eval, g5, hc]
    · have g6 : act.tmps.getD 6 undef = .int .i64 ep := by have := of_one (hpre ⟨1, .data⟩ (by simp) rfl _ rfl); simpa using this
      refine exec_call (f := 59) (args := #[.int .i64 ep]) (by simp [go_sem, Act.eval, g6]) ?_
      refine Calls.mono (toldAtom_any (L := L) ep wq (by have := hI.2.2.1; omega)) ?_
      rintro e w2 ⟨v2, rfl, l2, hb2⟩
      exact ⟨_, rfl, _, rfl, hb2, ⟨_, by show [(act.put _ _).tmps.getD _ undef] = _; rw [put_same _ _ _ (by omega)], l2⟩⟩
    · have g2 : act.tmps.getD 2 undef = .pointer (some ⟨w.heap.size, 0, none⟩) := hold 2 (free_spec (by kernel_rfl))
      refine exec_same (v := .pointer (some ⟨w.heap.size, 1, none⟩)) ?_ ⟨_, rfl, Below.refl _ _, at_one (by omega) rfl⟩
      simp [go_sem, Act.eval, g2]
    · have g8 : act.tmps.getD 8 undef = .pointer (some ⟨w.heap.size, 1, none⟩) := by have := of_one (hpre ⟨3, .data⟩ (by simp) rfl _ rfl); simpa using this
      have hc : wq.cell? ⟨w.heap.size, 1, none⟩ = some (.int .i64 sq) := (cell_of_row _ _ 1 _ _ _ hI.1).trans rfl
      refine exec_same (v := .int .i64 sq) ?_ ⟨_, rfl, Below.refl _ _, at_one (by omega) rfl⟩
      simp [go_sem, Act.eval, g8, hc]
    · have g9 : act.tmps.getD 9 undef = .int .i64 sq := by have := of_one (hpre ⟨4, .data⟩ (by simp) rfl _ rfl); simpa using this
      refine exec_call (f := 59) (args := #[.int .i64 sq]) (by simp [go_sem, Act.eval, g9]) ?_
      refine Calls.mono (toldAtom_any (L := L) sq wq (by have := hI.2.2.1; omega)) ?_
      rintro e w2 ⟨v2, rfl, l2, hb2⟩
      exact ⟨_, rfl, _, rfl, hb2, ⟨_, by show [(act.put _ _).tmps.getD _ undef] = _; rw [put_same _ _ _ (by omega)], l2⟩⟩
    · have g1 : act.tmps.getD 1 undef = .func (.func F) #[] cs := hold 1 (free_spec (by kernel_rfl))
      refine exec_same (v := .func (.func F) #[] cs) ?_ ⟨_, rfl, Below.refl _ _, at_one (by omega) rfl⟩
      simp [go_sem, Act.eval, g1]
    · obtain ⟨ua, h1_ua, lua⟩ := hpre ⟨2, .data⟩ (by simp) rfl _ rfl
      have g7 : act.tmps.getD 7 undef = ua := by simpa using h1_ua
      have g7' : act.tmps[7]?.getD undef = ua := by simpa using g7
      obtain ⟨ub, h1_ub, lub⟩ := hpre ⟨5, .data⟩ (by simp) rfl _ rfl
      have g10 : act.tmps.getD 10 undef = ub := by simpa using h1_ub
      have g10' : act.tmps[10]?.getD undef = ub := by simpa using g10
      have g11 : act.tmps.getD 11 undef = .func (.func F) #[] cs := by have := of_one (hpre ⟨6, .data⟩ (by simp) rfl _ rfl); simpa using this
      have g11' : act.tmps[11]?.getD undef = .func (.func F) #[] cs := by simpa using g11
      obtain ⟨Fa, ca, rfl⟩ := lua.fn
      obtain ⟨Fb, cb, rfl⟩ := lub.fn
      have hbN : Below wq.heap.size wq (wq.alloc (.cells #[.func (.func Fa) #[] ca, .func (.func Fb) #[] cb, .func (.func F) #[] cs] 59)) := (Below.refl _ _).alloc (Nat.le_refl _) _
      refine exec_made (w' := wq.alloc (.cells #[.func (.func Fa) #[] ca, .func (.func Fb) #[] cb, .func (.func F) #[] cs] 59)) (v := .slice (some ⟨wq.heap.size, 0, none⟩) 3 3) ?_ ⟨_, rfl, hbN, ⟨_, _, _, by show [(act.put _ _).tmps.getD _ undef] = _; rw [put_same _ _ _ (by omega)], ⟨by have := hI.2.2.1; omega, by simp⟩, heap_alloc_new _ _, (toldAll3 lua lub hI.2.1).on hbN⟩⟩
      simp [go_sem, Act.eval, g7', g10', g11']
    · obtain ⟨h, u0, u1, h1, h2, h3, h4⟩ := hpre ⟨7, .data⟩ (by simp) rfl _ rfl
      have g12 : act.tmps.getD 12 undef = .slice (some ⟨h, 0, none⟩) 3 3 := by simpa using h1
      refine exec_call (f := 112) (args := #[.slice (some ⟨h, 0, none⟩) 3 3]) (by simp [go_sem, Act.eval, g12]) ?_
      refine Calls.mono (toldList_any _ [u0, u1, .func (.func F) #[] cs] wq (by have := hI.2.2.1; omega) h2 h3 h4) ?_
      rintro e w2 ⟨v2, rfl, l2, hb2⟩
      exact ⟨_, rfl, _, rfl, hb2, ⟨_, by show [(act.put _ _).tmps.getD _ undef] = _; rw [put_same _ _ _ (by omega)], l2⟩⟩
    · obtain ⟨ux, h1_ux, lux⟩ := hpre ⟨8, .data⟩ (by simp) rfl _ rfl
      have g13 : act.tmps.getD 13 undef = ux := by simpa using h1_ux
      have g13' : act.tmps[13]?.getD undef = ux := by simpa using g13
      refine exec_same (v := ux) ?_ ⟨_, rfl, Below.refl _ _, ⟨_, by show [(act.put _ _).tmps.getD _ undef] = _; rw [put_same _ _ _ (by omega)], lux⟩⟩
      simp [go_sem, Act.eval, g13]
  case fin =>
    intro zs w5 hzl hI hF
    obtain ⟨z0, z1, z2, z3, z4, z5, z6, z7, z8, z9, rfl⟩ := list10 zs hzl
    obtain ⟨vr, hv, lr⟩ := of_one (hF 9 _ rfl)
    simp only [List.cons.injEq, and_true] at hv
    have hs3 := last_is (i := 9) (v := z9) (n := 14) hv (by kernel_rfl) rfl rfl (by omega)
    clear hv
    subst hs3
    have HE : Hid (ToldP L (.list [.atom ep, .atom sq, t]) w (.returned z9) w5) := ⟨_, rfl, lr, hI.2.2.2⟩
    clear hF lr hI
    simp only [putAll, Act.put, List.setIfInBounds_toArray, List.set_cons_succ, List.set_cons_zero]
    go_wp2
    go_ret
    exact HE.out
theorem putA_full {ns : List Nd} {x : Nd} (h : 3000 ≤ ns.length) : putA ns x = ns := by unfold putA; rw [if_neg (by omega)]
theorem findFrom_app (x : Nd) : ∀ (l t : List Nd) (i : Nat), findFrom x l i ≠ -1 → findFrom x (l ++ t) i = findFrom x l i
  | [], t, i, h => absurd rfl h
  | y :: l, t, i, h => by
    rw [List.cons_append, findFrom, findFrom] at *
    split
    · rfl
    · rename_i h1
      rw [if_neg h1] at h
      exact findFrom_app x l t (i + 1) h
theorem findFrom_new (x : Nd) : ∀ (l t : List Nd) (i : Nat), findFrom x l i = -1 → findFrom x (l ++ x :: t) i = ((i + l.length : Nat) : Int)
  | [], t, i, h => by simp [findFrom]
  | y :: l, t, i, h => by
    rw [findFrom] at h
    rw [List.cons_append, findFrom]
    split at h
    · omega
    · rename_i h1
      rw [if_neg h1, findFrom_new x l t (i + 1) h]
      simp; omega
/-- What was put, or can't be, is the same when it is put again. -/
theorem put_again {x : Nd} {ns ms : List Nd} (hx : ∀ m m', nodeB x m = nodeB x m') (hp : putA ns x <+: ms) (hfull : 3000 ≤ ns.length → ms = ns) : putA ms x = ms ∧ putK ms x = putK ns x := by
  by_cases hn : nodeB x ns.length = true
  · have hn2 : nodeB x ms.length = true := by rw [← hn]; exact hx _ _
    by_cases hl : ns.length < 3000
    · by_cases hf : findN ns x = -1
      · have e1 : putA ns x = ns ++ [x] := by unfold putA; rw [if_pos ⟨hn, hf, hl⟩]
        have e2 : putK ns x = (ns.length : Int) := by unfold putK; rw [if_pos hn, if_pos ⟨hf, hl⟩]
        rw [e1] at hp
        obtain ⟨t, rfl⟩ := hp
        have e3 : findN (ns ++ [x] ++ t) x = (ns.length : Int) := by
          unfold findN at hf ⊢
          have := findFrom_new x ns t 0 hf
          simpa using this
        rw [e2]
        refine ⟨?_, ?_⟩
        · unfold putA; rw [if_neg (by rw [e3]; omega)]
        · unfold putK; rw [if_pos hn2, if_neg (by rw [e3]; omega), e3]
      · have e1 : putA ns x = ns := by unfold putA; rw [if_neg (fun h => hf h.2.1)]
        have e2 : putK ns x = findN ns x := by unfold putK; rw [if_pos hn, if_neg (fun h => hf h.1)]
        rw [e1] at hp
        obtain ⟨t, rfl⟩ := hp
        have e3 : findN (ns ++ t) x = findN ns x := findFrom_app x ns t 0 hf
        rw [e2]
        refine ⟨?_, ?_⟩
        · unfold putA; rw [if_neg (fun h => hf (by rw [← e3]; exact h.2.1))]
        · unfold putK; rw [if_pos hn2, if_neg (fun h => hf (by rw [← e3]; exact h.1)), e3]
    · have e := hfull (by omega)
      subst e
      exact ⟨putA_full (by omega), rfl⟩
  · have hn2 : ¬ nodeB x ms.length = true := by rw [hx ms.length ns.length]; exact hn
    refine ⟨?_, ?_⟩
    · unfold putA; rw [if_neg (fun h => hn2 h.1)]
    · unfold putK; rw [if_neg hn2, if_neg hn]
theorem atom_any (n : Int) (m m' : Int) : nodeB ⟨1, n, 0, 0⟩ m = nodeB ⟨1, n, 0, 0⟩ m' := by unfold nodeB; simp
def recT (key ep sq body : Int) : Tl := .list [.atom ep, .atom sq, .two 5 (.pl key) (.list [.atom ep, .atom sq, .pl body])]
theorem make_as8 {ns : List Nd} {k x y : Int} (h : ¬ (k = 1 ∨ k = 7)) : makeA ns k x y = putA ns (mkNd k x y) ∧ makeK ns k x y = putK ns (mkNd k x y) := by
  unfold makeA makeK; rw [if_neg h, if_neg h]; exact ⟨rfl, rfl⟩
theorem recT_f (ns : List Nd) (key ep sq body : Int) : (recT key ep sq body).f ns = recF ns key ep sq body := by
  obtain ⟨a1, b1⟩ := put_again (ns := ns) (ms := rcA2 ns ep sq) (atom_any ep) (show putA ns _ <+: _ from putA_preT _ _) (fun h => by unfold rcA2 rcA1; rw [putA_full h, putA_full h])
  obtain ⟨a2, b2⟩ := put_again (ns := rcA1 ns ep) (ms := rcA2 ns ep sq) (atom_any sq) (List.prefix_refl _) (fun h => putA_full h)
  have e : (Tl.list [.atom ep, .atom sq, .pl body]).f (rcA2 ns ep sq) = rcIn ns ep sq body := by
    show listF [putK (rcA2 ns ep sq) ⟨1, ep, 0, 0⟩, putK (putA (rcA2 ns ep sq) ⟨1, ep, 0, 0⟩) ⟨1, sq, 0, 0⟩, body] (putA (putA (rcA2 ns ep sq) ⟨1, ep, 0, 0⟩) ⟨1, sq, 0, 0⟩) = _
    rw [a1, a2, b1, b2]
    rfl
  show listF [putK ns ⟨1, ep, 0, 0⟩, putK (putA ns ⟨1, ep, 0, 0⟩) ⟨1, sq, 0, 0⟩, putK ((Tl.list [.atom ep, .atom sq, .pl body]).f (rcA2 ns ep sq)).1 (mkNd 5 key ((Tl.list [.atom ep, .atom sq, .pl body]).f (rcA2 ns ep sq)).2)] (putA ((Tl.list [.atom ep, .atom sq, .pl body]).f (rcA2 ns ep sq)).1 (mkNd 5 key ((Tl.list [.atom ep, .atom sq, .pl body]).f (rcA2 ns ep sq)).2)) = _
  rw [e]
  unfold recF rcA4 rcK4
  rw [(make_as8 (by omega)).1, (make_as8 (by omega)).2]
  rfl
theorem ifneg8 {K : Int} (h : K < 0 → K = -1) : (if K < 0 then -1 else K) = K := by
  split
  · rename_i h1; exact (h h1).symm
  · rfl
theorem rec_no {ns : List Nd} {key ep sq body : Int} (h : recB ns key ep sq body = false) : recK ns key ep sq body = -1 ∧ keptA ns (recA ns key ep sq body) (recK ns key ep sq body) = ns := by
  have e : recK ns key ep sq body = -1 := by unfold recK; rw [h]; rfl
  exact ⟨e, keptA_neg (by rw [e]; omega)⟩
/-- The three cells with which RecordOf begins. -/
structure Rc3 (w : World) (a : Option Addr) (n cap : Nat) (ep sq : Int) (w' : World) : Prop where
  below : Below w.heap.size w w'
  box : w'.heap[w.heap.size]? = some (.cells #[.slice a n cap] 26 (0, 0))
  res : w'.heap[w.heap.size + 1]? = some (.cells #[.slice none 0 0] 26 (0, 0))
  num : w'.heap[w.heap.size + 2]? = some (.cells #[.int .i64 ep, .int .i64 sq] 86 (0, 0))
  size : w.heap.size + 3 ≤ w'.heap.size
theorem Rc3.on {w : World} {a : Option Addr} {n cap : Nat} {ep sq : Int} {w' w'' : World} (h : Rc3 w a n cap ep sq w') (hb : Below w'.heap.size w' w'') : Rc3 w a n cap ep sq w'' := by
  have := h.size
  exact ⟨h.below.trans (hb.mono (by omega)), (hb.block _ (by omega)).trans h.box, (hb.block _ (by omega)).trans h.res, (hb.block _ (by omega)).trans h.num, by have := hb.size; omega⟩
theorem rc3_new (w : World) (a : Option Addr) (n cap : Nat) (ep sq : Int) : Rc3 w a n cap ep sq (((w.alloc (.cells #[.slice a n cap] 26)).alloc (.cells #[.slice none 0 0] 26)).alloc (.cells #[.int .i64 ep, .int .i64 sq] 86)) := by
  have e0 := heap_alloc_new w (.cells #[.slice a n cap] 26)
  have e1 := heap_alloc_new (w.alloc (.cells #[.slice a n cap] 26)) (.cells #[.slice none 0 0] 26)
  have e2 := heap_alloc_new ((w.alloc (.cells #[.slice a n cap] 26)).alloc (.cells #[.slice none 0 0] 26)) (.cells #[.int .i64 ep, .int .i64 sq] 86)
  have s1 : (w.alloc (.cells #[.slice a n cap] 26)).heap.size = w.heap.size + 1 := by simp
  have s2 : ((w.alloc (.cells #[.slice a n cap] 26)).alloc (.cells #[.slice none 0 0] 26)).heap.size = w.heap.size + 2 := by simp
  rw [s1] at e1
  rw [s2] at e2
  refine ⟨(((Below.refl _ _).alloc (Nat.le_refl _) _).alloc (by simp) _).alloc (by simp; omega) _, ?_, ?_, e2, by simp⟩
  · exact (heap_alloc_old _ _ (by rw [s2]; omega)).trans ((heap_alloc_old _ _ (by rw [s1]; omega)).trans e0)
  · exact (heap_alloc_old _ _ (by rw [s2]; omega)).trans e1
theorem num_next {w w' w'' : World} {s i : Nat} {x : Obj} (hR : RgR (w.heap.size + 1) s i w' w'') (hl : w.heap.size + 2 < w'.heap.size) (h : w'.heap[w.heap.size + 2]? = some x) : w''.heap[w.heap.size + 2]? = some x := by
  unfold RgR at hR
  split at hR
  · obtain ⟨u, rfl⟩ := hR
    exact (heap_setCell_other w' ⟨w.heap.size + 1, 0, none⟩ (w.heap.size + 2) u (show w.heap.size + 2 ≠ w.heap.size + 1 by omega)).trans h
  · exact (hR.block _ hl).trans h
set_option maxHeartbeats 3200000 in
set_option maxRecDepth 20000 in
theorem implRec_any (a : Option Addr) (cap : Nat) (ns : List Nd) (key ep sq body : Int) (w : World) (hl : ns.length ≤ 1048576) (hf : ∀ y ∈ ns, y.Fits) (h1 : (Lit.int .i64 key).wf = true) (h2 : (Lit.int .i64 ep).wf = true) (h3 : (Lit.int .i64 sq).wf = true) (h4 : (Lit.int .i64 body).wf = true) (ha : AddrN a cap) (hr : RowN w.heap.size w a ns) :
    Calls Try.prog 39 #[.agg #[.slice a ns.length cap], .int .i64 key, .int .i64 ep, .int .i64 sq, .int .i64 body] w fun e w' => ∃ v, e = .returned (.tuple #[.agg #[v], .int .i64 (recK ns key ep sq body)]) ∧ OwnC w.heap.size w' v (keptA ns (recA ns key ep sq body) (recK ns key ep sq body)) ∧ Below w.heap.size w w' := by
  obtain ⟨KK, hKK⟩ : ∃ X, recK ns key ep sq body = X := ⟨_, rfl⟩
  obtain ⟨KP, hKP⟩ : ∃ X, keptA ns (recA ns key ep sq body) (recK ns key ep sq body) = X := ⟨_, rfl⟩
  have HEQ : Hid (recK ns key ep sq body = KK ∧ keptA ns (recA ns key ep sq body) (recK ns key ep sq body) = KP) := ⟨hKK, hKP⟩
  rw [hKP, hKK]
  clear hKP hKK
  have HAD : Hid (AddrN a cap) := ha
  have HR : Hid (RowN w.heap.size w a ns) := hr
  have HF : Hid (∀ y ∈ ns, y.Fits) := hf
  have HW : Hid ((Lit.int .i64 key).wf = true ∧ (Lit.int .i64 ep).wf = true ∧ (Lit.int .i64 sq).wf = true ∧ (Lit.int .i64 body).wf = true) := ⟨h1, h2, h3, h4⟩
  clear ha hr hf h1 h2 h3 h4
  obtain ⟨d0, HD0⟩ : ∃ d, Hid ((inB ep 0 8 && inB sq 0 9999) = d) := ⟨_, rfl⟩
  obtain ⟨d1, HD1⟩ : ∃ d, Hid (okAt ns key = d) := ⟨_, rfl⟩
  obtain ⟨d2, HD2⟩ : ∃ d, Hid (okAt ns body = d) := ⟨_, rfl⟩
  go_enter Try.func39, Try.ntmps39
  go_wp2_with fail
  have HS0 : Hid (Rc3 w a ns.length cap ep sq (((w.alloc (.cells #[.slice a ns.length cap] 26)).alloc (.cells #[.slice none 0 0] 26)).alloc (.cells #[.int .i64 ep, .int .i64 sq] 86))) := rc3_new w a ns.length cap ep sq
  generalize ((w.alloc (.cells #[.slice a ns.length cap] 26)).alloc (.cells #[.slice none 0 0] 26)).alloc (.cells #[.int .i64 ep, .int .i64 sq] 86) = w0 at HS0 ⊢
  refine (within_any ep sq w0).mono ?_
  rintro e w1 ⟨rfl, hb⟩
  rw [HD0.out]
  have HS1 : Hid (Rc3 w a ns.length cap ep sq w1) := HS0.out.on hb
  have c1 : w1.cell? ⟨w.heap.size, 0, none⟩ = some (.slice a ns.length cap) := (cell_of_row _ _ 0 _ _ _ HS1.out.box).trans rfl
  clear hb HS0
  cases d0
  · have HNO : Hid (KK = -1 ∧ KP = ns) := by obtain ⟨e1, e2⟩ := HEQ.out; rw [← e1, ← e2]; exact rec_no (by unfold recB; rw [← Bool.and_assoc, HD0.out, Bool.false_and])
    go_wp2_with fail
    refine Calls.mono (asIs_any a cap ns w1 hl HAD.out (HR.out.grown HS1.out.below)) ?_
    rintro e w9 ⟨v9, rfl, ho, hb⟩
    obtain ⟨a9, c9, rfl, -, -⟩ := ho.row
    obtain ⟨r0, f0, HE⟩ := fin_arena (HS1.out.on hb).below (HS1.out.on hb).res (by have := HS1.out.size; omega) ho.clip
    clear ho hb c1 HS1
    go_wp2
    refine bodyPost_ret (res_cell2 rfl _ _ (w.heap.size + 1) 26 #[.slice a9 ns.length c9] (0, 0) _ rfl ?_ Try.underlying26 rfl arenaSize) rfl ?_
    · exact HE.out.1
    · exact ⟨_, by rw [HNO.out.1]; rfl, by rw [HNO.out.2]; exact HE.out.2.1, HE.out.2.2⟩
  go_wp2_with fail
  refine (implOk_any a cap ns key w1 hl (HR.out.grown HS1.out.below)).mono ?_
  rintro e w2 ⟨rfl, hb⟩
  rw [HD1.out]
  have HS2 : Hid (Rc3 w a ns.length cap ep sq w2) := HS1.out.on hb
  clear hb HS1 c1
  have c2 : w2.cell? ⟨w.heap.size, 0, none⟩ = some (.slice a ns.length cap) := (cell_of_row _ _ 0 _ _ _ HS2.out.box).trans rfl
  cases d1
  · have HNO : Hid (KK = -1 ∧ KP = ns) := by obtain ⟨e1, e2⟩ := HEQ.out; rw [← e1, ← e2]; exact rec_no (by unfold recB; rw [HD1.out, Bool.false_and, Bool.and_false, Bool.and_false])
    go_wp2_with fail
    refine Calls.mono (asIs_any a cap ns w2 hl HAD.out (HR.out.grown HS2.out.below)) ?_
    rintro e w9 ⟨v9, rfl, ho, hb⟩
    obtain ⟨a9, c9, rfl, -, -⟩ := ho.row
    obtain ⟨r0, f0, HE⟩ := fin_arena (HS2.out.on hb).below (HS2.out.on hb).res (by have := HS2.out.size; omega) ho.clip
    clear ho hb c2 HS2
    go_wp2
    refine bodyPost_ret (res_cell2 rfl _ _ (w.heap.size + 1) 26 #[.slice a9 ns.length c9] (0, 0) _ rfl ?_ Try.underlying26 rfl arenaSize) rfl ?_
    · exact HE.out.1
    · exact ⟨_, by rw [HNO.out.1]; rfl, by rw [HNO.out.2]; exact HE.out.2.1, HE.out.2.2⟩
  go_wp2_with fail
  refine (implOk_any a cap ns body w2 hl (HR.out.grown HS2.out.below)).mono ?_
  rintro e w3 ⟨rfl, hb⟩
  rw [HD2.out]
  have HS3 : Hid (Rc3 w a ns.length cap ep sq w3) := HS2.out.on hb
  clear hb HS2 c2
  have c3 : w3.cell? ⟨w.heap.size, 0, none⟩ = some (.slice a ns.length cap) := (cell_of_row _ _ 0 _ _ _ HS3.out.box).trans rfl
  cases d2
  · have HNO : Hid (KK = -1 ∧ KP = ns) := by obtain ⟨e1, e2⟩ := HEQ.out; rw [← e1, ← e2]; exact rec_no (by unfold recB; rw [HD2.out, Bool.and_false, Bool.and_false, Bool.and_false])
    go_wp2_with fail
    refine Calls.mono (asIs_any a cap ns w3 hl HAD.out (HR.out.grown HS3.out.below)) ?_
    rintro e w9 ⟨v9, rfl, ho, hb⟩
    obtain ⟨a9, c9, rfl, -, -⟩ := ho.row
    obtain ⟨r0, f0, HE⟩ := fin_arena (HS3.out.on hb).below (HS3.out.on hb).res (by have := HS3.out.size; omega) ho.clip
    clear ho hb c3 HS3
    go_wp2
    refine bodyPost_ret (res_cell2 rfl _ _ (w.heap.size + 1) 26 #[.slice a9 ns.length c9] (0, 0) _ rfl ?_ Try.underlying26 rfl arenaSize) rfl ?_
    · exact HE.out.1
    · exact ⟨_, by rw [HNO.out.1]; rfl, by rw [HNO.out.2]; exact HE.out.2.1, HE.out.2.2⟩
  have HYES : Hid (∀ (v : Value) (wz : World), Below w.heap.size w wz → ToldIs (w.heap.size + 2) wz.heap.size wz (.list [.atom ep, .atom sq, .two 5 (.pl key) (.list [.atom ep, .atom sq, .pl body])]) v → Calls Try.prog 55 #[v, .agg #[.slice a ns.length cap]] wz fun e w' => ∃ v', e = .returned (.tuple #[.agg #[v'], .int .i64 KK]) ∧ OwnC wz.heap.size w' v' KP ∧ Below wz.heap.size wz w') := fun v wz hb ht => by
    have hB : recB ns key ep sq body = true := by unfold recB; rw [HD1.out, HD2.out, ← Bool.and_assoc, HD0.out]; rfl
    obtain ⟨e1, e2⟩ := HEQ.out
    have hw : (recT key ep sq body).Wf := ⟨by simp, HW.out.2.1, HW.out.2.2.1, ⟨by omega, by omega, HW.out.1, by simp, HW.out.2.1, HW.out.2.2.1, HW.out.2.2.2, trivial⟩, trivial⟩
    have := putIn_any (recT key ep sq body) v a cap ns wz hw ht hl HF.out HAD.out (HR.out.grown hb)
    rw [recT_f, ifneg8 (K := (recF ns key ep sq body).2) (fun h => listF_neg _ _ h)] at this
    rw [← e1, ← e2]
    unfold recA recK
    rw [if_pos hB, if_pos hB]
    exact this
  clear HW HF HAD HR HD0 HD1 HD2 HEQ c3
  go_wp2_with fail
  refine wp_region_list (I := fun w' => Rc3 w a ns.length cap ep sq w') (R := fun _ w' w'' => Below w'.heap.size w' w'')
    (fs := #[⟨[36], fun vs _ => vs = [.int .i64 key]⟩, ⟨[37], fun vs w' => ∃ v, vs = [v] ∧ ToldIs (w.heap.size + 2) w'.heap.size w' (.pl key) v⟩, ⟨[38], fun vs _ => vs = [.agg #[.int .i64 ep, .int .i64 sq]]⟩, ⟨[39], fun vs _ => vs = [.int .i64 body]⟩, ⟨[40], fun vs w' => ∃ v, vs = [v] ∧ ToldIs (w.heap.size + 2) w'.heap.size w' (.pl body) v⟩, ⟨[41], fun vs w' => ∃ v, vs = [v] ∧ ToldIs (w.heap.size + 2) w'.heap.size w' (.list [.atom ep, .atom sq, .pl body]) v⟩, ⟨[42], fun vs w' => ∃ v, vs = [v] ∧ ToldIs (w.heap.size + 2) w'.heap.size w' (.two 5 (.pl key) (.list [.atom ep, .atom sq, .pl body])) v⟩, ⟨[13], fun vs w' => ∃ v, vs = [v] ∧ ToldIs (w.heap.size + 2) w'.heap.size w' (.two 5 (.pl key) (.list [.atom ep, .atom sq, .pl body])) v⟩])
    (by kernel_rfl) 50 rfl (by kernel_rfl) ?stab ?istab ?start ?exec ?fin
  case stab =>
    intro k i f hki hf
    have hk : k < 8 := (Array.getElem?_eq_some_iff.1 hf).1
    rcases (show k = 0 ∨ k = 1 ∨ k = 2 ∨ k = 3 ∨ k = 4 ∨ k = 5 ∨ k = 6 ∨ k = 7 by omega) with rfl | rfl | rfl | rfl | rfl | rfl | rfl | rfl
    all_goals
      simp only [List.getElem?_toArray, List.getElem?_cons_succ, List.getElem?_cons_zero, Option.some.injEq] at hf
      subst hf
    · exact fun vs _ _ _ h => h
    · exact fun vs w' w'' hR ⟨v, h1, h2⟩ => ⟨v, h1, h2.on hR⟩
    · exact fun vs _ _ _ h => h
    · exact fun vs _ _ _ h => h
    · exact fun vs w' w'' hR ⟨v, h1, h2⟩ => ⟨v, h1, h2.on hR⟩
    · exact fun vs w' w'' hR ⟨v, h1, h2⟩ => ⟨v, h1, h2.on hR⟩
    · exact fun vs w' w'' hR ⟨v, h1, h2⟩ => ⟨v, h1, h2.on hR⟩
    · exact fun vs w' w'' hR ⟨v, h1, h2⟩ => ⟨v, h1, h2.on hR⟩
  case istab => exact fun i w' w'' hR h => h.on hR
  case start => exact ⟨HS3.out.below.drew, HS3.out.box, HS3.out.res, HS3.out.num, HS3.out.size⟩
  case exec =>
    intro i o f hi hf act wq hsz hI hold hpre
    have hi11 : i < 8 := (Array.getElem?_eq_some_iff.1 hi).1
    rcases (show i = 0 ∨ i = 1 ∨ i = 2 ∨ i = 3 ∨ i = 4 ∨ i = 5 ∨ i = 6 ∨ i = 7 by omega) with rfl | rfl | rfl | rfl | rfl | rfl | rfl | rfl
    all_goals
      simp only [List.getElem?_toArray, List.getElem?_cons_succ, List.getElem?_cons_zero, Option.some.injEq] at hi hf
      subst hi hf
    · have g1 : act.tmps.getD 1 undef = .int .i64 key := hold 1 (free_spec (by kernel_rfl))
      refine exec_same (v := .int .i64 key) ?_ ⟨_, rfl, Below.refl _ _, at_one (by omega) rfl⟩
      simp [go_sem, Act.eval, g1]
    · have g36 : act.tmps.getD 36 undef = .int .i64 key := by have := of_one (hpre ⟨0, .data⟩ (by simp) rfl _ rfl); simpa using this
      refine exec_call (f := 54) (args := #[.int .i64 key]) (by simp [go_sem, Act.eval, g36]) ?_
      refine Calls.mono (toldAt_any (L := (w.heap.size + 2)) key wq (by have := hI.size; omega)) ?_
      rintro e w2 ⟨v2, rfl, l2, hb2⟩
      exact ⟨_, rfl, _, rfl, hb2, ⟨_, by show [(act.put _ _).tmps.getD _ undef] = _; rw [put_same _ _ _ (by omega)], l2⟩⟩
    · have g12 : act.tmps.getD 12 undef = .pointer (some ⟨w.heap.size + 2, 0, none⟩) := hold 12 (free_spec (by kernel_rfl))
      have hc0 : wq.cell? ⟨w.heap.size + 2, 0, none⟩ = some (.int .i64 ep) := (cell_of_row _ _ 0 _ _ _ hI.num).trans rfl
      have hc1 : wq.cell? ⟨w.heap.size + 2, 1, none⟩ = some (.int .i64 sq) := (cell_of_row _ _ 1 _ _ _ hI.num).trans rfl
      refine exec_same (v := .agg #[.int .i64 ep, .int .i64 sq]) ?_ ⟨_, rfl, Below.refl _ _, at_one (by omega) rfl⟩
      simp [go_sem, Act.eval, g12, hc0, hc1]
    · have g4 : act.tmps.getD 4 undef = .int .i64 body := hold 4 (free_spec (by kernel_rfl))
      refine exec_same (v := .int .i64 body) ?_ ⟨_, rfl, Below.refl _ _, at_one (by omega) rfl⟩
      simp [go_sem, Act.eval, g4]
    · have g39 : act.tmps.getD 39 undef = .int .i64 body := by have := of_one (hpre ⟨3, .data⟩ (by simp) rfl _ rfl); simpa using this
      refine exec_call (f := 54) (args := #[.int .i64 body]) (by simp [go_sem, Act.eval, g39]) ?_
      refine Calls.mono (toldAt_any (L := (w.heap.size + 2)) body wq (by have := hI.size; omega)) ?_
      rintro e w2 ⟨v2, rfl, l2, hb2⟩
      exact ⟨_, rfl, _, rfl, hb2, ⟨_, by show [(act.put _ _).tmps.getD _ undef] = _; rw [put_same _ _ _ (by omega)], l2⟩⟩
    · obtain ⟨ua, h1_ua, lua⟩ := hpre ⟨4, .data⟩ (by simp) rfl _ rfl
      have g40 : act.tmps.getD 40 undef = ua := by simpa using h1_ua
      have g40' : act.tmps[40]?.getD undef = ua := by simpa using g40
      have g38 : act.tmps.getD 38 undef = .agg #[.int .i64 ep, .int .i64 sq] := by have := of_one (hpre ⟨2, .data⟩ (by simp) rfl _ rfl); simpa using this
      refine exec_call (f := 83) (args := #[.agg #[.int .i64 ep, .int .i64 sq], ua]) (by simp [go_sem, Act.eval, g38, g40]) ?_
      refine Calls.mono (numAhead_any (L := (w.heap.size + 2)) ep sq _ ua wq (by have := hI.size; omega) lua) ?_
      rintro e w2 ⟨v2, rfl, l2, hb2⟩
      exact ⟨_, rfl, _, rfl, hb2, ⟨_, by show [(act.put _ _).tmps.getD _ undef] = _; rw [put_same _ _ _ (by omega)], l2⟩⟩
    · obtain ⟨ua, h1_ua, lua⟩ := hpre ⟨1, .data⟩ (by simp) rfl _ rfl
      have g37 : act.tmps.getD 37 undef = ua := by simpa using h1_ua
      have g37' : act.tmps[37]?.getD undef = ua := by simpa using g37
      obtain ⟨ub, h1_ub, lub⟩ := hpre ⟨5, .data⟩ (by simp) rfl _ rfl
      have g41 : act.tmps.getD 41 undef = ub := by simpa using h1_ub
      have g41' : act.tmps[41]?.getD undef = ub := by simpa using g41
      refine exec_call (f := 82) (args := #[.int .i64 5, ua, ub]) (by simp [go_sem, Act.eval, g37, g41]) ?_
      refine Calls.mono (toldTwo_any (L := (w.heap.size + 2)) 5 _ _ ua ub wq (by have := hI.size; omega) lua lub) ?_
      rintro e w2 ⟨v2, rfl, l2, hb2⟩
      exact ⟨_, rfl, _, rfl, hb2, ⟨_, by show [(act.put _ _).tmps.getD _ undef] = _; rw [put_same _ _ _ (by omega)], l2⟩⟩
    · obtain ⟨ux, h1_ux, lux⟩ := hpre ⟨6, .data⟩ (by simp) rfl _ rfl
      have g42 : act.tmps.getD 42 undef = ux := by simpa using h1_ux
      have g42' : act.tmps[42]?.getD undef = ux := by simpa using g42
      refine exec_same (v := ux) ?_ ⟨_, rfl, Below.refl _ _, ⟨_, by show [(act.put _ _).tmps.getD _ undef] = _; rw [put_same _ _ _ (by omega)], lux⟩⟩
      simp [go_sem, Act.eval, g42]
  case fin =>
    intro zs w5 hzl hI hF
    obtain ⟨z0, z1, z2, z3, z4, z5, z6, z7, rfl⟩ := list8 zs hzl
    obtain ⟨vr, hv, lr⟩ := of_one (hF 7 _ rfl)
    simp only [List.cons.injEq, and_true] at hv
    have hs3 := last_is (i := 7) (v := z7) (n := 50) hv (by kernel_rfl) rfl rfl (by omega)
    clear hv
    subst hs3
    obtain ⟨F7, cs7, rfl⟩ := lr.fn
    have HI5 : Hid (RgI w a ns.length cap [(.two 5 (.pl key) (.list [.atom ep, .atom sq, .pl body]), .func (.func F7) #[] cs7)] w5 ∧ w5.heap[w.heap.size + 2]? = some (.cells #[.int .i64 ep, .int .i64 sq] 86 (0, 0))) := ⟨⟨hI.below, hI.box, ⟨_, hI.res⟩, by have := hI.size; omega, fun p hp => by rw [List.mem_singleton] at hp; subst hp; exact lr⟩, hI.num⟩
    clear hF lr hI
    simp only [putAll, Act.put, List.setIfInBounds_toArray, List.set_cons_succ, List.set_cons_zero]
    go_wp2_with fail
    refine wp_region_list (I := fun w' => RgI w a ns.length cap [(.two 5 (.pl key) (.list [.atom ep, .atom sq, .pl body]), .func (.func F7) #[] cs7)] w' ∧ w'.heap[w.heap.size + 2]? = some (.cells #[.int .i64 ep, .int .i64 sq] 86 (0, 0))) (R := RgR (w.heap.size + 1) 7)
      (fs := #[⟨[43], fun vs _ => vs = [.agg #[.int .i64 ep, .int .i64 sq]]⟩, ⟨[44], fun vs w' => ∃ v, vs = [v] ∧ ToldIs (w.heap.size + 2) w'.heap.size w' (.two 5 (.pl key) (.list [.atom ep, .atom sq, .pl body])) v⟩, ⟨[45], fun vs w' => ∃ v, vs = [v] ∧ ToldIs (w.heap.size + 2) w'.heap.size w' (.list [.atom ep, .atom sq, .two 5 (.pl key) (.list [.atom ep, .atom sq, .pl body])]) v⟩, ⟨[46], fun vs _ => vs = [.agg #[.slice a ns.length cap]]⟩, ⟨[47], fun vs w' => ∃ v, vs = [.tuple #[.agg #[v], .int .i64 KK]] ∧ OwnC (w.heap.size + 2) w' v KP⟩, ⟨[48], fun vs w' => ∃ v, vs = [.agg #[v]] ∧ OwnC (w.heap.size + 2) w' v KP⟩, ⟨[49], fun vs _ => vs = [.int .i64 KK]⟩, ⟨[], fun vs w' => ∃ a9 c9, w'.heap[w.heap.size + 1]? = some (.cells #[.slice a9 KP.length c9] 26 (0, 0)) ∧ OwnC (w.heap.size + 2) w' (.slice a9 KP.length c9) KP⟩, ⟨[11], fun vs _ => vs = [.int .i64 KK]⟩])
      (by kernel_rfl) 50 rfl (by kernel_rfl) ?stab5 ?istab5 ?start5 ?exec5 ?fin5
    case stab5 =>
      intro k i f hki hf
      have hk : k < 9 := (Array.getElem?_eq_some_iff.1 hf).1
      rcases (show k = 0 ∨ k = 1 ∨ k = 2 ∨ k = 3 ∨ k = 4 ∨ k = 5 ∨ k = 6 ∨ k = 7 ∨ k = 8 by omega) with rfl | rfl | rfl | rfl | rfl | rfl | rfl | rfl | rfl
      all_goals
        simp only [List.getElem?_toArray, List.getElem?_cons_succ, List.getElem?_cons_zero, Option.some.injEq] at hf
        subst hf
      · exact fun vs _ _ _ h => h
      · exact fun vs w' w'' hR ⟨v, h1, h2⟩ => ⟨v, h1, RgR.told hR (by omega) _ h2⟩
      · exact fun vs w' w'' hR ⟨v, h1, h2⟩ => ⟨v, h1, RgR.told hR (by omega) _ h2⟩
      · exact fun vs _ _ _ h => h
      · exact fun vs w' w'' hR ⟨v, h1, h2⟩ => ⟨v, h1, RgR.own hR (by omega) h2⟩
      · exact fun vs w' w'' hR ⟨v, h1, h2⟩ => ⟨v, h1, RgR.own hR (by omega) h2⟩
      · exact fun vs _ _ _ h => h
      · exact fun vs w' w'' hR ⟨a9, c9, h1, h2⟩ => ⟨a9, c9, by have h3 := hR; unfold RgR at h3; rw [if_neg (Ne.symm hki)] at h3; exact (h3.block _ (Array.getElem?_eq_some_iff.1 h1).1).trans h1, RgR.own hR (by omega) h2⟩
      · exact fun vs _ _ _ h => h
    case istab5 => exact fun i w' w'' hR h => ⟨h.1.next hR, num_next hR (by have h5 : w.heap.size + 2 < w'.heap.size := (Array.getElem?_eq_some_iff.1 h.2).1; exact h5) h.2⟩
    case start5 => exact ⟨HI5.out.1.drew, HI5.out.2⟩
    case exec5 =>
      intro i o f hi hf act wq hsz hI hold hpre
      have hi11 : i < 9 := (Array.getElem?_eq_some_iff.1 hi).1
      rcases (show i = 0 ∨ i = 1 ∨ i = 2 ∨ i = 3 ∨ i = 4 ∨ i = 5 ∨ i = 6 ∨ i = 7 ∨ i = 8 by omega) with rfl | rfl | rfl | rfl | rfl | rfl | rfl | rfl | rfl
      all_goals
        simp only [List.getElem?_toArray, List.getElem?_cons_succ, List.getElem?_cons_zero, Option.some.injEq] at hi hf
        subst hi hf
      · have g12 : act.tmps.getD 12 undef = .pointer (some ⟨w.heap.size + 2, 0, none⟩) := hold 12 (free_spec (by kernel_rfl))
        have hc0 : wq.cell? ⟨w.heap.size + 2, 0, none⟩ = some (.int .i64 ep) := (cell_of_row _ _ 0 _ _ _ hI.2).trans rfl
        have hc1 : wq.cell? ⟨w.heap.size + 2, 1, none⟩ = some (.int .i64 sq) := (cell_of_row _ _ 1 _ _ _ hI.2).trans rfl
        refine exec_same (v := .agg #[.int .i64 ep, .int .i64 sq]) ?_ ⟨_, rfl, (by show (if _ then _ else _); rw [if_neg (by decide)]; exact Below.refl _ _), at_one (by omega) rfl⟩
        simp [go_sem, Act.eval, g12, hc0, hc1]
      · have g13 : act.tmps.getD 13 undef = .func (.func F7) #[] cs7 := hold 13 (free_spec (by kernel_rfl))
        refine exec_same (v := .func (.func F7) #[] cs7) ?_ ⟨_, rfl, (by show (if _ then _ else _); rw [if_neg (by decide)]; exact Below.refl _ _), ⟨_, by show [(act.put _ _).tmps.getD _ undef] = _; rw [put_same _ _ _ (by omega)], hI.1.told _ (List.mem_cons_self ..)⟩⟩
        simp [go_sem, Act.eval, g13]
      · obtain ⟨ua, h1_ua, lua⟩ := hpre ⟨1, .data⟩ (by simp) rfl _ rfl
        have g44 : act.tmps.getD 44 undef = ua := by simpa using h1_ua
        have g44' : act.tmps[44]?.getD undef = ua := by simpa using g44
        have g43 : act.tmps.getD 43 undef = .agg #[.int .i64 ep, .int .i64 sq] := by have := of_one (hpre ⟨0, .data⟩ (by simp) rfl _ rfl); simpa using this
        refine exec_call (f := 83) (args := #[.agg #[.int .i64 ep, .int .i64 sq], ua]) (by simp [go_sem, Act.eval, g43, g44]) ?_
        refine Calls.mono (numAhead_any (L := (w.heap.size + 2)) ep sq _ ua wq hI.1.size lua) ?_
        rintro e w2 ⟨v2, rfl, l2, hb2⟩
        exact ⟨_, rfl, _, rfl, (by show (if _ then _ else _); rw [if_neg (by decide)]; exact hb2), ⟨_, by show [(act.put _ _).tmps.getD _ undef] = _; rw [put_same _ _ _ (by omega)], l2⟩⟩
      · have g5 : act.tmps.getD 5 undef = .pointer (some ⟨w.heap.size, 0, none⟩) := hold 5 (free_spec (by kernel_rfl))
        have hc : wq.cell? ⟨w.heap.size, 0, none⟩ = some (.slice a ns.length cap) := (cell_of_row _ _ 0 _ _ _ hI.1.box).trans rfl
        refine exec_same (v := .agg #[.slice a ns.length cap]) ?_ ⟨_, rfl, (by show (if _ then _ else _); rw [if_neg (by decide)]; exact Below.refl _ _), at_one (by omega) rfl⟩
        simp [go_sem, Act.eval, g5, hc]
      · obtain ⟨ua, h1_ua, lua⟩ := hpre ⟨2, .data⟩ (by simp) rfl _ rfl
        have g45 : act.tmps.getD 45 undef = ua := by simpa using h1_ua
        have g45' : act.tmps[45]?.getD undef = ua := by simpa using g45
        have g46 : act.tmps.getD 46 undef = .agg #[.slice a ns.length cap] := by have := of_one (hpre ⟨3, .data⟩ (by simp) rfl _ rfl); simpa using this
        refine exec_call (f := 55) (args := #[ua, .agg #[.slice a ns.length cap]]) (by simp [go_sem, Act.eval, g45, g46]) ?_
        refine Calls.mono (HYES.out _ wq hI.1.below lua) ?_
        rintro e w2 ⟨v2, rfl, l2, hb2⟩
        exact ⟨_, rfl, _, rfl, (by show (if _ then _ else _); rw [if_neg (by decide)]; exact hb2), ⟨_, by show [(act.put _ _).tmps.getD _ undef] = _; rw [put_same _ _ _ (by omega)], l2.base (by have := hI.1.size; omega)⟩⟩
      · obtain ⟨uu, h1u, lu⟩ := hpre ⟨4, .data⟩ (by simp) rfl _ rfl
        have gu : act.tmps[47]?.getD undef = .tuple #[.agg #[uu], .int .i64 KK] := by simpa using h1u
        refine exec_same (v := .agg #[uu]) ?_ ⟨_, rfl, (by show (if _ then _ else _); rw [if_neg (by decide)]; exact Below.refl _ _), ⟨_, by show [(act.put _ _).tmps.getD _ undef] = _; rw [put_same _ _ _ (by omega)], lu⟩⟩
        simp [go_sem, Act.eval, gu]
      · obtain ⟨uu, h1u, lu⟩ := hpre ⟨4, .data⟩ (by simp) rfl _ rfl
        have gu : act.tmps[47]?.getD undef = .tuple #[.agg #[uu], .int .i64 KK] := by simpa using h1u
        refine exec_same (v := .int .i64 KK) ?_ ⟨_, rfl, (by show (if _ then _ else _); rw [if_neg (by decide)]; exact Below.refl _ _), at_one (by omega) rfl⟩
        simp [go_sem, Act.eval, gu]
      · obtain ⟨uu, h1u, lu⟩ := hpre ⟨5, .data⟩ (by simp) rfl _ rfl
        have gu : act.tmps[48]?.getD undef = .agg #[uu] := by simpa using h1u
        obtain ⟨a9, c9, rfl, -, -⟩ := lu.row
        have g10 : act.tmps.getD 10 undef = .pointer (some ⟨w.heap.size + 1, 0, none⟩) := hold 10 (free_spec (by kernel_rfl))
        obtain ⟨u0, hu0⟩ := hI.1.res
        have hcg : wq.cell? ⟨w.heap.size + 1, 0, none⟩ = some u0 := by rw [cell_of_row wq _ 0 _ _ _ hu0]; rfl
        have hfg : wq.frozen? ⟨w.heap.size + 1, 0, none⟩ = false := frozen_of_row wq _ 0 _ _ hu0
        have hRR : RgR (w.heap.size + 1) 7 7 wq (wq.setCell ⟨w.heap.size + 1, 0, none⟩ (.slice a9 KP.length c9)) := by show (if _ then _ else _); rw [if_pos rfl]; exact ⟨_, rfl⟩
        refine exec_skip (w' := wq.setCell ⟨w.heap.size + 1, 0, none⟩ (.slice a9 KP.length c9)) ?_ ⟨_, rfl, hRR, ⟨a9, c9, (heap_setCell_same wq _ 0 _ _ _ hu0).trans rfl, RgR.own hRR (by omega) lu⟩⟩
        simp [go_sem, Act.eval, g10, gu, hcg, hfg]
      · have g49 : act.tmps.getD 49 undef = .int .i64 KK := by have := of_one (hpre ⟨6, .data⟩ (by simp) rfl _ rfl); simpa using this
        refine exec_same (v := .int .i64 KK) ?_ ⟨_, rfl, (by show (if _ then _ else _); rw [if_neg (by decide)]; exact Below.refl _ _), at_one (by omega) rfl⟩
        simp [go_sem, Act.eval, g49]
    case fin5 =>
      intro zs w6 hzl hI hF
      obtain ⟨y0, y1, y2, y3, y4, y5, y6, y7, y8, rfl⟩ := list9 zs hzl
      obtain ⟨a9, c9, hbox, hown⟩ := hF 7 _ rfl
      have hint := of_one (hF 8 _ rfl)
      simp only [List.cons.injEq, and_true] at hint
      have hs3 := last_is (i := 8) (v := y8) (n := 50) hint (by kernel_rfl) rfl rfl (by omega)
      clear hint
      subst hs3
      clear hF
      simp only [putAll, Act.put, List.setIfInBounds_toArray, List.set_cons_succ, List.set_cons_zero]
      have HE : Hid _ := And.intro hbox (And.intro hown hI.1.below)
      clear hbox hI hown
      go_wp2
      refine bodyPost_ret (res_cell2 rfl _ _ (w.heap.size + 1) 26 #[.slice a9 KP.length c9] (0, 0) _ rfl ?_ Try.underlying26 rfl arenaSize) rfl ?_
      · exact HE.out.1
      · exact ⟨_, rfl, HE.out.2.1.base (by omega), HE.out.2.2⟩
end Go.Proofs.Ytedihnfhjchdbaa
