/- The program's packets (chapter 16), told: Packet.sum, Packet.asTold. -/
import Derived.Test.YtclnhjkmhemebaaTold7
import Derived.Test.YtclnhjkmhemebaaPack16
import Derived.Test.YtclnhjkmhemebaaImplW16
import Derived.Test.YtclnhjkmhemebaaLawClip
import Derived.OpenShut
import Derived.Test.YtclnhjkmhemebaaRegionK
import Derived.Test.YtclnhjkmhemebaaRegionA
namespace Go.Proofs.Ytclnhjkmhemebaa
open Go.RowKit Go.Maps
set_option linter.unusedVariables false
/-- Numbers that are those of a right packet. -/
def PkR (s d h v : Int) : Prop := (0 ≤ s ∧ s ≤ 255) ∧ (0 ≤ d ∧ d ≤ 255) ∧ (1 ≤ h ∧ h ≤ 9) ∧ (0 ≤ v ∧ v ≤ 999)
theorem pkR_of {p : Nd} (h : pkOk p = true) : PkR p.k p.n p.a p.b := by
  unfold pkOk inB at h
  simp at h
  unfold PkR; omega
set_option maxHeartbeats 800000 in
theorem pkSum_any (s d h v : Int) (w : World) (hp : PkR s d h v) : Calls Try.prog 119 #[.agg #[.int .i64 s, .int .i64 d, .int .i64 h, .int .i64 v]] w fun e w' => e = .returned (.int .i64 (s + d + h + v)) ∧ Below w.heap.size w w' := by
  have HB : Hid (Below w.heap.size w (w.alloc (.cells #[.int .i64 s, .int .i64 d, .int .i64 h, .int .i64 v] 52))) := (Below.refl _ _).alloc (Nat.le_refl _) _
  unfold PkR at hp
  have h1 : IntKind.i64.wrap (s + d) = s + d := IntWalk.i64_in _ ⟨by omega, by omega⟩
  have h2 : IntKind.i64.wrap (s + d + h) = s + d + h := IntWalk.i64_in _ ⟨by omega, by omega⟩
  have h3 : IntKind.i64.wrap (s + d + h + v) = s + d + h + v := IntWalk.i64_in _ ⟨by omega, by omega⟩
  clear hp
  go_enter Try.func119, Try.ntmps119
  go_wp2
  go_ret
  exact ⟨rfl, HB.out⟩
theorem zl19 {α : Type} (l : List α) (h : l.length = 19) : ∃ a0 a1 a2 a3 a4 a5 a6 a7 a8 a9 a10 a11 a12 a13 a14 a15 a16 a17 a18, l = [a0, a1, a2, a3, a4, a5, a6, a7, a8, a9, a10, a11, a12, a13, a14, a15, a16, a17, a18] := by
  match l, h with
  | [a0, a1, a2, a3, a4, a5, a6, a7, a8, a9, a10, a11, a12, a13, a14, a15, a16, a17, a18], _ => exact ⟨a0, a1, a2, a3, a4, a5, a6, a7, a8, a9, a10, a11, a12, a13, a14, a15, a16, a17, a18, rfl⟩
set_option maxHeartbeats 3200000 in
set_option maxRecDepth 20000 in
theorem pkTold_any {L : Nat} (p0 p1 p2 p3 : Int) (w : World) (hL : L ≤ w.heap.size) (hp : PkR p0 p1 p2 p3) :
    Calls Try.prog 94 #[.agg #[.int .i64 p0, .int .i64 p1, .int .i64 p2, .int .i64 p3]] w (ToldP L (.list [.atom 90, .atom p0, .atom p1, .atom p2, .atom p3, .atom (p0 + p1 + p2 + p3)]) w) := by
  have HPR : Hid (PkR p0 p1 p2 p3) := hp
  clear hp
  have hb0 : Below w.heap.size w (w.alloc (.cells #[.int .i64 p0, .int .i64 p1, .int .i64 p2, .int .i64 p3] 52)) := (Below.refl _ _).alloc (Nat.le_refl _) _
  have h0 := heap_alloc_new w (.cells #[.int .i64 p0, .int .i64 p1, .int .i64 p2, .int .i64 p3] 52)
  have HI : Hid ((w.alloc (.cells #[.int .i64 p0, .int .i64 p1, .int .i64 p2, .int .i64 p3] 52)).heap[w.heap.size]? = some (.cells #[.int .i64 p0, .int .i64 p1, .int .i64 p2, .int .i64 p3] 52 (0, 0)) ∧ w.heap.size < (w.alloc (.cells #[.int .i64 p0, .int .i64 p1, .int .i64 p2, .int .i64 p3] 52)).heap.size ∧ Below w.heap.size w (w.alloc (.cells #[.int .i64 p0, .int .i64 p1, .int .i64 p2, .int .i64 p3] 52))) := ⟨h0, by simp, hb0⟩
  clear h0 hb0
  go_enter Try.func94, Try.ntmps94
  go_wp2_with fail
  generalize w.alloc (.cells #[.int .i64 p0, .int .i64 p1, .int .i64 p2, .int .i64 p3] 52) = w1 at HI ⊢
  refine wp_region_list (I := fun w' => w'.heap[w.heap.size]? = some (.cells #[.int .i64 p0, .int .i64 p1, .int .i64 p2, .int .i64 p3] 52 (0, 0)) ∧ w.heap.size < w'.heap.size ∧ Below w.heap.size w w') (R := fun _ w' w'' => Below w'.heap.size w' w'')
    (fs := #[⟨[3], fun vs w' => ∃ v, vs = [v] ∧ ToldIs L w'.heap.size w' (.atom 90) v⟩, ⟨[4], fun vs _ => vs = [.pointer (some ⟨w.heap.size, 0, none⟩)]⟩, ⟨[5], fun vs _ => vs = [.int .i64 p0]⟩, ⟨[6], fun vs w' => ∃ v, vs = [v] ∧ ToldIs L w'.heap.size w' (.atom p0) v⟩, ⟨[7], fun vs _ => vs = [.pointer (some ⟨w.heap.size, 1, none⟩)]⟩, ⟨[8], fun vs _ => vs = [.int .i64 p1]⟩, ⟨[9], fun vs w' => ∃ v, vs = [v] ∧ ToldIs L w'.heap.size w' (.atom p1) v⟩, ⟨[10], fun vs _ => vs = [.pointer (some ⟨w.heap.size, 2, none⟩)]⟩, ⟨[11], fun vs _ => vs = [.int .i64 p2]⟩, ⟨[12], fun vs w' => ∃ v, vs = [v] ∧ ToldIs L w'.heap.size w' (.atom p2) v⟩, ⟨[13], fun vs _ => vs = [.pointer (some ⟨w.heap.size, 3, none⟩)]⟩, ⟨[14], fun vs _ => vs = [.int .i64 p3]⟩, ⟨[15], fun vs w' => ∃ v, vs = [v] ∧ ToldIs L w'.heap.size w' (.atom p3) v⟩, ⟨[16], fun vs _ => vs = [.agg #[.int .i64 p0, .int .i64 p1, .int .i64 p2, .int .i64 p3]]⟩, ⟨[17], fun vs _ => vs = [.int .i64 (p0 + p1 + p2 + p3)]⟩, ⟨[18], fun vs w' => ∃ v, vs = [v] ∧ ToldIs L w'.heap.size w' (.atom (p0 + p1 + p2 + p3)) v⟩, ⟨[19], fun vs w' => ∃ h u0 u3 u6 u9 u12 u15, vs = [.slice (some ⟨h, 0, none⟩) 6 6] ∧ (L ≤ h ∧ h < w'.heap.size) ∧ w'.heap[h]? = some (.cells #[u0, u3, u6, u9, u12, u15] 124 (0, 0)) ∧ ToldAll L w'.heap.size w' [.atom 90, .atom p0, .atom p1, .atom p2, .atom p3, .atom (p0 + p1 + p2 + p3)] [u0, u3, u6, u9, u12, u15]⟩, ⟨[20], fun vs w' => ∃ v, vs = [v] ∧ ToldIs L w'.heap.size w' (.list [.atom 90, .atom p0, .atom p1, .atom p2, .atom p3, .atom (p0 + p1 + p2 + p3)]) v⟩, ⟨[2], fun vs w' => ∃ v, vs = [v] ∧ ToldIs L w'.heap.size w' (.list [.atom 90, .atom p0, .atom p1, .atom p2, .atom p3, .atom (p0 + p1 + p2 + p3)]) v⟩])
    (by kernel_rfl) 21 rfl (by kernel_rfl) ?stab ?istab ?start ?exec ?fin
  case stab =>
    intro k i f hki hf
    have hk : k < 19 := (Array.getElem?_eq_some_iff.1 hf).1
    rcases (show k = 0 ∨ k = 1 ∨ k = 2 ∨ k = 3 ∨ k = 4 ∨ k = 5 ∨ k = 6 ∨ k = 7 ∨ k = 8 ∨ k = 9 ∨ k = 10 ∨ k = 11 ∨ k = 12 ∨ k = 13 ∨ k = 14 ∨ k = 15 ∨ k = 16 ∨ k = 17 ∨ k = 18 by omega) with rfl | rfl | rfl | rfl | rfl | rfl | rfl | rfl | rfl | rfl | rfl | rfl | rfl | rfl | rfl | rfl | rfl | rfl | rfl
    all_goals
      simp only [List.getElem?_toArray, List.getElem?_cons_succ, List.getElem?_cons_zero, Option.some.injEq] at hf
      subst hf
    · exact fun vs w' w'' hR ⟨v, h1, h2⟩ => ⟨v, h1, ToldIs.nx hR h2⟩
    · exact fun vs _ _ _ h => h
    · exact fun vs _ _ _ h => h
    · exact fun vs w' w'' hR ⟨v, h1, h2⟩ => ⟨v, h1, ToldIs.nx hR h2⟩
    · exact fun vs _ _ _ h => h
    · exact fun vs _ _ _ h => h
    · exact fun vs w' w'' hR ⟨v, h1, h2⟩ => ⟨v, h1, ToldIs.nx hR h2⟩
    · exact fun vs _ _ _ h => h
    · exact fun vs _ _ _ h => h
    · exact fun vs w' w'' hR ⟨v, h1, h2⟩ => ⟨v, h1, ToldIs.nx hR h2⟩
    · exact fun vs _ _ _ h => h
    · exact fun vs _ _ _ h => h
    · exact fun vs w' w'' hR ⟨v, h1, h2⟩ => ⟨v, h1, ToldIs.nx hR h2⟩
    · exact fun vs _ _ _ h => h
    · exact fun vs _ _ _ h => h
    · exact fun vs w' w'' hR ⟨v, h1, h2⟩ => ⟨v, h1, ToldIs.nx hR h2⟩
    · exact fun vs w' w'' hR ⟨h, u0, u3, u6, u9, u12, u15, h1, h2, h3, h4⟩ => ⟨h, u0, u3, u6, u9, u12, u15, h1, ⟨h2.1, by have := Below.size hR; omega⟩, (Below.block hR h h2.2).trans h3, ⟨h4.1, fun m hm => ToldIs.nx hR (h4.2 m hm)⟩⟩
    · exact fun vs w' w'' hR ⟨v, h1, h2⟩ => ⟨v, h1, ToldIs.nx hR h2⟩
    · exact fun vs w' w'' hR ⟨v, h1, h2⟩ => ⟨v, h1, ToldIs.nx hR h2⟩
  case istab => exact fun i w' w'' hR ⟨h1, h3, h4⟩ => ⟨(Below.block hR _ h3).trans h1, by have := Below.size hR; omega, h4.trans (Below.mono hR (by omega))⟩
  case start => exact ⟨HI.out.1, HI.out.2.1, HI.out.2.2.drew⟩
  case exec =>
    intro i o f hi hf act wq hsz hI hold hpre
    have hi11 : i < 19 := (Array.getElem?_eq_some_iff.1 hi).1
    rcases (show i = 0 ∨ i = 1 ∨ i = 2 ∨ i = 3 ∨ i = 4 ∨ i = 5 ∨ i = 6 ∨ i = 7 ∨ i = 8 ∨ i = 9 ∨ i = 10 ∨ i = 11 ∨ i = 12 ∨ i = 13 ∨ i = 14 ∨ i = 15 ∨ i = 16 ∨ i = 17 ∨ i = 18 by omega) with rfl | rfl | rfl | rfl | rfl | rfl | rfl | rfl | rfl | rfl | rfl | rfl | rfl | rfl | rfl | rfl | rfl | rfl | rfl
    all_goals
      simp only [List.getElem?_toArray, List.getElem?_cons_succ, List.getElem?_cons_zero, Option.some.injEq] at hi hf
      subst hi hf
    · refine exec_call (f := 118) (args := #[.int .i64 90]) (by simp [go_sem, Act.eval]) ?_
      refine Calls.mono (toldAtom_any (L := L) 90 wq (by have := hI.2.1; omega)) ?_
      rintro e w2 ⟨v2, rfl, l2, hb2⟩
      exact ⟨_, rfl, _, rfl, hb2, ⟨_, by show [(act.put _ _).tmps.getD _ undef] = _; rw [put_same _ _ _ (by omega)], l2⟩⟩
    · have g1 : act.tmps.getD 1 undef = .pointer (some ⟨w.heap.size, 0, none⟩) := hold 1 (free_spec (by kernel_rfl))
      refine exec_same (v := .pointer (some ⟨w.heap.size, 0, none⟩)) ?_ ⟨_, rfl, Below.refl _ _, at_one (by omega) rfl⟩
      simp [go_sem, Act.eval, g1]
    · have g4 : act.tmps.getD 4 undef = .pointer (some ⟨w.heap.size, 0, none⟩) := by have := of_one (hpre ⟨1, .data⟩ (by simp) rfl _ rfl); simpa using this
      have hc : wq.cell? ⟨w.heap.size, 0, none⟩ = some (.int .i64 p0) := (cell_of_row _ _ 0 _ _ _ hI.1).trans rfl
      refine exec_same (v := .int .i64 p0) ?_ ⟨_, rfl, Below.refl _ _, at_one (by omega) rfl⟩
      simp [go_sem, Act.eval, g4, hc]
    · have g5 : act.tmps.getD 5 undef = .int .i64 p0 := by have := of_one (hpre ⟨2, .data⟩ (by simp) rfl _ rfl); simpa using this
      refine exec_call (f := 118) (args := #[.int .i64 p0]) (by simp [go_sem, Act.eval, g5]) ?_
      refine Calls.mono (toldAtom_any (L := L) p0 wq (by have := hI.2.1; omega)) ?_
      rintro e w2 ⟨v2, rfl, l2, hb2⟩
      exact ⟨_, rfl, _, rfl, hb2, ⟨_, by show [(act.put _ _).tmps.getD _ undef] = _; rw [put_same _ _ _ (by omega)], l2⟩⟩
    · have g1 : act.tmps.getD 1 undef = .pointer (some ⟨w.heap.size, 0, none⟩) := hold 1 (free_spec (by kernel_rfl))
      refine exec_same (v := .pointer (some ⟨w.heap.size, 1, none⟩)) ?_ ⟨_, rfl, Below.refl _ _, at_one (by omega) rfl⟩
      simp [go_sem, Act.eval, g1]
    · have g7 : act.tmps.getD 7 undef = .pointer (some ⟨w.heap.size, 1, none⟩) := by have := of_one (hpre ⟨4, .data⟩ (by simp) rfl _ rfl); simpa using this
      have hc : wq.cell? ⟨w.heap.size, 1, none⟩ = some (.int .i64 p1) := (cell_of_row _ _ 1 _ _ _ hI.1).trans rfl
      refine exec_same (v := .int .i64 p1) ?_ ⟨_, rfl, Below.refl _ _, at_one (by omega) rfl⟩
      simp [go_sem, Act.eval, g7, hc]
    · have g8 : act.tmps.getD 8 undef = .int .i64 p1 := by have := of_one (hpre ⟨5, .data⟩ (by simp) rfl _ rfl); simpa using this
      refine exec_call (f := 118) (args := #[.int .i64 p1]) (by simp [go_sem, Act.eval, g8]) ?_
      refine Calls.mono (toldAtom_any (L := L) p1 wq (by have := hI.2.1; omega)) ?_
      rintro e w2 ⟨v2, rfl, l2, hb2⟩
      exact ⟨_, rfl, _, rfl, hb2, ⟨_, by show [(act.put _ _).tmps.getD _ undef] = _; rw [put_same _ _ _ (by omega)], l2⟩⟩
    · have g1 : act.tmps.getD 1 undef = .pointer (some ⟨w.heap.size, 0, none⟩) := hold 1 (free_spec (by kernel_rfl))
      refine exec_same (v := .pointer (some ⟨w.heap.size, 2, none⟩)) ?_ ⟨_, rfl, Below.refl _ _, at_one (by omega) rfl⟩
      simp [go_sem, Act.eval, g1]
    · have g10 : act.tmps.getD 10 undef = .pointer (some ⟨w.heap.size, 2, none⟩) := by have := of_one (hpre ⟨7, .data⟩ (by simp) rfl _ rfl); simpa using this
      have hc : wq.cell? ⟨w.heap.size, 2, none⟩ = some (.int .i64 p2) := (cell_of_row _ _ 2 _ _ _ hI.1).trans rfl
      refine exec_same (v := .int .i64 p2) ?_ ⟨_, rfl, Below.refl _ _, at_one (by omega) rfl⟩
      simp [go_sem, Act.eval, g10, hc]
    · have g11 : act.tmps.getD 11 undef = .int .i64 p2 := by have := of_one (hpre ⟨8, .data⟩ (by simp) rfl _ rfl); simpa using this
      refine exec_call (f := 118) (args := #[.int .i64 p2]) (by simp [go_sem, Act.eval, g11]) ?_
      refine Calls.mono (toldAtom_any (L := L) p2 wq (by have := hI.2.1; omega)) ?_
      rintro e w2 ⟨v2, rfl, l2, hb2⟩
      exact ⟨_, rfl, _, rfl, hb2, ⟨_, by show [(act.put _ _).tmps.getD _ undef] = _; rw [put_same _ _ _ (by omega)], l2⟩⟩
    · have g1 : act.tmps.getD 1 undef = .pointer (some ⟨w.heap.size, 0, none⟩) := hold 1 (free_spec (by kernel_rfl))
      refine exec_same (v := .pointer (some ⟨w.heap.size, 3, none⟩)) ?_ ⟨_, rfl, Below.refl _ _, at_one (by omega) rfl⟩
      simp [go_sem, Act.eval, g1]
    · have g13 : act.tmps.getD 13 undef = .pointer (some ⟨w.heap.size, 3, none⟩) := by have := of_one (hpre ⟨10, .data⟩ (by simp) rfl _ rfl); simpa using this
      have hc : wq.cell? ⟨w.heap.size, 3, none⟩ = some (.int .i64 p3) := (cell_of_row _ _ 3 _ _ _ hI.1).trans rfl
      refine exec_same (v := .int .i64 p3) ?_ ⟨_, rfl, Below.refl _ _, at_one (by omega) rfl⟩
      simp [go_sem, Act.eval, g13, hc]
    · have g14 : act.tmps.getD 14 undef = .int .i64 p3 := by have := of_one (hpre ⟨11, .data⟩ (by simp) rfl _ rfl); simpa using this
      refine exec_call (f := 118) (args := #[.int .i64 p3]) (by simp [go_sem, Act.eval, g14]) ?_
      refine Calls.mono (toldAtom_any (L := L) p3 wq (by have := hI.2.1; omega)) ?_
      rintro e w2 ⟨v2, rfl, l2, hb2⟩
      exact ⟨_, rfl, _, rfl, hb2, ⟨_, by show [(act.put _ _).tmps.getD _ undef] = _; rw [put_same _ _ _ (by omega)], l2⟩⟩
    · have g1 : act.tmps.getD 1 undef = .pointer (some ⟨w.heap.size, 0, none⟩) := hold 1 (free_spec (by kernel_rfl))
      have hc0 : wq.cell? ⟨w.heap.size, 0, none⟩ = some (.int .i64 p0) := (cell_of_row _ _ 0 _ _ _ hI.1).trans rfl
      have hc1 : wq.cell? ⟨w.heap.size, 1, none⟩ = some (.int .i64 p1) := (cell_of_row _ _ 1 _ _ _ hI.1).trans rfl
      have hc2 : wq.cell? ⟨w.heap.size, 2, none⟩ = some (.int .i64 p2) := (cell_of_row _ _ 2 _ _ _ hI.1).trans rfl
      have hc3 : wq.cell? ⟨w.heap.size, 3, none⟩ = some (.int .i64 p3) := (cell_of_row _ _ 3 _ _ _ hI.1).trans rfl
      refine exec_same (v := .agg #[.int .i64 p0, .int .i64 p1, .int .i64 p2, .int .i64 p3]) ?_ ⟨_, rfl, Below.refl _ _, at_one (by omega) rfl⟩
      simp [go_sem, Act.eval, g1, hc0, hc1, hc2, hc3]
    · have g16 : act.tmps.getD 16 undef = .agg #[.int .i64 p0, .int .i64 p1, .int .i64 p2, .int .i64 p3] := by have := of_one (hpre ⟨13, .data⟩ (by simp) rfl _ rfl); simpa using this
      refine exec_call (f := 119) (args := #[.agg #[.int .i64 p0, .int .i64 p1, .int .i64 p2, .int .i64 p3]]) (by simp [go_sem, Act.eval, g16]) ?_
      refine Calls.mono (pkSum_any p0 p1 p2 p3 wq HPR.out) ?_
      rintro e w2 ⟨rfl, hb2⟩
      exact ⟨_, rfl, _, rfl, hb2, at_one (by omega) rfl⟩
    · have g17 : act.tmps.getD 17 undef = .int .i64 (p0 + p1 + p2 + p3) := by have := of_one (hpre ⟨14, .data⟩ (by simp) rfl _ rfl); simpa using this
      refine exec_call (f := 118) (args := #[.int .i64 (p0 + p1 + p2 + p3)]) (by simp [go_sem, Act.eval, g17]) ?_
      refine Calls.mono (toldAtom_any (L := L) (p0 + p1 + p2 + p3) wq (by have := hI.2.1; omega)) ?_
      rintro e w2 ⟨v2, rfl, l2, hb2⟩
      exact ⟨_, rfl, _, rfl, hb2, ⟨_, by show [(act.put _ _).tmps.getD _ undef] = _; rw [put_same _ _ _ (by omega)], l2⟩⟩
    · obtain ⟨u0, h1_u0, lu0⟩ := hpre ⟨0, .data⟩ (by simp) rfl _ rfl
      have g3 : act.tmps.getD 3 undef = u0 := by simpa using h1_u0
      have g3' : act.tmps[3]?.getD undef = u0 := by simpa using g3
      obtain ⟨u3, h1_u3, lu3⟩ := hpre ⟨3, .data⟩ (by simp) rfl _ rfl
      have g6 : act.tmps.getD 6 undef = u3 := by simpa using h1_u3
      have g6' : act.tmps[6]?.getD undef = u3 := by simpa using g6
      obtain ⟨u6, h1_u6, lu6⟩ := hpre ⟨6, .data⟩ (by simp) rfl _ rfl
      have g9 : act.tmps.getD 9 undef = u6 := by simpa using h1_u6
      have g9' : act.tmps[9]?.getD undef = u6 := by simpa using g9
      obtain ⟨u9, h1_u9, lu9⟩ := hpre ⟨9, .data⟩ (by simp) rfl _ rfl
      have g12 : act.tmps.getD 12 undef = u9 := by simpa using h1_u9
      have g12' : act.tmps[12]?.getD undef = u9 := by simpa using g12
      obtain ⟨u12, h1_u12, lu12⟩ := hpre ⟨12, .data⟩ (by simp) rfl _ rfl
      have g15 : act.tmps.getD 15 undef = u12 := by simpa using h1_u12
      have g15' : act.tmps[15]?.getD undef = u12 := by simpa using g15
      obtain ⟨u15, h1_u15, lu15⟩ := hpre ⟨15, .data⟩ (by simp) rfl _ rfl
      have g18 : act.tmps.getD 18 undef = u15 := by simpa using h1_u15
      have g18' : act.tmps[18]?.getD undef = u15 := by simpa using g18
      obtain ⟨Fu0, cu0, rfl⟩ := lu0.fn
      obtain ⟨Fu3, cu3, rfl⟩ := lu3.fn
      obtain ⟨Fu6, cu6, rfl⟩ := lu6.fn
      obtain ⟨Fu9, cu9, rfl⟩ := lu9.fn
      obtain ⟨Fu12, cu12, rfl⟩ := lu12.fn
      obtain ⟨Fu15, cu15, rfl⟩ := lu15.fn
      have hbN : Below wq.heap.size wq (wq.alloc (.cells #[.func (.func Fu0) #[] cu0, .func (.func Fu3) #[] cu3, .func (.func Fu6) #[] cu6, .func (.func Fu9) #[] cu9, .func (.func Fu12) #[] cu12, .func (.func Fu15) #[] cu15] 124)) := (Below.refl _ _).alloc (Nat.le_refl _) _
      have hall : ToldAll L (wq.alloc (.cells #[.func (.func Fu0) #[] cu0, .func (.func Fu3) #[] cu3, .func (.func Fu6) #[] cu6, .func (.func Fu9) #[] cu9, .func (.func Fu12) #[] cu12, .func (.func Fu15) #[] cu15] 124)).heap.size (wq.alloc (.cells #[.func (.func Fu0) #[] cu0, .func (.func Fu3) #[] cu3, .func (.func Fu6) #[] cu6, .func (.func Fu9) #[] cu9, .func (.func Fu12) #[] cu12, .func (.func Fu15) #[] cu15] 124)) [.atom 90, .atom p0, .atom p1, .atom p2, .atom p3, .atom (p0 + p1 + p2 + p3)] [.func (.func Fu0) #[] cu0, .func (.func Fu3) #[] cu3, .func (.func Fu6) #[] cu6, .func (.func Fu9) #[] cu9, .func (.func Fu12) #[] cu12, .func (.func Fu15) #[] cu15] := by
        refine ⟨rfl, fun m hm => ?_⟩
        rcases (show m = 0 ∨ m = 1 ∨ m = 2 ∨ m = 3 ∨ m = 4 ∨ m = 5 by simp at hm; omega) with rfl | rfl | rfl | rfl | rfl | rfl
        · exact ToldIs.nx hbN lu0
        · exact ToldIs.nx hbN lu3
        · exact ToldIs.nx hbN lu6
        · exact ToldIs.nx hbN lu9
        · exact ToldIs.nx hbN lu12
        · exact ToldIs.nx hbN lu15
      refine exec_made (w' := wq.alloc (.cells #[.func (.func Fu0) #[] cu0, .func (.func Fu3) #[] cu3, .func (.func Fu6) #[] cu6, .func (.func Fu9) #[] cu9, .func (.func Fu12) #[] cu12, .func (.func Fu15) #[] cu15] 124)) (v := .slice (some ⟨wq.heap.size, 0, none⟩) 6 6) ?_ ⟨_, rfl, hbN, ⟨_, _, _, _, _, _, _,  by show [(act.put _ _).tmps.getD _ undef] = _; rw [put_same _ _ _ (by omega)], ⟨by have := hI.2.1; omega, by simp⟩, heap_alloc_new _ _, hall⟩⟩
      simp [go_sem, Act.eval, g3', g6', g9', g12', g15', g18']
    · obtain ⟨h, u0, u3, u6, u9, u12, u15, h1, h2, h3, h4⟩ := hpre ⟨16, .data⟩ (by simp) rfl _ rfl
      have g19 : act.tmps.getD 19 undef = .slice (some ⟨h, 0, none⟩) 6 6 := by simpa using h1
      refine exec_call (f := 117) (args := #[.slice (some ⟨h, 0, none⟩) 6 6]) (by simp [go_sem, Act.eval, g19]) ?_
      refine Calls.mono (toldList_any _ [u0, u3, u6, u9, u12, u15] wq (by have := hI.2.1; omega) h2 h3 h4) ?_
      rintro e w2 ⟨v2, rfl, l2, hb2⟩
      exact ⟨_, rfl, _, rfl, hb2, ⟨_, by show [(act.put _ _).tmps.getD _ undef] = _; rw [put_same _ _ _ (by omega)], l2⟩⟩
    · obtain ⟨ux, h1_ux, lux⟩ := hpre ⟨17, .data⟩ (by simp) rfl _ rfl
      have g20 : act.tmps.getD 20 undef = ux := by simpa using h1_ux
      have g20' : act.tmps[20]?.getD undef = ux := by simpa using g20
      refine exec_same (v := ux) ?_ ⟨_, rfl, Below.refl _ _, ⟨_, by show [(act.put _ _).tmps.getD _ undef] = _; rw [put_same _ _ _ (by omega)], lux⟩⟩
      simp [go_sem, Act.eval, g20]
  case fin =>
    intro zs w5 hzl hI hF
    obtain ⟨z0, z1, z2, z3, z4, z5, z6, z7, z8, z9, z10, z11, z12, z13, z14, z15, z16, z17, z18, rfl⟩ := zl19 zs hzl
    obtain ⟨vr, hv, lr⟩ := of_one (hF 18 _ rfl)
    simp only [List.cons.injEq, and_true] at hv
    have hs3 := last_is (i := 18) (v := z18) (n := 21) hv (by kernel_rfl) rfl rfl (by omega)
    clear hv
    subst hs3
    obtain ⟨Fl, cl, rfl⟩ := lr.fn
    have HK : Hid (ToldP L (.list [.atom 90, .atom p0, .atom p1, .atom p2, .atom p3, .atom (p0 + p1 + p2 + p3)]) w (.returned (.func (.func Fl) #[] cl)) w5) := ⟨_, rfl, lr, hI.2.2⟩
    clear hF lr hI hL
    simp only [putAll, Act.put, List.setIfInBounds_toArray, List.set_cons_succ, List.set_cons_zero]
    go_wp2
    go_ret
    exact HK.out
end Go.Proofs.Ytclnhjkmhemebaa
