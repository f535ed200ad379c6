/- The drawing functions DrawArena and DrawReadTerm of the specification: what they hand back, within bounds. -/
import Derived.Test.YtffnadnndmmliaaDrawSpoilt
import Derived.WalkKit
import Derived.WalkLawsBesides
import Derived.WalkSpells
import Derived.Laws.Rows
import Derived.Laws.ResultCell
namespace Go.Proofs.Ytffnadnndmmliaa
open Go.RowKit Go.PlainAid
set_option linter.unusedVariables false
/-- The cursor stays where a box of another kind is written. -/
theorem cur_set {B g r : Nat} {w : World} {a' : Option Addr} {n c : Nat} {v : Value} (h : Cur B w g) (hr : w.heap[r]? = some (.cells #[.slice a' n c] 28 (0, 0))) (hne : r ≠ g) : Cur B (w.setCell ⟨r, 0, none⟩ v) g := by
  obtain ⟨h1, h2, a, len, cap, i, hh, h3, h4, h5⟩ := h
  refine ⟨h1, by simpa using h2, a, len, cap, i, hh, h3, ⟨h4.1, ?_⟩, (Below.heap_setCell _ _ _ _ (by simpa using Ne.symm hne)).trans h5⟩
  rcases h4.2 with h0 | ⟨b, off, rfl, hbB, hc⟩
  · exact .inl h0
  · refine .inr ⟨b, off, rfl, hbB, fun j hj => ?_⟩
    obtain ⟨z, hz, h6⟩ := hc j hj
    by_cases e : b = r
    · subst e
      rw [cell_of_row w b (off + j) _ _ _ hr] at hz
      rcases Nat.eq_zero_or_pos (off + j) with e0 | e0
      · rw [e0] at hz; simp at hz
      · rw [Array.getElem?_eq_none (by simp; omega)] at hz; simp at hz
    · refine ⟨z, ?_, h6⟩
      rw [World.cell?_of_block (w := w) (Below.heap_setCell _ _ _ _ (by simpa using e))]; exact hz
set_option maxHeartbeats 800000 in
theorem drawArena_any (a : Option Addr) (len cap : Nat) (w : World) (hc : CodeIn w.heap.size w a len) :
    Calls Try.prog 23 #[.slice a len cap] w fun e w' => ∃ v ns, e = .returned (.agg #[v]) ∧ 1 ≤ ns.length ∧ ns.length ≤ 13 ∧ allFrom ns ns 0 = true ∧ OwnN w.heap.size w' v ns ∧ Below w.heap.size w w' := by
  have hb0 : Below w.heap.size w (w.alloc (.cells #[.slice none 0 0] 28)) := (Below.refl _ _).alloc (Nat.le_refl _) _
  have hx0 := heap_alloc_new w (.cells #[.slice none 0 0] 28)
  have hc0 := codeIn_later hc hb0
  have hs0 : (w.alloc (.cells #[.slice none 0 0] 28)).heap.size = w.heap.size + 1 := by simp
  clear hc
  go_enter Try.func23, Try.ntmps23
  go_wp2_with fail
  generalize w.alloc (.cells #[.slice none 0 0] 28) = w0 at hb0 hx0 hc0 hs0 ⊢
  refine (new_any _ _ _ _ hc0).mono ?_
  rintro e w1 ⟨g, rfl, hc1, hb1⟩
  have hge := hc1.1
  go_wp2_with fail
  refine (arena_any w0.heap.size g _ hc1).mono ?_
  rintro e w2 ⟨v2, ns, rfl, hn1, hn2, hall, ho2, hc2, hg2⟩
  have hs1 := hb1.size
  have hs2 := hg2.size
  have hB2 : Below w0.heap.size w0 w2 := hb1.grown hg2 hb1.size (fun k hk => by cases hk; exact hge)
  obtain ⟨a2, cap2, rfl, _, _⟩ := ho2.row
  have hx2 := (hB2.block w.heap.size (by omega)).trans hx0
  have r0 : w2.cell? ⟨w.heap.size, 0, none⟩ = some (.slice none 0 0) := (cell_of_row _ _ 0 _ _ _ hx2).trans rfl
  have f0 : w2.frozen? ⟨w.heap.size, 0, none⟩ = false := frozen_of_row _ _ 0 _ _ hx2
  have HBL : Hid ((w2.setCell ⟨w.heap.size, 0, none⟩ (.slice a2 ns.length cap2)).heap[w.heap.size]? = some (.cells #[.slice a2 ns.length cap2] 28 (0, 0))) := (heap_setCell_same _ _ 0 _ _ _ hx2).trans rfl
  have HO : Hid (OwnN w.heap.size (w2.setCell ⟨w.heap.size, 0, none⟩ (.slice a2 ns.length cap2)) (.slice a2 ns.length cap2) ns) := OwnN.base (ownsRow_setCell_below ho2 (show w.heap.size < w1.heap.size by omega) _) (by omega)
  have HB : Hid (Below w.heap.size w (w2.setCell ⟨w.heap.size, 0, none⟩ (.slice a2 ns.length cap2))) := (hb0.trans (hB2.mono (by omega))).setCell (Nat.le_refl _) _
  have HALL : Hid _ := hall
  clear hc0 hc1 hc2 hg2 hb1 hx0 hx2 hB2 hb0 ho2 hall
  go_wp2
  refine bodyPost_ret (results_cell_row rfl _ _ w.heap.size 28 #[.slice a2 ns.length cap2] (0, 0) _ rfl ?_ Try.underlying28 rfl arenaSize) rfl ?_
  · exact HBL.out
  · exact ⟨_, ns, rfl, hn1, hn2, HALL.out, HO.out, HB.out⟩
set_option maxHeartbeats 3200000 in
set_option maxRecDepth 20000 in
theorem drawRT_any (a : Option Addr) (len cap : Nat) (w : World) (hc : CodeIn w.heap.size w a len) :
    Calls Try.prog 27 #[.slice a len cap] w fun e w' => ∃ v ms t, e = .returned (.tuple #[.agg #[v], .string t]) ∧ 1 ≤ ms.length ∧ ms.length ≤ 14 ∧ (∀ y ∈ ms, y.Fits) ∧ t.size ≤ 100000 ∧ OwnN w.heap.size w' v ms ∧ Below w.heap.size w w' := by
  have hb0 : Below w.heap.size w (w.alloc (.cells #[.slice none 0 0] 28)) := (Below.refl _ _).alloc (Nat.le_refl _) _
  have hx0 := heap_alloc_new w (.cells #[.slice none 0 0] 28)
  have hc0 := codeIn_later hc hb0
  have hs0 : (w.alloc (.cells #[.slice none 0 0] 28)).heap.size = w.heap.size + 1 := by simp
  clear hc
  go_enter Try.func27, Try.ntmps27
  go_wp2_with fail
  generalize w.alloc (.cells #[.slice none 0 0] 28) = w0 at hb0 hx0 hc0 hs0 ⊢
  refine (new_any _ _ _ _ hc0).mono ?_
  rintro e w1 ⟨g, rfl, hc1, hb1⟩
  have hge := hc1.1
  have hgl := hc1.2.1
  clear hc0
  go_wp2_with fail
  refine (below_any w0.heap.size g 5 _ (by omega) (by omega) hc1).mono ?_
  rintro e w2 ⟨x, rfl, hx, hc2, hg2⟩
  clear hc1
  go_wp2_with fail
  refine (arena_any w0.heap.size g _ hc2).mono ?_
  rintro e w3 ⟨v3, ns, rfl, hn1, hn2, hall, ho3, hc3, hg3⟩
  clear hc2
  have hs1 := hb1.size
  have hs2 := hg2.size
  have hs3 := hg3.size
  obtain ⟨a3, cap3, rfl, _, _⟩ := ho3.row
  have hB3 : Below w0.heap.size w0 w3 := (hb1.grown hg2 hb1.size (fun k hk => by cases hk; exact hge)).grown hg3 (by omega) (fun k hk => by cases hk; exact hge)
  have hb4 : Below w3.heap.size w3 (w3.alloc (.cells #[.slice a3 ns.length cap3] 28)) := (Below.refl _ _).alloc (Nat.le_refl _) _
  have ho4 := ho3.later hb4
  have hx4 := heap_alloc_new w3 (.cells #[.slice a3 ns.length cap3] 28)
  have hc4 := hc3.grown hb4
  have hB4 := hB3.trans (hb4.mono (by omega))
  have hs4 : (w3.alloc (.cells #[.slice a3 ns.length cap3] 28)).heap.size = w3.heap.size + 1 := by simp
  have HTX : Hid (Calls Try.prog 32 #[.agg #[.slice a3 ns.length cap3], .int .i64 ((ns.length : Int) - 1)] (w3.alloc (.cells #[.slice a3 ns.length cap3] 28)) fun e w' => e = .returned (.tuple #[.string (txS ns ((ns.length : Int) - 1)), .bool (txB ns ((ns.length : Int) - 1))]) ∧ Below (w3.alloc (.cells #[.slice a3 ns.length cap3] 28)).heap.size (w3.alloc (.cells #[.slice a3 ns.length cap3] 28)) w') := by
    obtain ⟨a', cap', e, _, hr⟩ := ho4.row
    cases e
    exact specTextV_any a3 cap3 ns _ _ (by omega) hr
  have htz := txS_size ns ((ns.length : Int) - 1)
  generalize txS ns ((ns.length : Int) - 1) = t at HTX htz
  generalize txB ns ((ns.length : Int) - 1) = tb at HTX
  have HALL : Hid (∀ y ∈ ns, y.Fits) := all_fits hall (by omega)
  have HK4 : Hid _ := And.intro ho4 (And.intro hx4 (And.intro hc4 hB4))
  clear hall ho3 hc3 hg2 hg3 hb1 hB3 hb4 ho4 hx4 hc4 hB4
  go_wp2_with fail
  generalize w3.alloc (.cells #[.slice a3 ns.length cap3] 28) = w4 at HTX HK4 hs4 ⊢
  refine Calls.mono HTX.out ?_
  rintro e w5 ⟨rfl, hb5⟩
  obtain ⟨ho4, hx4, hc4, hB4⟩ := HK4.out
  have ho5 := ho4.later hb5
  have hx5 := (hb5.block w3.heap.size (by omega)).trans hx4
  have hc5 := hc4.grown hb5
  have hB5 := hB4.trans (hb5.mono (by omega))
  have hs5 := hb5.size
  clear HTX HK4 ho4 hx4 hc4 hB4 hb5
  go_wp2_with fail
  refine (anyArena_any w0.heap.size g _ hc5).mono ?_
  rintro e w6 ⟨v6, ms, rfl, hm1, hm2, hfit, ho6, hc6, hg6⟩
  clear hc5
  obtain ⟨a6, cap6, rfl, _, _⟩ := ho6.row
  have hs6 := hg6.size
  have hob6 : OwnN w2.heap.size w6 (.slice a3 ns.length cap3) ns := own_grown ho5 hg6 (by omega)
  have hxb6 := (hg6.block w3.heap.size (by omega) (by simp; omega)).trans hx5
  have hB6 : Below w0.heap.size w0 w6 := hB5.grown hg6 (by omega) (fun k hk => by cases hk; exact hge)
  have hb7 : Below w6.heap.size w6 (w6.alloc (.cells #[.slice a6 ms.length cap6] 28)) := (Below.refl _ _).alloc (Nat.le_refl _) _
  have hs7 : (w6.alloc (.cells #[.slice a6 ms.length cap6] 28)).heap.size = w6.heap.size + 1 := by simp
  have HF : Hid (∀ y ∈ ms, y.Fits) := hfit
  have hB7 := hB6.trans (hb7.mono (by omega))
  have hxb := (hb7.block w3.heap.size (by omega)).trans hxb6
  have hxa := heap_alloc_new w6 (.cells #[.slice a6 ms.length cap6] 28)
  have hxr := (hB7.block w.heap.size (by omega)).trans hx0
  have hob := hob6.later hb7
  have hoa := ho6.later hb7
  have hcu := hc6.grown hb7
  have HK7 : Hid _ := And.intro hxb (And.intro hxa (And.intro hxr (And.intro hob (And.intro hoa (And.intro hcu hB7)))))
  have qb : (w6.alloc (.cells #[.slice a6 ms.length cap6] 28)).cell? ⟨w3.heap.size, 0, none⟩ = some (.slice a3 ns.length cap3) := (cell_of_row _ _ 0 _ _ _ hxb).trans rfl
  have qr : (w6.alloc (.cells #[.slice a6 ms.length cap6] 28)).cell? ⟨w.heap.size, 0, none⟩ = some (.slice none 0 0) := (cell_of_row _ _ 0 _ _ _ hxr).trans rfl
  have fr : (w6.alloc (.cells #[.slice a6 ms.length cap6] 28)).frozen? ⟨w.heap.size, 0, none⟩ = false := frozen_of_row _ _ 0 _ _ hxr
  clear hfit hc6 hg6 ho5 hx5 hB5 hob6 hxb6 hB6 hb7 hB7 hxb hxa hxr hob hoa hcu ho6 hx0
  have HB0 : Hid (Below w.heap.size w w0) := hb0
  clear hb0
  have out : ∀ (av : Option Addr) (cv : Nat) (zs : List Nd) (wz : World) (lo : Nat), w.heap.size < lo → wz.heap[w.heap.size]? = some (.cells #[.slice none 0 0] 28 (0, 0)) → OwnN lo wz (.slice av zs.length cv) zs → Below w0.heap.size w0 wz →
      (wz.setCell ⟨w.heap.size, 0, none⟩ (.slice av zs.length cv)).heap[w.heap.size]? = some (.cells #[.slice av zs.length cv] 28 (0, 0)) ∧ OwnN w.heap.size (wz.setCell ⟨w.heap.size, 0, none⟩ (.slice av zs.length cv)) (.slice av zs.length cv) zs ∧ Below w.heap.size w (wz.setCell ⟨w.heap.size, 0, none⟩ (.slice av zs.length cv)) := fun av cv zs wz lo hlo h1 h2 h3 =>
    ⟨(heap_setCell_same _ _ 0 _ _ _ h1).trans rfl, OwnN.base (ownsRow_setCell_below h2 hlo _) (by omega), (HB0.out.trans (h3.mono (by omega))).setCell (Nat.le_refl _) _⟩
  have HOUT : Hid _ := out
  clear out
  rcases (show x = 0 ∨ x = 1 ∨ x = 2 ∨ (3 ≤ x) by omega) with rfl | rfl | rfl | h3
  · have hcu := HK7.out.2.2.2.2.2.1
    have hxa := HK7.out.2.1
    have hxr := HK7.out.2.2.1
    have hoa := HK7.out.2.2.2.2.1
    have hB7 : Below w.heap.size w (w6.alloc (.cells #[.slice a6 ms.length cap6] 28)) := HB0.out.trans (HK7.out.2.2.2.2.2.2.mono (by omega))
    have hl7 : w6.heap.size < (w6.alloc (.cells #[.slice a6 ms.length cap6] 28)).heap.size := by omega
    clear HK7 HOUT qb qr fr
    go_wp2_with fail
    generalize w6.alloc (.cells #[.slice a6 ms.length cap6] 28) = w7 at hcu hxa hxr hoa hB7 hl7 hs7 ⊢
    refine wp_region_list (I := fun w' => Cur w0.heap.size w' g ∧ Below w.heap.size w w' ∧ w'.heap[w6.heap.size]? = some (.cells #[.slice a6 ms.length cap6] 28 (0, 0)) ∧ (∃ ua un uc, w'.heap[w.heap.size]? = some (.cells #[.slice ua un uc] 28 (0, 0))) ∧ OwnN w5.heap.size w' (.slice a6 ms.length cap6) ms ∧ w6.heap.size < w'.heap.size) (R := fun i w' w'' => (((fun w' => Cur w0.heap.size w' g ∧ Below w.heap.size w w' ∧ w'.heap[w6.heap.size]? = some (.cells #[.slice a6 ms.length cap6] 28 (0, 0)) ∧ (∃ ua un uc, w'.heap[w.heap.size]? = some (.cells #[.slice ua un uc] 28 (0, 0))) ∧ OwnN w5.heap.size w' (.slice a6 ms.length cap6) ms ∧ w6.heap.size < w'.heap.size) w') → ((fun w' => Cur w0.heap.size w' g ∧ Below w.heap.size w w' ∧ w'.heap[w6.heap.size]? = some (.cells #[.slice a6 ms.length cap6] 28 (0, 0)) ∧ (∃ ua un uc, w'.heap[w.heap.size]? = some (.cells #[.slice ua un uc] 28 (0, 0))) ∧ OwnN w5.heap.size w' (.slice a6 ms.length cap6) ms ∧ w6.heap.size < w'.heap.size) w'')) ∧ (i ≠ 4 → w''.heap[w.heap.size]? = w'.heap[w.heap.size]?))
      (fs := #[⟨[30], fun vs _ => vs = [.agg #[.slice a6 ms.length cap6]]⟩, ⟨[31], fun vs _ => vs = [.pointer (some ⟨g, 0, none⟩)]⟩, ⟨[32], fun vs _ => vs = [.string t]⟩, ⟨[33], fun vs _ => ∃ u : ByteArray, vs = [.string u] ∧ u.size ≤ 30000⟩, ⟨[30], fun vs w' => vs = [.agg #[.slice a6 ms.length cap6]] ∧ w'.heap[w.heap.size]? = some (.cells #[.slice a6 ms.length cap6] 28 (0, 0))⟩, ⟨[3], fun vs _ => ∃ u : ByteArray, vs = [.string u] ∧ u.size ≤ 30000⟩])
      (by kernel_rfl) 45 rfl (by kernel_rfl) ?stab ?istab ?start ?exec ?fin
    case stab =>
      intro k i f hki hf
      have hk : k < 6 := (Array.getElem?_eq_some_iff.1 hf).1
      rcases (show k = 0 ∨ k = 1 ∨ k = 2 ∨ k = 3 ∨ k = 4 ∨ k = 5 by omega) with rfl | rfl | rfl | rfl | rfl | rfl
      all_goals
        simp only [List.getElem?_toArray, List.getElem?_cons_succ, List.getElem?_cons_zero, Option.some.injEq] at hf
        subst hf
      · exact fun vs _ _ _ h => h
      · exact fun vs _ _ _ h => h
      · exact fun vs _ _ _ h => h
      · exact fun vs _ _ _ h => h
      · exact fun vs w' w'' hR ⟨h1, h2⟩ => ⟨h1, (hR.2 (Ne.symm hki)).trans h2⟩
      · exact fun vs _ _ _ h => h
    case istab => exact fun i w' w'' hR h => hR.1 h
    case start => exact ⟨hcu.grown (Below.refl _ _).drew, hB7.drew, hxa, ⟨_, _, _, hxr⟩, hoa.later (Below.refl _ _).drew, hl7⟩
    case exec =>
      intro i o f hi hf a_1 wq hsz hI hold hpre
      have hi11 : i < 6 := (Array.getElem?_eq_some_iff.1 hi).1
      rcases (show i = 0 ∨ i = 1 ∨ i = 2 ∨ i = 3 ∨ i = 4 ∨ i = 5 by omega) with rfl | rfl | rfl | rfl | rfl | rfl
      all_goals
        simp only [List.getElem?_toArray, List.getElem?_cons_succ, List.getElem?_cons_zero, Option.some.injEq] at hi hf
        subst hi hf
      · have g9 : a_1.tmps.getD 9 undef = .pointer (some ⟨w6.heap.size, 0, none⟩) := hold 9 (free_spec (by kernel_rfl))
        have hc : wq.cell? ⟨w6.heap.size, 0, none⟩ = some (.slice a6 ms.length cap6) := (cell_of_row wq _ 0 _ _ _ hI.2.2.1).trans rfl
        refine exec_same (v := .agg #[.slice a6 ms.length cap6]) ?_ ⟨_, rfl, ⟨fun h => h, fun _ => rfl⟩, at_one (by omega) rfl⟩
        simp [go_sem, Act.eval, g9, hc]
      · have g4 : a_1.tmps.getD 4 undef = .pointer (some ⟨g, 0, none⟩) := hold 4 (free_spec (by kernel_rfl))
        refine exec_same (v := .pointer (some ⟨g, 0, none⟩)) ?_ ⟨_, rfl, ⟨fun h => h, fun _ => rfl⟩, at_one (by omega) rfl⟩
        simp [go_sem, Act.eval, g4]
      · have g7 : a_1.tmps.getD 7 undef = .string t := hold 7 (free_spec (by kernel_rfl))
        refine exec_same (v := .string t) ?_ ⟨_, rfl, ⟨fun h => h, fun _ => rfl⟩, at_one (by omega) rfl⟩
        simp [go_sem, Act.eval, g7]
      · have g31 : a_1.tmps.getD 31 undef = .pointer (some ⟨g, 0, none⟩) := by have := of_one (hpre ⟨1, .data⟩ (by simp) rfl _ rfl); simpa using this
        have g32 : a_1.tmps.getD 32 undef = .string t := by have := of_one (hpre ⟨2, .data⟩ (by simp) rfl _ rfl); simpa using this
        refine exec_call (f := 93) (args := #[.pointer (some ⟨g, 0, none⟩), .string t]) (by simp [go_sem, Act.eval, g31, g32]) ?_
        refine (spoilt_any w0.heap.size g t wq (by omega) hI.1).mono ?_
        rintro e w8 ⟨u, rfl, hu, hcu, hgu⟩
        refine ⟨_, rfl, _, rfl, ⟨fun h => ⟨hcu, ?_, ?_, ?_, ?_, ?_⟩, fun _ => ?_⟩, at_one (by omega) ⟨u, rfl, hu⟩⟩
        · exact h.2.1.grown hgu h.2.1.size (fun k hk => by cases hk; omega)
        · exact (hgu.block _ h.2.2.2.2.2 (by simp; omega)).trans h.2.2.1
        · obtain ⟨ua, un, uc, hu'⟩ := h.2.2.2.1; exact ⟨ua, un, uc, (hgu.block _ (Array.getElem?_eq_some_iff.1 hu').1 (by simp; omega)).trans hu'⟩
        · exact own_grown h.2.2.2.2.1 hgu (by omega)
        · exact Nat.lt_of_lt_of_le h.2.2.2.2.2 hgu.size
        · obtain ⟨ua, un, uc, hu'⟩ := hI.2.2.2.1; exact hgu.block _ (Array.getElem?_eq_some_iff.1 hu').1 (by simp; omega)
      · have g30 : a_1.tmps.getD 30 undef = .agg #[.slice a6 ms.length cap6] := by have := of_one (hpre ⟨0, .data⟩ (by simp) rfl _ rfl); simpa using this
        have g2 : a_1.tmps.getD 2 undef = .pointer (some ⟨w.heap.size, 0, none⟩) := hold 2 (free_spec (by kernel_rfl))
        obtain ⟨ua, un, uc, hu⟩ := hI.2.2.2.1
        have hcg : wq.cell? ⟨w.heap.size, 0, none⟩ = some (.slice ua un uc) := by rw [cell_of_row wq _ 0 _ _ _ hu]; rfl
        have hfg : wq.frozen? ⟨w.heap.size, 0, none⟩ = false := frozen_of_row wq _ 0 _ _ hu
        refine exec_skip (w' := wq.setCell ⟨w.heap.size, 0, none⟩ (.slice a6 ms.length cap6)) ?_ ⟨_, rfl, ⟨fun h => ⟨?_, ?_, ?_, ?_, ?_, ?_⟩, fun e => absurd rfl e⟩, ?_⟩
        · simp [go_sem, Act.eval, g2, g30, hcg, hfg]
        · exact cur_set h.1 hu (by have := h.1.1; omega)
        · exact h.2.1.setCell (Nat.le_refl _) _
        · exact (Below.heap_setCell _ _ _ _ (by simp; omega)).trans h.2.2.1
        · exact ⟨_, _, _, (heap_setCell_same wq _ 0 _ _ _ hu).trans rfl⟩
        · exact ownsRow_setCell_below h.2.2.2.2.1 (show w.heap.size < w5.heap.size by omega) _
        · simpa using h.2.2.2.2.2
        · exact ⟨by show [a_1.tmps.getD 30 undef] = _; rw [g30], (heap_setCell_same wq _ 0 _ _ _ hu).trans rfl⟩
      · obtain ⟨u, h33, hu⟩ := of_one (hpre ⟨3, .data⟩ (by simp) rfl _ rfl)
        have g33 : a_1.tmps.getD 33 undef = .string u := by simpa using h33
        refine exec_same (v := .string u) ?_ ⟨_, rfl, ⟨fun h => h, fun _ => rfl⟩, at_one (by omega) ⟨u, rfl, hu⟩⟩
        simp [go_sem, Act.eval, g33]
    case fin =>
      intro zs w9 hzl hI hF
      obtain ⟨z0, z1, z2, z3, z4, z5, rfl⟩ := list6 zs hzl
      obtain ⟨-, hbox⟩ := of_one (hF 4 _ rfl)
      obtain ⟨u, hst, hu⟩ := of_one (hF 5 _ rfl)
      simp only [List.cons.injEq, and_true] at hst
      have hs8 := last_is (i := 5) (v := z5) (n := 45) hst (by kernel_rfl) rfl rfl (by omega)
      clear hst
      subst hs8
      clear hF
      simp only [putAll, Act.put, List.setIfInBounds_toArray, List.set_cons_succ, List.set_cons_zero]
      have HE : Hid _ := And.intro hbox (And.intro hI.2.2.2.2.1 hI.2.1)
      clear hbox hI
      go_wp2
      refine bodyPost_ret (res_cell2 rfl _ _ w.heap.size 28 #[.slice a6 ms.length cap6] (0, 0) _ rfl ?_ Try.underlying28 rfl arenaSize) rfl ?_
      · exact HE.out.1
      · exact ⟨_, ms, u, rfl, hm1, hm2, HF.out, by omega, OwnN.base HE.out.2.1 (by omega), HE.out.2.2⟩
  · have HX : Hid _ := HOUT.out a6 cap6 ms _ w5.heap.size (by omega) HK7.out.2.2.1 HK7.out.2.2.2.2.1 HK7.out.2.2.2.2.2.2
    clear HK7 HOUT
    go_wp2
    refine bodyPost_ret (res_cell2 rfl _ _ w.heap.size 28 #[.slice a6 ms.length cap6] (0, 0) _ rfl ?_ Try.underlying28 rfl arenaSize) rfl ?_
    · exact HX.out.1
    · exact ⟨_, ms, (t ++ ⟨#[1]⟩), rfl, hm1, hm2, HF.out, by rw [ByteArray.size_append]; show t.size + 1 ≤ 100000; omega, HX.out.2.1, HX.out.2.2⟩
  · have HX : Hid _ := HOUT.out a3 cap3 ns _ w2.heap.size (by omega) HK7.out.2.2.1 HK7.out.2.2.2.1 HK7.out.2.2.2.2.2.2
    clear HK7 HOUT
    go_wp2
    refine bodyPost_ret (res_cell2 rfl _ _ w.heap.size 28 #[.slice a3 ns.length cap3] (0, 0) _ rfl ?_ Try.underlying28 rfl arenaSize) rfl ?_
    · exact HX.out.1
    · exact ⟨_, ns, t, rfl, hn1, by omega, HALL.out, by omega, HX.out.2.1, HX.out.2.2⟩
  · have q0 : ((x : Int) == 0) = false := by simp; omega
    have q1 : ((x : Int) == 1) = false := by simp; omega
    have q2 : ((x : Int) == 2) = false := by simp; omega
    have HX : Hid _ := HOUT.out a6 cap6 ms _ w5.heap.size (by omega) HK7.out.2.2.1 HK7.out.2.2.2.2.1 HK7.out.2.2.2.2.2.2
    clear HK7 HOUT
    go_wp2
    refine bodyPost_ret (res_cell2 rfl _ _ w.heap.size 28 #[.slice a6 ms.length cap6] (0, 0) _ rfl ?_ Try.underlying28 rfl arenaSize) rfl ?_
    · exact HX.out.1
    · exact ⟨_, ms, t, rfl, hm1, hm2, HF.out, by omega, HX.out.2.1, HX.out.2.2⟩
end Go.Proofs.Ytffnadnndmmliaa
