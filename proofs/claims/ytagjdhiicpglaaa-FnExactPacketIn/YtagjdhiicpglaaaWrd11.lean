/- Chapter 11's reader of words (the program's): it goes along a List, and panics where this is of another form. -/
import Derived.Test.YtagjdhiicpglaaaCin10D
import Derived.Test.YtagjdhiicpglaaaMakePartsI
import Derived.Test.YtagjdhiicpglaaaMakeI
import Derived.Test.YtagjdhiicpglaaaRegionK
import Derived.Test.YtagjdhiicpglaaaRegionA
import Derived.Defers
import Derived.Recover
import Derived.Laws.Pointers
import Derived.BigRegion
namespace Go.Proofs.Ytagjdhiicpglaaa
open Go.RowKit
set_option linter.unusedVariables false
/-- What a reader panics with. -/
def notV : Value := .iface 57 (.agg #[])
abbrev notP : Ending := .panicked [{ v := notV, recovered := false }]
/-- The reader in memory: the arena, and what is left of the List. -/
def Rd (g : Nat) (a : Option Addr) (cap : Nat) (ns : List Nd) (k : Int) (w : World) : Prop := w.heap[g]? = some (.cells #[.slice a ns.length cap, .int .i64 k] 59 (0, 0)) ∧ RowN g w a ns
def RdP (g : Nat) (a : Option Addr) (cap : Nat) (ns : List Nd) (v : Value) (k : Int) (w : World) (e : Ending) (w' : World) : Prop := e = .returned v ∧ Rd g a cap ns k w' ∧ w.grownBy w' (some g)
def RdN (g : Nat) (w : World) (e : Ending) (w' : World) : Prop := e = notP ∧ w.grownBy w' (some g)
theorem Rd.lt {g : Nat} {a : Option Addr} {cap : Nat} {ns : List Nd} {k : Int} {w : World} (h : Rd g a cap ns k w) : g < w.heap.size := (Array.getElem?_eq_some_iff.1 h.1).1
theorem Rd.row {g : Nat} {a : Option Addr} {cap : Nat} {ns : List Nd} {k : Int} {w : World} (h : Rd g a cap ns k w) : RowN w.heap.size w a ns := h.2.wide (Nat.le_of_lt h.lt)
theorem Rd.below {g : Nat} {a : Option Addr} {cap : Nat} {ns : List Nd} {k : Int} {w w' : World} (h : Rd g a cap ns k w) (hb : Below w.heap.size w w') : Rd g a cap ns k w' := ⟨(hb.block _ h.lt).trans h.1, h.2.later (hb.mono (Nat.le_of_lt h.lt))⟩
theorem grw_below {g : Nat} {w w' : World} (hb : Below w.heap.size w w') : w.grownBy w' (some g) := ⟨hb.os, hb.tape, hb.output, hb.size, fun k hk _ => hb.block k hk⟩
theorem grw_more {g : Nat} {w w1 w2 : World} (h1 : w.grownBy w1 (some g)) (h2 : w1.grownBy w2 (some g)) : w.grownBy w2 (some g) := ⟨h2.os.trans h1.os, h2.tape.trans h1.tape, h2.output.trans h1.output, Nat.le_trans h1.size h2.size, fun k hk hn => (h2.block k (Nat.lt_of_lt_of_le hk h1.size) hn).trans (h1.block k hk hn)⟩
theorem grw_set1 (w : World) (g j : Nat) (v : Value) : w.grownBy (w.setCell ⟨g, j, none⟩ v) (some g) := ⟨rfl, rfl, rfl, by simp, fun k _ hn => Below.heap_setCell _ _ _ _ (by simpa using hn)⟩
theorem grw_dn {g : Nat} {w w' : World} (hg : g ≤ w.heap.size) (h : w.grownBy w' (some g)) : Below g w w' := (Below.refl _ _).grown h hg (fun k hk => by cases hk; exact Nat.le_refl _)
theorem Rd.set {g : Nat} {a : Option Addr} {cap : Nat} {ns : List Nd} {k : Int} {w : World} (h : Rd g a cap ns k w) (k' : Int) : Rd g a cap ns k' (w.setCell ⟨g, 1, none⟩ (.int .i64 k')) := ⟨(heap_setCell_same w g 1 _ _ _ h.1).trans rfl, h.2.later ((Below.refl g w).setCell (show g ≤ (⟨g, 1, none⟩ : Addr).block from Nat.le_refl _) _)⟩
theorem want_yes (p : Value) (w : World) : Calls Try.prog 22 #[p, .bool true] w fun e w' => e = .returned (.tuple #[]) ∧ w' = w := by
  go_enter Try.func22, Try.ntmps22
  go_wp2
  go_end0
  exact ⟨rfl, rfl⟩
theorem want_no (p : Value) (w : World) : Calls Try.prog 22 #[p, .bool false] w fun e w' => e = notP ∧ w' = w := by
  go_enter Try.func22, Try.ntmps22
  go_wp2
  exact ⟨rfl, rfl, rfl⟩
set_option maxHeartbeats 1600000 in
theorem numAt_yes (x : Int) (g : Nat) (a : Option Addr) (cap : Nat) (ns : List Nd) (k : Int) (w : World) (hl : ns.length ≤ 1048576) (hs : Rd g a cap ns k w) (h1 : isK ns x 1 = true) : Calls Try.prog 29 #[.pointer (some ⟨g, 0, none⟩), .int .i64 x] w fun e w' => e = .returned (.int .i64 (numV ns x)) ∧ Below w.heap.size w w' := by
  have c0 : w.cell? ⟨g, 0, none⟩ = some (.slice a ns.length cap) := (cell_of_row _ _ 0 _ _ _ hs.1).trans rfl
  have HN : Hid _ := implNum_any a cap ns x w hl hs.row
  rw [h1] at HN
  clear hs h1
  go_enter Try.func29, Try.ntmps29
  go_wp2_with fail
  refine Calls.mono HN.out ?_
  rintro e w1 ⟨rfl, hb1⟩
  have HB : Hid (Below w.heap.size w w1) := hb1
  clear hb1 HN c0
  go_wp2_with fail
  refine (want_yes _ w1).mono ?_
  rintro e w2 ⟨rfl, rfl⟩
  go_wp2
  go_ret
  exact ⟨rfl, HB.out⟩
set_option maxHeartbeats 1600000 in
theorem numAt_no (x : Int) (g : Nat) (a : Option Addr) (cap : Nat) (ns : List Nd) (k : Int) (w : World) (hl : ns.length ≤ 1048576) (hs : Rd g a cap ns k w) (h1 : isK ns x 1 = false) : Calls Try.prog 29 #[.pointer (some ⟨g, 0, none⟩), .int .i64 x] w fun e w' => e = notP ∧ Below w.heap.size w w' := by
  have c0 : w.cell? ⟨g, 0, none⟩ = some (.slice a ns.length cap) := (cell_of_row _ _ 0 _ _ _ hs.1).trans rfl
  have HN : Hid _ := implNum_any a cap ns x w hl hs.row
  rw [h1] at HN
  clear hs h1
  go_enter Try.func29, Try.ntmps29
  go_wp2_with fail
  refine Calls.mono HN.out ?_
  rintro e w1 ⟨rfl, hb1⟩
  have HB : Hid (Below w.heap.size w w1) := hb1
  clear hb1 HN c0
  go_wp2_with fail
  refine (want_no _ w1).mono ?_
  rintro e w2 ⟨rfl, rfl⟩
  go_wp2
  exact ⟨rfl, rfl, HB.out⟩
theorem zl15 {α : Type} (l : List α) (h : l.length = 15) : ∃ a0 a1 a2 a3 a4 a5 a6 a7 a8 a9 a10 a11 a12 a13 a14, l = [a0, a1, a2, a3, a4, a5, a6, a7, a8, a9, a10, a11, a12, a13, a14] := by
  match l, h with
  | [a0, a1, a2, a3, a4, a5, a6, a7, a8, a9, a10, a11, a12, a13, a14], _ => exact ⟨a0, a1, a2, a3, a4, a5, a6, a7, a8, a9, a10, a11, a12, a13, a14, rfl⟩
/-- What an operation of term's region may do: the store into the new node, or what makes memory. -/
def TmR (B : Nat) (y : Nd) (i : Nat) (w' w'' : World) : Prop := if i = 13 then ∃ h, B ≤ h ∧ (∃ c0 c1 c2 c3, w'.heap[h]? = some (.cells #[c0, c1, c2, c3] 52 (0, 0))) ∧ w'' = ((((w'.setCell ⟨h, 0, none⟩ (.int .i64 y.k)).setCell ⟨h, 1, none⟩ (.int .i64 y.n)).setCell ⟨h, 2, none⟩ (.int .i64 y.a)).setCell ⟨h, 3, none⟩ (.int .i64 y.b)) else Below w'.heap.size w' w''
theorem tm_st4 {w : World} {h : Nat} {y : Nd} {c0 c1 c2 c3 : Value} (hh : w.heap[h]? = some (.cells #[c0, c1, c2, c3] 52 (0, 0))) : ((((w.setCell ⟨h, 0, none⟩ (.int .i64 y.k)).setCell ⟨h, 1, none⟩ (.int .i64 y.n)).setCell ⟨h, 2, none⟩ (.int .i64 y.a)).setCell ⟨h, 3, none⟩ (.int .i64 y.b)).heap[h]? = some (.cells #[.int .i64 y.k, .int .i64 y.n, .int .i64 y.a, .int .i64 y.b] 52 (0, 0)) ∧ ∀ k, k ≠ h → ((((w.setCell ⟨h, 0, none⟩ (.int .i64 y.k)).setCell ⟨h, 1, none⟩ (.int .i64 y.n)).setCell ⟨h, 2, none⟩ (.int .i64 y.a)).setCell ⟨h, 3, none⟩ (.int .i64 y.b)).heap[k]? = w.heap[k]? := by
  have a1 := heap_setCell_same w h 0 _ _ (.int .i64 y.k) hh
  have a2 := heap_setCell_same _ h 1 _ _ (.int .i64 y.n) a1
  have a3 := heap_setCell_same _ h 2 _ _ (.int .i64 y.a) a2
  have a4 := heap_setCell_same _ h 3 _ _ (.int .i64 y.b) a3
  exact ⟨a4.trans rfl, fun k hk => (Below.heap_setCell _ _ _ _ hk).trans ((Below.heap_setCell _ _ _ _ hk).trans ((Below.heap_setCell _ _ _ _ hk).trans (Below.heap_setCell _ _ _ _ hk)))⟩
theorem TmR.below {B : Nat} {y : Nd} {i : Nat} {w' w'' : World} (h : TmR B y i w' w'') (hB : B ≤ w'.heap.size) : Below B w' w'' := by
  unfold TmR at h
  split at h
  · obtain ⟨h, hB, -, rfl⟩ := h
    exact ((((Below.refl _ _).setCell hB _).setCell hB _).setCell hB _).setCell hB _
  · exact h.mono hB
theorem TmR.node {B h : Nat} {y : Nd} {i : Nat} {w' w'' : World} (hR : TmR B y i w' w'') (hn : ∃ c0 c1 c2 c3, w'.heap[h]? = some (.cells #[c0, c1, c2, c3] 52 (0, 0))) : ∃ c0 c1 c2 c3, w''.heap[h]? = some (.cells #[c0, c1, c2, c3] 52 (0, 0)) := by
  unfold TmR at hR
  split at hR
  · obtain ⟨h', hB, ⟨d0, d1, d2, d3, hd⟩, rfl⟩ := hR
    by_cases e : h = h'
    · subst e; exact ⟨_, _, _, _, (tm_st4 hd).1⟩
    · obtain ⟨c0, c1, c2, c3, hc⟩ := hn
      exact ⟨_, _, _, _, ((tm_st4 hd).2 h e).trans hc⟩
  · obtain ⟨c0, c1, c2, c3, hc⟩ := hn
    exact ⟨_, _, _, _, (hR.block _ (Array.getElem?_eq_some_iff.1 hc).1).trans hc⟩
set_option maxHeartbeats 3200000 in
set_option maxRecDepth 20000 in
theorem term_yes (g : Nat) (a : Option Addr) (cap : Nat) (ns : List Nd) (k : Int) (w : World) (hl : ns.length ≤ 1048576) (hs : Rd g a cap ns k w) (h2 : isK ns k 2 = true) : Calls Try.prog 30 #[.pointer (some ⟨g, 0, none⟩)] w (RdP g a cap ns (.int .i64 (ndAt ns k).a) (ndAt ns k).b w) := by
  have hlt : g < w.heap.size := hs.lt
  have HC0 : Hid (w.cell? ⟨g, 0, none⟩ = some (.slice a ns.length cap)) := (cell_of_row _ _ 0 _ _ _ hs.1).trans rfl
  have HC1 : Hid (w.cell? ⟨g, 1, none⟩ = some (.int .i64 k)) := (cell_of_row _ _ 1 _ _ _ hs.1).trans rfl
  have HS : Hid (Rd g a cap ns k w) := hs
  have HAT0 : ∀ wq, Below w.heap.size w wq → Calls Try.prog 35 #[.int .i64 2, .agg #[.slice a ns.length cap], .int .i64 k] wq fun e w' => e = .returned (.tuple #[.agg #[.int .i64 (ndAt ns k).k, .int .i64 (ndAt ns k).n, .int .i64 (ndAt ns k).a, .int .i64 (ndAt ns k).b], .bool true]) ∧ Below wq.heap.size wq w' := fun wq hq => implAt_yes 2 a cap ns k wq hl (hs.row.grown hq) h2
  generalize ndAt ns k = y at HAT0 ⊢
  obtain ⟨b, hb⟩ : ∃ b : Bool, b = true := ⟨_, rfl⟩
  rw [← hb] at HAT0
  have HAT : Hid _ := HAT0
  have HBT : Hid (b = true) := hb
  clear HAT0 hs h2 hb
  go_enter Try.func30, Try.ntmps30
  go_wp2_with fail
  refine wp_region_list (I := fun w' => Below w.heap.size w w') (R := TmR w.heap.size y)
    (fs := #[⟨[6], fun vs _ => vs = [.pointer (some ⟨g, 0, none⟩)]⟩, ⟨[7], fun vs _ => vs = [.pointer (some ⟨g, 0, none⟩)]⟩, ⟨[8], fun vs _ => vs = [.pointer (some ⟨g, 0, none⟩)]⟩, ⟨[9], fun vs _ => vs = [.agg #[.slice a ns.length cap]]⟩, ⟨[10], fun vs _ => vs = [.pointer (some ⟨g, 0, none⟩)]⟩, ⟨[11], fun vs _ => vs = [.pointer (some ⟨g, 0, none⟩)]⟩, ⟨[12], fun vs _ => vs = [.pointer (some ⟨g, 1, none⟩)]⟩, ⟨[13], fun vs _ => vs = [.int .i64 k]⟩, ⟨[14], fun vs _ => vs = [.tuple #[.agg #[.int .i64 y.k, .int .i64 y.n, .int .i64 y.a, .int .i64 y.b], .bool b]]⟩, ⟨[5], fun vs _ => vs = [.tuple #[.agg #[.int .i64 y.k, .int .i64 y.n, .int .i64 y.a, .int .i64 y.b], .bool b]]⟩, ⟨[15], fun vs _ => vs = [.agg #[.int .i64 y.k, .int .i64 y.n, .int .i64 y.a, .int .i64 y.b]]⟩, ⟨[16], fun vs _ => vs = [.bool b]⟩, ⟨[3], fun vs w' => ∃ h, vs = [.pointer (some ⟨h, 0, none⟩)] ∧ w.heap.size ≤ h ∧ ∃ c0 c1 c2 c3, w'.heap[h]? = some (.cells #[c0, c1, c2, c3] 52 (0, 0))⟩, ⟨[3], fun vs w' => ∃ h, vs = [.pointer (some ⟨h, 0, none⟩)] ∧ w.heap.size ≤ h ∧ w'.heap[h]? = some (.cells #[.int .i64 y.k, .int .i64 y.n, .int .i64 y.a, .int .i64 y.b] 52 (0, 0))⟩, ⟨[4], fun vs _ => vs = [.bool b]⟩])
    (by kernel_rfl) 27 rfl (by kernel_rfl) ?stab ?istab ?start ?exec ?fin
  case stab =>
    intro k i f hki hf
    have hk : k < 15 := (Array.getElem?_eq_some_iff.1 hf).1
    rcases (show k = 0 ∨ k = 1 ∨ k = 2 ∨ k = 3 ∨ k = 4 ∨ k = 5 ∨ k = 6 ∨ k = 7 ∨ k = 8 ∨ k = 9 ∨ k = 10 ∨ k = 11 ∨ k = 12 ∨ k = 13 ∨ k = 14 by omega) with rfl | rfl | rfl | rfl | rfl | rfl | rfl | rfl | rfl | rfl | rfl | rfl | rfl | rfl | rfl
    all_goals
      simp only [List.getElem?_toArray, List.getElem?_cons_succ, List.getElem?_cons_zero, Option.some.injEq] at hf
      subst hf
    · exact fun vs _ _ _ h => h
    · exact fun vs _ _ _ h => h
    · exact fun vs _ _ _ h => h
    · exact fun vs _ _ _ h => h
    · exact fun vs _ _ _ h => h
    · exact fun vs _ _ _ h => h
    · exact fun vs _ _ _ h => h
    · exact fun vs _ _ _ h => h
    · exact fun vs _ _ _ h => h
    · exact fun vs _ _ _ h => h
    · exact fun vs _ _ _ h => h
    · exact fun vs _ _ _ h => h
    · exact fun vs w' w'' hR ⟨h, h1, h2, h3⟩ => ⟨h, h1, h2, TmR.node hR h3⟩
    · exact fun vs w' w'' hR ⟨h, h1, h2, h3⟩ => ⟨h, h1, h2, by have h4 := hR; unfold TmR at h4; rw [if_neg (Ne.symm hki)] at h4; exact (h4.block _ (Array.getElem?_eq_some_iff.1 h3).1).trans h3⟩
    · exact fun vs _ _ _ h => h
  case istab => exact fun i w' w'' hR h => h.trans (hR.below h.size)
  case start => exact (Below.refl _ _).drew
  case exec =>
    intro i o f hi hf act wq hsz hI hold hpre
    have hi11 : i < 15 := (Array.getElem?_eq_some_iff.1 hi).1
    rcases (show i = 0 ∨ i = 1 ∨ i = 2 ∨ i = 3 ∨ i = 4 ∨ i = 5 ∨ i = 6 ∨ i = 7 ∨ i = 8 ∨ i = 9 ∨ i = 10 ∨ i = 11 ∨ i = 12 ∨ i = 13 ∨ i = 14 by omega) with rfl | rfl | rfl | rfl | rfl | rfl | rfl | rfl | rfl | rfl | rfl | rfl | rfl | rfl | rfl
    all_goals
      simp only [List.getElem?_toArray, List.getElem?_cons_succ, List.getElem?_cons_zero, Option.some.injEq] at hi hf
      subst hi hf
    · have g0 : act.tmps.getD 0 undef = .pointer (some ⟨g, 0, none⟩) := hold 0 (free_spec (by kernel_rfl))
      refine exec_same (v := .pointer (some ⟨g, 0, none⟩)) ?_ ⟨_, rfl, (by show (if _ then _ else _); rw [if_neg (by decide)]; exact Below.refl _ _), at_one (by omega) rfl⟩
      simp [go_sem, Act.eval, g0]
    · have g6 : act.tmps.getD 6 undef = .pointer (some ⟨g, 0, none⟩) := by have := of_one (hpre ⟨0, .data⟩ (by simp) rfl _ rfl); simpa using this
      refine exec_same (v := .pointer (some ⟨g, 0, none⟩)) ?_ ⟨_, rfl, (by show (if _ then _ else _); rw [if_neg (by decide)]; exact Below.refl _ _), at_one (by omega) rfl⟩
      simp [go_sem, Act.eval, g6]
    · have g7 : act.tmps.getD 7 undef = .pointer (some ⟨g, 0, none⟩) := by have := of_one (hpre ⟨1, .data⟩ (by simp) rfl _ rfl); simpa using this
      refine exec_same (v := .pointer (some ⟨g, 0, none⟩)) ?_ ⟨_, rfl, (by show (if _ then _ else _); rw [if_neg (by decide)]; exact Below.refl _ _), at_one (by omega) rfl⟩
      simp [go_sem, Act.eval, g7]
    · have g8 : act.tmps.getD 8 undef = .pointer (some ⟨g, 0, none⟩) := by have := of_one (hpre ⟨2, .data⟩ (by simp) rfl _ rfl); simpa using this
      have hc : wq.cell? ⟨g, 0, none⟩ = some (.slice a ns.length cap) := (hI.cell (p := ⟨g, 0, none⟩) hlt).trans HC0.out
      refine exec_same (v := .agg #[.slice a ns.length cap]) ?_ ⟨_, rfl, (by show (if _ then _ else _); rw [if_neg (by decide)]; exact Below.refl _ _), at_one (by omega) rfl⟩
      simp [go_sem, Act.eval, g8, hc]
    · have g0 : act.tmps.getD 0 undef = .pointer (some ⟨g, 0, none⟩) := hold 0 (free_spec (by kernel_rfl))
      refine exec_same (v := .pointer (some ⟨g, 0, none⟩)) ?_ ⟨_, rfl, (by show (if _ then _ else _); rw [if_neg (by decide)]; exact Below.refl _ _), at_one (by omega) rfl⟩
      simp [go_sem, Act.eval, g0]
    · have g10 : act.tmps.getD 10 undef = .pointer (some ⟨g, 0, none⟩) := by have := of_one (hpre ⟨4, .data⟩ (by simp) rfl _ rfl); simpa using this
      refine exec_same (v := .pointer (some ⟨g, 0, none⟩)) ?_ ⟨_, rfl, (by show (if _ then _ else _); rw [if_neg (by decide)]; exact Below.refl _ _), at_one (by omega) rfl⟩
      simp [go_sem, Act.eval, g10]
    · have g11 : act.tmps.getD 11 undef = .pointer (some ⟨g, 0, none⟩) := by have := of_one (hpre ⟨5, .data⟩ (by simp) rfl _ rfl); simpa using this
      refine exec_same (v := .pointer (some ⟨g, 1, none⟩)) ?_ ⟨_, rfl, (by show (if _ then _ else _); rw [if_neg (by decide)]; exact Below.refl _ _), at_one (by omega) rfl⟩
      simp [go_sem, Act.eval, g11]
    · have g12 : act.tmps.getD 12 undef = .pointer (some ⟨g, 1, none⟩) := by have := of_one (hpre ⟨6, .data⟩ (by simp) rfl _ rfl); simpa using this
      have hc : wq.cell? ⟨g, 1, none⟩ = some (.int .i64 k) := (hI.cell (p := ⟨g, 1, none⟩) hlt).trans HC1.out
      refine exec_same (v := .int .i64 k) ?_ ⟨_, rfl, (by show (if _ then _ else _); rw [if_neg (by decide)]; exact Below.refl _ _), at_one (by omega) rfl⟩
      simp [go_sem, Act.eval, g12, hc]
    · have g9 : act.tmps.getD 9 undef = .agg #[.slice a ns.length cap] := by have := of_one (hpre ⟨3, .data⟩ (by simp) rfl _ rfl); simpa using this
      have g13 : act.tmps.getD 13 undef = .int .i64 k := by have := of_one (hpre ⟨7, .data⟩ (by simp) rfl _ rfl); simpa using this
      refine exec_call (f := 35) (args := #[.int .i64 2, .agg #[.slice a ns.length cap], .int .i64 k]) (by simp [go_sem, Act.eval, g9, g13]) ?_
      refine Calls.mono (HAT.out wq hI) ?_
      rintro e w2 ⟨rfl, hb2⟩
      exact ⟨_, rfl, _, rfl, (by show (if _ then _ else _); rw [if_neg (by decide)]; exact hb2), at_one (by omega) rfl⟩
    · have g14 : act.tmps.getD 14 undef = .tuple #[.agg #[.int .i64 y.k, .int .i64 y.n, .int .i64 y.a, .int .i64 y.b], .bool b] := by have := of_one (hpre ⟨8, .data⟩ (by simp) rfl _ rfl); simpa using this
      refine exec_same (v := .tuple #[.agg #[.int .i64 y.k, .int .i64 y.n, .int .i64 y.a, .int .i64 y.b], .bool b]) ?_ ⟨_, rfl, (by show (if _ then _ else _); rw [if_neg (by decide)]; exact Below.refl _ _), at_one (by omega) rfl⟩
      simp [go_sem, Act.eval, g14]
    · have g5 : act.tmps.getD 5 undef = .tuple #[.agg #[.int .i64 y.k, .int .i64 y.n, .int .i64 y.a, .int .i64 y.b], .bool b] := by have := of_one (hpre ⟨9, .data⟩ (by simp) rfl _ rfl); simpa using this
      have g5' : act.tmps[5]?.getD undef = .tuple #[.agg #[.int .i64 y.k, .int .i64 y.n, .int .i64 y.a, .int .i64 y.b], .bool b] := by simpa using g5
      refine exec_same (v := .agg #[.int .i64 y.k, .int .i64 y.n, .int .i64 y.a, .int .i64 y.b]) ?_ ⟨_, rfl, (by show (if _ then _ else _); rw [if_neg (by decide)]; exact Below.refl _ _), at_one (by omega) rfl⟩
      simp [go_sem, Act.eval, g5']
    · have g5 : act.tmps.getD 5 undef = .tuple #[.agg #[.int .i64 y.k, .int .i64 y.n, .int .i64 y.a, .int .i64 y.b], .bool b] := by have := of_one (hpre ⟨9, .data⟩ (by simp) rfl _ rfl); simpa using this
      have g5' : act.tmps[5]?.getD undef = .tuple #[.agg #[.int .i64 y.k, .int .i64 y.n, .int .i64 y.a, .int .i64 y.b], .bool b] := by simpa using g5
      refine exec_same (v := .bool b) ?_ ⟨_, rfl, (by show (if _ then _ else _); rw [if_neg (by decide)]; exact Below.refl _ _), at_one (by omega) rfl⟩
      simp [go_sem, Act.eval, g5']
    · have hbN : Below wq.heap.size wq (wq.alloc (.cells #[.int .i64 0, .int .i64 0, .int .i64 0, .int .i64 0] 52)) := (Below.refl _ _).alloc (Nat.le_refl _) _
      refine exec_made (w' := wq.alloc (.cells #[.int .i64 0, .int .i64 0, .int .i64 0, .int .i64 0] 52)) (v := .pointer (some ⟨wq.heap.size, 0, none⟩)) ?_ ⟨_, rfl, (by show (if _ then _ else _); rw [if_neg (by decide)]; exact hbN), ⟨_, by show [(act.put _ _).tmps.getD _ undef] = _; rw [put_same _ _ _ (by omega)], hI.size, _, _, _, _, heap_alloc_new _ _⟩⟩
      simp [go_sem]
    · obtain ⟨h, h1, h2, d0, d1, d2, d3, hd⟩ := hpre ⟨12, .data⟩ (by simp) rfl _ rfl
      have g3 : act.tmps.getD 3 undef = .pointer (some ⟨h, 0, none⟩) := by simpa using h1
      have g15 : act.tmps.getD 15 undef = .agg #[.int .i64 y.k, .int .i64 y.n, .int .i64 y.a, .int .i64 y.b] := by have := of_one (hpre ⟨10, .data⟩ (by simp) rfl _ rfl); simpa using this
      have n0 : wq.cell? ⟨h, 0, none⟩ = some d0 := (cell_of_row wq _ 0 _ _ _ hd).trans rfl
      have n1 : wq.cell? ⟨h, 1, none⟩ = some d1 := (cell_of_row wq _ 1 _ _ _ hd).trans rfl
      have n2 : wq.cell? ⟨h, 2, none⟩ = some d2 := (cell_of_row wq _ 2 _ _ _ hd).trans rfl
      have n3 : wq.cell? ⟨h, 3, none⟩ = some d3 := (cell_of_row wq _ 3 _ _ _ hd).trans rfl
      have m0 : wq.frozen? ⟨h, 0, none⟩ = false := frozen_of_row wq _ 0 _ _ hd
      have m1 : wq.frozen? ⟨h, 1, none⟩ = false := frozen_of_row wq _ 1 _ _ hd
      have m2 : wq.frozen? ⟨h, 2, none⟩ = false := frozen_of_row wq _ 2 _ _ hd
      have m3 : wq.frozen? ⟨h, 3, none⟩ = false := frozen_of_row wq _ 3 _ _ hd
      refine exec_skip (w' := ((((wq.setCell ⟨h, 0, none⟩ (.int .i64 y.k)).setCell ⟨h, 1, none⟩ (.int .i64 y.n)).setCell ⟨h, 2, none⟩ (.int .i64 y.a)).setCell ⟨h, 3, none⟩ (.int .i64 y.b))) ?_ ⟨_, rfl, by show (if _ then _ else _); rw [if_pos rfl]; exact ⟨h, h2, ⟨_, _, _, _, hd⟩, rfl⟩, ⟨h, by show [act.tmps.getD 3 undef] = _; rw [g3], h2, (tm_st4 hd).1⟩⟩
      simp [go_sem, Act.eval, g3, g15, n0, n1, n2, n3, m0, m1, m2, m3]
    · have g16 : act.tmps.getD 16 undef = .bool b := by have := of_one (hpre ⟨11, .data⟩ (by simp) rfl _ rfl); simpa using this
      refine exec_same (v := .bool b) ?_ ⟨_, rfl, (by show (if _ then _ else _); rw [if_neg (by decide)]; exact Below.refl _ _), at_one (by omega) rfl⟩
      simp [go_sem, Act.eval, g16]
  case fin =>
    intro zs w5 hzl hI hF
    obtain ⟨z0, z1, z2, z3, z4, z5, z6, z7, z8, z9, z10, z11, z12, z13, z14, rfl⟩ := zl15 zs hzl
    obtain ⟨h, hv, hB, hY⟩ := of_one (hF 13 _ rfl)
    simp only [List.cons.injEq, and_true] at hv
    have hs3 := last_is (i := 12) (v := z12) (n := 27) hv (by kernel_rfl) rfl rfl (by omega)
    have hint := of_one (hF 14 _ rfl)
    simp only [List.cons.injEq, and_true] at hint
    have hs4 := last_is (i := 14) (v := z14) (n := 27) hint (by kernel_rfl) rfl rfl (by omega)
    clear hint hv
    subst hs3 hs4
    clear hF
    simp only [putAll, Act.put, List.setIfInBounds_toArray, List.set_cons_succ, List.set_cons_zero]
    have hwY := hI
    have l0 : w5.cell? ⟨h, 2, none⟩ = some (.int .i64 y.a) := (cell_of_row _ _ 2 _ _ _ hY).trans rfl
    have l1 : w5.cell? ⟨h, 3, none⟩ = some (.int .i64 y.b) := (cell_of_row _ _ 3 _ _ _ hY).trans rfl
    have hs5 : Rd g a cap ns k w5 := HS.out.below hI
    have c5 : w5.cell? ⟨g, 1, none⟩ = some (.int .i64 k) := (cell_of_row _ _ 1 _ _ _ hs5.1).trans rfl
    have f5 : w5.frozen? ⟨g, 1, none⟩ = false := frozen_of_row _ _ 1 _ _ hs5.1
    have hne : h ≠ g := by omega
    have l2 : (w5.setCell ⟨g, 1, none⟩ (.int .i64 y.b)).cell? ⟨h, 2, none⟩ = some (.int .i64 y.a) := by
      rw [World.cell?_of_block (Below.heap_setCell _ _ _ _ hne)]; exact l0
    have HE : Hid (Rd g a cap ns y.b (w5.setCell ⟨g, 1, none⟩ (.int .i64 y.b)) ∧ w.grownBy (w5.setCell ⟨g, 1, none⟩ (.int .i64 y.b)) (some g)) := ⟨hs5.set y.b, grw_more (grw_below hI) (grw_set1 _ _ _ _)⟩
    clear hI hwY hs5 hY
    rw [HBT.out]
    go_wp2_with fail
    refine (want_yes _ w5).mono ?_
    rintro e w6 ⟨rfl, rfl⟩
    go_wp2
    go_ret
    exact ⟨rfl, HE.out.1, HE.out.2⟩
set_option maxHeartbeats 3200000 in
set_option maxRecDepth 20000 in
theorem term_no (g : Nat) (a : Option Addr) (cap : Nat) (ns : List Nd) (k : Int) (w : World) (hl : ns.length ≤ 1048576) (hs : Rd g a cap ns k w) (h2 : isK ns k 2 = false) : Calls Try.prog 30 #[.pointer (some ⟨g, 0, none⟩)] w (RdN g w) := by
  have hlt : g < w.heap.size := hs.lt
  have HC0 : Hid (w.cell? ⟨g, 0, none⟩ = some (.slice a ns.length cap)) := (cell_of_row _ _ 0 _ _ _ hs.1).trans rfl
  have HC1 : Hid (w.cell? ⟨g, 1, none⟩ = some (.int .i64 k)) := (cell_of_row _ _ 1 _ _ _ hs.1).trans rfl
  have HS : Hid (Rd g a cap ns k w) := hs
  have HAT0 : ∀ wq, Below w.heap.size w wq → Calls Try.prog 35 #[.int .i64 2, .agg #[.slice a ns.length cap], .int .i64 k] wq fun e w' => e = .returned (.tuple #[.agg #[.int .i64 0, .int .i64 0, .int .i64 0, .int .i64 0], .bool false]) ∧ Below wq.heap.size wq w' := fun wq hq => implAt_no 2 a cap ns k wq hl (hs.row.grown hq) h2
  obtain ⟨y, hy⟩ : ∃ y : Nd, y = ⟨0, 0, 0, 0⟩ := ⟨_, rfl⟩
  obtain ⟨b, hb⟩ : ∃ b : Bool, b = false := ⟨_, rfl⟩
  have HAT : Hid (∀ wq, Below w.heap.size w wq → Calls Try.prog 35 #[.int .i64 2, .agg #[.slice a ns.length cap], .int .i64 k] wq fun e w' => e = .returned (.tuple #[.agg #[.int .i64 y.k, .int .i64 y.n, .int .i64 y.a, .int .i64 y.b], .bool b]) ∧ Below wq.heap.size wq w') := by rw [hy, hb]; exact HAT0
  have HBT : Hid (b = false) := hb
  clear HAT0 hs h2 hb hy
  go_enter Try.func30, Try.ntmps30
  go_wp2_with fail
  refine wp_region_list (I := fun w' => Below w.heap.size w w') (R := TmR w.heap.size y)
    (fs := #[⟨[6], fun vs _ => vs = [.pointer (some ⟨g, 0, none⟩)]⟩, ⟨[7], fun vs _ => vs = [.pointer (some ⟨g, 0, none⟩)]⟩, ⟨[8], fun vs _ => vs = [.pointer (some ⟨g, 0, none⟩)]⟩, ⟨[9], fun vs _ => vs = [.agg #[.slice a ns.length cap]]⟩, ⟨[10], fun vs _ => vs = [.pointer (some ⟨g, 0, none⟩)]⟩, ⟨[11], fun vs _ => vs = [.pointer (some ⟨g, 0, none⟩)]⟩, ⟨[12], fun vs _ => vs = [.pointer (some ⟨g, 1, none⟩)]⟩, ⟨[13], fun vs _ => vs = [.int .i64 k]⟩, ⟨[14], fun vs _ => vs = [.tuple #[.agg #[.int .i64 y.k, .int .i64 y.n, .int .i64 y.a, .int .i64 y.b], .bool b]]⟩, ⟨[5], fun vs _ => vs = [.tuple #[.agg #[.int .i64 y.k, .int .i64 y.n, .int .i64 y.a, .int .i64 y.b], .bool b]]⟩, ⟨[15], fun vs _ => vs = [.agg #[.int .i64 y.k, .int .i64 y.n, .int .i64 y.a, .int .i64 y.b]]⟩, ⟨[16], fun vs _ => vs = [.bool b]⟩, ⟨[3], fun vs w' => ∃ h, vs = [.pointer (some ⟨h, 0, none⟩)] ∧ w.heap.size ≤ h ∧ ∃ c0 c1 c2 c3, w'.heap[h]? = some (.cells #[c0, c1, c2, c3] 52 (0, 0))⟩, ⟨[3], fun vs w' => ∃ h, vs = [.pointer (some ⟨h, 0, none⟩)] ∧ w.heap.size ≤ h ∧ w'.heap[h]? = some (.cells #[.int .i64 y.k, .int .i64 y.n, .int .i64 y.a, .int .i64 y.b] 52 (0, 0))⟩, ⟨[4], fun vs _ => vs = [.bool b]⟩])
    (by kernel_rfl) 27 rfl (by kernel_rfl) ?stab ?istab ?start ?exec ?fin
  case stab =>
    intro k i f hki hf
    have hk : k < 15 := (Array.getElem?_eq_some_iff.1 hf).1
    rcases (show k = 0 ∨ k = 1 ∨ k = 2 ∨ k = 3 ∨ k = 4 ∨ k = 5 ∨ k = 6 ∨ k = 7 ∨ k = 8 ∨ k = 9 ∨ k = 10 ∨ k = 11 ∨ k = 12 ∨ k = 13 ∨ k = 14 by omega) with rfl | rfl | rfl | rfl | rfl | rfl | rfl | rfl | rfl | rfl | rfl | rfl | rfl | rfl | rfl
    all_goals
      simp only [List.getElem?_toArray, List.getElem?_cons_succ, List.getElem?_cons_zero, Option.some.injEq] at hf
      subst hf
    · exact fun vs _ _ _ h => h
    · exact fun vs _ _ _ h => h
    · exact fun vs _ _ _ h => h
    · exact fun vs _ _ _ h => h
    · exact fun vs _ _ _ h => h
    · exact fun vs _ _ _ h => h
    · exact fun vs _ _ _ h => h
    · exact fun vs _ _ _ h => h
    · exact fun vs _ _ _ h => h
    · exact fun vs _ _ _ h => h
    · exact fun vs _ _ _ h => h
    · exact fun vs _ _ _ h => h
    · exact fun vs w' w'' hR ⟨h, h1, h2, h3⟩ => ⟨h, h1, h2, TmR.node hR h3⟩
    · exact fun vs w' w'' hR ⟨h, h1, h2, h3⟩ => ⟨h, h1, h2, by have h4 := hR; unfold TmR at h4; rw [if_neg (Ne.symm hki)] at h4; exact (h4.block _ (Array.getElem?_eq_some_iff.1 h3).1).trans h3⟩
    · exact fun vs _ _ _ h => h
  case istab => exact fun i w' w'' hR h => h.trans (hR.below h.size)
  case start => exact (Below.refl _ _).drew
  case exec =>
    intro i o f hi hf act wq hsz hI hold hpre
    have hi11 : i < 15 := (Array.getElem?_eq_some_iff.1 hi).1
    rcases (show i = 0 ∨ i = 1 ∨ i = 2 ∨ i = 3 ∨ i = 4 ∨ i = 5 ∨ i = 6 ∨ i = 7 ∨ i = 8 ∨ i = 9 ∨ i = 10 ∨ i = 11 ∨ i = 12 ∨ i = 13 ∨ i = 14 by omega) with rfl | rfl | rfl | rfl | rfl | rfl | rfl | rfl | rfl | rfl | rfl | rfl | rfl | rfl | rfl
    all_goals
      simp only [List.getElem?_toArray, List.getElem?_cons_succ, List.getElem?_cons_zero, Option.some.injEq] at hi hf
      subst hi hf
    · have g0 : act.tmps.getD 0 undef = .pointer (some ⟨g, 0, none⟩) := hold 0 (free_spec (by kernel_rfl))
      refine exec_same (v := .pointer (some ⟨g, 0, none⟩)) ?_ ⟨_, rfl, (by show (if _ then _ else _); rw [if_neg (by decide)]; exact Below.refl _ _), at_one (by omega) rfl⟩
      simp [go_sem, Act.eval, g0]
    · have g6 : act.tmps.getD 6 undef = .pointer (some ⟨g, 0, none⟩) := by have := of_one (hpre ⟨0, .data⟩ (by simp) rfl _ rfl); simpa using this
      refine exec_same (v := .pointer (some ⟨g, 0, none⟩)) ?_ ⟨_, rfl, (by show (if _ then _ else _); rw [if_neg (by decide)]; exact Below.refl _ _), at_one (by omega) rfl⟩
      simp [go_sem, Act.eval, g6]
    · have g7 : act.tmps.getD 7 undef = .pointer (some ⟨g, 0, none⟩) := by have := of_one (hpre ⟨1, .data⟩ (by simp) rfl _ rfl); simpa using this
      refine exec_same (v := .pointer (some ⟨g, 0, none⟩)) ?_ ⟨_, rfl, (by show (if _ then _ else _); rw [if_neg (by decide)]; exact Below.refl _ _), at_one (by omega) rfl⟩
      simp [go_sem, Act.eval, g7]
    · have g8 : act.tmps.getD 8 undef = .pointer (some ⟨g, 0, none⟩) := by have := of_one (hpre ⟨2, .data⟩ (by simp) rfl _ rfl); simpa using this
      have hc : wq.cell? ⟨g, 0, none⟩ = some (.slice a ns.length cap) := (hI.cell (p := ⟨g, 0, none⟩) hlt).trans HC0.out
      refine exec_same (v := .agg #[.slice a ns.length cap]) ?_ ⟨_, rfl, (by show (if _ then _ else _); rw [if_neg (by decide)]; exact Below.refl _ _), at_one (by omega) rfl⟩
      simp [go_sem, Act.eval, g8, hc]
    · have g0 : act.tmps.getD 0 undef = .pointer (some ⟨g, 0, none⟩) := hold 0 (free_spec (by kernel_rfl))
      refine exec_same (v := .pointer (some ⟨g, 0, none⟩)) ?_ ⟨_, rfl, (by show (if _ then _ else _); rw [if_neg (by decide)]; exact Below.refl _ _), at_one (by omega) rfl⟩
      simp [go_sem, Act.eval, g0]
    · have g10 : act.tmps.getD 10 undef = .pointer (some ⟨g, 0, none⟩) := by have := of_one (hpre ⟨4, .data⟩ (by simp) rfl _ rfl); simpa using this
      refine exec_same (v := .pointer (some ⟨g, 0, none⟩)) ?_ ⟨_, rfl, (by show (if _ then _ else _); rw [if_neg (by decide)]; exact Below.refl _ _), at_one (by omega) rfl⟩
      simp [go_sem, Act.eval, g10]
    · have g11 : act.tmps.getD 11 undef = .pointer (some ⟨g, 0, none⟩) := by have := of_one (hpre ⟨5, .data⟩ (by simp) rfl _ rfl); simpa using this
      refine exec_same (v := .pointer (some ⟨g, 1, none⟩)) ?_ ⟨_, rfl, (by show (if _ then _ else _); rw [if_neg (by decide)]; exact Below.refl _ _), at_one (by omega) rfl⟩
      simp [go_sem, Act.eval, g11]
    · have g12 : act.tmps.getD 12 undef = .pointer (some ⟨g, 1, none⟩) := by have := of_one (hpre ⟨6, .data⟩ (by simp) rfl _ rfl); simpa using this
      have hc : wq.cell? ⟨g, 1, none⟩ = some (.int .i64 k) := (hI.cell (p := ⟨g, 1, none⟩) hlt).trans HC1.out
      refine exec_same (v := .int .i64 k) ?_ ⟨_, rfl, (by show (if _ then _ else _); rw [if_neg (by decide)]; exact Below.refl _ _), at_one (by omega) rfl⟩
      simp [go_sem, Act.eval, g12, hc]
    · have g9 : act.tmps.getD 9 undef = .agg #[.slice a ns.length cap] := by have := of_one (hpre ⟨3, .data⟩ (by simp) rfl _ rfl); simpa using this
      have g13 : act.tmps.getD 13 undef = .int .i64 k := by have := of_one (hpre ⟨7, .data⟩ (by simp) rfl _ rfl); simpa using this
      refine exec_call (f := 35) (args := #[.int .i64 2, .agg #[.slice a ns.length cap], .int .i64 k]) (by simp [go_sem, Act.eval, g9, g13]) ?_
      refine Calls.mono (HAT.out wq hI) ?_
      rintro e w2 ⟨rfl, hb2⟩
      exact ⟨_, rfl, _, rfl, (by show (if _ then _ else _); rw [if_neg (by decide)]; exact hb2), at_one (by omega) rfl⟩
    · have g14 : act.tmps.getD 14 undef = .tuple #[.agg #[.int .i64 y.k, .int .i64 y.n, .int .i64 y.a, .int .i64 y.b], .bool b] := by have := of_one (hpre ⟨8, .data⟩ (by simp) rfl _ rfl); simpa using this
      refine exec_same (v := .tuple #[.agg #[.int .i64 y.k, .int .i64 y.n, .int .i64 y.a, .int .i64 y.b], .bool b]) ?_ ⟨_, rfl, (by show (if _ then _ else _); rw [if_neg (by decide)]; exact Below.refl _ _), at_one (by omega) rfl⟩
      simp [go_sem, Act.eval, g14]
    · have g5 : act.tmps.getD 5 undef = .tuple #[.agg #[.int .i64 y.k, .int .i64 y.n, .int .i64 y.a, .int .i64 y.b], .bool b] := by have := of_one (hpre ⟨9, .data⟩ (by simp) rfl _ rfl); simpa using this
      have g5' : act.tmps[5]?.getD undef = .tuple #[.agg #[.int .i64 y.k, .int .i64 y.n, .int .i64 y.a, .int .i64 y.b], .bool b] := by simpa using g5
      refine exec_same (v := .agg #[.int .i64 y.k, .int .i64 y.n, .int .i64 y.a, .int .i64 y.b]) ?_ ⟨_, rfl, (by show (if _ then _ else _); rw [if_neg (by decide)]; exact Below.refl _ _), at_one (by omega) rfl⟩
      simp [go_sem, Act.eval, g5']
    · have g5 : act.tmps.getD 5 undef = .tuple #[.agg #[.int .i64 y.k, .int .i64 y.n, .int .i64 y.a, .int .i64 y.b], .bool b] := by have := of_one (hpre ⟨9, .data⟩ (by simp) rfl _ rfl); simpa using this
      have g5' : act.tmps[5]?.getD undef = .tuple #[.agg #[.int .i64 y.k, .int .i64 y.n, .int .i64 y.a, .int .i64 y.b], .bool b] := by simpa using g5
      refine exec_same (v := .bool b) ?_ ⟨_, rfl, (by show (if _ then _ else _); rw [if_neg (by decide)]; exact Below.refl _ _), at_one (by omega) rfl⟩
      simp [go_sem, Act.eval, g5']
    · have hbN : Below wq.heap.size wq (wq.alloc (.cells #[.int .i64 0, .int .i64 0, .int .i64 0, .int .i64 0] 52)) := (Below.refl _ _).alloc (Nat.le_refl _) _
      refine exec_made (w' := wq.alloc (.cells #[.int .i64 0, .int .i64 0, .int .i64 0, .int .i64 0] 52)) (v := .pointer (some ⟨wq.heap.size, 0, none⟩)) ?_ ⟨_, rfl, (by show (if _ then _ else _); rw [if_neg (by decide)]; exact hbN), ⟨_, by show [(act.put _ _).tmps.getD _ undef] = _; rw [put_same _ _ _ (by omega)], hI.size, _, _, _, _, heap_alloc_new _ _⟩⟩
      simp [go_sem]
    · obtain ⟨h, h1, h2, d0, d1, d2, d3, hd⟩ := hpre ⟨12, .data⟩ (by simp) rfl _ rfl
      have g3 : act.tmps.getD 3 undef = .pointer (some ⟨h, 0, none⟩) := by simpa using h1
      have g15 : act.tmps.getD 15 undef = .agg #[.int .i64 y.k, .int .i64 y.n, .int .i64 y.a, .int .i64 y.b] := by have := of_one (hpre ⟨10, .data⟩ (by simp) rfl _ rfl); simpa using this
      have n0 : wq.cell? ⟨h, 0, none⟩ = some d0 := (cell_of_row wq _ 0 _ _ _ hd).trans rfl
      have n1 : wq.cell? ⟨h, 1, none⟩ = some d1 := (cell_of_row wq _ 1 _ _ _ hd).trans rfl
      have n2 : wq.cell? ⟨h, 2, none⟩ = some d2 := (cell_of_row wq _ 2 _ _ _ hd).trans rfl
      have n3 : wq.cell? ⟨h, 3, none⟩ = some d3 := (cell_of_row wq _ 3 _ _ _ hd).trans rfl
      have m0 : wq.frozen? ⟨h, 0, none⟩ = false := frozen_of_row wq _ 0 _ _ hd
      have m1 : wq.frozen? ⟨h, 1, none⟩ = false := frozen_of_row wq _ 1 _ _ hd
      have m2 : wq.frozen? ⟨h, 2, none⟩ = false := frozen_of_row wq _ 2 _ _ hd
      have m3 : wq.frozen? ⟨h, 3, none⟩ = false := frozen_of_row wq _ 3 _ _ hd
      refine exec_skip (w' := ((((wq.setCell ⟨h, 0, none⟩ (.int .i64 y.k)).setCell ⟨h, 1, none⟩ (.int .i64 y.n)).setCell ⟨h, 2, none⟩ (.int .i64 y.a)).setCell ⟨h, 3, none⟩ (.int .i64 y.b))) ?_ ⟨_, rfl, by show (if _ then _ else _); rw [if_pos rfl]; exact ⟨h, h2, ⟨_, _, _, _, hd⟩, rfl⟩, ⟨h, by show [act.tmps.getD 3 undef] = _; rw [g3], h2, (tm_st4 hd).1⟩⟩
      simp [go_sem, Act.eval, g3, g15, n0, n1, n2, n3, m0, m1, m2, m3]
    · have g16 : act.tmps.getD 16 undef = .bool b := by have := of_one (hpre ⟨11, .data⟩ (by simp) rfl _ rfl); simpa using this
      refine exec_same (v := .bool b) ?_ ⟨_, rfl, (by show (if _ then _ else _); rw [if_neg (by decide)]; exact Below.refl _ _), at_one (by omega) rfl⟩
      simp [go_sem, Act.eval, g16]
  case fin =>
    intro zs w5 hzl hI hF
    obtain ⟨z0, z1, z2, z3, z4, z5, z6, z7, z8, z9, z10, z11, z12, z13, z14, rfl⟩ := zl15 zs hzl
    obtain ⟨h, hv, hB, hY⟩ := of_one (hF 13 _ rfl)
    simp only [List.cons.injEq, and_true] at hv
    have hs3 := last_is (i := 12) (v := z12) (n := 27) hv (by kernel_rfl) rfl rfl (by omega)
    have hint := of_one (hF 14 _ rfl)
    simp only [List.cons.injEq, and_true] at hint
    have hs4 := last_is (i := 14) (v := z14) (n := 27) hint (by kernel_rfl) rfl rfl (by omega)
    clear hint hv
    subst hs3 hs4
    clear hF
    simp only [putAll, Act.put, List.setIfInBounds_toArray, List.set_cons_succ, List.set_cons_zero]
    have HE : Hid (w.grownBy w5 (some g)) := grw_below hI
    clear hI hY
    rw [HBT.out]
    go_wp2_with fail
    refine (want_no _ w5).mono ?_
    rintro e w6 ⟨rfl, rfl⟩
    go_wp2
    exact ⟨rfl, rfl, HE.out⟩
end Go.Proofs.Ytagjdhiicpglaaa
