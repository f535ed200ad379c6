/- The contracts of chapter 3's l03Put and Put, the specification's. -/
import Derived.Test.YtffnadnndmmliaaTermPut
import Derived.WalkKit
import Derived.WalkLawsBesides
import Derived.WalkSpells
import Derived.Laws.OwnMore
import Derived.Laws.Rows
import Derived.Deep.QuietTactic
import Derived.BigQuiet
import Derived.Deep.RegionLaw
import Derived.Deep.AppendLies
import Derived.OneCell
namespace Go.Proofs.Ytffnadnndmmliaa
open Go.RowKit

/-- An arena behind a pointer, all of it from B on. -/
def ArenaAt (B : Nat) (w : World) (g : Nat) (ns : List Nd) : Prop :=
  B ≤ g ∧ g < w.heap.size ∧ ∃ v, w.heap[g]? = some (.cells #[v] 28 (0, 0)) ∧ OwnN B w v ns ∧ v.ownBlock ≠ some g
theorem OwnN.later {B : Nat} {w w' : World} {v : Value} {ns : List Nd} (h : OwnN B w v ns) (hb : Below w.heap.size w w') : OwnN B w' v ns := by
  refine ⟨h.1, ?_⟩
  rcases h.2 with h0 | ⟨g, cap, cur, e, hg, hh, rest⟩
  · exact .inl h0
  · exact .inr ⟨g, cap, cur, e, hg, (hb.block g (Array.getElem?_eq_some_iff.1 hh).1).trans hh, rest⟩
theorem ArenaAt.later {B g : Nat} {w w' : World} {ns : List Nd} (h : ArenaAt B w g ns) (hb : Below w.heap.size w w') : ArenaAt B w' g ns := by
  obtain ⟨h1, h2, v, h3, h4, h5⟩ := h
  exact ⟨h1, Nat.lt_of_lt_of_le h2 hb.size, v, (hb.block g h2).trans h3, h4.later hb, h5⟩

/-- What l03Put holds of the world till it writes: the arena's slice, the node, all that was there. -/
def HeldP (w : World) (g : Nat) (x : Nd) (v : Value) (w' : World) : Prop := w'.cell? ⟨g, 0, none⟩ = some v ∧ w'.cell? ⟨w.heap.size, 0, none⟩ = some (.int .i64 x.k) ∧ w'.cell? ⟨w.heap.size, 1, none⟩ = some (.int .i64 x.n) ∧ w'.cell? ⟨w.heap.size, 2, none⟩ = some (.int .i64 x.a) ∧ w'.cell? ⟨w.heap.size, 3, none⟩ = some (.int .i64 x.b) ∧ w.heap.size < w'.heap.size ∧ Below w.heap.size w w'
theorem heldP_next {w w1 w2 : World} {g : Nat} {x : Nd} {v : Value} (hg : g < w.heap.size) (h : HeldP w g x v w1) (h1 : Below w1.heap.size w1 w2) : HeldP w g x v w2 := by
  obtain ⟨e0, e1, e2, e3, e4, e5, e6⟩ := h
  have hg' : g < w1.heap.size := Nat.lt_trans hg e5
  exact ⟨(h1.cell (p := ⟨g, 0, none⟩) hg').trans e0, (h1.cell (p := ⟨w.heap.size, 0, none⟩) e5).trans e1, (h1.cell (p := ⟨w.heap.size, 1, none⟩) e5).trans e2, (h1.cell (p := ⟨w.heap.size, 2, none⟩) e5).trans e3, (h1.cell (p := ⟨w.heap.size, 3, none⟩) e5).trans e4, Nat.lt_of_lt_of_le e5 h1.size, e6.trans (h1.mono e6.size)⟩
theorem heldP_start {w : World} {g : Nat} {x : Nd} {v : Value} (hg : g < w.heap.size) (hc : w.cell? ⟨g, 0, none⟩ = some v) : HeldP w g x v (w.alloc (.cells #[.int .i64 x.k, .int .i64 x.n, .int .i64 x.a, .int .i64 x.b] 45)).drew := by
  have hb : Below w.heap.size w (w.alloc (.cells #[.int .i64 x.k, .int .i64 x.n, .int .i64 x.a, .int .i64 x.b] 45)) := (Below.refl _ _).alloc (Nat.le_refl _) _
  have hn := heap_alloc_new w (.cells #[.int .i64 x.k, .int .i64 x.n, .int .i64 x.a, .int .i64 x.b] 45)
  refine ⟨(hb.cell (p := ⟨g, 0, none⟩) hg).trans hc, ?_, ?_, ?_, ?_, by simp, hb.drew⟩
  · exact (cell_of_row _ w.heap.size 0 _ _ _ hn).trans rfl
  · exact (cell_of_row _ w.heap.size 1 _ _ _ hn).trans rfl
  · exact (cell_of_row _ w.heap.size 2 _ _ _ hn).trans rfl
  · exact (cell_of_row _ w.heap.size 3 _ _ _ hn).trans rfl
theorem heldP_class {w : World} {g : Nat} {x : Nd} {v : Value} {a : Option Addr} {ns : List Nd} (hg : g < w.heap.size) (hr : RowN w.heap.size w a ns) (hc : w.cell? ⟨g, 0, none⟩ = some v) :
    ∃ S : World → Prop, S (w.alloc (.cells #[.int .i64 x.k, .int .i64 x.n, .int .i64 x.a, .int .i64 x.b] 45)).drew ∧ Nonempty (Hw S) ∧ (∀ s : Hw S, s.w.cell? ⟨g, 0, none⟩ = some v) ∧ (∀ s : Hw S, s.w.cell? ⟨w.heap.size, 0, none⟩ = some (.int .i64 x.k)) ∧ (∀ s : Hw S, s.w.cell? ⟨w.heap.size, 1, none⟩ = some (.int .i64 x.n)) ∧ (∀ s : Hw S, s.w.cell? ⟨w.heap.size, 2, none⟩ = some (.int .i64 x.a)) ∧ (∀ s : Hw S, s.w.cell? ⟨w.heap.size, 3, none⟩ = some (.int .i64 x.b)) ∧
      Hid ((∀ (s : Hw S) w', Below s.w.heap.size s.w w' → S w') ∧ (∀ s : Hw S, RowN s.w.heap.size s.w a ns) ∧ (∀ s : Hw S, S s.w.drew) ∧ (∀ w', S w' → HeldP w g x v w')) :=
  ⟨HeldP w g x v, heldP_start hg hc, ⟨⟨_, heldP_start hg hc⟩⟩, fun s => s.ok.1, fun s => s.ok.2.1, fun s => s.ok.2.2.1, fun s => s.ok.2.2.2.1, fun s => s.ok.2.2.2.2.1,
    ⟨fun s _ h1 => heldP_next hg s.ok h1, fun s => hr.grown s.ok.2.2.2.2.2.2, fun s => heldP_next hg s.ok (Below.refl _ _).drew, fun _ h => h⟩⟩

set_option maxHeartbeats 400000 in
theorem specPut_bad (B g : Nat) (ns : List Nd) (x : Nd) (w : World) (hl : ns.length ≤ 1048576) (h : ArenaAt B w g ns) (hn : nodeB x ns.length = false) :
    Calls Try.prog 103 #[.pointer (some ⟨g, 0, none⟩), .agg #[.int .i64 x.k, .int .i64 x.n, .int .i64 x.a, .int .i64 x.b]] w fun e w' => e = .returned (.int .i64 (-1)) ∧ Below w.heap.size w w' := by
  obtain ⟨h1, h2, v, h3, h4, h5⟩ := h
  obtain ⟨a, cap, rfl, ha, hr⟩ := h4.row
  have c0 : w.cell? ⟨g, 0, none⟩ = some (.slice a ns.length cap) := by rw [cell_of_row w g 0 _ _ _ h3]; rfl
  obtain ⟨S, hS0, hNE, q0, q1, q2, q3, q4, HK⟩ := heldP_class (x := x) h2 hr c0
  clear h3 h4 h5 ha hr c0
  go_enter Try.func103, Try.ntmps103
  go_wp2_with fail
  refine wp_region_held (S := S) (by kernel_rfl) (by kernel_rfl) hS0 ?_
  repeat (go_big_quiet_step ((go_at_call 105; exact Calls.held (specNode_any x ns.length _ (by omega) (by omega)) (HK.out.1 _))))
  refine wpQuiet_nil ?_
  rintro _ ⟨sw, rfl⟩
  have hB := (HK.out.2.2.2 _ sw.ok).2.2.2.2.2.2
  clear HK q0 q1 q2 q3 q4 hS0
  go_wp2
  go_ret
  exact ⟨rfl, hB⟩

set_option maxHeartbeats 800000 in
theorem specPut_found (B g : Nat) (ns : List Nd) (x : Nd) (w : World) (hl : ns.length ≤ 1048576) (h : ArenaAt B w g ns) (hn : nodeB x ns.length = true) (hf : 0 ≤ findN ns x ∨ 3000 ≤ ns.length) :
    Calls Try.prog 103 #[.pointer (some ⟨g, 0, none⟩), .agg #[.int .i64 x.k, .int .i64 x.n, .int .i64 x.a, .int .i64 x.b]] w fun e w' => e = .returned (.int .i64 (findN ns x)) ∧ Below w.heap.size w w' := by
  obtain ⟨h1, h2, v, h3, h4, h5⟩ := h
  obtain ⟨a, cap, rfl, ha, hr⟩ := h4.row
  have c0 : w.cell? ⟨g, 0, none⟩ = some (.slice a ns.length cap) := by rw [cell_of_row w g 0 _ _ _ h3]; rfl
  obtain ⟨S, hS0, hNE, q0, q1, q2, q3, q4, HK⟩ := heldP_class (x := x) h2 hr c0
  clear h3 h4 h5 ha hr c0
  go_enter Try.func103, Try.ntmps103
  go_wp2_with fail
  refine wp_region_held (S := S) (by kernel_rfl) (by kernel_rfl) hS0 ?_
  repeat (go_big_quiet_step ((go_at_call 105; exact Calls.held (specNode_any x ns.length _ (by omega) (by omega)) (HK.out.1 _))))
  refine wpQuiet_nil ?_
  rintro _ ⟨sw, rfl⟩
  go_wp2_with fail
  refine wp_region_held (S := S) (by kernel_rfl) (by kernel_rfl) (HK.out.2.2.1 _) ?_
  repeat (go_big_quiet_step ((go_at_call 106; exact Calls.held (specAt_any _ cap ns x _ (by omega) (HK.out.2.1 _)) (HK.out.1 _))))
  refine wpQuiet_nil ?_
  rintro _ ⟨sw2, rfl⟩
  obtain ⟨f, HF⟩ : ∃ f, findN ns x = f := ⟨_, rfl⟩
  rw [HF] at hf ⊢
  have HFE : Ending.returned (Value.int .i64 f) = .returned (.int .i64 (findN ns x)) := by rw [HF]
  clear HF
  by_cases hp : 0 ≤ f
  · have hd : decide (0 ≤ f) = true := by simp [hp]
    have hB := (HK.out.2.2.2 _ sw2.ok).2.2.2.2.2.2
    go_wp2
    go_ret
    exact ⟨HFE, hB⟩
  · have hd : decide (0 ≤ f) = false := by simp; omega
    have hm : (3000 : Int) ≤ (ns.length : Int) := by omega
    clear hf hp
    have hB := (HK.out.2.2.2 _ sw2.ok).2.2.2.2.2.2
    go_wp2
    go_ret
    exact ⟨HFE, hB⟩

set_option maxHeartbeats 1600000 in
theorem specPut_new (B g : Nat) (ns : List Nd) (x : Nd) (w : World) (hl : ns.length < 3000) (h : ArenaAt B w g ns) (hB : B ≤ w.heap.size) (hn : nodeB x ns.length = true) (hf : findN ns x = -1) :
    Calls Try.prog 103 #[.pointer (some ⟨g, 0, none⟩), .agg #[.int .i64 x.k, .int .i64 x.n, .int .i64 x.a, .int .i64 x.b]] w fun e w' => e = .returned (.int .i64 (ns.length : Int)) ∧ ArenaAt B w' g (ns ++ [x]) ∧ Below B w w' := by
  obtain ⟨h1, h2, v, h3, h4, h5⟩ := h
  obtain ⟨a, cap, rfl, ha, hr⟩ := h4.row
  have c0 : w.cell? ⟨g, 0, none⟩ = some (.slice a ns.length cap) := by rw [cell_of_row w g 0 _ _ _ h3]; rfl
  obtain ⟨S, hS0, hNE, q0, q1, q2, q3, q4, HK⟩ := heldP_class (x := x) h2 hr c0
  have HA : Hid _ := And.intro h3 (And.intro h4 h5)
  clear h3 h4 h5 ha hr c0
  go_enter Try.func103, Try.ntmps103
  go_wp2_with fail
  refine wp_region_held (S := S) (by kernel_rfl) (by kernel_rfl) hS0 ?_
  repeat (go_big_quiet_step ((go_at_call 105; exact Calls.held (specNode_any x ns.length _ (by omega) (by omega)) (HK.out.1 _))))
  refine wpQuiet_nil ?_
  rintro _ ⟨sw, rfl⟩
  go_wp2_with fail
  refine wp_region_held (S := S) (by kernel_rfl) (by kernel_rfl) (HK.out.2.2.1 _) ?_
  repeat (go_big_quiet_step ((go_at_call 106; exact Calls.held (specAt_any _ cap ns x _ (by omega) (HK.out.2.1 _)) (HK.out.1 _))))
  refine wpQuiet_nil ?_
  rintro _ ⟨sw2, rfl⟩
  rw [hf]
  have hm : ¬ (3000 : Int) ≤ (ns.length : Int) := by omega
  have hP := HK.out.2.2.2 _ sw2.ok
  obtain ⟨-, p1, p2, p3, p4, p5, p6⟩ := hP
  obtain ⟨h3, h4, h5⟩ := HA.out
  clear HK q0 q1 q2 q3 q4 hS0 hNE HA
  have g3 : sw2.w.heap[g]? = some (.cells #[.slice a ns.length cap] 28 (0, 0)) := (p6.block g h2).trans h3
  have g4 : OwnN B sw2.w (.slice a ns.length cap) ns := h4.later p6
  have pB : Below B w sw2.w := p6.mono hB
  obtain ⟨w3, hw3⟩ : ∃ w3, w3 = sw2.w := ⟨_, rfl⟩
  rw [← hw3] at p1 p2 p3 p4 p5 p6 g3 g4 pB ⊢
  clear hw3 sw2 sw h3 h4
  have c0 : w3.cell? ⟨g, 0, none⟩ = some (.slice a ns.length cap) := by rw [cell_of_row w3 g 0 _ _ _ g3]; rfl
  obtain ⟨i0, hi, hz0, hz1, hz2⟩ := info_parts infoNode
  have HG : Hid _ := And.intro g3 (And.intro g4 (And.intro pB h5))
  have hg3 : g < w3.heap.size := Nat.lt_trans h2 p5
  have hB3 : B ≤ w3.heap.size := by omega
  clear g3 g4 pB h5
  have HOW : Hid ((w3.alloc (.cells #[.int .i64 x.k, .int .i64 x.n, .int .i64 x.a, .int .i64 x.b] 45)).drew.ownsRow B 45 4 (.slice a ns.length cap) ns.length (cellsN ns)) := (HG.out.2.1.alloc _).drew
  have HNW : Hid (∀ j u, x.cells[j]? = some u → (w3.alloc (.cells #[.int .i64 x.k, .int .i64 x.n, .int .i64 x.a, .int .i64 x.b] 45)).drew.cell? ((⟨w3.heap.size, 0, none⟩ : Addr).add j) = some u) := World.news_of_block (cs := #[.int .i64 x.k, .int .i64 x.n, .int .i64 x.a, .int .i64 x.b]) (t := 45) (fr := (0, 0)) (heap_alloc_new w3 _)
  have HCF : Hid (∀ w4, (w3.alloc (.cells #[.int .i64 x.k, .int .i64 x.n, .int .i64 x.a, .int .i64 x.b] 45)).drew.grownBy w4 (Value.slice a ns.length cap).ownBlock → w4.heap[g]? = some (.cells #[.slice a ns.length cap] 28 (0, 0))) := fun w4 hgw => by
    rw [hgw.block g (by simp; omega) (fun h => HG.out.2.2.2 h.symm)]
    exact (heap_alloc_old w3 _ hg3).trans HG.out.1
  have HFIN : Hid (∀ gg cap1 w4, w4.ownsRow B 45 4 (.slice (some ⟨gg, 0, none⟩) (ns.length + 1) cap1) (ns.length + 1) (cellsN ns ++ x.cells) → (w3.alloc (.cells #[.int .i64 x.k, .int .i64 x.n, .int .i64 x.a, .int .i64 x.b] 45)).drew.grownBy w4 (Value.slice a ns.length cap).ownBlock → ((Value.slice a ns.length cap).ownBlock = some gg ∨ gg = w3.heap.size + 1) → ArenaAt B (w4.setCell ⟨g, 0, none⟩ (.slice (some ⟨gg, 0, none⟩) (ns.length + 1) cap1)) g (ns ++ [x]) ∧ Below B w (w4.setCell ⟨g, 0, none⟩ (.slice (some ⟨gg, 0, none⟩) (ns.length + 1) cap1))) := fun gg cap1 w4 ho hgw hat => by
    have hne : gg ≠ g := by
      rcases hat with h | h
      · intro e; subst e; exact HG.out.2.2.2 h
      · omega
    have hsz : g < w4.heap.size := Nat.lt_of_lt_of_le (by simp; omega) hgw.size
    have hblk := HCF.out w4 hgw
    have hbel : Below B w w4 := ((HG.out.2.2.1.alloc hB3 _).drew).grown hgw (by simp; omega) (fun k hk => (HG.out.2.1.lt k hk).1)
    refine ⟨⟨h1, by simpa using hsz, _, (heap_setCell_same w4 g 0 _ _ _ hblk).trans rfl, ?_, by simpa [Value.ownBlock] using hne⟩, hbel.setCell h1 _⟩
    have e : cellsN (ns ++ [x]) = cellsN ns ++ x.cells := by rw [cellsN_append]; simp [cellsN]
    unfold OwnN
    rw [e]
    simpa using ownsRow_setCell_other ho (a := ⟨g, 0, none⟩) (by simpa [Value.ownBlock] using hne) (.slice (some ⟨gg, 0, none⟩) (ns.length + 1) cap1)
  have s1 : Hid (∀ u ∈ x.cells, u.oneCell' = true) := by intro u hu; simp only [Nd.cells, List.mem_cons, List.not_mem_nil, or_false] at hu; rcases hu with rfl | rfl | rfl | rfl <;> rfl
  have s2 : Hid (ns.length + 1 ≤ maxLen) := by show _ ≤ _; unfold maxLen; omega
  have s3 : Hid ((ns.length + 1) * 32 ≤ 140737488355328) := by show _ ≤ _; omega
  have s4 : Hid (B ≤ (w3.alloc (.cells #[.int .i64 x.k, .int .i64 x.n, .int .i64 x.a, .int .i64 x.b] 45)).drew.heap.size) := by show _ ≤ _; simp; omega
  have s5 : Hid ((w3.alloc (.cells #[.int .i64 x.k, .int .i64 x.n, .int .i64 x.a, .int .i64 x.b] 45)).drew.heap.size = w3.heap.size + 1) := by show _ = _; simp
  have s6 : Hid ((0 : Nat) < 4) := by show _ < _; omega
  have s7 : Hid ((0 : Nat) < 1) := by show _ < _; omega
  go_wp2_with fail
  go_region_law (refine step_append_lies _ rfl (.tmp 35) (.tmp 37) 26 rfl B 45 i0 _ 4 32 Try.underlying26 hi hz0 hz1 hz2 rfl s6.out (.slice a ns.length cap) ns.length _ (by simp [Act.eval]) HOW.out ⟨w3.heap.size, 0, none⟩ 1 1 x.cells (by simp [Act.eval]) rfl HNW.out s1.out s7.out s2.out s3.out s4.out (w3.heap.size + 1) s5.out ?_; intro gg cap1 w4 hown1 hgrow hat hgl; have hblk := HCF.out w4 hgrow; have hcg := cell_of_row w4 g 0 _ _ _ hblk; have hfg := frozen_of_row w4 g 0 _ _ hblk; clear hblk)
  all_goals
    have HE := HFIN.out gg cap1 w4 hown1 hgrow hat
    have HEH : Hid _ := HE
    clear HE
    clear hown1 hgrow
    go_wp2
    go_ret
    exact ⟨by first | rfl | go_num, HEH.out.1, HEH.out.2⟩

/-- l03Put, whole. -/
theorem specPutP_any (B g : Nat) (ns : List Nd) (x : Nd) (w : World) (hl : ns.length ≤ 1048576) (h : ArenaAt B w g ns) (hB : B ≤ w.heap.size) :
    Calls Try.prog 103 #[.pointer (some ⟨g, 0, none⟩), .agg #[.int .i64 x.k, .int .i64 x.n, .int .i64 x.a, .int .i64 x.b]] w fun e w' => e = .returned (.int .i64 (putK ns x)) ∧ ArenaAt B w' g (putA ns x) ∧ Below B w w' := by
  cases hn : nodeB x ns.length with
  | false =>
    have e1 : putK ns x = -1 := by unfold putK; rw [if_neg (by simp [hn])]
    have e2 : putA ns x = ns := by unfold putA; rw [if_neg (by simp [hn])]
    rw [e1, e2]
    exact (specPut_bad B g ns x w hl h hn).mono fun _ _ ⟨he, hb⟩ => ⟨he, h.later hb, hb.mono hB⟩
  | true =>
    by_cases hf : findN ns x = -1 ∧ ns.length < 3000
    · have e1 : putK ns x = (ns.length : Int) := by unfold putK; rw [if_pos hn, if_pos hf]
      have e2 : putA ns x = ns ++ [x] := by unfold putA; rw [if_pos ⟨hn, hf⟩]
      rw [e1, e2]
      exact specPut_new B g ns x w hf.2 h hB hn hf.1
    · have e1 : putK ns x = findN ns x := by unfold putK; rw [if_pos hn, if_neg hf]
      have e2 : putA ns x = ns := by unfold putA; rw [if_neg (fun h => hf h.2)]
      rw [e1, e2]
      have hor : 0 ≤ findN ns x ∨ 3000 ≤ ns.length := by
        rcases findN_range ns x with h1 | h1
        · right; by_cases h2 : ns.length < 3000
          · exact absurd ⟨h1, h2⟩ hf
          · omega
        · exact .inl h1.1
      exact (specPut_found B g ns x w hl h hn hor).mono fun _ _ ⟨he, hb⟩ => ⟨he, h.later hb, hb.mono hB⟩
end Go.Proofs.Ytffnadnndmmliaa
