/- An arena behind a pointer, while a set of blocks stays as it was: l03Put, l04Atom, l04Make, l04List, the specification's. -/
import Derived.Test.YtnjihmailppjkaaMakeList
import Derived.WalkKit
import Derived.WalkLawsBesides
import Derived.WalkSpells
import Derived.Laws.OwnMore
import Derived.Laws.Rows
import Derived.Deep.QuietTactic
import Derived.BigQuiet
import Derived.Deep.RegionLaw
import Derived.Deep.AppendLies
import Derived.OneCell
namespace Go.Proofs.Ytnjihmailppjkaa
open Go.RowKit
set_option linter.unusedVariables false
/-- The blocks of D are as they were; the streams, too; no block has gone. -/
structure Safe (D : Nat → Prop) (w w' : World) : Prop where
  os : w'.os = w.os
  tape : w'.tape = w.tape
  output : w'.output = w.output
  size : w.heap.size ≤ w'.heap.size
  block : ∀ k, D k → w'.heap[k]? = w.heap[k]?
theorem Safe.refl (D : Nat → Prop) (w : World) : Safe D w w := ⟨rfl, rfl, rfl, Nat.le_refl _, fun _ _ => rfl⟩
theorem Safe.trans {D : Nat → Prop} {a b c : World} (h : Safe D a b) (k : Safe D b c) : Safe D a c :=
  ⟨k.os.trans h.os, k.tape.trans h.tape, k.output.trans h.output, Nat.le_trans h.size k.size, fun i hi => (k.block i hi).trans (h.block i hi)⟩
theorem Safe.mono {D D' : Nat → Prop} {w w' : World} (h : Safe D w w') (hD : ∀ k, D' k → D k) : Safe D' w w' := ⟨h.os, h.tape, h.output, h.size, fun k hk => h.block k (hD k hk)⟩
theorem Safe.of_below {B : Nat} {D : Nat → Prop} {w w' : World} (h : Below B w w') (hD : ∀ k, D k → k < B) : Safe D w w' := ⟨h.os, h.tape, h.output, h.size, fun k hk => h.block k (hD k hk)⟩
theorem Safe.below {B : Nat} {D : Nat → Prop} {w w' : World} (h : Safe D w w') (hD : ∀ k, k < B → D k) : Below B w w' := ⟨h.os, h.tape, h.output, h.size, fun k hk => h.block k (hD k hk)⟩
theorem Safe.setCell {D : Nat → Prop} {a w : World} (h : Safe D a w) {p : Addr} (hp : ¬ D p.block) (u : Value) : Safe D a (w.setCell p u) :=
  h.trans ⟨rfl, rfl, rfl, by simp [World.setCell], fun k hk => Below.heap_setCell _ _ _ _ (fun e => hp (e ▸ hk))⟩
theorem Safe.alloc {D : Nat → Prop} {a w : World} (h : Safe D a w) (hD : ∀ k, D k → k < w.heap.size) (o : Obj) : Safe D a (w.alloc o) :=
  h.trans ⟨rfl, rfl, rfl, by simp, fun k hk => Below.heap_alloc _ _ _ (hD k hk)⟩
theorem Safe.old {D : Nat → Prop} {a w : World} (h : Safe D a w) (hD : ∀ k, D k → k < a.heap.size) : ∀ k, D k → k < w.heap.size := fun k hk => Nat.lt_of_lt_of_le (hD k hk) h.size
theorem Safe.cell {D : Nat → Prop} {w w' : World} (h : Safe D w w') {p : Addr} (hp : D p.block) : w'.cell? p = w.cell? p := World.cell?_of_block (w := w) (h.block p.block hp)
/-- An arena behind a pointer, none of it in D. -/
def ArD (D : Nat → Prop) (w : World) (g : Nat) (ns : List Nd) : Prop :=
  ¬ D g ∧ g < w.heap.size ∧ ∃ v, w.heap[g]? = some (.cells #[v] 39 (0, 0)) ∧ OwnN 0 w v ns ∧ v.ownBlock ≠ some g ∧ ∀ k, v.ownBlock = some k → ¬ D k
theorem ArD.later {D : Nat → Prop} {g : Nat} {w w' : World} {ns : List Nd} (h : ArD D w g ns) (hb : Below w.heap.size w w') : ArD D w' g ns := by
  obtain ⟨h1, h2, v, h3, h4, h5, h6⟩ := h
  exact ⟨h1, Nat.lt_of_lt_of_le h2 hb.size, v, (hb.block g h2).trans h3, h4.later hb, h5, h6⟩
theorem ArenaAt.toD {B g : Nat} {w : World} {ns : List Nd} (h : ArenaAt B w g ns) : ArD (fun k => k < B) w g ns := by
  obtain ⟨h1, h2, v, h3, h4, h5⟩ := h
  exact ⟨by omega, h2, v, h3, h4.base (Nat.zero_le _), h5, fun k hk => by have := (h4.lt k hk).1; omega⟩
theorem OwnN.from {B : Nat} {w : World} {v : Value} {ns : List Nd} (h : OwnN 0 w v ns) (hB : ∀ k, v.ownBlock = some k → B ≤ k) : OwnN B w v ns := by
  refine ⟨h.1, ?_⟩
  rcases h.2 with h0 | ⟨g, cap, cur, e, hg, rest⟩
  · exact .inl h0
  · exact .inr ⟨g, cap, cur, e, hB g (by rw [e]; rfl), rest⟩
theorem ArD.toB {B g : Nat} {w : World} {ns : List Nd} (h : ArD (fun k => k < B) w g ns) : ArenaAt B w g ns := by
  obtain ⟨h1, h2, v, h3, h4, h5, h6⟩ := h
  exact ⟨by omega, h2, v, h3, h4.from (fun k hk => by have := h6 k hk; omega), h5⟩
/-- A block that was just made may be kept, too. -/
theorem ArD.wide {D : Nat → Prop} {g r : Nat} {w : World} {ns : List Nd} (h : ArD D w g ns) (hr : w.heap.size ≤ r) (w' : World) (hb : Below w.heap.size w w') : ArD (fun k => D k ∨ k = r) w' g ns := by
  obtain ⟨h1, h2, v, h3, h4, h5, h6⟩ := h.later hb
  obtain ⟨_, q2, u, q3, q4, _, _⟩ := h
  have e : u = v := by have := (hb.block g q2).trans q3; rw [h3] at this; simpa using this.symm
  subst e
  refine ⟨fun hk => hk.elim h1 (fun e => by omega), h2, u, h3, h4, h5, fun k hk hd => hd.elim (h6 k hk) (fun e => ?_)⟩
  have := (q4.lt k hk).2
  omega
theorem ArD.narrow {D D' : Nat → Prop} {g : Nat} {w : World} {ns : List Nd} (h : ArD D w g ns) (hD : ∀ k, D' k → D k) : ArD D' w g ns := by
  obtain ⟨h1, h2, v, h3, h4, h5, h6⟩ := h
  exact ⟨fun hk => h1 (hD _ hk), h2, v, h3, h4, h5, fun k hk hd => h6 k hk (hD _ hd)⟩
/-- A row of ints in a block of D. -/
def RowD (D : Nat → Prop) (w : World) (a : Option Addr) (xs : List Int) : Prop := xs = [] ∨ ∃ b off, a = some ⟨b, off, none⟩ ∧ D b ∧ ∀ j, j < xs.length → w.cell? ⟨b, off + j, none⟩ = some (.int .i64 (xs.getD j 0))
theorem RowD.at {D : Nat → Prop} {w w' : World} {b off : Nat} {xs : List Int} (h : RowD D w (some ⟨b, off, none⟩) xs) (hb : Safe D w w') {i : Nat} (hi : i < xs.length) : D b ∧ w'.cell? ⟨b, off + i, none⟩ = some (.int .i64 (xs.getD i 0)) := by
  rcases h with h | ⟨b', off', e, hd, hc⟩
  · subst h; simp at hi
  · obtain ⟨rfl, rfl⟩ : b = b' ∧ off = off' := by simpa using e
    exact ⟨hd, (hb.cell (p := ⟨b, off + i, none⟩) hd).trans (hc i hi)⟩
theorem RowD.addr {D : Nat → Prop} {w : World} {a : Option Addr} {xs : List Int} (h : RowD D w a xs) {i : Nat} (hi : i < xs.length) : ∃ b off, a = some ⟨b, off, none⟩ := by
  rcases h with h | ⟨b', off', e, hd, hc⟩
  · subst h; simp at hi
  · exact ⟨_, _, e⟩
theorem ArD.at0 {D : Nat → Prop} {g : Nat} {w : World} {ns : List Nd} (h : ArD D w g ns) : ArenaAt 0 w g ns := by
  obtain ⟨h1, h2, v, h3, h4, h5, h6⟩ := h
  exact ⟨Nat.zero_le _, h2, v, h3, h4, h5⟩
set_option maxHeartbeats 1600000 in
theorem specPut_newD (D : Nat → Prop) (g : Nat) (ns : List Nd) (x : Nd) (w : World) (hl : ns.length < 3000) (h : ArD D w g ns) (hB : ∀ k, D k → k < w.heap.size) (hn : nodeB x ns.length = true) (hf : findN ns x = -1) :
    Calls Try.prog 90 #[.pointer (some ⟨g, 0, none⟩), .agg #[.int .i64 x.k, .int .i64 x.n, .int .i64 x.a, .int .i64 x.b]] w fun e w' => e = .returned (.int .i64 (ns.length : Int)) ∧ ArD D w' g (ns ++ [x]) ∧ Safe D w w' := by
  obtain ⟨h1, h2, v, h3, h4, h5, h6⟩ := h
  obtain ⟨a, cap, rfl, ha, hr⟩ := h4.row
  have c0 : w.cell? ⟨g, 0, none⟩ = some (.slice a ns.length cap) := by rw [cell_of_row w g 0 _ _ _ h3]; rfl
  obtain ⟨S, hS0, hNE, q0, q1, q2, q3, q4, HK⟩ := heldP_class (x := x) h2 hr c0
  have HA : Hid _ := And.intro h3 (And.intro h4 (And.intro h5 h6))
  clear h3 h4 h5 h6 ha hr c0
  go_enter Try.func90, Try.ntmps90
  go_wp2_with fail
  refine wp_region_held (S := S) (by kernel_rfl) (by kernel_rfl) hS0 ?_
  repeat (go_big_quiet_step ((go_at_call 47; exact Calls.held (specNode_any x ns.length _ (by omega) (by omega)) (HK.out.1 _))))
  refine wpQuiet_nil ?_
  rintro _ ⟨sw, rfl⟩
  go_wp2_with fail
  refine wp_region_held (S := S) (by kernel_rfl) (by kernel_rfl) (HK.out.2.2.1 _) ?_
  repeat (go_big_quiet_step ((go_at_call 99; exact Calls.held (specAt_any _ cap ns x _ (by omega) (HK.out.2.1 _)) (HK.out.1 _))))
  refine wpQuiet_nil ?_
  rintro _ ⟨sw2, rfl⟩
  rw [hf]
  have hm : ¬ (3000 : Int) ≤ (ns.length : Int) := by omega
  have hP := HK.out.2.2.2 _ sw2.ok
  obtain ⟨-, p1, p2, p3, p4, p5, p6⟩ := hP
  obtain ⟨h3, h4, h5, h6⟩ := HA.out
  clear HK q0 q1 q2 q3 q4 hS0 hNE HA
  have g3 : sw2.w.heap[g]? = some (.cells #[.slice a ns.length cap] 39 (0, 0)) := (p6.block g h2).trans h3
  have g4 : OwnN 0 sw2.w (.slice a ns.length cap) ns := h4.later p6
  have pB : Safe D w sw2.w := Safe.of_below p6 hB
  obtain ⟨w3, hw3⟩ : ∃ w3, w3 = sw2.w := ⟨_, rfl⟩
  rw [← hw3] at p1 p2 p3 p4 p5 p6 g3 g4 pB ⊢
  clear hw3 sw2 sw h3 h4
  have c0 : w3.cell? ⟨g, 0, none⟩ = some (.slice a ns.length cap) := by rw [cell_of_row w3 g 0 _ _ _ g3]; rfl
  obtain ⟨i0, hi, hz0, hz1, hz2⟩ := info_parts infoNode
  have HG : Hid _ := And.intro g3 (And.intro g4 (And.intro pB (And.intro h5 h6)))
  have hg3 : g < w3.heap.size := Nat.lt_trans h2 p5
  have HB3 : Hid (∀ k, D k → k < w3.heap.size) := pB.old hB
  clear g3 g4 pB h5 h6 hB
  have HOW : Hid ((w3.alloc (.cells #[.int .i64 x.k, .int .i64 x.n, .int .i64 x.a, .int .i64 x.b] 87)).drew.ownsRow 0 87 4 (.slice a ns.length cap) ns.length (cellsN ns)) := (HG.out.2.1.alloc _).drew
  have HNW : Hid (∀ j u, x.cells[j]? = some u → (w3.alloc (.cells #[.int .i64 x.k, .int .i64 x.n, .int .i64 x.a, .int .i64 x.b] 87)).drew.cell? ((⟨w3.heap.size, 0, none⟩ : Addr).add j) = some u) := World.news_of_block (cs := #[.int .i64 x.k, .int .i64 x.n, .int .i64 x.a, .int .i64 x.b]) (t := 87) (fr := (0, 0)) (heap_alloc_new w3 _)
  have HCF : Hid (∀ w4, (w3.alloc (.cells #[.int .i64 x.k, .int .i64 x.n, .int .i64 x.a, .int .i64 x.b] 87)).drew.grownBy w4 (Value.slice a ns.length cap).ownBlock → w4.heap[g]? = some (.cells #[.slice a ns.length cap] 39 (0, 0))) := fun w4 hgw => by
    rw [hgw.block g (by simp; omega) (fun h => HG.out.2.2.2.1 h.symm)]
    exact (heap_alloc_old w3 _ hg3).trans HG.out.1
  have HFIN : Hid (∀ gg cap1 w4, w4.ownsRow 0 87 4 (.slice (some ⟨gg, 0, none⟩) (ns.length + 1) cap1) (ns.length + 1) (cellsN ns ++ x.cells) → (w3.alloc (.cells #[.int .i64 x.k, .int .i64 x.n, .int .i64 x.a, .int .i64 x.b] 87)).drew.grownBy w4 (Value.slice a ns.length cap).ownBlock → ((Value.slice a ns.length cap).ownBlock = some gg ∨ gg = w3.heap.size + 1) → ArD D (w4.setCell ⟨g, 0, none⟩ (.slice (some ⟨gg, 0, none⟩) (ns.length + 1) cap1)) g (ns ++ [x]) ∧ Safe D w (w4.setCell ⟨g, 0, none⟩ (.slice (some ⟨gg, 0, none⟩) (ns.length + 1) cap1))) := fun gg cap1 w4 ho hgw hat => by
    have hne : gg ≠ g := by
      rcases hat with h | h
      · intro e; subst e; exact HG.out.2.2.2.1 h
      · omega
    have hsz : g < w4.heap.size := Nat.lt_of_lt_of_le (by simp; omega) hgw.size
    have hblk := HCF.out w4 hgw
    have hnd : ¬ D gg := by
      rcases hat with h | h
      · exact HG.out.2.2.2.2 gg h
      · intro hd; have := HB3.out gg hd; omega
    have hbel : Safe D w w4 := (HG.out.2.2.1.alloc HB3.out (.cells #[.int .i64 x.k, .int .i64 x.n, .int .i64 x.a, .int .i64 x.b] 87)).trans ⟨hgw.os, hgw.tape, hgw.output, hgw.size, fun k hk => hgw.block k (by have := HB3.out k hk; simp; omega) (fun e => HG.out.2.2.2.2 k e.symm hk)⟩
    refine ⟨⟨h1, by simpa using hsz, _, (heap_setCell_same w4 g 0 _ _ _ hblk).trans rfl, ?_, by simpa [Value.ownBlock] using hne, fun k hk => (show gg = k by simpa [Value.ownBlock] using hk) ▸ hnd⟩, hbel.setCell h1 _⟩
    have e : cellsN (ns ++ [x]) = cellsN ns ++ x.cells := by rw [cellsN_append]; simp [cellsN]
    unfold OwnN
    rw [e]
    simpa using ownsRow_setCell_other ho (a := ⟨g, 0, none⟩) (by simpa [Value.ownBlock] using hne) (.slice (some ⟨gg, 0, none⟩) (ns.length + 1) cap1)
  have s1 : Hid (∀ u ∈ x.cells, u.oneCell' = true) := by intro u hu; simp only [Nd.cells, List.mem_cons, List.not_mem_nil, or_false] at hu; rcases hu with rfl | rfl | rfl | rfl <;> rfl
  have s2 : Hid (ns.length + 1 ≤ maxLen) := by show _ ≤ _; unfold maxLen; omega
  have s3 : Hid ((ns.length + 1) * 32 ≤ 140737488355328) := by show _ ≤ _; omega
  have s4 : Hid (0 ≤ (w3.alloc (.cells #[.int .i64 x.k, .int .i64 x.n, .int .i64 x.a, .int .i64 x.b] 87)).drew.heap.size) := Nat.zero_le _
  have s5 : Hid ((w3.alloc (.cells #[.int .i64 x.k, .int .i64 x.n, .int .i64 x.a, .int .i64 x.b] 87)).drew.heap.size = w3.heap.size + 1) := by show _ = _; simp
  have s6 : Hid ((0 : Nat) < 4) := by show _ < _; omega
  have s7 : Hid ((0 : Nat) < 1) := by show _ < _; omega
  go_wp2_with fail
  go_region_law (refine step_append_lies _ rfl (.tmp 35) (.tmp 37) 37 rfl 0 87 i0 _ 4 32 Try.underlying37 hi hz0 hz1 hz2 rfl s6.out (.slice a ns.length cap) ns.length _ (by simp [Act.eval]) HOW.out ⟨w3.heap.size, 0, none⟩ 1 1 x.cells (by simp [Act.eval]) rfl HNW.out s1.out s7.out s2.out s3.out s4.out (w3.heap.size + 1) s5.out ?_; intro gg cap1 w4 hown1 hgrow hat hgl; have hblk := HCF.out w4 hgrow; have hcg := cell_of_row w4 g 0 _ _ _ hblk; have hfg := frozen_of_row w4 g 0 _ _ hblk; clear hblk)
  all_goals
    have HE := HFIN.out gg cap1 w4 hown1 hgrow hat
    have HEH : Hid _ := HE
    clear HE
    clear hown1 hgrow
    go_wp2
    go_ret
    exact ⟨by first | rfl | go_num, HEH.out.1, HEH.out.2⟩

/-- l03Put, whole. -/
theorem specPutD_any (D : Nat → Prop) (g : Nat) (ns : List Nd) (x : Nd) (w : World) (hl : ns.length ≤ 1048576) (h : ArD D w g ns) (hB : ∀ k, D k → k < w.heap.size) :
    Calls Try.prog 90 #[.pointer (some ⟨g, 0, none⟩), .agg #[.int .i64 x.k, .int .i64 x.n, .int .i64 x.a, .int .i64 x.b]] w fun e w' => e = .returned (.int .i64 (putK ns x)) ∧ ArD D w' g (putA ns x) ∧ Safe D w w' := by
  cases hn : nodeB x ns.length with
  | false =>
    have e1 : putK ns x = -1 := by unfold putK; rw [if_neg (by simp [hn])]
    have e2 : putA ns x = ns := by unfold putA; rw [if_neg (by simp [hn])]
    rw [e1, e2]
    exact (specPut_bad 0 g ns x w hl h.at0 hn).mono fun _ _ ⟨he, hb⟩ => ⟨he, h.later hb, Safe.of_below hb hB⟩
  | true =>
    by_cases hf : findN ns x = -1 ∧ ns.length < 3000
    · have e1 : putK ns x = (ns.length : Int) := by unfold putK; rw [if_pos hn, if_pos hf]
      have e2 : putA ns x = ns ++ [x] := by unfold putA; rw [if_pos ⟨hn, hf⟩]
      rw [e1, e2]
      exact specPut_newD D g ns x w hf.2 h hB hn hf.1
    · have e1 : putK ns x = findN ns x := by unfold putK; rw [if_pos hn, if_neg hf]
      have e2 : putA ns x = ns := by unfold putA; rw [if_neg (fun h => hf h.2)]
      rw [e1, e2]
      have hor : 0 ≤ findN ns x ∨ 3000 ≤ ns.length := by
        rcases findN_range ns x with h1 | h1
        · right; by_cases h2 : ns.length < 3000
          · exact absurd ⟨h1, h2⟩ hf
          · omega
        · exact .inl h1.1
      exact (specPut_found 0 g ns x w hl h.at0 hn hor).mono fun _ _ ⟨he, hb⟩ => ⟨he, h.later hb, Safe.of_below hb hB⟩
theorem specAtomD_any (D : Nat → Prop) (g : Nat) (ns : List Nd) (n : Int) (w : World) (hl : ns.length ≤ 1048576) (h : ArD D w g ns) (hB : ∀ k, D k → k < w.heap.size) :
    Calls Try.prog 73 #[.pointer (some ⟨g, 0, none⟩), .int .i64 n] w fun e w' => e = .returned (.int .i64 (putK ns ⟨1, n, 0, 0⟩)) ∧ ArD D w' g (putA ns ⟨1, n, 0, 0⟩) ∧ Safe D w w' := by
  have H : Hid _ := specPutD_any D g ns ⟨1, n, 0, 0⟩ w hl h hB
  clear h
  go_enter Try.func73, Try.ntmps73
  go_wp2_with fail
  refine Calls.mono H.out ?_
  rintro e w1 ⟨rfl, ha, hb⟩
  have HE : Hid _ := And.intro ha hb
  clear ha hb H
  go_wp2
  go_ret
  exact ⟨rfl, HE.out.1, HE.out.2⟩

set_option maxHeartbeats 800000 in
theorem specMakeD_any (D : Nat → Prop) (g : Nat) (ns : List Nd) (kind x y : Int) (w : World) (hl : ns.length ≤ 1048576) (h : ArD D w g ns) (hB : ∀ k, D k → k < w.heap.size) :
    Calls Try.prog 72 #[.pointer (some ⟨g, 0, none⟩), .int .i64 kind, .int .i64 x, .int .i64 y] w fun e w' => e = .returned (.int .i64 (makeK ns kind x y)) ∧ ArD D w' g (makeA ns kind x y) ∧ Safe D w w' := by
  have HH : Hid (ArD D w g ns) := h
  clear h
  cases ho : oneK kind with
  | true =>
    have HO : Hid (oneK kind = true) := ho
    by_cases hbad : kind = 1 ∨ kind = 7 ∨ x < 0
    · obtain ⟨e1, e2⟩ := make_bad (ns := ns) (kind := kind) (x := x) (y := y) (by rcases hbad with h | h | h <;> simp [h])
      rw [e1, e2]
      clear ho e1 e2
      have hk1 : (kind == 1) = false := by have := HO.out; unfold oneK at this; simp at this; simp; omega
      have hk7 : (kind == 7) = false := by have := HO.out; unfold oneK at this; simp at this; simp; omega
      have hx : x < 0 := by simp at hk1 hk7; omega
      clear hbad
      go_enter Try.func72, Try.ntmps72
      go_wp2_with fail
      refine (specOne_any kind _).mono ?_
      rintro e w1 ⟨rfl, rfl⟩
      rw [HO.out]
      go_wp2
      go_ret
      exact ⟨rfl, HH.out, Safe.refl _ _⟩
    · have hg : kind ≠ 1 ∧ kind ≠ 7 ∧ ¬ x < 0 := by omega
      obtain ⟨e1, e2⟩ := make_good (ns := ns) (x := x) (y := y) ⟨hg.1, hg.2.1⟩
      rw [e1, e2]
      have em : mkNd kind x y = ⟨kind, 0, x, 0⟩ := by unfold mkNd; rw [if_pos ho]
      rw [em]
      have hk1 : (kind == 1) = false := by simp; omega
      have hk7 : (kind == 7) = false := by simp; omega
      have hx := hg.2.2
      have H : Hid _ := specPutD_any D g ns ⟨kind, 0, x, 0⟩ w hl HH.out hB
      clear ho e1 e2 em hbad hg
      go_enter Try.func72, Try.ntmps72
      go_wp2_with fail
      refine (specOne_any kind _).mono ?_
      rintro e w1 ⟨rfl, rfl⟩
      rw [HO.out]
      go_wp2_with fail
      refine Calls.mono H.out ?_
      rintro e w1 ⟨rfl, ha, hb⟩
      have HE : Hid _ := And.intro ha hb
      clear ha hb H
      go_wp2
      go_ret
      exact ⟨rfl, HE.out.1, HE.out.2⟩
  | false =>
    have HO : Hid (oneK kind = false) := ho
    have em : mkNd kind x y = ⟨kind, 0, x, y⟩ := by unfold mkNd; rw [if_neg (by simp [ho])]
    by_cases h1 : kind = 1
    · obtain ⟨e1, e2⟩ := make_bad (ns := ns) (kind := kind) (x := x) (y := y) (.inl h1)
      rw [e1, e2]
      have hk1 : (kind == 1) = true := by simp [h1]
      clear ho em e1 e2 h1
      go_enter Try.func72, Try.ntmps72
      go_wp2_with fail
      refine (specOne_any kind _).mono ?_
      rintro e w1 ⟨rfl, rfl⟩
      rw [HO.out]
      go_wp2
      go_ret
      exact ⟨rfl, HH.out, Safe.refl _ _⟩
    by_cases h7 : kind = 7
    · obtain ⟨e1, e2⟩ := make_bad (ns := ns) (kind := kind) (x := x) (y := y) (.inr (.inl h7))
      rw [e1, e2]
      have hk1 : (kind == 1) = false := by simp [h1]
      have hk7 : (kind == 7) = true := by simp [h7]
      clear ho em e1 e2 h1 h7
      go_enter Try.func72, Try.ntmps72
      go_wp2_with fail
      refine (specOne_any kind _).mono ?_
      rintro e w1 ⟨rfl, rfl⟩
      rw [HO.out]
      go_wp2
      go_ret
      exact ⟨rfl, HH.out, Safe.refl _ _⟩
    have hk1 : (kind == 1) = false := by simp [h1]
    have hk7 : (kind == 7) = false := by simp [h7]
    by_cases hx : x < 0
    · obtain ⟨e1, e2⟩ := make_bad (ns := ns) (kind := kind) (x := x) (y := y) (.inr (.inr (.inl hx)))
      rw [e1, e2]
      clear ho em e1 e2 h1 h7
      go_enter Try.func72, Try.ntmps72
      go_wp2_with fail
      refine (specOne_any kind _).mono ?_
      rintro e w1 ⟨rfl, rfl⟩
      rw [HO.out]
      go_wp2
      go_ret
      exact ⟨rfl, HH.out, Safe.refl _ _⟩
    by_cases hy : y < 0
    · obtain ⟨e1, e2⟩ := make_bad (ns := ns) (kind := kind) (x := x) (y := y) (.inr (.inr (.inr ⟨ho, hy⟩)))
      rw [e1, e2]
      clear ho em e1 e2 h1 h7
      go_enter Try.func72, Try.ntmps72
      go_wp2_with fail
      refine (specOne_any kind _).mono ?_
      rintro e w1 ⟨rfl, rfl⟩
      rw [HO.out]
      go_wp2
      go_ret
      exact ⟨rfl, HH.out, Safe.refl _ _⟩
    obtain ⟨e1, e2⟩ := make_good (ns := ns) (x := x) (y := y) ⟨h1, h7⟩
    rw [e1, e2, em]
    have H : Hid _ := specPutD_any D g ns ⟨kind, 0, x, y⟩ w hl HH.out hB
    clear ho em e1 e2 h1 h7
    go_enter Try.func72, Try.ntmps72
    go_wp2_with fail
    refine (specOne_any kind _).mono ?_
    rintro e w1 ⟨rfl, rfl⟩
    rw [HO.out]
    go_wp2_with fail
    refine Calls.mono H.out ?_
    rintro e w1 ⟨rfl, ha, hb⟩
    have HE : Hid _ := And.intro ha hb
    clear ha hb H
    go_wp2
    go_ret
    exact ⟨rfl, HE.out.1, HE.out.2⟩

set_option maxHeartbeats 800000 in
theorem listD_any (D : Nat → Prop) (g : Nat) (ns : List Nd) (la : Option Addr) (lc : Nat) (xs : List Int) (w : World) (hl : ns.length ≤ 1048576) (hxl : xs.length ≤ 2000000) (hx : RowD D w la xs) (h : ArD D w g ns) (hB : ∀ k, D k → k < w.heap.size) :
    Calls Try.prog 74 #[.pointer (some ⟨g, 0, none⟩), .slice la xs.length lc] w fun e w' => e = .returned (.int .i64 (listF xs ns).2) ∧ ArD D w' g (listF xs ns).1 ∧ Safe D w w' := by
  have HX : Hid (RowD D w la xs) := hx
  have HBO : Hid (∀ k, D k → k < w.heap.size) := hB
  have H0 : Hid _ := specAtomD_any D g ns 0 w hl h hB
  clear hx h hB
  go_enter Try.func74, Try.ntmps74
  go_wp2_with fail
  refine Calls.mono H0.out ?_
  rintro e w1 ⟨rfl, ha1, hb1⟩
  have HL1 : Hid (listF (xs.drop xs.length) ns = (putA ns ⟨1, 0, 0, 0⟩, putK ns ⟨1, 0, 0, 0⟩)) := by show _ = _; rw [List.drop_length]; rfl
  go_wp2
  go_loopw [5, 6] (fun k i wr => ∃ m : Nat, m ≤ xs.length ∧ i = .int .i64 ((m : Int) - 1) ∧ k = .int .i64 (listF (xs.drop m) ns).2 ∧ Hid (ArD D wr g (listF (xs.drop m) ns).1) ∧ Safe D w wr)
    (fun _ i _ => (intOf i + 1).toNat)
  case atStart => exact ⟨xs.length, Nat.le_refl _, rfl, by rw [HL1.out], by rw [HL1.out]; exact ha1, hb1⟩
  case round =>
    obtain ⟨m, hm, rfl, rfl, HA, hbel⟩ := hrel
    by_cases h0 : m = 0
    · subst h0
      have hz : ¬ (0 : Int) ≤ ((0 : Nat) : Int) - 1 := by omega
      rw [List.drop_zero] at HA ⊢
      go_wp2
      go_ret
      exact ⟨rfl, HA.out, hbel⟩
    · obtain ⟨m, rfl⟩ : ∃ q, m = q + 1 := ⟨m - 1, by omega⟩
      have e1 : ((m + 1 : Nat) : Int) - 1 = (m : Int) := by omega
      rw [e1]
      have hlt : m < xs.length := by omega
      obtain ⟨b, off, rfl⟩ := HX.out.addr hlt
      have c0 := (HX.out.at hbel hlt).2
      have hi0 : (0 : Int) ≤ (m : Int) := by omega
      have hi1 : (m : Int) < (xs.length : Int) := by omega
      have HLD : Hid _ := listF_drop xs ns hlt
      have hle := listF_le (xs.drop (m + 1)) hl
      have HM : Hid (Calls Try.prog 72 #[.pointer (some ⟨g, 0, none⟩), .int .i64 2, .int .i64 (xs.getD m 0), .int .i64 (listF (xs.drop (m + 1)) ns).2] wr fun e w' => e = .returned (.int .i64 (listF (xs.drop m) ns).2) ∧ ArD D w' g (listF (xs.drop m) ns).1 ∧ Safe D wr w') := by
        have := specMakeD_any D g (listF (xs.drop (m + 1)) ns).1 2 (xs.getD m 0) (listF (xs.drop (m + 1)) ns).2 wr hle HA.out (hbel.old HBO.out)
        show Calls _ _ _ _ _
        rw [HLD.out]
        exact this
      generalize xs.getD m 0 = y at c0 HM
      generalize (listF (xs.drop (m + 1)) ns).2 = kk at HM
      clear HA HLD hle e1
      go_wp2_with fail
      refine Calls.mono HM.out ?_
      rintro e w2 ⟨rfl, ha2, hb2⟩
      have HA2 : Hid (ArD D w2 g (listF (xs.drop m) ns).1) := ha2
      have hbel2 := hbel.trans hb2
      clear ha2 hb2 HM c0
      go_wp2
      go_roundw
      case rel => exact ⟨m, by omega, by go_num, rfl, HA2.out, hbel2⟩
      case measure => simp [intOf] <;> omega
end Go.Proofs.Ytnjihmailppjkaa
