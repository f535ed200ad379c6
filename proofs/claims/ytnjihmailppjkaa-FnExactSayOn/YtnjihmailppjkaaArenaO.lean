/- An arena behind a pointer, and a header of it that was read ahead: what it shows stays, while l03Put, l04Atom, l04Make go on (the specification's). -/
import Derived.Test.YtnjihmailppjkaaArenaD
import Derived.Laws.Append
import Derived.Laws.AppendOwn
namespace Go.Proofs.Ytnjihmailppjkaa
open Go.RowKit
set_option linter.unusedVariables false
/-- Where an append takes a new block, no elder one has turned. -/
theorem append_old {P : Program} {w : World} (t ty : TypeId) (base : Nat) (e : TypeId) (i : TypeInfo) (z : Value) (size bytes : Nat) (ht : P.underlying t = some (.slice e)) (hi : P.info? e = some i) (hz : i.zero = some z)
    (hsize : i.size = size) (hby : i.bytes = bytes) (hzs : z.cells.size = size) (hsz : 0 < size) (v : Value) (n : Nat) (xs : List Value) (hown : w.ownsRow base e size v n xs)
    (ad : Addr) (m c : Nat) (news : List Value) (hl : news.length = m * size) (hnews : ∀ j u, news[j]? = some u → w.cell? (ad.add j) = some u) (h1 : ∀ u ∈ news, u.oneCell' = true)
    (hm : 0 < m) (h63 : n + m ≤ maxLen) (hbytes : (n + m) * bytes ≤ 140737488355328) (hbase : base ≤ w.heap.size) :
    ∃ g cap w', (Builtin.append_ #[t, t] ty #[v, .slice (some ad) m c]).run P w = .ok (.slice (some ⟨g, 0, none⟩) (n + m) cap) w' ∧
      w'.ownsRow base e size (.slice (some ⟨g, 0, none⟩) (n + m) cap) (n + m) (xs ++ news) ∧ w.grownBy w' v.ownBlock ∧ (v.ownBlock = some g ∨ (g = w.heap.size ∧ ∀ k, k < w.heap.size → w'.heap[k]? = w.heap[k]?)) ∧ g < w'.heap.size := by
  obtain ⟨g, cap, w', hr, h2, h3, h4, h5⟩ := run_append_lies (P := P) w t ty base e i z size bytes ht hi hz hsize hby hzs hsz v n xs hown ad m c news hl hnews h1 hm h63 hbytes hbase w.heap.size rfl
  refine ⟨g, cap, w', hr, h2, h3, ?_, h5⟩
  rcases h4 with h4 | h4
  · exact .inl h4
  · refine .inr ⟨h4, fun k hk => ?_⟩
    have hcs : ∀ b, v.ownBlock = some b → ∀ j u, xs[j]? = some u → w.cell? ((⟨b, 0, none⟩ : Addr).add j) = some u := fun b hb => hown.cells hb
    subst hsize hby
    rcases hown.2 with ⟨rfl, _⟩ | ⟨b, c0, cur, rfl, hbg, hg, hnc, hcm, hcz, htake⟩
    · exact h3.block k hk (by simp [Value.ownBlock])
    · by_cases hroom : n + m ≤ c0
      · have hr2 := run_append_room (P := P) w t ty e i ht hi b n c0 cur hg ad m c news hl hnews h1 hroom (by rw [hl, hcz, ← Nat.add_mul]; exact Nat.mul_le_mul_right _ hroom)
        rw [hr2] at hr
        have hb2 : b < w.heap.size := (Array.getElem?_eq_some_iff.1 hg).1
        injection hr with h6 _
        simp only [Value.slice.injEq, Option.some.injEq, Addr.mk.injEq] at h6
        omega
      · have hr2 := run_append_grow (P := P) w t ty e i z ht hi hz ⟨b, 0, none⟩ n c0 xs hown.1 (hcs b rfl) ad m c news hl hnews (by omega) (by unfold maxLen at h63; omega) (growslice_fits (by omega) hbytes)
        rw [hr2] at hr
        injection hr with _ h7
        rw [← h7]
        exact heap_alloc_old w.drew _ hk
/-- At a step of a region that draws its order. -/
theorem step_append_old {P : Program} {w : World} {ops : Array Oper} {o : Oper} {a : Act} {K : Act → World → Prop} {Q : Exit → Act → World → Prop} {E : Prop} (hgd : o.guard = none) (s x : Operand) (t : TypeId)
    (ho : o.op = .call { callee := .builtin .append, args := #[s, x], argTypes := #[t, t] })
    (base : Nat) (e : TypeId) (i : TypeInfo) (z : Value) (size bytes : Nat) (ht : P.underlying t = some (.slice e)) (hi : P.info? e = some i) (hz : i.zero = some z)
    (hsize : i.size = size) (hby : i.bytes = bytes) (hzs : z.cells.size = size) (hsz : 0 < size)
    (v : Value) (n : Nat) (xs : List Value) (hs : a.eval s = v) (hown : w.ownsRow base e size v n xs)
    (ad : Addr) (m c : Nat) (news : List Value) (hx : a.eval x = .slice (some ad) m c) (hl : news.length = m * size) (hnews : ∀ j u, news[j]? = some u → w.cell? (ad.add j) = some u) (h1 : ∀ u ∈ news, u.oneCell' = true)
    (hm : 0 < m) (h63 : n + m ≤ maxLen) (hbytes : (n + m) * bytes ≤ 140737488355328) (hbase : base ≤ w.heap.size)
    (h : ∀ g cap w', w'.ownsRow base e size (.slice (some ⟨g, 0, none⟩) (n + m) cap) (n + m) (xs ++ news) → w.grownBy w' v.ownBlock → (v.ownBlock = some g ∨ (g = w.heap.size ∧ ∀ k, k < w.heap.size → w'.heap[k]? = w.heap[k]?)) → g < w'.heap.size → K (a.put o.dst (.slice (some ⟨g, 0, none⟩) (n + m) cap)) w') :
    if Region.wanted o (yielded ops a.tmps) = true then Oper.wp P o a w K Q else E := by
  rw [if_pos (by simp [Region.wanted, hgd])]
  obtain ⟨g, cap, w', hr, h2, h3, h4, h5⟩ := append_old (P := P) t o.type base e i z size bytes ht hi hz hsize hby hzs hsz v n xs hown ad m c news hl hnews h1 hm h63 hbytes hbase
  have hk := h g cap w' h2 h3 h4 h5
  clear h h2 h3 h4 h5
  simp only [Oper.wp, execOp, ho, resolve, invoke, builtin, Sem.run_bind, Sem.run_pure, Result.andThen_ok, List.map_toArray, List.map_cons, List.map_nil, hs, hx, hr]
  exact hk
theorem RowN.same {w w' : World} {a : Option Addr} {ms : List Nd} (h : RowN w.heap.size w a ms) (hs : w.heap.size ≤ w'.heap.size) (hb : ∀ b off, a = some ⟨b, off, none⟩ → ms ≠ [] → w'.heap[b]? = w.heap[b]?) : RowN w'.heap.size w' a ms := by
  by_cases hm : ms = []
  · exact .inl hm
  rcases h with h | ⟨b, off, rfl, hlt, hc⟩
  · exact .inl h
  · have e : ∀ j, w'.cell? ⟨b, j, none⟩ = w.cell? ⟨b, j, none⟩ := fun j => World.cell?_of_block (hb b off rfl hm)
    exact .inr ⟨b, off, rfl, by omega, fun i hi => by rw [e, e, e, e]; exact hc i hi⟩
theorem RowN.pre {B : Nat} {w : World} {a : Option Addr} {ns ms : List Nd} (h : RowN B w a ns) (hp : ms <+: ns) : RowN B w a ms := by
  rcases h with h | ⟨b, off, rfl, hlt, hc⟩
  · subst h; exact .inl (List.prefix_nil.1 hp)
  · refine .inr ⟨b, off, rfl, hlt, fun i hi => ?_⟩
    have e : ns.getD i Nd.zero = ms.getD i Nd.zero := by
      obtain ⟨t, rfl⟩ := hp
      rw [List.getD_eq_getElem?_getD, List.getElem?_append_left hi, ← List.getD_eq_getElem?_getD]
    have := hc i (by have := hp.length_le; omega)
    rw [e] at this
    exact this
/-- A header of the arena that was read ahead. -/
def OldN (w : World) (g : Nat) (ns : List Nd) (a0 : Option Addr) (ms : List Nd) : Prop :=
  ∃ v, w.heap[g]? = some (.cells #[v] 39 (0, 0)) ∧ RowN w.heap.size w a0 ms ∧ ∀ b off, a0 = some ⟨b, off, none⟩ → ms ≠ [] → b ≠ g ∧ (v.ownBlock = some b → off = 0 ∧ ms <+: ns)
/-- It stays one. -/
def OldK (w w' : World) (g : Nat) (ns ns' : List Nd) : Prop := ∀ a0 ms, OldN w g ns a0 ms → OldN w' g ns' a0 ms
theorem OldK.refl (w : World) (g : Nat) (ns : List Nd) : OldK w w g ns ns := fun _ _ h => h
theorem OldK.below {w w' : World} {g : Nat} {ns : List Nd} (hb : Below w.heap.size w w') : OldK w w' g ns ns := fun a0 ms ⟨v, h1, h2, h3⟩ =>
  ⟨v, (hb.block g (Array.getElem?_eq_some_iff.1 h1).1).trans h1, h2.grown hb, h3⟩
theorem OldN.row {w : World} {g : Nat} {ns : List Nd} {a0 : Option Addr} {ms : List Nd} (h : OldN w g ns a0 ms) : RowN w.heap.size w a0 ms := by obtain ⟨_, _, h, _⟩ := h; exact h
/-- Behind an append, and the header's own store. -/
theorem OldN.appended {w w4 : World} {g gg n cap cap1 : Nat} {a : Option Addr} {ns : List Nd} {x : Nd} {a0 : Option Addr} {ms : List Nd} (h : OldN w g ns a0 ms) (hv : w.heap[g]? = some (.cells #[.slice a n cap] 39 (0, 0)))
    (ho : OwnN 0 w4 (.slice (some ⟨gg, 0, none⟩) (ns ++ [x]).length cap1) (ns ++ [x])) (hg : w.grownBy w4 (Value.slice a n cap).ownBlock) (hat : (Value.slice a n cap).ownBlock = some gg ∨ (gg = w.heap.size ∧ ∀ k, k < w.heap.size → w4.heap[k]? = w.heap[k]?)) (hne : (Value.slice a n cap).ownBlock ≠ some g) :
    OldN (w4.setCell ⟨g, 0, none⟩ (.slice (some ⟨gg, 0, none⟩) (ns ++ [x]).length cap1)) g (ns ++ [x]) a0 ms := by
  obtain ⟨v, h1, h2, h3⟩ := h
  obtain rfl : v = .slice a n cap := by rw [hv] at h1; simpa using h1.symm
  have hlt : g < w.heap.size := (Array.getElem?_eq_some_iff.1 h1).1
  have hg4 : w4.heap[g]? = some (.cells #[.slice a n cap] 39 (0, 0)) := (hg.block g hlt (fun e => hne e.symm)).trans h1
  have r4 : RowN w4.heap.size w4 a0 ms := by
    by_cases hm : ms = []
    · exact .inl hm
    rcases (show _ from h2) with h | ⟨b, off, rfl, hb, hc⟩
    · exact .inl h
    obtain ⟨_, q2⟩ := h3 b off rfl hm
    by_cases ho2 : (Value.slice a n cap).ownBlock = some b
    · obtain ⟨rfl, hp⟩ := q2 ho2
      rcases hat with e | ⟨_, hk⟩
      · obtain rfl : b = gg := by rw [ho2] at e; simpa using e
        obtain ⟨a6, c6, e6, -, r6⟩ := ho.row
        simp only [Value.slice.injEq] at e6
        rw [← e6.1] at r6
        exact r6.pre (hp.trans (List.prefix_append _ _))
      · exact h2.same hg.size (fun b' off' e' _ => by simp at e'; rw [← e'.1]; exact hk b hb)
    · exact h2.same hg.size (fun b' off' e' _ => by simp at e'; rw [← e'.1]; exact hg.block b hb (fun e => ho2 e.symm))
  have hs : (w4.setCell ⟨g, 0, none⟩ (.slice (some ⟨gg, 0, none⟩) (ns ++ [x]).length cap1)).heap.size = w4.heap.size := by simp [World.setCell]
  refine ⟨_, (heap_setCell_same w4 g 0 _ _ _ hg4).trans rfl, r4.same (by rw [hs]; exact Nat.le_refl _) (fun b off e hm => Below.heap_setCell _ _ _ _ (h3 b off e hm).1), fun b off e hm => ⟨(h3 b off e hm).1, fun e2 => ?_⟩⟩
  have e3 : gg = b := by simpa [Value.ownBlock] using e2
  rcases hat with h | ⟨h, _⟩
  · obtain ⟨r1, r2⟩ := (h3 b off e hm).2 (by rw [h, e3])
    exact ⟨r1, r2.trans (List.prefix_append _ _)⟩
  · exfalso
    rcases h2 with h2 | ⟨b', off', e', hb', _⟩
    · exact hm h2
    · rw [e'] at e
      simp only [Option.some.injEq, Addr.mk.injEq] at e
      omega
set_option maxHeartbeats 1600000 in
theorem specPut_newO (D : Nat → Prop) (g : Nat) (ns : List Nd) (x : Nd) (w : World) (hl : ns.length < 3000) (h : ArD D w g ns) (hB : ∀ k, D k → k < w.heap.size) (hn : nodeB x ns.length = true) (hf : findN ns x = -1) :
    Calls Try.prog 90 #[.pointer (some ⟨g, 0, none⟩), .agg #[.int .i64 x.k, .int .i64 x.n, .int .i64 x.a, .int .i64 x.b]] w fun e w' => e = .returned (.int .i64 (ns.length : Int)) ∧ ArD D w' g (ns ++ [x]) ∧ Safe D w w' ∧ OldK w w' g ns (ns ++ [x]) := by
  obtain ⟨h1, h2, v, h3, h4, h5, h6⟩ := h
  obtain ⟨a, cap, rfl, ha, hr⟩ := h4.row
  have c0 : w.cell? ⟨g, 0, none⟩ = some (.slice a ns.length cap) := by rw [cell_of_row w g 0 _ _ _ h3]; rfl
  obtain ⟨S, hS0, hNE, q0, q1, q2, q3, q4, HK⟩ := heldP_class (x := x) h2 hr c0
  have HA : Hid _ := And.intro h3 (And.intro h4 (And.intro h5 h6))
  clear h3 h4 h5 h6 ha hr c0
  go_enter Try.func90, Try.ntmps90
  go_wp2_with fail
  refine wp_region_held (S := S) (by kernel_rfl) (by kernel_rfl) hS0 ?_
  repeat (go_big_quiet_step ((go_at_call 47; exact Calls.held (specNode_any x ns.length _ (by omega) (by omega)) (HK.out.1 _))))
  refine wpQuiet_nil ?_
  rintro _ ⟨sw, rfl⟩
  go_wp2_with fail
  refine wp_region_held (S := S) (by kernel_rfl) (by kernel_rfl) (HK.out.2.2.1 _) ?_
  repeat (go_big_quiet_step ((go_at_call 99; exact Calls.held (specAt_any _ cap ns x _ (by omega) (HK.out.2.1 _)) (HK.out.1 _))))
  refine wpQuiet_nil ?_
  rintro _ ⟨sw2, rfl⟩
  rw [hf]
  have hm : ¬ (3000 : Int) ≤ (ns.length : Int) := by omega
  have hP := HK.out.2.2.2 _ sw2.ok
  obtain ⟨-, p1, p2, p3, p4, p5, p6⟩ := hP
  obtain ⟨h3, h4, h5, h6⟩ := HA.out
  clear HK q0 q1 q2 q3 q4 hS0 hNE HA
  have g3 : sw2.w.heap[g]? = some (.cells #[.slice a ns.length cap] 39 (0, 0)) := (p6.block g h2).trans h3
  have g4 : OwnN 0 sw2.w (.slice a ns.length cap) ns := h4.later p6
  have pB : Safe D w sw2.w := Safe.of_below p6 hB
  obtain ⟨w3, hw3⟩ : ∃ w3, w3 = sw2.w := ⟨_, rfl⟩
  rw [← hw3] at p1 p2 p3 p4 p5 p6 g3 g4 pB ⊢
  clear hw3 sw2 sw h3 h4
  have c0 : w3.cell? ⟨g, 0, none⟩ = some (.slice a ns.length cap) := by rw [cell_of_row w3 g 0 _ _ _ g3]; rfl
  obtain ⟨i0, hi, hz0, hz1, hz2⟩ := info_parts infoNode
  have HG : Hid _ := And.intro g3 (And.intro g4 (And.intro pB (And.intro h5 (And.intro h6 p6))))
  have hg3 : g < w3.heap.size := Nat.lt_trans h2 p5
  have HB3 : Hid (∀ k, D k → k < w3.heap.size) := pB.old hB
  clear g3 g4 pB h5 h6 hB
  have HOW : Hid ((w3.alloc (.cells #[.int .i64 x.k, .int .i64 x.n, .int .i64 x.a, .int .i64 x.b] 87)).drew.ownsRow 0 87 4 (.slice a ns.length cap) ns.length (cellsN ns)) := (HG.out.2.1.alloc _).drew
  have HNW : Hid (∀ j u, x.cells[j]? = some u → (w3.alloc (.cells #[.int .i64 x.k, .int .i64 x.n, .int .i64 x.a, .int .i64 x.b] 87)).drew.cell? ((⟨w3.heap.size, 0, none⟩ : Addr).add j) = some u) := World.news_of_block (cs := #[.int .i64 x.k, .int .i64 x.n, .int .i64 x.a, .int .i64 x.b]) (t := 87) (fr := (0, 0)) (heap_alloc_new w3 _)
  have HCF : Hid (∀ w4, (w3.alloc (.cells #[.int .i64 x.k, .int .i64 x.n, .int .i64 x.a, .int .i64 x.b] 87)).drew.grownBy w4 (Value.slice a ns.length cap).ownBlock → w4.heap[g]? = some (.cells #[.slice a ns.length cap] 39 (0, 0))) := fun w4 hgw => by
    rw [hgw.block g (by simp; omega) (fun h => HG.out.2.2.2.1 h.symm)]
    exact (heap_alloc_old w3 _ hg3).trans HG.out.1
  have HFIN : Hid (∀ gg cap1 w4, w4.ownsRow 0 87 4 (.slice (some ⟨gg, 0, none⟩) (ns.length + 1) cap1) (ns.length + 1) (cellsN ns ++ x.cells) → (w3.alloc (.cells #[.int .i64 x.k, .int .i64 x.n, .int .i64 x.a, .int .i64 x.b] 87)).drew.grownBy w4 (Value.slice a ns.length cap).ownBlock → ((Value.slice a ns.length cap).ownBlock = some gg ∨ (gg = (w3.alloc (.cells #[.int .i64 x.k, .int .i64 x.n, .int .i64 x.a, .int .i64 x.b] 87)).drew.heap.size ∧ ∀ k, k < (w3.alloc (.cells #[.int .i64 x.k, .int .i64 x.n, .int .i64 x.a, .int .i64 x.b] 87)).drew.heap.size → w4.heap[k]? = (w3.alloc (.cells #[.int .i64 x.k, .int .i64 x.n, .int .i64 x.a, .int .i64 x.b] 87)).drew.heap[k]?)) → ArD D (w4.setCell ⟨g, 0, none⟩ (.slice (some ⟨gg, 0, none⟩) (ns.length + 1) cap1)) g (ns ++ [x]) ∧ Safe D w (w4.setCell ⟨g, 0, none⟩ (.slice (some ⟨gg, 0, none⟩) (ns.length + 1) cap1)) ∧ OldK w (w4.setCell ⟨g, 0, none⟩ (.slice (some ⟨gg, 0, none⟩) (ns.length + 1) cap1)) g ns (ns ++ [x])) := fun gg cap1 w4 ho hgw hat0 => by
    have hat : (Value.slice a ns.length cap).ownBlock = some gg ∨ gg = w3.heap.size + 1 := by
      rcases hat0 with h | ⟨h, _⟩
      · exact .inl h
      · exact .inr (by rw [h]; simp)
    have e : cellsN (ns ++ [x]) = cellsN ns ++ x.cells := by rw [cellsN_append]; simp [cellsN]
    have hne : gg ≠ g := by
      rcases hat with h | h
      · intro e; subst e; exact HG.out.2.2.2.1 h
      · omega
    have hsz : g < w4.heap.size := Nat.lt_of_lt_of_le (by simp; omega) hgw.size
    have hblk := HCF.out w4 hgw
    have hnd : ¬ D gg := by
      rcases hat with h | h
      · exact HG.out.2.2.2.2.1 gg h
      · intro hd; have := HB3.out gg hd; omega
    have hbel : Safe D w w4 := (HG.out.2.2.1.alloc HB3.out (.cells #[.int .i64 x.k, .int .i64 x.n, .int .i64 x.a, .int .i64 x.b] 87)).trans ⟨hgw.os, hgw.tape, hgw.output, hgw.size, fun k hk => hgw.block k (by have := HB3.out k hk; simp; omega) (fun e => HG.out.2.2.2.2.1 k e.symm hk)⟩
    refine ⟨⟨h1, by simpa using hsz, _, (heap_setCell_same w4 g 0 _ _ _ hblk).trans rfl, ?_, by simpa [Value.ownBlock] using hne, fun k hk => (show gg = k by simpa [Value.ownBlock] using hk) ▸ hnd⟩, hbel.setCell h1 _, fun a0 ms hold => ?_⟩
    rotate_left
    · have hw : OldN (w3.alloc (.cells #[.int .i64 x.k, .int .i64 x.n, .int .i64 x.a, .int .i64 x.b] 87)).drew g ns a0 ms := OldK.below ((HG.out.2.2.2.2.2.trans ((Below.refl _ _).alloc (by have := HG.out.2.2.2.2.2.size; omega) _)).drew) a0 ms hold
      have ho' : OwnN 0 w4 (.slice (some ⟨gg, 0, none⟩) (ns ++ [x]).length cap1) (ns ++ [x]) := by unfold OwnN; rw [e]; simpa using ho
      have := hw.appended (show (w3.alloc (.cells #[.int .i64 x.k, .int .i64 x.n, .int .i64 x.a, .int .i64 x.b] 87)).drew.heap[g]? = _ from (heap_alloc_old w3 _ hg3).trans HG.out.1) ho' hgw hat0 HG.out.2.2.2.1
      simpa using this
    unfold OwnN
    rw [e]
    simpa using ownsRow_setCell_other ho (a := ⟨g, 0, none⟩) (by simpa [Value.ownBlock] using hne) (.slice (some ⟨gg, 0, none⟩) (ns.length + 1) cap1)
  have s1 : Hid (∀ u ∈ x.cells, u.oneCell' = true) := by intro u hu; simp only [Nd.cells, List.mem_cons, List.not_mem_nil, or_false] at hu; rcases hu with rfl | rfl | rfl | rfl <;> rfl
  have s2 : Hid (ns.length + 1 ≤ maxLen) := by show _ ≤ _; unfold maxLen; omega
  have s3 : Hid ((ns.length + 1) * 32 ≤ 140737488355328) := by show _ ≤ _; omega
  have s4 : Hid (0 ≤ (w3.alloc (.cells #[.int .i64 x.k, .int .i64 x.n, .int .i64 x.a, .int .i64 x.b] 87)).drew.heap.size) := Nat.zero_le _
  have s5 : Hid ((w3.alloc (.cells #[.int .i64 x.k, .int .i64 x.n, .int .i64 x.a, .int .i64 x.b] 87)).drew.heap.size = w3.heap.size + 1) := by show _ = _; simp
  have s6 : Hid ((0 : Nat) < 4) := by show _ < _; omega
  have s7 : Hid ((0 : Nat) < 1) := by show _ < _; omega
  go_wp2_with fail
  go_region_law (refine step_append_old rfl (.tmp 35) (.tmp 37) 37 rfl 0 87 i0 _ 4 32 Try.underlying37 hi hz0 hz1 hz2 rfl s6.out (.slice a ns.length cap) ns.length _ (by simp [Act.eval]) HOW.out ⟨w3.heap.size, 0, none⟩ 1 1 x.cells (by simp [Act.eval]) rfl HNW.out s1.out s7.out s2.out s3.out s4.out ?_; intro gg cap1 w4 hown1 hgrow hat hgl; have hblk := HCF.out w4 hgrow; have hcg := cell_of_row w4 g 0 _ _ _ hblk; have hfg := frozen_of_row w4 g 0 _ _ hblk; clear hblk)
  all_goals
    have HE := HFIN.out gg cap1 w4 hown1 hgrow hat
    have HEH : Hid _ := HE
    clear HE
    clear hown1 hgrow
    go_wp2
    go_ret
    exact ⟨by first | rfl | go_num, HEH.out.1, HEH.out.2.1, HEH.out.2.2⟩

theorem specPutO_any (D : Nat → Prop) (g : Nat) (ns : List Nd) (x : Nd) (w : World) (hl : ns.length ≤ 1048576) (h : ArD D w g ns) (hB : ∀ k, D k → k < w.heap.size) :
    Calls Try.prog 90 #[.pointer (some ⟨g, 0, none⟩), .agg #[.int .i64 x.k, .int .i64 x.n, .int .i64 x.a, .int .i64 x.b]] w fun e w' => e = .returned (.int .i64 (putK ns x)) ∧ ArD D w' g (putA ns x) ∧ Safe D w w' ∧ OldK w w' g ns (putA ns x) := by
  cases hn : nodeB x ns.length with
  | false =>
    have e1 : putK ns x = -1 := by unfold putK; rw [if_neg (by simp [hn])]
    have e2 : putA ns x = ns := by unfold putA; rw [if_neg (by simp [hn])]
    rw [e1, e2]
    exact (specPut_bad 0 g ns x w hl h.at0 hn).mono fun _ _ ⟨he, hb⟩ => ⟨he, h.later hb, Safe.of_below hb hB, OldK.below hb⟩
  | true =>
    by_cases hf : findN ns x = -1 ∧ ns.length < 3000
    · have e1 : putK ns x = (ns.length : Int) := by unfold putK; rw [if_pos hn, if_pos hf]
      have e2 : putA ns x = ns ++ [x] := by unfold putA; rw [if_pos ⟨hn, hf⟩]
      rw [e1, e2]
      exact specPut_newO D g ns x w hf.2 h hB hn hf.1
    · have e1 : putK ns x = findN ns x := by unfold putK; rw [if_pos hn, if_neg hf]
      have e2 : putA ns x = ns := by unfold putA; rw [if_neg (fun h => hf h.2)]
      rw [e1, e2]
      have hor : 0 ≤ findN ns x ∨ 3000 ≤ ns.length := by
        rcases findN_range ns x with h1 | h1
        · right; by_cases h2 : ns.length < 3000
          · exact absurd ⟨h1, h2⟩ hf
          · omega
        · exact .inl h1.1
      exact (specPut_found 0 g ns x w hl h.at0 hn hor).mono fun _ _ ⟨he, hb⟩ => ⟨he, h.later hb, Safe.of_below hb hB, OldK.below hb⟩
theorem specAtomO_any (D : Nat → Prop) (g : Nat) (ns : List Nd) (n : Int) (w : World) (hl : ns.length ≤ 1048576) (h : ArD D w g ns) (hB : ∀ k, D k → k < w.heap.size) :
    Calls Try.prog 73 #[.pointer (some ⟨g, 0, none⟩), .int .i64 n] w fun e w' => e = .returned (.int .i64 (putK ns ⟨1, n, 0, 0⟩)) ∧ ArD D w' g (putA ns ⟨1, n, 0, 0⟩) ∧ Safe D w w' ∧ OldK w w' g ns (putA ns ⟨1, n, 0, 0⟩) := by
  have H : Hid _ := specPutO_any D g ns ⟨1, n, 0, 0⟩ w hl h hB
  clear h
  go_enter Try.func73, Try.ntmps73
  go_wp2_with fail
  refine Calls.mono H.out ?_
  rintro e w1 ⟨rfl, ha, hb⟩
  have HE : Hid _ := And.intro ha hb
  clear ha hb H
  go_wp2
  go_ret
  exact ⟨rfl, HE.out.1, HE.out.2⟩

set_option maxHeartbeats 1600000 in
theorem specMakeO_any (D : Nat → Prop) (g : Nat) (ns : List Nd) (kind x y : Int) (w : World) (hl : ns.length ≤ 1048576) (h : ArD D w g ns) (hB : ∀ k, D k → k < w.heap.size) :
    Calls Try.prog 72 #[.pointer (some ⟨g, 0, none⟩), .int .i64 kind, .int .i64 x, .int .i64 y] w fun e w' => e = .returned (.int .i64 (makeK ns kind x y)) ∧ ArD D w' g (makeA ns kind x y) ∧ Safe D w w' ∧ OldK w w' g ns (makeA ns kind x y) := by
  have HH : Hid (ArD D w g ns) := h
  clear h
  cases ho : oneK kind with
  | true =>
    have HO : Hid (oneK kind = true) := ho
    by_cases hbad : kind = 1 ∨ kind = 7 ∨ x < 0
    · obtain ⟨e1, e2⟩ := make_bad (ns := ns) (kind := kind) (x := x) (y := y) (by rcases hbad with h | h | h <;> simp [h])
      rw [e1, e2]
      clear ho e1 e2
      have hk1 : (kind == 1) = false := by have := HO.out; unfold oneK at this; simp at this; simp; omega
      have hk7 : (kind == 7) = false := by have := HO.out; unfold oneK at this; simp at this; simp; omega
      have hx : x < 0 := by simp at hk1 hk7; omega
      clear hbad
      go_enter Try.func72, Try.ntmps72
      go_wp2_with fail
      refine (specOne_any kind _).mono ?_
      rintro e w1 ⟨rfl, rfl⟩
      rw [HO.out]
      go_wp2
      go_ret
      exact ⟨rfl, HH.out, Safe.refl _ _, OldK.refl _ _ _⟩
    · have hg : kind ≠ 1 ∧ kind ≠ 7 ∧ ¬ x < 0 := by omega
      obtain ⟨e1, e2⟩ := make_good (ns := ns) (x := x) (y := y) ⟨hg.1, hg.2.1⟩
      rw [e1, e2]
      have em : mkNd kind x y = ⟨kind, 0, x, 0⟩ := by unfold mkNd; rw [if_pos ho]
      rw [em]
      have hk1 : (kind == 1) = false := by simp; omega
      have hk7 : (kind == 7) = false := by simp; omega
      have hx := hg.2.2
      have H : Hid _ := specPutO_any D g ns ⟨kind, 0, x, 0⟩ w hl HH.out hB
      clear ho e1 e2 em hbad hg
      go_enter Try.func72, Try.ntmps72
      go_wp2_with fail
      refine (specOne_any kind _).mono ?_
      rintro e w1 ⟨rfl, rfl⟩
      rw [HO.out]
      go_wp2_with fail
      refine Calls.mono H.out ?_
      rintro e w1 ⟨rfl, ha, hb⟩
      have HE : Hid _ := And.intro ha hb
      clear ha hb H
      go_wp2
      go_ret
      exact ⟨rfl, HE.out.1, HE.out.2⟩
  | false =>
    have HO : Hid (oneK kind = false) := ho
    have em : mkNd kind x y = ⟨kind, 0, x, y⟩ := by unfold mkNd; rw [if_neg (by simp [ho])]
    by_cases h1 : kind = 1
    · obtain ⟨e1, e2⟩ := make_bad (ns := ns) (kind := kind) (x := x) (y := y) (.inl h1)
      rw [e1, e2]
      have hk1 : (kind == 1) = true := by simp [h1]
      clear ho em e1 e2 h1
      go_enter Try.func72, Try.ntmps72
      go_wp2_with fail
      refine (specOne_any kind _).mono ?_
      rintro e w1 ⟨rfl, rfl⟩
      rw [HO.out]
      go_wp2
      go_ret
      exact ⟨rfl, HH.out, Safe.refl _ _, OldK.refl _ _ _⟩
    by_cases h7 : kind = 7
    · obtain ⟨e1, e2⟩ := make_bad (ns := ns) (kind := kind) (x := x) (y := y) (.inr (.inl h7))
      rw [e1, e2]
      have hk1 : (kind == 1) = false := by simp [h1]
      have hk7 : (kind == 7) = true := by simp [h7]
      clear ho em e1 e2 h1 h7
      go_enter Try.func72, Try.ntmps72
      go_wp2_with fail
      refine (specOne_any kind _).mono ?_
      rintro e w1 ⟨rfl, rfl⟩
      rw [HO.out]
      go_wp2
      go_ret
      exact ⟨rfl, HH.out, Safe.refl _ _, OldK.refl _ _ _⟩
    have hk1 : (kind == 1) = false := by simp [h1]
    have hk7 : (kind == 7) = false := by simp [h7]
    by_cases hx : x < 0
    · obtain ⟨e1, e2⟩ := make_bad (ns := ns) (kind := kind) (x := x) (y := y) (.inr (.inr (.inl hx)))
      rw [e1, e2]
      clear ho em e1 e2 h1 h7
      go_enter Try.func72, Try.ntmps72
      go_wp2_with fail
      refine (specOne_any kind _).mono ?_
      rintro e w1 ⟨rfl, rfl⟩
      rw [HO.out]
      go_wp2
      go_ret
      exact ⟨rfl, HH.out, Safe.refl _ _, OldK.refl _ _ _⟩
    by_cases hy : y < 0
    · obtain ⟨e1, e2⟩ := make_bad (ns := ns) (kind := kind) (x := x) (y := y) (.inr (.inr (.inr ⟨ho, hy⟩)))
      rw [e1, e2]
      clear ho em e1 e2 h1 h7
      go_enter Try.func72, Try.ntmps72
      go_wp2_with fail
      refine (specOne_any kind _).mono ?_
      rintro e w1 ⟨rfl, rfl⟩
      rw [HO.out]
      go_wp2
      go_ret
      exact ⟨rfl, HH.out, Safe.refl _ _, OldK.refl _ _ _⟩
    obtain ⟨e1, e2⟩ := make_good (ns := ns) (x := x) (y := y) ⟨h1, h7⟩
    rw [e1, e2, em]
    have H : Hid _ := specPutO_any D g ns ⟨kind, 0, x, y⟩ w hl HH.out hB
    clear ho em e1 e2 h1 h7
    go_enter Try.func72, Try.ntmps72
    go_wp2_with fail
    refine (specOne_any kind _).mono ?_
    rintro e w1 ⟨rfl, rfl⟩
    rw [HO.out]
    go_wp2_with fail
    refine Calls.mono H.out ?_
    rintro e w1 ⟨rfl, ha, hb⟩
    have HE : Hid _ := And.intro ha hb
    clear ha hb H
    go_wp2
    go_ret
    exact ⟨rfl, HE.out.1, HE.out.2⟩

end Go.Proofs.Ytnjihmailppjkaa
