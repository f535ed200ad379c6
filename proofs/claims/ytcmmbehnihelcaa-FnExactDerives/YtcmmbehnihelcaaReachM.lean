/- Chapter 5's memory, the program's: what can be had so far, behind a pointer: the row of bools, and the list of what came, tied by pointers. -/
import Derived.Test.YtcmmbehnihelcaaReachP
import Derived.WalkKit
import Derived.WalkLawsBesides
import Derived.WalkSpells
import Derived.OwnWalk
import Derived.OneCell
import Derived.Laws.OwnMore
import Derived.Laws.Rows
import Derived.Laws.NewBlocks
namespace Go.Proofs.Ytcmmbehnihelcaa
open Go.RowKit
set_option linter.unusedVariables false

/-- A pointer to the one at i of the list; nil past its end. -/
def pt (L : List (Nat × Nat)) (i : Nat) : Value := .pointer (L[i]?.map fun p => ⟨p.1, 0, none⟩)
theorem pt_some {L : List (Nat × Nat)} {i : Nat} (h : i < L.length) : pt L i = .pointer (some ⟨(L.getD i (0, 0)).1, 0, none⟩) := by
  unfold pt; rw [List.getD_eq_getElem?_getD, List.getElem?_eq_getElem h]; rfl
theorem pt_none {L : List (Nat × Nat)} {i : Nat} (h : L.length ≤ i) : pt L i = .pointer none := by
  unfold pt; rw [List.getElem?_eq_none h]; rfl
/-- What stands in memory: all but the list and the row of bools is as in w1. -/
structure Sm (w1 : World) (g h n ca ub pb : Nat) (a : Option Addr) (bs : List Bool) (L : List (Nat × Nat)) (wr : World) : Prop where
  os : wr.os = w1.os
  tape : wr.tape = w1.tape
  output : wr.output = w1.output
  size : w1.heap.size ≤ wr.heap.size
  block : ∀ k, k < w1.heap.size → k ≠ g → k ≠ h → wr.heap[k]? = w1.heap[k]?
  gl : g < w1.heap.size
  hl : h < w1.heap.size
  gh : g ≠ h
  blk : wr.heap[g]? = some (.cells #[.slice a n ca, .slice (some ⟨h, 0, none⟩) n n, .slice (some ⟨ub, 0, none⟩) n n, .slice (some ⟨pb, 0, none⟩) n n, pt L 0, pt L (L.length - 1)] 75 (0, 0))
  had : BoolsAt 0 h n wr bs
  nodes : ∀ i, i < L.length → w1.heap.size ≤ (L.getD i (0, 0)).1 ∧ wr.heap[(L.getD i (0, 0)).1]? = some (.cells #[.int .i64 ((L.getD i (0, 0)).2 : Int), pt L (i + 1)] 77 (0, 0))
  inc : ∀ i j, i < j → j < L.length → (L.getD i (0, 0)).1 < (L.getD j (0, 0)).1
theorem Sm.len {w1 : World} {g h n ca ub pb : Nat} {a : Option Addr} {bs : List Bool} {L : List (Nat × Nat)} {wr : World} (s : Sm w1 g h n ca ub pb a bs L wr) : bs.length = n := by have := s.had.1; simpa using this
theorem Sm.next {w1 : World} {g h n ca ub pb : Nat} {a : Option Addr} {bs : List Bool} {L : List (Nat × Nat)} {wr w' : World} (s : Sm w1 g h n ca ub pb a bs L wr) (hb : Below wr.heap.size wr w') : Sm w1 g h n ca ub pb a bs L w' :=
  ⟨hb.os.trans s.os, hb.tape.trans s.tape, hb.output.trans s.output, Nat.le_trans s.size hb.size, fun k h1 h2 h3 => (hb.block k (Nat.lt_of_lt_of_le h1 s.size)).trans (s.block k h1 h2 h3), s.gl, s.hl, s.gh,
   (hb.block g (Nat.lt_of_lt_of_le s.gl s.size)).trans s.blk, BoolsAt.next s.had hb, fun i hi => ⟨(s.nodes i hi).1, (hb.block _ (Array.getElem?_eq_some_iff.1 (s.nodes i hi).2).1).trans (s.nodes i hi).2⟩, s.inc⟩
theorem Sm.c0 {w1 : World} {g h n ca ub pb : Nat} {a : Option Addr} {bs : List Bool} {L : List (Nat × Nat)} {wr : World} (s : Sm w1 g h n ca ub pb a bs L wr) : wr.cell? ⟨g, 0, none⟩ = some (.slice a n ca) := (cell_of_row _ _ 0 _ _ _ s.blk).trans rfl
theorem Sm.c1 {w1 : World} {g h n ca ub pb : Nat} {a : Option Addr} {bs : List Bool} {L : List (Nat × Nat)} {wr : World} (s : Sm w1 g h n ca ub pb a bs L wr) : wr.cell? ⟨g, 1, none⟩ = some (.slice (some ⟨h, 0, none⟩) n n) := (cell_of_row _ _ 1 _ _ _ s.blk).trans rfl
theorem Sm.c2 {w1 : World} {g h n ca ub pb : Nat} {a : Option Addr} {bs : List Bool} {L : List (Nat × Nat)} {wr : World} (s : Sm w1 g h n ca ub pb a bs L wr) : wr.cell? ⟨g, 2, none⟩ = some (.slice (some ⟨ub, 0, none⟩) n n) := (cell_of_row _ _ 2 _ _ _ s.blk).trans rfl
theorem Sm.c3 {w1 : World} {g h n ca ub pb : Nat} {a : Option Addr} {bs : List Bool} {L : List (Nat × Nat)} {wr : World} (s : Sm w1 g h n ca ub pb a bs L wr) : wr.cell? ⟨g, 3, none⟩ = some (.slice (some ⟨pb, 0, none⟩) n n) := (cell_of_row _ _ 3 _ _ _ s.blk).trans rfl
theorem Sm.c4 {w1 : World} {g h n ca ub pb : Nat} {a : Option Addr} {bs : List Bool} {L : List (Nat × Nat)} {wr : World} (s : Sm w1 g h n ca ub pb a bs L wr) : wr.cell? ⟨g, 4, none⟩ = some (pt L 0) := (cell_of_row _ _ 4 _ _ _ s.blk).trans rfl
theorem Sm.c5 {w1 : World} {g h n ca ub pb : Nat} {a : Option Addr} {bs : List Bool} {L : List (Nat × Nat)} {wr : World} (s : Sm w1 g h n ca ub pb a bs L wr) : wr.cell? ⟨g, 5, none⟩ = some (pt L (L.length - 1)) := (cell_of_row _ _ 5 _ _ _ s.blk).trans rfl
theorem Sm.fz {w1 : World} {g h n ca ub pb : Nat} {a : Option Addr} {bs : List Bool} {L : List (Nat × Nat)} {wr : World} (s : Sm w1 g h n ca ub pb a bs L wr) (j : Nat) : wr.frozen? ⟨g, j, none⟩ = false := frozen_of_row _ _ _ _ _ s.blk
theorem Sm.set {w1 : World} {g h n ca ub pb : Nat} {a : Option Addr} {bs : List Bool} {L : List (Nat × Nat)} {wr : World} (s : Sm w1 g h n ca ub pb a bs L wr) (k : Nat) : Sm w1 g h n ca ub pb a (bs.set k true) L (wr.setCell ⟨h, k, none⟩ (.bool true)) := by
  refine ⟨s.os, s.tape, s.output, by simpa using s.size, fun j h1 h2 h3 => ?_, s.gl, s.hl, s.gh, ?_, BoolsAt.set s.had k, fun i hi => ⟨(s.nodes i hi).1, ?_⟩, s.inc⟩
  · rw [heap_setCell_other _ _ _ _ h3]; exact s.block j h1 h2 h3
  · rw [heap_setCell_other _ _ _ _ s.gh]; exact s.blk
  · rw [heap_setCell_other _ _ _ _ (show (L.getD i (0, 0)).1 ≠ h by have := (s.nodes i hi).1; have := s.hl; omega)]; exact (s.nodes i hi).2
theorem getD_app_l {L : List (Nat × Nat)} {x : Nat × Nat} {i : Nat} (h : i < L.length) : (L ++ [x]).getD i (0, 0) = L.getD i (0, 0) := by
  rw [List.getD_eq_getElem?_getD, List.getElem?_append_left h, ← List.getD_eq_getElem?_getD]
theorem getD_app_r {L : List (Nat × Nat)} {x : Nat × Nat} : (L ++ [x]).getD L.length (0, 0) = x := by
  rw [List.getD_eq_getElem?_getD, List.getElem?_append_right (Nat.le_refl _)]; simp
theorem pt_app_l {L : List (Nat × Nat)} {x : Nat × Nat} {i : Nat} (h : i < L.length) : pt (L ++ [x]) i = pt L i := by
  unfold pt; rw [List.getElem?_append_left h]
theorem pt_app_r {L : List (Nat × Nat)} {x : Nat × Nat} : pt (L ++ [x]) L.length = .pointer (some ⟨x.1, 0, none⟩) := by
  rw [pt_some (by simp), getD_app_r]
theorem Sm.inc_app {w1 : World} {g h n ca ub pb : Nat} {a : Option Addr} {bs : List Bool} {L : List (Nat × Nat)} {wr : World} (s : Sm w1 g h n ca ub pb a bs L wr) (k : Nat) : ∀ i j, i < j → j < (L ++ [(wr.heap.size, k)]).length → ((L ++ [(wr.heap.size, k)]).getD i (0, 0)).1 < ((L ++ [(wr.heap.size, k)]).getD j (0, 0)).1 := by
  intro i j hij hj
  simp at hj
  rw [getD_app_l (show i < L.length by omega)]
  by_cases e : j < L.length
  · rw [getD_app_l e]; exact s.inc i j hij e
  · obtain rfl : j = L.length := by omega
    rw [getD_app_r]
    exact (Array.getElem?_eq_some_iff.1 (s.nodes i hij).2).1
/-- The first one comes. -/
theorem Sm.put_nil {w1 : World} {g h n ca ub pb : Nat} {a : Option Addr} {bs : List Bool} {wr : World} (s : Sm w1 g h n ca ub pb a bs [] wr) (k : Nat) :
    Sm w1 g h n ca ub pb a bs ([] ++ [(wr.heap.size, k)]) (((wr.alloc (.cells #[.int .i64 (k : Int), .pointer none] 77)).setCell ⟨g, 4, none⟩ (.pointer (some ⟨wr.heap.size, 0, none⟩))).setCell ⟨g, 5, none⟩ (.pointer (some ⟨wr.heap.size, 0, none⟩))) := by
  have hg : g < wr.heap.size := Nat.lt_of_lt_of_le s.gl s.size
  have hh : h < wr.heap.size := Nat.lt_of_lt_of_le s.hl s.size
  refine ⟨s.os, s.tape, s.output, ?_, fun j h1 h2 h3 => ?_, s.gl, s.hl, s.gh, ?_, ?_, fun i hi => ?_, s.inc_app k⟩
  · have := s.size; simp; omega
  · rw [heap_setCell_other _ _ _ _ h2, heap_setCell_other _ _ _ _ h2, heap_alloc_old _ _ (Nat.lt_of_lt_of_le h1 s.size)]; exact s.block j h1 h2 h3
  · rw [heap_setCell_same _ g 5 _ _ _ (heap_setCell_same _ g 4 _ _ _ ((heap_alloc_old _ _ hg).trans s.blk))]; rfl
  · exact ownsRow_setCell_other (ownsRow_setCell_other (BoolsAt.next s.had ((Below.refl _ _).alloc (Nat.le_refl _) _)) (by simpa [Value.ownBlock] using fun e => s.gh e.symm) _) (by simpa [Value.ownBlock] using fun e => s.gh e.symm) _
  · obtain rfl : i = 0 := by simp at hi; exact hi
    refine ⟨s.size, ?_⟩
    show (World.heap _)[wr.heap.size]? = _
    rw [heap_setCell_other _ _ _ _ (show wr.heap.size ≠ g by omega), heap_setCell_other _ _ _ _ (show wr.heap.size ≠ g by omega), heap_alloc_new]; rfl
/-- One more comes. -/
theorem Sm.put_more {w1 : World} {g h n ca ub pb : Nat} {a : Option Addr} {bs : List Bool} {L : List (Nat × Nat)} {wr : World} (s : Sm w1 g h n ca ub pb a bs L wr) (hL : 0 < L.length) (k : Nat) :
    Sm w1 g h n ca ub pb a bs (L ++ [(wr.heap.size, k)]) (((wr.alloc (.cells #[.int .i64 (k : Int), .pointer none] 77)).setCell ⟨(L.getD (L.length - 1) (0, 0)).1, 1, none⟩ (.pointer (some ⟨wr.heap.size, 0, none⟩))).setCell ⟨g, 5, none⟩ (.pointer (some ⟨wr.heap.size, 0, none⟩))) := by
  have hg : g < wr.heap.size := Nat.lt_of_lt_of_le s.gl s.size
  have hh : h < wr.heap.size := Nat.lt_of_lt_of_le s.hl s.size
  obtain ⟨m1, m2⟩ := s.nodes (L.length - 1) (by omega)
  have m3 := (Array.getElem?_eq_some_iff.1 m2).1
  have hgm : g ≠ (L.getD (L.length - 1) (0, 0)).1 := by have := s.gl; omega
  have hhm : h ≠ (L.getD (L.length - 1) (0, 0)).1 := by have := s.hl; omega
  refine ⟨s.os, s.tape, s.output, ?_, fun j h1 h2 h3 => ?_, s.gl, s.hl, s.gh, ?_, ?_, fun i hi => ?_, s.inc_app k⟩
  · have := s.size; simp; omega
  · rw [heap_setCell_other _ _ _ _ h2, heap_setCell_other _ _ _ _ (show j ≠ (L.getD (L.length - 1) (0, 0)).1 by omega), heap_alloc_old _ _ (Nat.lt_of_lt_of_le h1 s.size)]; exact s.block j h1 h2 h3
  · have e1 : pt (L ++ [(wr.heap.size, k)]) 0 = pt L 0 := pt_app_l hL
    have e2 : pt (L ++ [(wr.heap.size, k)]) ((L ++ [(wr.heap.size, k)]).length - 1) = .pointer (some ⟨wr.heap.size, 0, none⟩) := by
      rw [show (L ++ [(wr.heap.size, k)]).length - 1 = L.length by simp]; exact pt_app_r
    rw [heap_setCell_same _ g 5 _ _ _ ((heap_setCell_other _ _ _ _ hgm).trans ((heap_alloc_old _ _ hg).trans s.blk)), e1, e2]; rfl
  · exact ownsRow_setCell_other (ownsRow_setCell_other (BoolsAt.next s.had ((Below.refl _ _).alloc (Nat.le_refl _) _)) (by simpa [Value.ownBlock] using hhm) _) (by simpa [Value.ownBlock] using fun e => s.gh e.symm) _
  · simp at hi
    by_cases e : i < L.length
    · obtain ⟨q1, q2⟩ := s.nodes i e
      have q3 := (Array.getElem?_eq_some_iff.1 q2).1
      rw [getD_app_l e]
      refine ⟨q1, ?_⟩
      rw [heap_setCell_other _ _ _ _ (show (L.getD i (0, 0)).1 ≠ g by have := s.gl; omega)]
      by_cases e2 : i + 1 < L.length
      · have := s.inc i (L.length - 1) (by omega) (by omega)
        rw [heap_setCell_other _ _ _ _ (show (L.getD i (0, 0)).1 ≠ (L.getD (L.length - 1) (0, 0)).1 by omega), heap_alloc_old _ _ q3, pt_app_l e2]; exact q2
      · obtain rfl : i = L.length - 1 := by omega
        rw [heap_setCell_same _ _ 1 _ _ _ ((heap_alloc_old _ _ q3).trans q2), show L.length - 1 + 1 = L.length by omega, pt_app_r]; rfl
    · obtain rfl : i = L.length := by omega
      rw [getD_app_r]
      refine ⟨s.size, ?_⟩
      show (World.heap _)[wr.heap.size]? = _
      rw [heap_setCell_other _ _ _ _ (show wr.heap.size ≠ g by omega), heap_setCell_other _ _ _ _ (show wr.heap.size ≠ (L.getD (L.length - 1) (0, 0)).1 by omega), heap_alloc_new, pt_none (by simp)]
theorem Sm.put_nil' {w1 : World} {g h n ca ub pb : Nat} {a : Option Addr} {bs : List Bool} {wr : World} (s : Sm w1 g h n ca ub pb a bs [] wr) (k : Nat) :
    Sm w1 g h n ca ub pb a bs [(wr.heap.size, k)] (((wr.setCell ⟨g, 4, none⟩ (.pointer (some ⟨wr.heap.size, 0, none⟩))).setCell ⟨g, 5, none⟩ (.pointer (some ⟨wr.heap.size, 0, none⟩))).alloc (.cells #[.int .i64 (k : Int), .pointer none] 77)) := by
  have hg : g < wr.heap.size := Nat.lt_of_lt_of_le s.gl s.size
  have := s.put_nil k
  rw [World.setCell_alloc_past _ _ _ _ hg, World.setCell_alloc_past _ _ _ _ (by simpa using hg)] at this
  exact this
theorem Sm.put_more' {w1 : World} {g h n ca ub pb : Nat} {a : Option Addr} {bs : List Bool} {L : List (Nat × Nat)} {wr : World} (s : Sm w1 g h n ca ub pb a bs L wr) (hL : 0 < L.length) (k : Nat) :
    Sm w1 g h n ca ub pb a bs (L ++ [(wr.heap.size, k)]) (((wr.setCell ⟨(L.getD (L.length - 1) (0, 0)).1, 1, none⟩ (.pointer (some ⟨wr.heap.size, 0, none⟩))).setCell ⟨g, 5, none⟩ (.pointer (some ⟨wr.heap.size, 0, none⟩))).alloc (.cells #[.int .i64 (k : Int), .pointer none] 77)) := by
  have hg : g < wr.heap.size := Nat.lt_of_lt_of_le s.gl s.size
  have hb := (Array.getElem?_eq_some_iff.1 (s.nodes (L.length - 1) (by omega)).2).1
  have := s.put_more hL k
  rw [World.setCell_alloc_past _ _ _ _ hb, World.setCell_alloc_past _ _ _ _ (by simpa using hg)] at this
  exact this
/-- The list holds just what is had. -/
def Pls (n : Nat) (bs : List Bool) (L : List (Nat × Nat)) : Prop := (∀ k, k ∈ L.map Prod.snd ↔ bs.getD k false = true) ∧ L.length + cnt bs = n
theorem Pls.put {n : Nat} {bs : List Bool} {L : List (Nat × Nat)} (h : Pls n bs L) {k : Nat} (z : Nat) (hk : k < bs.length) (hb : bs.getD k false = false) : Pls n (bs.set k true) (L ++ [(z, k)]) := by
  refine ⟨fun j => ?_, by have := cnt_set_one hk hb; have := h.2; simp; omega⟩
  rw [List.map_append, List.mem_append, h.1 j, getD_setT]
  simp only [List.map_cons, List.map_nil, List.mem_singleton]
  constructor
  · rintro (q | q)
    · split
      · rfl
      · exact q
    · rw [if_pos ⟨q.symm, hk⟩]
  · intro q
    split at q
    · rename_i e; exact .inr e.1.symm
    · exact .inl q
/-- What a step keeps: all blocks that were there but the two and those of the list; what came is put behind. -/
def Kp (g h : Nat) (L L' : List (Nat × Nat)) (w w' : World) : Prop := (∃ T, L' = L ++ T ∧ ∀ p ∈ T, w.heap.size ≤ p.1) ∧ w.heap.size ≤ w'.heap.size ∧ ∀ b, b < w.heap.size → b ≠ g → b ≠ h → (∀ p ∈ L, p.1 ≠ b) → w'.heap[b]? = w.heap[b]?
theorem Kp.of {g h : Nat} {L : List (Nat × Nat)} {w w' : World} (hb : Below w.heap.size w w') : Kp g h L L w w' := ⟨⟨[], by simp, by simp⟩, hb.size, fun b h1 _ _ _ => hb.block b h1⟩
theorem Kp.refl {g h : Nat} {L : List (Nat × Nat)} {w : World} : Kp g h L L w w := Kp.of (Below.refl _ _)
theorem Kp.trans {g h : Nat} {L L' L'' : List (Nat × Nat)} {w w' w'' : World} (x : Kp g h L L' w w') (y : Kp g h L' L'' w' w'') : Kp g h L L'' w w'' := by
  obtain ⟨⟨T, rfl, hT⟩, hs, hf⟩ := x
  obtain ⟨⟨T', rfl, hT'⟩, hs', hf'⟩ := y
  refine ⟨⟨T ++ T', by simp, fun p hp => ?_⟩, Nat.le_trans hs hs', fun b h1 h2 h3 h4 => (hf' b (by omega) h2 h3 fun p hp => ?_).trans (hf b h1 h2 h3 h4)⟩
  · rcases List.mem_append.1 hp with h | h
    · exact hT p h
    · have := hT' p h; omega
  · rcases List.mem_append.1 hp with h | h
    · exact h4 p h
    · have := hT p h; omega
theorem Kp.pre {g h : Nat} {L L' : List (Nat × Nat)} {w w' : World} (x : Kp g h L L' w w') : L <+: L' := by
  obtain ⟨⟨T, rfl, hT⟩, -, -⟩ := x
  exact List.prefix_append _ _
theorem Sm.lt {w1 : World} {g h n ca ub pb : Nat} {a : Option Addr} {bs : List Bool} {L : List (Nat × Nat)} {wr : World} (s : Sm w1 g h n ca ub pb a bs L wr) {p : Nat × Nat} (hp : p ∈ L) : p.1 < wr.heap.size := by
  obtain ⟨i, hi, rfl⟩ := List.getElem_of_mem hp
  have := (Array.getElem?_eq_some_iff.1 (s.nodes i hi).2).1
  rw [List.getD_eq_getElem?_getD, List.getElem?_eq_getElem hi] at this
  exact this
/-- A block that was made is kept. -/
theorem Sm.box {w1 : World} {g h n ca ub pb : Nat} {a : Option Addr} {bs : List Bool} {L L' : List (Nat × Nat)} {w w' : World} {o : Obj} (s : Sm w1 g h n ca ub pb a bs L w) (x : Kp g h L L' (w.alloc o) w') : w'.heap[w.heap.size]? = some o := by
  have h1 := s.gl
  have h2 := s.hl
  have h3 := s.size
  rw [x.2.2 w.heap.size (by simp) (by omega) (by omega) (fun p hp => by have := s.lt hp; omega)]
  exact heap_alloc_new w o
theorem Sm.kp_nil {w1 : World} {g h n ca ub pb : Nat} {a : Option Addr} {bs : List Bool} {w : World} (s : Sm w1 g h n ca ub pb a bs [] w) (k : Nat) (u v : Value) (o : Obj) : Kp g h [] [(w.heap.size, k)] w (((w.setCell ⟨g, 4, none⟩ u).setCell ⟨g, 5, none⟩ v).alloc o) := by
  refine ⟨⟨[(w.heap.size, k)], by simp, by simp⟩, by simp, fun b h1 h2 h3 h4 => ?_⟩
  rw [heap_alloc_old _ _ (by simpa using h1), heap_setCell_other _ _ _ _ h2, heap_setCell_other _ _ _ _ h2]
theorem Sm.kp_more {w1 : World} {g h n ca ub pb : Nat} {a : Option Addr} {bs : List Bool} {L : List (Nat × Nat)} {w : World} (s : Sm w1 g h n ca ub pb a bs L w) (hL : 0 < L.length) (k : Nat) (u v : Value) (o : Obj) : Kp g h L (L ++ [(w.heap.size, k)]) w (((w.setCell ⟨(L.getD (L.length - 1) (0, 0)).1, 1, none⟩ u).setCell ⟨g, 5, none⟩ v).alloc o) := by
  refine ⟨⟨[(w.heap.size, k)], by simp, by simp⟩, by simp, fun b h1 h2 h3 h4 => ?_⟩
  have hm : L.getD (L.length - 1) (0, 0) ∈ L := by
    rw [List.getD_eq_getElem?_getD, List.getElem?_eq_getElem (by omega)]; exact List.getElem_mem _
  have := h4 _ hm
  rw [heap_alloc_old _ _ (by simpa using h1), heap_setCell_other _ _ _ _ h2, heap_setCell_other _ _ _ _ (fun e => this e.symm)]
theorem Kp.set {g h : Nat} {L : List (Nat × Nat)} (w : World) (j : Nat) (v : Value) : Kp g h L L w (w.setCell ⟨h, j, none⟩ v) :=
  ⟨⟨[], by simp, by simp⟩, by simp, fun b _ _ h3 _ => heap_setCell_other _ _ _ _ h3⟩
theorem Pls.le {n : Nat} {bs : List Bool} {L : List (Nat × Nat)} (h : Pls n bs L) : L.length ≤ n := by have := h.2; omega
end Go.Proofs.Ytcmmbehnihelcaa
