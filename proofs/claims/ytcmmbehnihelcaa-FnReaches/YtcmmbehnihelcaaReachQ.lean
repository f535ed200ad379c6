/- Chapter 5's memory while it is laid out, the program's: who uses whom, and the pubs. -/
import Derived.Test.YtcmmbehnihelcaaReachH
import Derived.WalkKit
import Derived.OwnWalk
import Derived.OneCell
import Derived.Laws.OwnMore
import Derived.Laws.Rows
import Derived.Laws.NewBlocks
namespace Go.Proofs.Ytcmmbehnihelcaa
open Go.RowKit
set_option linter.unusedVariables false
def nilS : Value := .slice none 0 0
def kI (us : List Nat) : List Value := us.map (fun k : Nat => Value.int .i64 (k : Int))
/-- What is laid so far. -/
structure Bd (w : World) (g h ub pb n ca : Nat) (a : Option Addr) (vs : List Value) (us : List (List Nat)) (ps : List Int) (ks : List (Nat × Obj)) (wr : World) : Prop where
  bel : Below w.heap.size w wr
  size : w.heap.size + 4 ≤ wr.heap.size
  g1 : g = w.heap.size + 3
  h1 : w.heap.size ≤ h ∧ h < w.heap.size + 3
  u1 : w.heap.size ≤ ub ∧ ub < w.heap.size + 3
  p1 : w.heap.size ≤ pb ∧ pb < w.heap.size + 3
  ne : h ≠ ub ∧ h ≠ pb ∧ ub ≠ pb
  blk : wr.heap[g]? = some (.cells #[.slice a n ca, .slice (some ⟨h, 0, none⟩) n n, .slice (some ⟨ub, 0, none⟩) n n, .slice (some ⟨pb, 0, none⟩) n n, .pointer none, .pointer none] 75 (0, 0))
  had : BoolsAt 0 h n wr (List.replicate n false)
  pubs : wr.ownsRow 0 3 1 (.slice (some ⟨pb, 0, none⟩) n n) n (ps.map (Value.int .i64))
  usl : us.length = n
  row : wr.ownsRow 0 27 1 (.slice (some ⟨ub, 0, none⟩) n n) n vs
  rows : ∀ j, j < n → wr.ownsRow (w.heap.size + 4) 3 1 (vs.getD j nilS) (us.getD j []).length (kI (us.getD j []))
  apart : ∀ i j, i < n → j < n → i ≠ j → ∀ b, (vs.getD i nilS).ownBlock = some b → (vs.getD j nilS).ownBlock ≠ some b
  boxes : ∀ z o, (z, o) ∈ ks → w.heap.size + 4 ≤ z ∧ wr.heap[z]? = some o ∧ ∀ j, j < n → (vs.getD j nilS).ownBlock ≠ some z
theorem Bd.vsl {w : World} {g h ub pb n ca : Nat} {a : Option Addr} {vs : List Value} {us : List (List Nat)} {ps : List Int} {ks : List (Nat × Obj)} {wr : World} (s : Bd w g h ub pb n ca a vs us ps ks wr) : vs.length = n := by have := s.row.1; simpa using this
theorem Bd.psl {w : World} {g h ub pb n ca : Nat} {a : Option Addr} {vs : List Value} {us : List (List Nat)} {ps : List Int} {ks : List (Nat × Obj)} {wr : World} (s : Bd w g h ub pb n ca a vs us ps ks wr) : ps.length = n := by have := s.pubs.1; simpa using this
theorem Bd.next {w : World} {g h ub pb n ca : Nat} {a : Option Addr} {vs : List Value} {us : List (List Nat)} {ps : List Int} {ks : List (Nat × Obj)} {wr w' : World} (s : Bd w g h ub pb n ca a vs us ps ks wr) (hb : Below wr.heap.size wr w') : Bd w g h ub pb n ca a vs us ps ks w' :=
  ⟨s.bel.trans (hb.mono s.bel.size), Nat.le_trans s.size hb.size, s.g1, s.h1, s.u1, s.p1, s.ne, (hb.block g (by have := s.size; have := s.g1; omega)).trans s.blk, BoolsAt.next s.had hb, own_next s.pubs hb, s.usl, own_next s.row hb, fun j hj => own_next (s.rows j hj) hb, s.apart,
   fun z o hz => ⟨(s.boxes z o hz).1, (hb.block z (Array.getElem?_eq_some_iff.1 (s.boxes z o hz).2.1).1).trans (s.boxes z o hz).2.1, (s.boxes z o hz).2.2⟩⟩
theorem Bd.box {w : World} {g h ub pb n ca : Nat} {a : Option Addr} {vs : List Value} {us : List (List Nat)} {ps : List Int} {ks : List (Nat × Obj)} {wr : World} (s : Bd w g h ub pb n ca a vs us ps ks wr) (o : Obj) : Bd w g h ub pb n ca a vs us ps ((wr.heap.size, o) :: ks) (wr.alloc o) := by
  have t := s.next ((Below.refl _ _).alloc (Nat.le_refl _) o)
  refine ⟨t.bel, t.size, t.g1, t.h1, t.u1, t.p1, t.ne, t.blk, t.had, t.pubs, t.usl, t.row, t.rows, t.apart, fun z o' hz => ?_⟩
  rcases List.mem_cons.1 hz with e | e
  · cases e
    exact ⟨s.size, heap_alloc_new _ _, fun j hj e => by have := (World.ownsRow.lt (s.rows j hj) _ e).2; omega⟩
  · exact t.boxes z o' e
theorem Bd.drop {w : World} {g h ub pb n ca : Nat} {a : Option Addr} {vs : List Value} {us : List (List Nat)} {ps : List Int} {ks : List (Nat × Obj)} {wr : World} (s : Bd w g h ub pb n ca a vs us ps ks wr) : Bd w g h ub pb n ca a vs us ps [] wr :=
  ⟨s.bel, s.size, s.g1, s.h1, s.u1, s.p1, s.ne, s.blk, s.had, s.pubs, s.usl, s.row, s.rows, s.apart, fun z o hz => by simp at hz⟩
theorem Bd.pub {w : World} {g h ub pb n ca : Nat} {a : Option Addr} {vs : List Value} {us : List (List Nat)} {ps : List Int} {ks : List (Nat × Obj)} {wr : World} (s : Bd w g h ub pb n ca a vs us ps ks wr) (i : Nat) (v : Int) : Bd w g h ub pb n ca a vs us (ps.set i v) ks (wr.setCell ⟨pb, i, none⟩ (.int .i64 v)) := by
  have hg := s.g1
  have hp := s.p1
  have hn := s.ne
  refine ⟨s.bel.setCell (by show w.heap.size ≤ pb; omega) _, by simpa using s.size, s.g1, s.h1, s.u1, s.p1, s.ne, ?_, ?_, ?_, s.usl, ?_, fun j hj => ?_, s.apart, fun z o hz => ⟨(s.boxes z o hz).1, ?_, (s.boxes z o hz).2.2⟩⟩
  · rw [heap_setCell_other _ _ _ _ (show g ≠ pb by omega)]; exact s.blk
  · exact ownsRow_setCell_other s.had (by simpa [Value.ownBlock] using hn.2.1) _
  · have := (World.ownsRow.stored s.pubs i (.int .i64 v)).1
    rw [← List.map_set] at this
    exact this
  · exact ownsRow_setCell_other s.row (by simpa [Value.ownBlock] using hn.2.2) _
  · exact ownsRow_setCell_other (s.rows j hj) (fun e => by have := (World.ownsRow.lt (s.rows j hj) _ e).1; simp at this; omega) _
  · have := (s.boxes z o hz).1
    rw [heap_setCell_other _ _ _ _ (show z ≠ pb by omega)]; exact (s.boxes z o hz).2.1
theorem getD_setV {α : Type} (l : List α) (d : α) (k j : Nat) (x : α) (hk : k < l.length) : (l.set k x).getD j d = if k = j then x else l.getD j d := by
  rw [List.getD_eq_getElem?_getD, List.getElem?_set, List.getD_eq_getElem?_getD]
  by_cases e : k = j
  · subst e; simp [hk]
  · simp [e]
/-- One more uses j. -/
theorem Bd.app {w : World} {g h ub pb n ca : Nat} {a : Option Addr} {vs : List Value} {us : List (List Nat)} {ps : List Int} {ks : List (Nat × Obj)} {wr w2 w4 : World} (s : Bd w g h ub pb n ca a vs us ps ks wr) (hb : Below wr.heap.size wr w2) {j : Nat} (hj : j < n) {gg cap k : Nat}
    (hg : w2.grownBy w4 (vs.getD j nilS).ownBlock) (ho : w4.ownsRow (w.heap.size + 4) 3 1 (.slice (some ⟨gg, 0, none⟩) ((us.getD j []).length + 1) cap) ((us.getD j []).length + 1) (kI (us.getD j []) ++ [.int .i64 (k : Int)]))
    (hat : (vs.getD j nilS).ownBlock = some gg ∨ gg = w2.heap.size) :
    Bd w g h ub pb n ca a (vs.set j (.slice (some ⟨gg, 0, none⟩) ((us.getD j []).length + 1) cap)) (us.set j (us.getD j [] ++ [k])) ps ks (w4.setCell ⟨ub, j, none⟩ (.slice (some ⟨gg, 0, none⟩) ((us.getD j []).length + 1) cap)) := by
  have t := s.next hb
  have hgn := s.g1
  have hh := s.h1
  have hu := s.u1
  have hp := s.p1
  have hn := s.ne
  have hvl := s.vsl
  have hul := s.usl
  have hsz := t.size
  have hlow : ∀ b, (vs.getD j nilS).ownBlock = some b → w.heap.size + 4 ≤ b := fun b e => (World.ownsRow.lt (t.rows j hj) _ e).1
  have far : ∀ b, b < w.heap.size + 4 → some b ≠ (vs.getD j nilS).ownBlock := fun b hb e => by have := hlow b e.symm; omega
  have hgg : w.heap.size + 4 ≤ gg := (World.ownsRow.lt ho _ (by simp [Value.ownBlock])).1
  refine ⟨(t.bel.grown hg (by omega) (fun k hk => by have := hlow k hk; omega)).setCell (by show w.heap.size ≤ ub; omega) _, ?_, hgn, hh, hu, hp, hn, ?_, ?_, ?_, by simp [hul], ?_, fun i hi => ?_, fun i i' hi hi' hne b => ?_, fun z o hz => ?_⟩
  · have := hg.size; simp; omega
  · rw [heap_setCell_other _ _ _ _ (show g ≠ ub by omega), hg.block g (by omega) (far g (by omega))]; exact t.blk
  · exact ownsRow_setCell_other (World.ownsRow.kept t.had hg (.inr (far h (by omega)))) (by simpa [Value.ownBlock] using hn.1) _
  · exact ownsRow_setCell_other (World.ownsRow.kept t.pubs hg (.inr (far pb (by omega)))) (by simpa [Value.ownBlock] using fun e => hn.2.2 e.symm) _
  · exact (World.ownsRow.stored (World.ownsRow.kept t.row hg (.inr (far ub (by omega)))) j _).1
  · rw [getD_setV _ _ _ _ _ (by omega), getD_setV _ _ _ _ _ (by omega)]
    by_cases e : j = i
    · rw [if_pos e, if_pos e]
      have : kI (us.getD j [] ++ [k]) = kI (us.getD j []) ++ [.int .i64 (k : Int)] := by simp [kI]
      rw [this]
      have hlen : (us.getD j [] ++ [k]).length = (us.getD j []).length + 1 := by simp
      rw [hlen]
      exact ownsRow_setCell_other ho (by simp [Value.ownBlock]; omega) _
    · rw [if_neg e, if_neg e]
      refine ownsRow_setCell_other (World.ownsRow.kept (t.rows i hi) hg ?_) (fun q => by have := (World.ownsRow.lt (t.rows i hi) _ q).1; simp at this; omega) _
      cases q : (vs.getD i nilS).ownBlock with
      | none => exact .inl rfl
      | some b => exact .inr (fun e2 => s.apart i j hi hj (fun x => e x.symm) b q e2.symm)
  · rw [getD_setV _ _ _ _ _ (by omega), getD_setV _ _ _ _ _ (by omega)]
    have key : ∀ i, i < n → i ≠ j → (vs.getD i nilS).ownBlock ≠ some gg := fun i hi hij q => by
      rcases hat with e | e
      · exact s.apart i j hi hj hij gg q e
      · have := (World.ownsRow.lt (s.rows i hi) _ q).2
        have := hb.size
        omega
    by_cases e : j = i
    · rw [if_pos e]
      by_cases e' : j = i'
      · omega
      · rw [if_neg e']
        intro q q'
        simp [Value.ownBlock] at q
        subst q
        exact key i' hi' (fun x => e' x.symm) q'
    · rw [if_neg e]
      by_cases e' : j = i'
      · rw [if_pos e']
        intro q q'
        simp [Value.ownBlock] at q'
        subst q'
        exact key i hi (fun x => e x.symm) q
      · rw [if_neg e']; exact s.apart i i' hi hi' hne b
  · obtain ⟨z1, z2, z3⟩ := t.boxes z o hz
    have zl := (Array.getElem?_eq_some_iff.1 z2).1
    refine ⟨z1, ?_, fun i hi => ?_⟩
    · rw [heap_setCell_other _ _ _ _ (show z ≠ ub by omega), hg.block z zl (fun e => z3 j hj e.symm)]; exact z2
    · rw [getD_setV _ _ _ _ _ (by omega)]
      by_cases e : j = i
      · rw [if_pos e]
        intro q
        simp [Value.ownBlock] at q
        rcases hat with e2 | e2
        · subst q; exact z3 j hj e2
        · omega
      · rw [if_neg e]; exact z3 i hi
/-- Who uses whom, of the first m nodes. -/
def UsTo (ns : List Nd) (m : Nat) (us : List (List Nat)) : Prop := us.length = ns.length ∧ ∀ j, j < ns.length → us.getD j [] = usN ns j m
theorem UsTo.zero (ns : List Nd) : UsTo ns 0 (List.replicate ns.length []) := ⟨by simp, fun j hj => by rw [List.getD_eq_getElem?_getD, List.getElem?_replicate, if_pos hj]; rfl⟩
theorem UsTo.atom {ns : List Nd} {m : Nat} {us : List (List Nat)} (h : UsTo ns m us) (hk : (ns.getD m Nd.zero).k = 1) : UsTo ns (m + 1) us := ⟨h.1, fun j hj => by rw [h.2 j hj, usN, usK, if_pos hk]; simp⟩
theorem UsTo.one {ns : List Nd} {m : Nat} {us : List (List Nat)} (h : UsTo ns m us) (hk : (ns.getD m Nd.zero).k ≠ 1) (ho : oneK (ns.getD m Nd.zero).k = true) {i : Nat} (hi : i < ns.length) (e : (ns.getD m Nd.zero).a = (i : Int)) : UsTo ns (m + 1) (us.set i (us.getD i [] ++ [m])) := by
  refine ⟨by simp [h.1], fun j hj => ?_⟩
  have hno : ¬ (oneK (ns.getD m Nd.zero).k = false ∧ (ns.getD m Nd.zero).b.toNat = j) := fun q => by rw [ho] at q; simp at q
  rw [getD_setV _ _ _ _ _ (by rw [h.1]; exact hi), usN, usK, if_neg hk, if_neg hno, e, Int.toNat_natCast]
  by_cases q : i = j
  · subst q; rw [if_pos rfl, if_pos rfl, h.2 i hi]; simp
  · rw [if_neg q, if_neg q, h.2 j hj]; simp
theorem UsTo.two {ns : List Nd} {m : Nat} {us : List (List Nat)} (h : UsTo ns m us) (hk : (ns.getD m Nd.zero).k ≠ 1) (ho : oneK (ns.getD m Nd.zero).k = false) {i i2 : Nat} (hi : i < ns.length) (hi2 : i2 < ns.length) (e : (ns.getD m Nd.zero).a = (i : Int)) (e2 : (ns.getD m Nd.zero).b = (i2 : Int)) :
    UsTo ns (m + 1) ((us.set i (us.getD i [] ++ [m])).set i2 ((us.set i (us.getD i [] ++ [m])).getD i2 [] ++ [m])) := by
  refine ⟨by simp [h.1], fun j hj => ?_⟩
  rw [getD_setV _ _ _ _ _ (by simp [h.1]; exact hi2), getD_setV _ _ _ _ _ (by rw [h.1]; exact hi), getD_setV _ _ _ _ _ (by rw [h.1]; exact hi), usN, usK, if_neg hk, e, e2, ho]
  simp only [Int.toNat_natCast, true_and]
  by_cases q : i = j
  · subst q
    by_cases q2 : i2 = i
    · subst q2; rw [if_pos rfl, if_pos rfl, if_pos rfl, h.2 i2 hi2]; simp
    · rw [if_neg q2, if_pos rfl, if_pos rfl, if_neg q2, h.2 i hi]; simp
  · by_cases q2 : i2 = j
    · subst q2; rw [if_pos rfl, if_neg q, if_neg q, if_pos rfl, h.2 i2 hi2]; simp
    · rw [if_neg q2, if_neg q, if_neg q, if_neg q2, h.2 j hj]; simp
/-- The pubs of the first m nodes; those further on are not laid yet. -/
def PuTo (ns : List Nd) (m : Nat) (ps : List Int) : Prop := ps.length = ns.length ∧ ∀ i, i < m → ps.getD i 0 = pubN ns i m
theorem pubN_none {ns : List Nd} {i : Nat} : ∀ {m : Nat}, (∀ j, j < m → ¬ ((ns.getD j Nd.zero).k = 6 ∧ (ns.getD j Nd.zero).a.toNat = i)) → pubN ns i m = -1
  | 0, _ => rfl
  | m + 1, h => by rw [pubN, if_neg (h m (by omega))]; exact pubN_none (fun j hj => h j (by omega))
theorem pubN_self {ns : List Nd} (ha : allFrom ns ns 0 = true) {m : Nat} (hm : m < ns.length) : pubN ns m (m + 1) = -1 := by
  refine pubN_none fun j hj ⟨h6, hA⟩ => ?_
  have := nodeB_true (all_at ha (show j < ns.length by omega)).1
  omega
theorem PuTo.zero (ns : List Nd) (ps : List Int) (h : ps.length = ns.length) : PuTo ns 0 ps := ⟨h, fun i hi => absurd hi (Nat.not_lt_zero _)⟩
theorem PuTo.pass {ns : List Nd} (ha : allFrom ns ns 0 = true) {m : Nat} {ps : List Int} (h : PuTo ns m ps) (hm : m < ns.length) (hk : (ns.getD m Nd.zero).k ≠ 6) : PuTo ns (m + 1) (ps.set m (-1)) := by
  refine ⟨by simp [h.1], fun i hi => ?_⟩
  rw [getD_setV _ _ _ _ _ (by rw [h.1]; exact hm)]
  by_cases e : m = i
  · subst e; rw [if_pos rfl, pubN_self ha hm]
  · rw [if_neg e, pubN, if_neg (fun q => hk q.1)]; exact h.2 i (by omega)
theorem PuTo.put {ns : List Nd} (ha : allFrom ns ns 0 = true) {m : Nat} {ps : List Int} (h : PuTo ns m ps) (hm : m < ns.length) (hk : (ns.getD m Nd.zero).k = 6) {i : Nat} (hi : i < m) (e : (ns.getD m Nd.zero).a = (i : Int)) : PuTo ns (m + 1) ((ps.set m (-1)).set i (m : Int)) := by
  refine ⟨by simp [h.1], fun j hj => ?_⟩
  rw [getD_setV _ _ _ _ _ (by simp [h.1]; omega), getD_setV _ _ _ _ _ (by rw [h.1]; exact hm)]
  by_cases q : m = j
  · subst q; rw [if_neg (by omega), if_pos rfl, pubN_self ha hm]
  · rw [pubN, e]
    by_cases q2 : i = j
    · subst q2; rw [if_pos rfl, if_pos ⟨hk, by simp⟩]
    · rw [if_neg q2, if_neg q, if_neg (fun x => q2 (by simpa using x.2))]; exact h.2 j (by omega)
/-- All is laid. -/
theorem Bd.rof {w : World} {g h ub pb ca : Nat} {a : Option Addr} {ns : List Nd} {vs : List Value} {us : List (List Nat)} {ps : List Int} {ks : List (Nat × Obj)} {wr : World} (s : Bd w g h ub pb ns.length ca a vs us ps ks wr) (hl : ns.length ≤ 3000) (ha : allFrom ns ns 0 = true) (hr : RowN w.heap.size w a ns) (hu : UsTo ns ns.length us) (hp : PuTo ns ns.length ps) : Rof ns a ca w (.pointer (some ⟨g, 0, none⟩)) wr := by
  have hg1 := s.g1
  have hh1 := s.h1
  have hu1 := s.u1
  have hp1 := s.p1
  have hn := s.ne
  have hz := s.size
  refine ⟨g, h, ub, pb, rfl, ⟨ha, hl, ⟨w.heap.size, by omega, by omega, by omega, hr.later s.bel⟩, ⟨by omega, fun e => hn.2.1 e.symm, by omega⟩, fun j hj => ?_, ⟨by omega, fun e => hn.1 e.symm, by omega⟩, fun j hj => ?_⟩, ⟨rfl, rfl, rfl, Nat.le_refl _, fun k _ _ _ => rfl, by omega, by omega, by omega, s.blk, s.had, fun i hi => by simp at hi, fun i j _ hj => by simp at hj⟩, by omega, by omega, s.bel⟩
  · rw [World.ownsRow.cellAt s.pubs j (by omega), List.getElem?_map, List.getElem?_eq_getElem (by rw [hp.1]; exact hj), ← hp.2 j hj, List.getD_eq_getElem?_getD, List.getElem?_eq_getElem (by rw [hp.1]; exact hj)]; rfl
  · have hrow := s.rows j hj
    have hc : wr.cell? ⟨ub, j, none⟩ = some (vs.getD j nilS) := by
      rw [World.ownsRow.cellAt s.row j (by omega), List.getElem?_eq_getElem (by rw [s.vsl]; exact hj), List.getD_eq_getElem?_getD, List.getElem?_eq_getElem (by rw [s.vsl]; exact hj)]; rfl
    rw [hu.2 j hj] at hrow
    rw [hc]
    rcases hrow.2 with ⟨e1, e2⟩ | ⟨gg, cap, cur, e, q1, q2, q3, q4, q5, q6⟩
    · exact ⟨none, 0, by rw [e1, e2], .inl (List.length_eq_zero_iff.1 e2)⟩
    · refine ⟨some ⟨gg, 0, none⟩, cap, by rw [e], .inr ⟨gg, 0, rfl, by omega, by omega, (Array.getElem?_eq_some_iff.1 q2).1, fun i hi => ?_⟩⟩
      have hrow' := hrow
      rw [e] at hrow'
      rw [Nat.zero_add, World.ownsRow.cellAt hrow' i (by omega), kI, List.getElem?_map, List.getElem?_eq_getElem hi, List.getD_eq_getElem?_getD, List.getElem?_eq_getElem hi]; rfl
end Go.Proofs.Ytcmmbehnihelcaa
