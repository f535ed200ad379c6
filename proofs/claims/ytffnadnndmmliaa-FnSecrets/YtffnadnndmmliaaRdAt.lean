/- The program's arena in the making and its reader of terms (chapter 3): put and nextNumber over the whole, and what they keep. -/
import Derived.Test.YtffnadnndmmliaaBldPut2
namespace Go.Proofs.Ytffnadnndmmliaa
open Go.RowKit Go.Maps
set_option linter.unusedVariables false
theorem BldM.later {mx B gb gm n f : Nat} {ns : List Nd} {v : Value} {w w' : World} (h : BldM mx B gb gm n f ns v w) (hb : Below w.heap.size w w') : BldM mx B gb gm n f ns v w' := by
  obtain ⟨D, h1, h2, h3, h4⟩ := h
  exact ⟨D, (hb.block _ (Array.getElem?_eq_some_iff.1 h1).1).trans h1, h2.later hb, h3.kept (grown_ofB hb) (by simp), h4⟩
theorem BldM.size {mx B gb gm n f : Nat} {ns : List Nd} {v : Value} {w : World} (h : BldM mx B gb gm n f ns v w) : B ≤ w.heap.size := by
  obtain ⟨D, h1, h2, h3, h4, h5, _⟩ := h
  have := (Array.getElem?_eq_some_iff.1 h1).1
  omega
theorem BldM.lts {mx B gb gm n f : Nat} {ns : List Nd} {v : Value} {w : World} (h : BldM mx B gb gm n f ns v w) : gb < w.heap.size ∧ gm < w.heap.size ∧ ∀ k, v.ownBlock = some k → k < w.heap.size := by
  obtain ⟨D, h1, h2, h3, _⟩ := h
  exact ⟨(Array.getElem?_eq_some_iff.1 h1).1, h3.lt, fun k hk => (h2.lt k hk).2⟩
theorem Keep.below {gb gm : Nat} {v : Value} {w w' : World} (h : Below w.heap.size w w') : Keep gb gm v v w w' := ⟨fun k hk _ _ _ => h.block k hk, h.size, .inl rfl⟩
theorem Keep.trans {gb gm : Nat} {v v1 v2 : Value} {w w1 w2 : World} (h : Keep gb gm v v1 w w1) (h' : Keep gb gm v1 v2 w1 w2) : Keep gb gm v v2 w w2 := by
  refine ⟨fun k hk h1 h2 h3 => ?_, Nat.le_trans h.2.1 h'.2.1, ?_⟩
  · refine (h'.1 k (Nat.lt_of_lt_of_le hk h.2.1) h1 h2 ?_).trans (h.1 k hk h1 h2 h3)
    rcases h.2.2 with e | e
    · rw [e]; exact h3
    · intro e2
      have := e k e2
      omega
  · rcases h'.2.2 with e | e
    · rcases h.2.2 with e1 | e1
      · exact .inl (e.trans e1)
      · exact .inr (fun k hk => e1 k (by rw [← e]; exact hk))
    · exact .inr (fun k hk => Nat.le_trans h.2.1 (e k hk))
theorem bputM_any (mx B gb gm f : Nat) (ns : List Nd) (x : Nd) (v : Value) (w : World) (hl : ns.length ≤ 1048576) (hf : x.Fits) (h : BldM mx B gb gm ns.length f ns v w) :
    Calls Try.prog 152 #[.pointer (some ⟨gb, 0, none⟩), .agg #[.int .i64 x.k, .int .i64 x.n, .int .i64 x.a, .int .i64 x.b]] w fun e w' => e = .returned (.int .i64 (putKm mx ns x)) ∧ ∃ v', BldM mx B gb gm (putAm mx ns x).length f (putAm mx ns x) v' w' ∧ Keep gb gm v v' w w' ∧ Below B w w' := by
  have hB := h.size
  have h' := h
  obtain ⟨D, h1, h2, h3, h4, h5, h6, h7, h8, h9⟩ := h
  by_cases hk : putKm mx ns x = (ns.length : Int)
  · have e : putAm mx ns x = ns ++ [x] := by
      unfold putAm
      rw [if_pos]
      unfold putKm at hk
      split at hk
      · split at hk
        · rename_i a b; exact ⟨a, b⟩
        · have := findN_range ns x; omega
      · omega
    refine (putR_new B gb gm ns.length f mx ns x D v w hl hf h1 h2 h3 h4 hl hk h5 h6 h7 h8 h9).mono ?_
    rintro e1 w' ⟨rfl, v', hr, hkp, hb⟩
    rw [e, hk]
    exact ⟨rfl, v', by simpa using hr, hkp, hb⟩
  · have e : putAm mx ns x = ns := by
      unfold putAm
      rw [if_neg]
      intro hh
      exact hk (by unfold putKm; rw [if_pos hh.1, if_pos hh.2])
    refine (putR_old B gb gm ns.length f mx ns x D v w hl hf h1 h2 h3 h4 hk).mono ?_
    rintro e1 w' ⟨rfl, hb⟩
    rw [e]
    exact ⟨rfl, v, h'.later hb, Keep.below hb, hb.mono hB⟩
theorem bput_any (B gb gm f : Nat) (ns : List Nd) (x : Nd) (v : Value) (w : World) (hl : ns.length ≤ 1048576) (hf : x.Fits) (h : BldAt B gb gm ns.length f ns v w) :
    Calls Try.prog 152 #[.pointer (some ⟨gb, 0, none⟩), .agg #[.int .i64 x.k, .int .i64 x.n, .int .i64 x.a, .int .i64 x.b]] w fun e w' => e = .returned (.int .i64 (putK ns x)) ∧ ∃ v', BldAt B gb gm (putA ns x).length f (putA ns x) v' w' ∧ Keep gb gm v v' w w' ∧ Below B w w' := bputM_any 3000 B gb gm f ns x v w hl hf h
/-- The reader in memory: its four cells, and the arena in the making. -/
def RdrAt (B gr gb gm f : Nat) (s : ByteArray) (p l n : Nat) (ns : List Nd) (v : Value) (w : World) : Prop :=
  w.heap[gr]? = some (.cells #[.string s, .int .i64 (p : Int), .int .i64 (l : Int), .pointer (some ⟨gb, 0, none⟩)] 82 (0, 0)) ∧ BldAt B gb gm n f ns v w ∧ B ≤ gr ∧ gr ≠ gb ∧ gr ≠ gm ∧ v.ownBlock ≠ some gr
/-- What the reader's functions keep: every block but its own four; the row of nodes afterwards is the one of before or a new one. -/
def KeepR (gr gb gm : Nat) (v v' : Value) (w w' : World) : Prop :=
  (∀ k, k < w.heap.size → k ≠ gr → k ≠ gb → k ≠ gm → v.ownBlock ≠ some k → w'.heap[k]? = w.heap[k]?) ∧ w.heap.size ≤ w'.heap.size ∧ (v'.ownBlock = v.ownBlock ∨ ∀ k, v'.ownBlock = some k → w.heap.size ≤ k)
theorem KeepR.below {gr gb gm : Nat} {v : Value} {w w' : World} (h : Below w.heap.size w w') : KeepR gr gb gm v v w w' := ⟨fun k hk _ _ _ _ => h.block k hk, h.size, .inl rfl⟩
theorem KeepR.of {gr gb gm : Nat} {v v' : Value} {w w' : World} (h : Keep gb gm v v' w w') : KeepR gr gb gm v v' w w' := ⟨fun k hk _ h1 h2 h3 => h.1 k hk h1 h2 h3, h.2.1, h.2.2⟩
theorem KeepR.trans {gr gb gm : Nat} {v v1 v2 : Value} {w w1 w2 : World} (h : KeepR gr gb gm v v1 w w1) (h' : KeepR gr gb gm v1 v2 w1 w2) : KeepR gr gb gm v v2 w w2 := by
  refine ⟨fun k hk h0 h1 h2 h3 => ?_, Nat.le_trans h.2.1 h'.2.1, ?_⟩
  · refine (h'.1 k (Nat.lt_of_lt_of_le hk h.2.1) h0 h1 h2 ?_).trans (h.1 k hk h0 h1 h2 h3)
    rcases h.2.2 with e | e
    · rw [e]; exact h3
    · intro e2
      have := e k e2
      omega
  · rcases h'.2.2 with e | e
    · rcases h.2.2 with e1 | e1
      · exact .inl (e.trans e1)
      · exact .inr (fun k hk => e1 k (by rw [← e]; exact hk))
    · exact .inr (fun k hk => Nat.le_trans h.2.1 (e k hk))
theorem RdrAt.later {B gr gb gm f : Nat} {s : ByteArray} {p l n : Nat} {ns : List Nd} {v : Value} {w w' : World} (h : RdrAt B gr gb gm f s p l n ns v w) (hb : Below w.heap.size w w') : RdrAt B gr gb gm f s p l n ns v w' :=
  ⟨(hb.block _ (Array.getElem?_eq_some_iff.1 h.1).1).trans h.1, h.2.1.later hb, h.2.2⟩
theorem RdrAt.size {B gr gb gm f : Nat} {s : ByteArray} {p l n : Nat} {ns : List Nd} {v : Value} {w : World} (h : RdrAt B gr gb gm f s p l n ns v w) : B ≤ w.heap.size := h.2.1.size
theorem RdrAt.lts {B gr gb gm f : Nat} {s : ByteArray} {p l n : Nat} {ns : List Nd} {v : Value} {w : World} (h : RdrAt B gr gb gm f s p l n ns v w) : gr < w.heap.size ∧ gb < w.heap.size ∧ gm < w.heap.size ∧ ∀ k, v.ownBlock = some k → k < w.heap.size :=
  ⟨(Array.getElem?_eq_some_iff.1 h.1).1, h.2.1.lts⟩
theorem putI_any (B gr gb gm f : Nat) (s : ByteArray) (p l : Nat) (ns : List Nd) (x : Nd) (v : Value) (w : World) (hl : ns.length ≤ 1048576) (hf : x.Fits) (h : RdrAt B gr gb gm f s p l ns.length ns v w) :
    Calls Try.prog 152 #[.pointer (some ⟨gb, 0, none⟩), .agg #[.int .i64 x.k, .int .i64 x.n, .int .i64 x.a, .int .i64 x.b]] w fun e w' => e = .returned (.int .i64 (putK ns x)) ∧ ∃ v', RdrAt B gr gb gm f s p l (putA ns x).length (putA ns x) v' w' ∧ KeepR gr gb gm v v' w w' ∧ Below B w w' := by
  have hlr := (Array.getElem?_eq_some_iff.1 h.1).1
  refine (bput_any B gb gm f ns x v w hl hf h.2.1).mono ?_
  rintro e w' ⟨rfl, v', hb, hk, hB⟩
  refine ⟨rfl, v', ⟨(hk.1 gr hlr h.2.2.2.1 h.2.2.2.2.1 h.2.2.2.2.2).trans h.1, hb, h.2.2.1, h.2.2.2.1, h.2.2.2.2.1, ?_⟩, KeepR.of hk, hB⟩
  rcases hk.2.2 with e | e
  · rw [e]; exact h.2.2.2.2.2
  · intro e2
    have := e gr e2
    omega
theorem BldM.apart {mx B gr gb gm n f : Nat} {ns : List Nd} {v : Value} {w w' : World} (h : BldM mx B gb gm n f ns v w) (hg : w.grownBy w' (some gr)) (h1 : gr ≠ gb) (h2 : gr ≠ gm) (h3 : v.ownBlock ≠ some gr) : BldM mx B gb gm n f ns v w' := by
  have hl := h.lts
  obtain ⟨D, c1, c2, c3, c4⟩ := h
  have hv := World.ownsRow.kept c2 hg (by
    rcases c2.2 with ⟨h0, _⟩ | ⟨g', cap, cur, hv, _⟩
    · exact .inl (by rw [h0]; rfl)
    · exact .inr (fun e => h3 (by rw [e])))
  exact ⟨D, (hg.block gb hl.1 (by simpa using Ne.symm h1)).trans c1, hv, c3.kept hg (by simpa using Ne.symm h2), c4⟩
theorem RdrAt.turned {B gr gb gm f : Nat} {s : ByteArray} {p l p' l' n : Nat} {ns : List Nd} {v : Value} {w w' : World} (h : RdrAt B gr gb gm f s p l n ns v w) (hg : w.grownBy w' (some gr)) (hb : w'.heap[gr]? = some (.cells #[.string s, .int .i64 (p' : Int), .int .i64 (l' : Int), .pointer (some ⟨gb, 0, none⟩)] 82 (0, 0))) :
    RdrAt B gr gb gm f s p' l' n ns v w' ∧ KeepR gr gb gm v v w w' ∧ Below B w w' := by
  have hB := h.size
  obtain ⟨h1, h2, h3, h4, h5, h6⟩ := h
  exact ⟨⟨hb, h2.apart hg h4 h5 h6, h3, h4, h5, h6⟩, ⟨fun k hk hk1 _ _ _ => hg.block k hk (by simpa using hk1), hg.size, .inl rfl⟩, (Below.refl B w).grown hg hB (fun k hk => by cases hk; exact h3)⟩
theorem numI_any (B gr gb gm f : Nat) (s : ByteArray) (p l n : Nat) (ns : List Nd) (v : Value) (w : World) (hs : s.size ≤ 1048576) (h : RdrAt B gr gb gm f s p l n ns v w) :
    Calls Try.prog 150 #[.pointer (some ⟨gr, 0, none⟩)] w fun e w' => e = .returned (.int .i64 (numI s p).1) ∧ RdrAt B gr gb gm f s (numI s p).2 l n ns v w' ∧ KeepR gr gb gm v v w w' ∧ Below B w w' := by
  refine (nextNum_any gr s p l (.pointer (some ⟨gb, 0, none⟩)) w hs h.1).mono ?_
  rintro e w' ⟨rfl, hb, hg⟩
  exact ⟨rfl, h.turned hg hb⟩
/-- Plain: what the program's way keeps within bounds. -/
theorem putA_le {ns : List Nd} {x : Nd} (h : ns.length ≤ 1048576) : (putA ns x).length ≤ 1048576 := by
  unfold putA
  split
  · simp; omega
  · exact h
theorem putAm_le {mx : Nat} {ns : List Nd} {x : Nd} (hm : mx ≤ 1048576) (h : ns.length ≤ 1048576) : (putAm mx ns x).length ≤ 1048576 := by
  unfold putAm
  split
  · simp; omega
  · exact h
theorem putKm_bd (mx : Nat) (ns : List Nd) (x : Nd) : -1 ≤ putKm mx ns x ∧ putKm mx ns x ≤ (ns.length : Int) := by
  unfold putKm
  split
  · split
    · omega
    · rcases findN_range ns x with h | h <;> omega
  · omega
theorem putK_bd (ns : List Nd) (x : Nd) : -1 ≤ putK ns x ∧ putK ns x ≤ (ns.length : Int) := by
  unfold putK
  split
  · split
    · omega
    · rcases findN_range ns x with h | h <;> omega
  · omega
theorem rdI_bd (s : ByteArray) : ∀ (f : Nat) (ns : List Nd) (p l : Nat), ns.length ≤ 1048576 → (rdI s f ns p l).1.length ≤ 1048576 ∧ (rdI s f ns p l).2.2.2 ≤ l ∧ -1 ≤ (rdI s f ns p l).2.1 ∧ (rdI s f ns p l).2.1 ≤ 1048576
  | 0, ns, p, l, h => by simp [rdI]; omega
  | f + 1, ns, p, l, h => by
    have put : ∀ (nt : List Nd) (x : Nd) (e q : Nat), nt.length ≤ 1048576 → q ≤ l → (putI nt x e q).1.length ≤ 1048576 ∧ (putI nt x e q).2.2.2 ≤ l ∧ -1 ≤ (putI nt x e q).2.1 ∧ (putI nt x e q).2.1 ≤ 1048576 := fun nt x e q h1 h2 => by
      have := putK_bd nt x
      exact ⟨putA_le h1, h2, this.1, by show putK nt x ≤ _; omega⟩
    rw [rdI]
    split
    · simp; omega
    · simp only
      split
      · exact put _ _ _ _ h (by omega)
      · split
        · exact put _ _ _ _ h (by omega)
        · have r1 := rdI_bd s f ns (numI s p).2 (l - 1) h
          split
          · exact put _ _ _ _ r1.1 (by omega)
          · split
            · exact put _ _ _ _ r1.1 (by omega)
            · have r2 := rdI_bd s f (rdI s f ns (numI s p).2 (l - 1)).1 (rdI s f ns (numI s p).2 (l - 1)).2.2.1 (rdI s f ns (numI s p).2 (l - 1)).2.2.2 r1.1
              exact put _ _ _ _ r2.1 (by omega)
end Go.Proofs.Ytffnadnndmmliaa
