/- The program's arena in the making and its reader of terms (chapter 3): put and nextNumber over the whole, and what they keep. -/
import Derived.Test.YtnjihmailppjkaaBldPut2
import Derived.Test.YtnjihmailppjkaaMakeI
import Derived.Test.YtnjihmailppjkaaLawClip
import Derived.Test.YtnjihmailppjkaaPlainPlaces
import Derived.WalkKit
import Derived.WalkLawsBesides
import Derived.WalkSpells
import Derived.Laws.Rows
namespace Go.Proofs.Ytnjihmailppjkaa
open Go.RowKit Go.Maps
set_option linter.unusedVariables false
theorem BldM.later {mx B gb gm n f : Nat} {ns : List Nd} {v : Value} {w w' : World} (h : BldM mx B gb gm n f ns v w) (hb : Below w.heap.size w w') : BldM mx B gb gm n f ns v w' := by
  obtain ⟨D, h1, h2, h3, h4⟩ := h
  exact ⟨D, (hb.block _ (Array.getElem?_eq_some_iff.1 h1).1).trans h1, h2.later hb, h3.kept (grown_ofB hb) (by simp), h4⟩
theorem BldM.size {mx B gb gm n f : Nat} {ns : List Nd} {v : Value} {w : World} (h : BldM mx B gb gm n f ns v w) : B ≤ w.heap.size := by
  obtain ⟨D, h1, h2, h3, h4, h5, _⟩ := h
  have := (Array.getElem?_eq_some_iff.1 h1).1
  omega
theorem BldM.lts {mx B gb gm n f : Nat} {ns : List Nd} {v : Value} {w : World} (h : BldM mx B gb gm n f ns v w) : gb < w.heap.size ∧ gm < w.heap.size ∧ ∀ k, v.ownBlock = some k → k < w.heap.size := by
  obtain ⟨D, h1, h2, h3, _⟩ := h
  exact ⟨(Array.getElem?_eq_some_iff.1 h1).1, h3.lt, fun k hk => (h2.lt k hk).2⟩
theorem Keep.below {gb gm : Nat} {v : Value} {w w' : World} (h : Below w.heap.size w w') : Keep gb gm v v w w' := ⟨fun k hk _ _ _ => h.block k hk, h.size, .inl rfl⟩
theorem Keep.trans {gb gm : Nat} {v v1 v2 : Value} {w w1 w2 : World} (h : Keep gb gm v v1 w w1) (h' : Keep gb gm v1 v2 w1 w2) : Keep gb gm v v2 w w2 := by
  refine ⟨fun k hk h1 h2 h3 => ?_, Nat.le_trans h.2.1 h'.2.1, ?_⟩
  · refine (h'.1 k (Nat.lt_of_lt_of_le hk h.2.1) h1 h2 ?_).trans (h.1 k hk h1 h2 h3)
    rcases h.2.2 with e | e
    · rw [e]; exact h3
    · intro e2
      have := e k e2
      omega
  · rcases h'.2.2 with e | e
    · rcases h.2.2 with e1 | e1
      · exact .inl (e.trans e1)
      · exact .inr (fun k hk => e1 k (by rw [← e]; exact hk))
    · exact .inr (fun k hk => Nat.le_trans h.2.1 (e k hk))
theorem bputM_any (mx B gb gm f : Nat) (ns : List Nd) (x : Nd) (v : Value) (w : World) (hl : ns.length ≤ 1048576) (hf : x.Fits) (h : BldM mx B gb gm ns.length f ns v w) :
    Calls Try.prog 94 #[.pointer (some ⟨gb, 0, none⟩), .agg #[.int .i64 x.k, .int .i64 x.n, .int .i64 x.a, .int .i64 x.b]] w fun e w' => e = .returned (.int .i64 (putKm mx ns x)) ∧ ∃ v', BldM mx B gb gm (putAm mx ns x).length f (putAm mx ns x) v' w' ∧ Keep gb gm v v' w w' ∧ Below B w w' := by
  have hB := h.size
  have h' := h
  obtain ⟨D, h1, h2, h3, h4, h5, h6, h7, h8, h9⟩ := h
  by_cases hk : putKm mx ns x = (ns.length : Int)
  · have e : putAm mx ns x = ns ++ [x] := by
      unfold putAm
      rw [if_pos]
      unfold putKm at hk
      split at hk
      · split at hk
        · rename_i a b; exact ⟨a, b⟩
        · have := findN_range ns x; omega
      · omega
    refine (putR_new B gb gm ns.length f mx ns x D v w hl hf h1 h2 h3 h4 hl hk h5 h6 h7 h8 h9).mono ?_
    rintro e1 w' ⟨rfl, v', hr, hkp, hb⟩
    rw [e, hk]
    exact ⟨rfl, v', by simpa using hr, hkp, hb⟩
  · have e : putAm mx ns x = ns := by
      unfold putAm
      rw [if_neg]
      intro hh
      exact hk (by unfold putKm; rw [if_pos hh.1, if_pos hh.2])
    refine (putR_old B gb gm ns.length f mx ns x D v w hl hf h1 h2 h3 h4 hk).mono ?_
    rintro e1 w' ⟨rfl, hb⟩
    rw [e]
    exact ⟨rfl, v, h'.later hb, Keep.below hb, hb.mono hB⟩
theorem bput_any (B gb gm f : Nat) (ns : List Nd) (x : Nd) (v : Value) (w : World) (hl : ns.length ≤ 1048576) (hf : x.Fits) (h : BldAt B gb gm ns.length f ns v w) :
    Calls Try.prog 94 #[.pointer (some ⟨gb, 0, none⟩), .agg #[.int .i64 x.k, .int .i64 x.n, .int .i64 x.a, .int .i64 x.b]] w fun e w' => e = .returned (.int .i64 (putK ns x)) ∧ ∃ v', BldAt B gb gm (putA ns x).length f (putA ns x) v' w' ∧ Keep gb gm v v' w w' ∧ Below B w w' := bputM_any 3000 B gb gm f ns x v w hl hf h
/-- What the reader's functions keep: every block but its own four; the row of nodes afterwards is the one of before or a new one. -/
def KeepR (gr gb gm : Nat) (v v' : Value) (w w' : World) : Prop :=
  (∀ k, k < w.heap.size → k ≠ gr → k ≠ gb → k ≠ gm → v.ownBlock ≠ some k → w'.heap[k]? = w.heap[k]?) ∧ w.heap.size ≤ w'.heap.size ∧ (v'.ownBlock = v.ownBlock ∨ ∀ k, v'.ownBlock = some k → w.heap.size ≤ k)
theorem KeepR.below {gr gb gm : Nat} {v : Value} {w w' : World} (h : Below w.heap.size w w') : KeepR gr gb gm v v w w' := ⟨fun k hk _ _ _ _ => h.block k hk, h.size, .inl rfl⟩
theorem KeepR.of {gr gb gm : Nat} {v v' : Value} {w w' : World} (h : Keep gb gm v v' w w') : KeepR gr gb gm v v' w w' := ⟨fun k hk _ h1 h2 h3 => h.1 k hk h1 h2 h3, h.2.1, h.2.2⟩
theorem KeepR.trans {gr gb gm : Nat} {v v1 v2 : Value} {w w1 w2 : World} (h : KeepR gr gb gm v v1 w w1) (h' : KeepR gr gb gm v1 v2 w1 w2) : KeepR gr gb gm v v2 w w2 := by
  refine ⟨fun k hk h0 h1 h2 h3 => ?_, Nat.le_trans h.2.1 h'.2.1, ?_⟩
  · refine (h'.1 k (Nat.lt_of_lt_of_le hk h.2.1) h0 h1 h2 ?_).trans (h.1 k hk h0 h1 h2 h3)
    rcases h.2.2 with e | e
    · rw [e]; exact h3
    · intro e2
      have := e k e2
      omega
  · rcases h'.2.2 with e | e
    · rcases h.2.2 with e1 | e1
      · exact .inl (e.trans e1)
      · exact .inr (fun k hk => e1 k (by rw [← e]; exact hk))
    · exact .inr (fun k hk => Nat.le_trans h.2.1 (e k hk))
theorem BldM.apart {mx B gr gb gm n f : Nat} {ns : List Nd} {v : Value} {w w' : World} (h : BldM mx B gb gm n f ns v w) (hg : w.grownBy w' (some gr)) (h1 : gr ≠ gb) (h2 : gr ≠ gm) (h3 : v.ownBlock ≠ some gr) : BldM mx B gb gm n f ns v w' := by
  have hl := h.lts
  obtain ⟨D, c1, c2, c3, c4⟩ := h
  have hv := World.ownsRow.kept c2 hg (by
    rcases c2.2 with ⟨h0, _⟩ | ⟨g', cap, cur, hv, _⟩
    · exact .inl (by rw [h0]; rfl)
    · exact .inr (fun e => h3 (by rw [e])))
  exact ⟨D, (hg.block gb hl.1 (by simpa using Ne.symm h1)).trans c1, hv, c3.kept hg (by simpa using Ne.symm h2), c4⟩
/-- Plain: what the program's way keeps within bounds. -/
theorem putA_le {ns : List Nd} {x : Nd} (h : ns.length ≤ 1048576) : (putA ns x).length ≤ 1048576 := by
  unfold putA
  split
  · simp; omega
  · exact h
theorem putAm_le {mx : Nat} {ns : List Nd} {x : Nd} (hm : mx ≤ 1048576) (h : ns.length ≤ 1048576) : (putAm mx ns x).length ≤ 1048576 := by
  unfold putAm
  split
  · simp; omega
  · exact h
theorem putKm_bd (mx : Nat) (ns : List Nd) (x : Nd) : -1 ≤ putKm mx ns x ∧ putKm mx ns x ≤ (ns.length : Int) := by
  unfold putKm
  split
  · split
    · omega
    · rcases findN_range ns x with h | h <;> omega
  · omega
theorem putK_bd (ns : List Nd) (x : Nd) : -1 ≤ putK ns x ∧ putK ns x ≤ (ns.length : Int) := by
  unfold putK
  split
  · split
    · omega
    · rcases findN_range ns x with h | h <;> omega
  · omega
theorem rdI_bd (s : ByteArray) : ∀ (f : Nat) (ns : List Nd) (p l : Nat), ns.length ≤ 1048576 → (rdI s f ns p l).1.length ≤ 1048576 ∧ (rdI s f ns p l).2.2.2 ≤ l ∧ -1 ≤ (rdI s f ns p l).2.1 ∧ (rdI s f ns p l).2.1 ≤ 1048576
  | 0, ns, p, l, h => by simp [rdI]; omega
  | f + 1, ns, p, l, h => by
    have put : ∀ (nt : List Nd) (x : Nd) (e q : Nat), nt.length ≤ 1048576 → q ≤ l → (putI nt x e q).1.length ≤ 1048576 ∧ (putI nt x e q).2.2.2 ≤ l ∧ -1 ≤ (putI nt x e q).2.1 ∧ (putI nt x e q).2.1 ≤ 1048576 := fun nt x e q h1 h2 => by
      have := putK_bd nt x
      exact ⟨putA_le h1, h2, this.1, by show putK nt x ≤ _; omega⟩
    rw [rdI]
    split
    · simp; omega
    · simp only
      split
      · exact put _ _ _ _ h (by omega)
      · split
        · exact put _ _ _ _ h (by omega)
        · have r1 := rdI_bd s f ns (numI s p).2 (l - 1) h
          split
          · exact put _ _ _ _ r1.1 (by omega)
          · split
            · exact put _ _ _ _ r1.1 (by omega)
            · have r2 := rdI_bd s f (rdI s f ns (numI s p).2 (l - 1)).1 (rdI s f ns (numI s p).2 (l - 1)).2.2.1 (rdI s f ns (numI s p).2 (l - 1)).2.2.2 r1.1
              exact put _ _ _ _ r2.1 (by omega)
end Go.Proofs.Ytnjihmailppjkaa

namespace Go.Proofs.Ytnjihmailppjkaa
open Go.RowKit Go.Maps
set_option linter.unusedVariables false
theorem own_map_ne {B gm n : Nat} {w : World} {v : Value} {ns : List Nd} {D : DataW Unit} (h : OwnN B w v ns) (hm : w.ownsMap Try.prog 87 (plainElem Try.prog 3) gm n D) : v.ownBlock ≠ some gm := by
  intro e
  obtain ⟨es, clock, hg, _⟩ := hm
  rcases h.2 with ⟨rfl, _⟩ | ⟨gv, cap, cur, rfl, hb, hh, _⟩
  · cases e
  · simp [Value.ownBlock] at e
    rw [e, hg] at hh
    simp at hh
set_option maxHeartbeats 1600000 in
set_option maxRecDepth 20000 in
theorem builderOf_any (a : Option Addr) (cap : Nat) (ns : List Nd) (w : World) (hl : ns.length ≤ 1048576) (hf : ∀ y ∈ ns, y.Fits) (ha : AddrN a cap) (hr : RowN w.heap.size w a ns) :
    Calls Try.prog 61 #[.agg #[.slice a ns.length cap]] w fun e w' => ∃ gb gm v, e = .returned (.pointer (some ⟨gb, 0, none⟩)) ∧ BldAt w.heap.size gb gm ns.length ns.length ns v w' ∧ Below w.heap.size w w' := by
  have HR : Hid (RowN w.heap.size w a ns) := hr
  have HA : Hid (AddrN a cap) := ha
  have HF : Hid (∀ y ∈ ns, y.Fits) := hf
  clear hr ha hf
  have hb0 : Below w.heap.size w (w.alloc (.cells #[.slice a ns.length cap] 39)) := (Below.refl _ _).alloc (Nat.le_refl _) _
  have hA0 := heap_alloc_new w (.cells #[.slice a ns.length cap] 39)
  go_enter Try.func61, Try.ntmps61
  go_wp2_with fail
  generalize w.alloc (.cells #[.slice a ns.length cap] 39) = w0 at hb0 hA0 ⊢
  refine wp_region_list (I := fun w' => Below w.heap.size w w' ∧ w'.heap[w.heap.size]? = some (.cells #[.slice a ns.length cap] 39 (0, 0))) (R := fun _ w' w'' => Below w'.heap.size w' w'')
    (fs := #[⟨[3], fun vs _ => vs = [.pointer (some ⟨w.heap.size, 0, none⟩)]⟩, ⟨[4], fun vs _ => vs = [.slice a ns.length cap]⟩, ⟨[5], fun vs w' => ∃ v, vs = [v] ∧ OwnN w.heap.size w' v ns⟩, ⟨[6], fun vs _ => vs = [.pointer (some ⟨w.heap.size, 0, none⟩)]⟩, ⟨[7], fun vs _ => vs = [.slice a ns.length cap]⟩, ⟨[8], fun vs w' => ∃ gm D, vs = [.map (some gm)] ∧ w.heap.size ≤ gm ∧ w'.ownsMap Try.prog 87 (plainElem Try.prog 3) gm ns.length D ∧ PlacesD ns D⟩, ⟨[9], fun vs _ => vs = [.pointer (some ⟨w.heap.size, 0, none⟩)]⟩, ⟨[10], fun vs _ => vs = [.slice a ns.length cap]⟩, ⟨[11], fun vs _ => vs = [.int .i64 (ns.length : Int)]⟩, ⟨[12], fun vs w' => ∃ v gm D, vs = [.agg #[v, .map (some gm), .int .i64 (ns.length : Int), .int .i64 3000]] ∧ OwnN w.heap.size w' v ns ∧ w.heap.size ≤ gm ∧ w'.ownsMap Try.prog 87 (plainElem Try.prog 3) gm ns.length D ∧ PlacesD ns D⟩, ⟨[13], fun vs w' => ∃ gb gm v, vs = [.pointer (some ⟨gb, 0, none⟩)] ∧ BldAt w.heap.size gb gm ns.length ns.length ns v w'⟩, ⟨[2], fun vs w' => ∃ gb gm v, vs = [.pointer (some ⟨gb, 0, none⟩)] ∧ BldAt w.heap.size gb gm ns.length ns.length ns v w'⟩])
    (by kernel_rfl) 14 rfl (by kernel_rfl) ?stab ?istab ?start ?exec ?fin
  case stab =>
    intro k i f hki hf
    have hk : k < 12 := (Array.getElem?_eq_some_iff.1 hf).1
    rcases (show k = 0 ∨ k = 1 ∨ k = 2 ∨ k = 3 ∨ k = 4 ∨ k = 5 ∨ k = 6 ∨ k = 7 ∨ k = 8 ∨ k = 9 ∨ k = 10 ∨ k = 11 by omega) with rfl | rfl | rfl | rfl | rfl | rfl | rfl | rfl | rfl | rfl | rfl | rfl
    all_goals
      simp only [List.getElem?_toArray, List.getElem?_cons_succ, List.getElem?_cons_zero, Option.some.injEq] at hf
      subst hf
    · exact fun vs _ _ _ h => h
    · exact fun vs _ _ _ h => h
    · exact fun vs w' w'' hR ⟨v, h1, h2⟩ => ⟨v, h1, h2.later hR⟩
    · exact fun vs _ _ _ h => h
    · exact fun vs _ _ _ h => h
    · exact fun vs w' w'' hR ⟨gm, D, h1, h2, h3, h4⟩ => ⟨gm, D, h1, h2, h3.kept (grown_ofB hR) (by simp), h4⟩
    · exact fun vs _ _ _ h => h
    · exact fun vs _ _ _ h => h
    · exact fun vs _ _ _ h => h
    · exact fun vs w' w'' hR ⟨v, gm, D, h1, h2, h3, h4, h5⟩ => ⟨v, gm, D, h1, h2.later hR, h3, h4.kept (grown_ofB hR) (by simp), h5⟩
    · exact fun vs w' w'' hR ⟨gb, gm, v, h1, h2⟩ => ⟨gb, gm, v, h1, h2.later hR⟩
    · exact fun vs w' w'' hR ⟨gb, gm, v, h1, h2⟩ => ⟨gb, gm, v, h1, h2.later hR⟩
  case istab => exact fun i w' w'' hR h => ⟨h.1.trans (hR.mono h.1.size), (hR.block _ (Array.getElem?_eq_some_iff.1 h.2).1).trans h.2⟩
  case start => exact ⟨hb0.drew, hA0⟩
  case exec =>
    intro i o f hi hf a_1 wq hsz hI hold hpre
    have hi11 : i < 12 := (Array.getElem?_eq_some_iff.1 hi).1
    rcases (show i = 0 ∨ i = 1 ∨ i = 2 ∨ i = 3 ∨ i = 4 ∨ i = 5 ∨ i = 6 ∨ i = 7 ∨ i = 8 ∨ i = 9 ∨ i = 10 ∨ i = 11 by omega) with rfl | rfl | rfl | rfl | rfl | rfl | rfl | rfl | rfl | rfl | rfl | rfl
    all_goals
      simp only [List.getElem?_toArray, List.getElem?_cons_succ, List.getElem?_cons_zero, Option.some.injEq] at hi hf
      subst hi hf
    · have g1 : a_1.tmps.getD 1 undef = .pointer (some ⟨w.heap.size, 0, none⟩) := hold 1 (free_spec (by kernel_rfl))
      refine exec_same (v := .pointer (some ⟨w.heap.size, 0, none⟩)) ?_ ⟨_, rfl, (Below.refl _ _), at_one (by omega) rfl⟩
      simp [go_sem, Act.eval, g1]
    · have g3 : a_1.tmps.getD 3 undef = .pointer (some ⟨w.heap.size, 0, none⟩) := by have := of_one (hpre ⟨0, .data⟩ (by simp) rfl _ rfl); simpa using this
      have hc : wq.cell? ⟨w.heap.size, 0, none⟩ = some (.slice a ns.length cap) := (cell_of_row wq _ 0 _ _ _ hI.2).trans rfl
      refine exec_same (v := .slice a ns.length cap) ?_ ⟨_, rfl, (Below.refl _ _), at_one (by omega) rfl⟩
      simp [go_sem, Act.eval, g3, hc]
    · have g4 : a_1.tmps.getD 4 undef = .slice a ns.length cap := by have := of_one (hpre ⟨1, .data⟩ (by simp) rfl _ rfl); simpa using this
      refine exec_call (f := 81) (args := #[.slice a ns.length cap]) (by simp [go_sem, Act.eval, g4]) ?_
      refine (clone_any a cap ns wq hl HA.out (HR.out.grown hI.1)).mono ?_
      rintro e w2 ⟨v', rfl, ho, hb⟩
      exact ⟨_, rfl, _, rfl, hb, at_one (by omega) ⟨v', rfl, OwnN.base ho hI.1.size⟩⟩
    · have g1 : a_1.tmps.getD 1 undef = .pointer (some ⟨w.heap.size, 0, none⟩) := hold 1 (free_spec (by kernel_rfl))
      refine exec_same (v := .pointer (some ⟨w.heap.size, 0, none⟩)) ?_ ⟨_, rfl, (Below.refl _ _), at_one (by omega) rfl⟩
      simp [go_sem, Act.eval, g1]
    · have g6 : a_1.tmps.getD 6 undef = .pointer (some ⟨w.heap.size, 0, none⟩) := by have := of_one (hpre ⟨3, .data⟩ (by simp) rfl _ rfl); simpa using this
      have hc : wq.cell? ⟨w.heap.size, 0, none⟩ = some (.slice a ns.length cap) := (cell_of_row wq _ 0 _ _ _ hI.2).trans rfl
      refine exec_same (v := .slice a ns.length cap) ?_ ⟨_, rfl, (Below.refl _ _), at_one (by omega) rfl⟩
      simp [go_sem, Act.eval, g6, hc]
    · have g7 : a_1.tmps.getD 7 undef = .slice a ns.length cap := by have := of_one (hpre ⟨4, .data⟩ (by simp) rfl _ rfl); simpa using this
      refine exec_call (f := 82) (args := #[.slice a ns.length cap]) (by simp [go_sem, Act.eval, g7]) ?_
      refine (placesOf_any a cap ns wq hl HF.out (HR.out.grown hI.1)).mono ?_
      rintro e w2 ⟨D, rfl, hm, hpd, hb⟩
      exact ⟨_, rfl, _, rfl, hb, at_one (by omega) ⟨_, D, rfl, hI.1.size, hm, hpd⟩⟩
    · have g1 : a_1.tmps.getD 1 undef = .pointer (some ⟨w.heap.size, 0, none⟩) := hold 1 (free_spec (by kernel_rfl))
      refine exec_same (v := .pointer (some ⟨w.heap.size, 0, none⟩)) ?_ ⟨_, rfl, (Below.refl _ _), at_one (by omega) rfl⟩
      simp [go_sem, Act.eval, g1]
    · have g9 : a_1.tmps.getD 9 undef = .pointer (some ⟨w.heap.size, 0, none⟩) := by have := of_one (hpre ⟨6, .data⟩ (by simp) rfl _ rfl); simpa using this
      have hc : wq.cell? ⟨w.heap.size, 0, none⟩ = some (.slice a ns.length cap) := (cell_of_row wq _ 0 _ _ _ hI.2).trans rfl
      refine exec_same (v := .slice a ns.length cap) ?_ ⟨_, rfl, (Below.refl _ _), at_one (by omega) rfl⟩
      simp [go_sem, Act.eval, g9, hc]
    · have g10 : a_1.tmps.getD 10 undef = .slice a ns.length cap := by have := of_one (hpre ⟨7, .data⟩ (by simp) rfl _ rfl); simpa using this
      refine exec_same (v := .int .i64 (ns.length : Int)) ?_ ⟨_, rfl, (Below.refl _ _), at_one (by omega) rfl⟩
      simp [go_sem, Act.eval, g10]
    · obtain ⟨v, h5, ho⟩ := of_one (hpre ⟨2, .data⟩ (by simp) rfl _ rfl)
      obtain ⟨gm, D, h8, hgm, hm, hpd⟩ := of_one (hpre ⟨5, .data⟩ (by simp) rfl _ rfl)
      have g5 : a_1.tmps.getD 5 undef = v := by simpa using h5
      have g8 : a_1.tmps.getD 8 undef = .map (some gm) := by simpa using h8
      have g11 : a_1.tmps.getD 11 undef = .int .i64 (ns.length : Int) := by have := of_one (hpre ⟨8, .data⟩ (by simp) rfl _ rfl); simpa using this
      obtain ⟨av, cv, rfl, -, -⟩ := ho.row
      have e5 : a_1.tmps[5]?.getD undef = .slice av ns.length cv := by simpa using g5
      have e8 : a_1.tmps[8]?.getD undef = .map (some gm) := by simpa using g8
      have e11 : a_1.tmps[11]?.getD undef = .int .i64 (ns.length : Int) := by simpa using g11
      refine exec_same (v := .agg #[.slice av ns.length cv, .map (some gm), .int .i64 (ns.length : Int), .int .i64 3000]) ?_ ⟨_, rfl, (Below.refl _ _), at_one (by omega) ⟨_, gm, D, rfl, ho, hgm, hm, hpd⟩⟩
      simp [go_sem, e5, e8, e11]
    · obtain ⟨v, gm, D, h12, ho, hgm, hm, hpd⟩ := of_one (hpre ⟨9, .data⟩ (by simp) rfl _ rfl)
      have g12 : a_1.tmps.getD 12 undef = .agg #[v, .map (some gm), .int .i64 (ns.length : Int), .int .i64 3000] := by simpa using h12
      have hbx : Below wq.heap.size wq (wq.alloc (.cells #[v, .map (some gm), .int .i64 (ns.length : Int), .int .i64 3000] 119)) := (Below.refl _ _).alloc (Nat.le_refl _) _
      have hmlt := hm.lt
      have hws := hI.1.size
      refine exec_made (v := .pointer (some ⟨wq.heap.size, 0, none⟩)) (w' := wq.alloc (.cells #[v, .map (some gm), .int .i64 (ns.length : Int), .int .i64 3000] 119)) ?_ ⟨_, rfl, hbx, at_one (by omega) ⟨wq.heap.size, gm, v, rfl, D, heap_alloc_new wq _, ho.later hbx, hm.kept (grown_ofB hbx) (by simp), hpd, hws, hgm, by omega, fun e => by have := (ho.lt _ e).2; omega, own_map_ne ho hm⟩⟩
      obtain ⟨av, cv, rfl, -, -⟩ := ho.row
      simp [go_sem, Act.eval, g12]
    · obtain ⟨gb, gm, v, h13, hbld⟩ := of_one (hpre ⟨10, .data⟩ (by simp) rfl _ rfl)
      have g13 : a_1.tmps.getD 13 undef = .pointer (some ⟨gb, 0, none⟩) := by simpa using h13
      refine exec_same (v := .pointer (some ⟨gb, 0, none⟩)) ?_ ⟨_, rfl, (Below.refl _ _), at_one (by omega) ⟨gb, gm, v, rfl, hbld⟩⟩
      simp [go_sem, Act.eval, g13]
  case fin =>
    intro zs w5 hzl hI hF
    obtain ⟨z0, z1, z2, z3, z4, z5, z6, z7, z8, z9, z10, z11, rfl⟩ := list12 zs hzl
    obtain ⟨gb, gm, v, hst, hbld⟩ := of_one (hF 11 _ rfl)
    simp only [List.cons.injEq, and_true] at hst
    have hs2 := last_is (i := 11) (v := z11) (n := 14) hst (by kernel_rfl) rfl rfl (by omega)
    clear hst
    subst hs2
    clear hF
    simp only [putAll, Act.put, List.setIfInBounds_toArray, List.set_cons_succ, List.set_cons_zero]
    have HE : Hid _ := And.intro hbld hI.1
    clear hbld hI
    go_wp2
    go_ret
    exact ⟨gb, gm, v, rfl, HE.out.1, HE.out.2⟩

theorem OwnN.take {B : Nat} {w : World} {a : Option Addr} {cp : Nat} {ns : List Nd} {f : Nat} (h : OwnN B w (.slice a ns.length cp) ns) (hf : f ≤ ns.length) : OwnN B w (.slice a (ns.take f).length cp) (ns.take f) := by
  have hl : (ns.take f).length = f := by rw [List.length_take]; omega
  have hc : cellsN (ns.take f) = (cellsN ns).take (f * 4) := by
    have e : ns = ns.take f ++ ns.drop f := (List.take_append_drop f ns).symm
    have hh : (cellsN (ns.take f)).length = f * 4 := by rw [cellsN_len, hl]
    conv => rhs; rw [e, cellsN_append]
    rw [List.take_append_of_le_length (by omega), ← hh, List.take_length]
  unfold OwnN
  rw [hl]
  refine ⟨by rw [cellsN_len, hl], ?_⟩
  rcases h.2 with ⟨e, h0⟩ | ⟨g, cap, cur, e, hg, hh, h1, h2, h3, h4⟩
  · left
    obtain ⟨rfl, h5, rfl⟩ : a = none ∧ ns.length = 0 ∧ cp = 0 := by simpa using e
    exact ⟨by rw [show f = 0 by omega], by omega⟩
  · right
    obtain ⟨rfl, rfl⟩ : a = some ⟨g, 0, none⟩ ∧ cp = cap := by simpa using e
    refine ⟨g, cp, cur, rfl, hg, hh, by omega, h2, h3, ?_⟩
    rw [hc, ← h4, List.take_take, Nat.min_eq_left (by omega)]

theorem clip_any (a : Option Addr) (n cap : Nat) (w : World) (ha : AddrN a cap) (hn : n ≤ cap) (hm : cap ≤ maxLen) (h0 : a = none → n = 0) :
    Calls Try.prog 83 #[.slice a n cap] w fun e w' => e = .returned (.slice a n n) ∧ w = w' := by
  rcases ha with ⟨rfl, rfl⟩ | ⟨b, off, rfl⟩
  · obtain rfl := h0 rfl
    go_enter Try.func83, Try.ntmps83
    go_wp2
    go_ret
    exact ⟨rfl, rfl⟩
  · go_enter Try.func83, Try.ntmps83
    go_wp2
    go_ret
    exact ⟨rfl, rfl⟩
end Go.Proofs.Ytnjihmailppjkaa
