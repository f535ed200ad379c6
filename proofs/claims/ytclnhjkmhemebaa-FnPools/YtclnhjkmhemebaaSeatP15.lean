/- Chapter 15 in plain words: the seats of a right pool. -/
import Derived.Test.YtclnhjkmhemebaaPoolP15
import Derived.Test.YtclnhjkmhemebaaSeatb15
namespace Go.Proofs.Ytclnhjkmhemebaa
open Go.RowKit
set_option linter.unusedVariables false
set_option linter.unusedSimpArgs false
def St.leases (t : St) : List Ls := ((if t.s0.b = true then [⟨10, t.s0.c⟩] else []) ++ (if t.s1.b = true then [⟨11, t.s1.c⟩] else [])) ++ (if t.s2.b = true then [⟨12, t.s2.c⟩] else [])
theorem St.has_or (t : St) (c : Int) : t.has c = (decide (t.s0 = ⟨true, c⟩) || (decide (t.s1 = ⟨true, c⟩) || decide (t.s2 = ⟨true, c⟩))) := by
  unfold St.has St.idx
  by_cases h0 : t.s0 = ⟨true, c⟩ <;> by_cases h1 : t.s1 = ⟨true, c⟩ <;> by_cases h2 : t.s2 = ⟨true, c⟩ <;> simp [h0, h1, h2]
theorem seatsL_len : ∀ {l : List Ls} {n : Int} {t : St}, n ≤ 13 → (seatsL l n t).2 = true → (l.length : Int) ≤ 13 - n
  | [], n, t, hn, h => by simp; omega
  | x :: l, n, t, hn, h => by
    rw [seatsL] at h
    split at h
    · cases h
    · split at h
      · cases h
      · split at h
        · cases h
        · have := seatsL_len (by omega) h
          simp; omega
theorem seatsL_true {x : Ls} {l : List Ls} {n : Int} {t : St} : (seatsL (x :: l) n t).2 = true ↔ n ≤ x.p ∧ x.p < 13 ∧ t.has x.c = false ∧ (seatsL l (x.p + 1) (t.put x.p x.c)).2 = true := by
  rw [seatsL]
  by_cases h1 : x.p < n
  · rw [if_pos h1]; constructor
    · intro h; cases h
    · intro h; omega
  · rw [if_neg h1]
    by_cases h2 : 13 ≤ x.p
    · rw [if_pos h2]; constructor
      · intro h; cases h
      · intro h; omega
    · rw [if_neg h2]
      cases h3 : t.has x.c with
      | true => simp
      | false => rw [if_neg (by decide)]; exact ⟨fun h => ⟨by omega, by omega, rfl, h⟩, fun h => h.2.2.2⟩
theorem seats_right {ls : List Ls} (h : (seatsL ls 10 St.zero).2 = true) : poolB ls = true := by
  have hl := seatsL_len (by omega) h
  match ls, hl with
  | [], _ => rfl
  | [⟨p, a⟩], _ =>
    simp only [seatsL_true] at h
    simp [poolB, poolFrom, plOk, cidIn]; omega
  | [⟨p, a⟩, ⟨q, b⟩], _ =>
    simp only [seatsL_true] at h
    obtain ⟨h1, h2, h3, h4, h5, h6, h7⟩ := h
    rcases (show p = 10 ∨ p = 11 ∨ p = 12 by omega) with rfl | rfl | rfl <;> simp [St.has_or, St.zero, St.put] at h6 <;> simp [poolB, poolFrom, plOk, cidIn] <;> omega
  | [⟨p, a⟩, ⟨q, b⟩, ⟨r, d⟩], _ =>
    simp only [seatsL_true] at h
    obtain ⟨h1, h2, h3, h4, h5, h6, h7, h8, h9, h10⟩ := h
    obtain ⟨rfl, rfl, rfl⟩ : p = 10 ∧ q = 11 ∧ r = 12 := by omega
    simp [St.has_or, St.zero, St.put] at h6 h9
    simp [poolB, poolFrom, plOk, cidIn]; omega
  | _ :: _ :: _ :: _ :: l, hl => simp at hl; omega
/-- What Leased asks of the seats of a right pool. -/
structure Sq (ls : List Ls) (c : Int) (t : St) : Prop where
  has : t.has c = hasL ls c
  full : hasL ls c = false → t.idx ⟨false, 0⟩ = -1 → (lsMade ls c).2 = 0
  free : hasL ls c = false → t.idx ⟨false, 0⟩ ≠ -1 → (lsMade ls c).2 = 10 + t.idx ⟨false, 0⟩ ∧ 0 ≤ t.idx ⟨false, 0⟩ ∧ t.idx ⟨false, 0⟩ ≤ 2 ∧ (t.put (10 + t.idx ⟨false, 0⟩) c).leases = (lsMade ls c).1
set_option maxHeartbeats 1600000 in
theorem seats_of {ls : List Ls} (h : Pf ls) (c : Int) : (seatsL ls 10 St.zero).2 = true ∧ Sq ls c (seatsL ls 10 St.zero).1 := by
  rcases h with rfl | ⟨a, rfl⟩ | ⟨a, rfl⟩ | ⟨a, rfl⟩ | ⟨a, b, h1, rfl⟩ | ⟨a, b, h1, rfl⟩ | ⟨a, b, h1, rfl⟩ | ⟨a, b, d, h1, h2, h3, rfl⟩
  · have ht : seatsL [] 10 St.zero = (⟨⟨false, 0⟩, ⟨false, 0⟩, ⟨false, 0⟩⟩, true) := by simp [seatsL, St.has_or, St.zero, St.put]
    rw [ht]
    refine ⟨rfl, ?_⟩
    clear ht
    constructor <;> simp [hasL, lsMade, lsStep, lsAt, St.has_or, St.put, St.idx, St.leases]
  · have ht : seatsL [⟨10, a⟩] 10 St.zero = (⟨⟨true, a⟩, ⟨false, 0⟩, ⟨false, 0⟩⟩, true) := by simp [seatsL, St.has_or, St.zero, St.put]
    rw [ht]
    refine ⟨rfl, ?_⟩
    clear ht
    by_cases e0 : a = c
    · subst e0
      constructor <;> simp [hasL, lsMade, lsStep, lsAt, St.has_or, St.put, St.idx, St.leases]
    · skip
      constructor <;> simp [hasL, lsMade, lsStep, lsAt, St.has_or, St.put, St.idx, St.leases, e0, Ne.symm e0]
  · have ht : seatsL [⟨11, a⟩] 10 St.zero = (⟨⟨false, 0⟩, ⟨true, a⟩, ⟨false, 0⟩⟩, true) := by simp [seatsL, St.has_or, St.zero, St.put]
    rw [ht]
    refine ⟨rfl, ?_⟩
    clear ht
    by_cases e0 : a = c
    · subst e0
      constructor <;> simp [hasL, lsMade, lsStep, lsAt, St.has_or, St.put, St.idx, St.leases]
    · skip
      constructor <;> simp [hasL, lsMade, lsStep, lsAt, St.has_or, St.put, St.idx, St.leases, e0, Ne.symm e0]
  · have ht : seatsL [⟨12, a⟩] 10 St.zero = (⟨⟨false, 0⟩, ⟨false, 0⟩, ⟨true, a⟩⟩, true) := by simp [seatsL, St.has_or, St.zero, St.put]
    rw [ht]
    refine ⟨rfl, ?_⟩
    clear ht
    by_cases e0 : a = c
    · subst e0
      constructor <;> simp [hasL, lsMade, lsStep, lsAt, St.has_or, St.put, St.idx, St.leases]
    · skip
      constructor <;> simp [hasL, lsMade, lsStep, lsAt, St.has_or, St.put, St.idx, St.leases, e0, Ne.symm e0]
  · have ht : seatsL [⟨10, a⟩, ⟨11, b⟩] 10 St.zero = (⟨⟨true, a⟩, ⟨true, b⟩, ⟨false, 0⟩⟩, true) := by simp [seatsL, St.has_or, St.zero, St.put, h1, Ne.symm h1]
    rw [ht]
    refine ⟨rfl, ?_⟩
    clear ht
    by_cases e0 : a = c
    · subst e0
      constructor <;> simp [hasL, lsMade, lsStep, lsAt, St.has_or, St.put, St.idx, St.leases, h1, Ne.symm h1]
    · skip
      by_cases e1 : b = c
      · subst e1
        constructor <;> simp [hasL, lsMade, lsStep, lsAt, St.has_or, St.put, St.idx, St.leases, h1, Ne.symm h1, e0, Ne.symm e0]
      · skip
        constructor <;> simp [hasL, lsMade, lsStep, lsAt, St.has_or, St.put, St.idx, St.leases, h1, Ne.symm h1, e0, Ne.symm e0, e1, Ne.symm e1]
  · have ht : seatsL [⟨10, a⟩, ⟨12, b⟩] 10 St.zero = (⟨⟨true, a⟩, ⟨false, 0⟩, ⟨true, b⟩⟩, true) := by simp [seatsL, St.has_or, St.zero, St.put, h1, Ne.symm h1]
    rw [ht]
    refine ⟨rfl, ?_⟩
    clear ht
    by_cases e0 : a = c
    · subst e0
      constructor <;> simp [hasL, lsMade, lsStep, lsAt, St.has_or, St.put, St.idx, St.leases, h1, Ne.symm h1]
    · skip
      by_cases e1 : b = c
      · subst e1
        constructor <;> simp [hasL, lsMade, lsStep, lsAt, St.has_or, St.put, St.idx, St.leases, h1, Ne.symm h1, e0, Ne.symm e0]
      · skip
        constructor <;> simp [hasL, lsMade, lsStep, lsAt, St.has_or, St.put, St.idx, St.leases, h1, Ne.symm h1, e0, Ne.symm e0, e1, Ne.symm e1]
  · have ht : seatsL [⟨11, a⟩, ⟨12, b⟩] 10 St.zero = (⟨⟨false, 0⟩, ⟨true, a⟩, ⟨true, b⟩⟩, true) := by simp [seatsL, St.has_or, St.zero, St.put, h1, Ne.symm h1]
    rw [ht]
    refine ⟨rfl, ?_⟩
    clear ht
    by_cases e0 : a = c
    · subst e0
      constructor <;> simp [hasL, lsMade, lsStep, lsAt, St.has_or, St.put, St.idx, St.leases, h1, Ne.symm h1]
    · skip
      by_cases e1 : b = c
      · subst e1
        constructor <;> simp [hasL, lsMade, lsStep, lsAt, St.has_or, St.put, St.idx, St.leases, h1, Ne.symm h1, e0, Ne.symm e0]
      · skip
        constructor <;> simp [hasL, lsMade, lsStep, lsAt, St.has_or, St.put, St.idx, St.leases, h1, Ne.symm h1, e0, Ne.symm e0, e1, Ne.symm e1]
  · have ht : seatsL [⟨10, a⟩, ⟨11, b⟩, ⟨12, d⟩] 10 St.zero = (⟨⟨true, a⟩, ⟨true, b⟩, ⟨true, d⟩⟩, true) := by simp [seatsL, St.has_or, St.zero, St.put, h1, Ne.symm h1, h2, Ne.symm h2, h3, Ne.symm h3]
    rw [ht]
    refine ⟨rfl, ?_⟩
    clear ht
    by_cases e0 : a = c
    · subst e0
      constructor <;> simp [hasL, lsMade, lsStep, lsAt, St.has_or, St.put, St.idx, St.leases, h1, Ne.symm h1, h2, Ne.symm h2, h3, Ne.symm h3]
    · skip
      by_cases e1 : b = c
      · subst e1
        constructor <;> simp [hasL, lsMade, lsStep, lsAt, St.has_or, St.put, St.idx, St.leases, h1, Ne.symm h1, h2, Ne.symm h2, h3, Ne.symm h3, e0, Ne.symm e0]
      · skip
        by_cases e2 : d = c
        · subst e2
          constructor <;> simp [hasL, lsMade, lsStep, lsAt, St.has_or, St.put, St.idx, St.leases, h1, Ne.symm h1, h2, Ne.symm h2, h3, Ne.symm h3, e0, Ne.symm e0, e1, Ne.symm e1]
        · skip
          constructor <;> simp [hasL, lsMade, lsStep, lsAt, St.has_or, St.put, St.idx, St.leases, h1, Ne.symm h1, h2, Ne.symm h2, h3, Ne.symm h3, e0, Ne.symm e0, e1, Ne.symm e1, e2, Ne.symm e2]
theorem seats_pool (ls : List Ls) : (seatsL ls 10 St.zero).2 = poolB ls := by
  cases h : poolB ls with
  | true => exact (seats_of (pf_of h) 0).1
  | false =>
    cases h2 : (seatsL ls 10 St.zero).2 with
    | false => rfl
    | true => rw [seats_right h2] at h; exact absurd h (by decide)
theorem seats_no {ls : List Ls} : ∀ {n : Int} {t : St}, (seatsL ls n t).2 = false → (seatsL ls n t).1 = St.zero := by
  induction ls with
  | nil => intro n t h; cases h
  | cons x l ih =>
    intro n t h
    rw [seatsL] at h ⊢
    split
    · rfl
    · split
      · rfl
      · split
        · rfl
        · rename_i h1 h2 h3
          rw [if_neg h1, if_neg h2, if_neg h3] at h
          exact ih h
end Go.Proofs.Ytclnhjkmhemebaa
