/- Chapter 15 in plain words: a right pool has one of eight forms; what Leased and Given make of it. -/
import Derived.Test.YtclnhjkmhemebaaSpec15c
namespace Go.Proofs.Ytclnhjkmhemebaa
open Go.RowKit
set_option linter.unusedVariables false
set_option linter.unusedSimpArgs false
/-- The forms of a right pool. -/
def Pf (ls : List Ls) : Prop := ls = [] ∨ (∃ a, ls = [⟨10, a⟩]) ∨ (∃ a, ls = [⟨11, a⟩]) ∨ (∃ a, ls = [⟨12, a⟩]) ∨ (∃ a b, a ≠ b ∧ ls = [⟨10, a⟩, ⟨11, b⟩]) ∨ (∃ a b, a ≠ b ∧ ls = [⟨10, a⟩, ⟨12, b⟩]) ∨ (∃ a b, a ≠ b ∧ ls = [⟨11, a⟩, ⟨12, b⟩]) ∨ (∃ a b d, a ≠ b ∧ a ≠ d ∧ b ≠ d ∧ ls = [⟨10, a⟩, ⟨11, b⟩, ⟨12, d⟩])
theorem pf_of {ls : List Ls} (h : poolB ls = true) : Pf ls := by
  have h3 := pool_len h
  match ls, h3 with
  | [], _ => exact .inl rfl
  | [⟨p, a⟩], _ =>
    simp [poolB, poolFrom, plOk, cidIn] at h
    rcases (show p = 10 ∨ p = 11 ∨ p = 12 by omega) with rfl | rfl | rfl
    · exact .inr (.inl ⟨a, rfl⟩)
    · exact .inr (.inr (.inl ⟨a, rfl⟩))
    · exact .inr (.inr (.inr (.inl ⟨a, rfl⟩)))
  | [⟨p, a⟩, ⟨q, b⟩], _ =>
    simp [poolB, poolFrom, plOk, cidIn] at h
    rcases (show (p = 10 ∧ q = 11) ∨ (p = 10 ∧ q = 12) ∨ (p = 11 ∧ q = 12) by omega) with ⟨rfl, rfl⟩ | ⟨rfl, rfl⟩ | ⟨rfl, rfl⟩
    · exact .inr (.inr (.inr (.inr (.inl ⟨a, b, by omega, rfl⟩))))
    · exact .inr (.inr (.inr (.inr (.inr (.inl ⟨a, b, by omega, rfl⟩)))))
    · exact .inr (.inr (.inr (.inr (.inr (.inr (.inl ⟨a, b, by omega, rfl⟩))))))
  | [⟨p, a⟩, ⟨q, b⟩, ⟨r, d⟩], _ =>
    simp [poolB, poolFrom, plOk, cidIn] at h
    obtain ⟨rfl, rfl, rfl⟩ : p = 10 ∧ q = 11 ∧ r = 12 := by omega
    exact .inr (.inr (.inr (.inr (.inr (.inr (.inr ⟨a, b, d, by omega, by omega, by omega, rfl⟩))))))
/-- What FnPools asks of a right pool. -/
structure Pq (ls : List Ls) (c : Int) : Prop where
  len : ls.length ≤ 3
  given : poolB (givenL ls c) = true
  lease : poolB (leaseL ls c) = true
  no : leaseB ls c = false → ls.length = 3 ∧ placeL ls c = 0 ∧ leaseL ls c = ls
  place : leaseB ls c = true → placeL (leaseL ls c) c = leaseP ls c
  cid : leaseB ls c = true → cidL (leaseL ls c) (leaseP ls c) = c
  twice : leaseB ls c = true → leaseB (leaseL ls c) c = true
  again : leaseB ls c = true → leaseP (leaseL ls c) c = leaseP ls c
  same : leaseB ls c = true → leaseL (leaseL ls c) c = leaseL ls c
  gone : leaseB ls c = true → placeL (givenL (leaseL ls c) c) c = 0
  left : leaseB ls c = true → poolB (givenL (leaseL ls c) c) = true
  first : leaseB ls c = true → 10 ≤ leaseP ls c
set_option maxHeartbeats 1600000 in
theorem pq_of {ls : List Ls} (h : Pf ls) (c : Int) : Pq ls c := by
  rcases h with rfl | ⟨a, rfl⟩ | ⟨a, rfl⟩ | ⟨a, rfl⟩ | ⟨a, b, h1, rfl⟩ | ⟨a, b, h1, rfl⟩ | ⟨a, b, h1, rfl⟩ | ⟨a, b, d, h1, h2, h3, rfl⟩
  · constructor <;> simp [poolB, poolFrom, plOk, cidIn, givenL, leaseL, leaseP, leaseB, hasL, lsMade, lsStep, lsAt, placeL, cidL]
  · by_cases e0 : a = c
    · subst e0
      constructor <;> simp [poolB, poolFrom, plOk, cidIn, givenL, leaseL, leaseP, leaseB, hasL, lsMade, lsStep, lsAt, placeL, cidL]
    · constructor <;> simp [poolB, poolFrom, plOk, cidIn, givenL, leaseL, leaseP, leaseB, hasL, lsMade, lsStep, lsAt, placeL, cidL, e0, Ne.symm e0]
  · by_cases e0 : a = c
    · subst e0
      constructor <;> simp [poolB, poolFrom, plOk, cidIn, givenL, leaseL, leaseP, leaseB, hasL, lsMade, lsStep, lsAt, placeL, cidL]
    · constructor <;> simp [poolB, poolFrom, plOk, cidIn, givenL, leaseL, leaseP, leaseB, hasL, lsMade, lsStep, lsAt, placeL, cidL, e0, Ne.symm e0]
  · by_cases e0 : a = c
    · subst e0
      constructor <;> simp [poolB, poolFrom, plOk, cidIn, givenL, leaseL, leaseP, leaseB, hasL, lsMade, lsStep, lsAt, placeL, cidL]
    · constructor <;> simp [poolB, poolFrom, plOk, cidIn, givenL, leaseL, leaseP, leaseB, hasL, lsMade, lsStep, lsAt, placeL, cidL, e0, Ne.symm e0]
  · by_cases e0 : a = c
    · subst e0
      constructor <;> simp [poolB, poolFrom, plOk, cidIn, givenL, leaseL, leaseP, leaseB, hasL, lsMade, lsStep, lsAt, placeL, cidL, h1, h1.symm]
    · by_cases e1 : b = c
      · subst e1
        constructor <;> simp [poolB, poolFrom, plOk, cidIn, givenL, leaseL, leaseP, leaseB, hasL, lsMade, lsStep, lsAt, placeL, cidL, h1, h1.symm]
      · constructor <;> simp [poolB, poolFrom, plOk, cidIn, givenL, leaseL, leaseP, leaseB, hasL, lsMade, lsStep, lsAt, placeL, cidL, h1, h1.symm, e0, Ne.symm e0, e1, Ne.symm e1]
  · by_cases e0 : a = c
    · subst e0
      constructor <;> simp [poolB, poolFrom, plOk, cidIn, givenL, leaseL, leaseP, leaseB, hasL, lsMade, lsStep, lsAt, placeL, cidL, h1, h1.symm]
    · by_cases e1 : b = c
      · subst e1
        constructor <;> simp [poolB, poolFrom, plOk, cidIn, givenL, leaseL, leaseP, leaseB, hasL, lsMade, lsStep, lsAt, placeL, cidL, h1, h1.symm]
      · constructor <;> simp [poolB, poolFrom, plOk, cidIn, givenL, leaseL, leaseP, leaseB, hasL, lsMade, lsStep, lsAt, placeL, cidL, h1, h1.symm, e0, Ne.symm e0, e1, Ne.symm e1]
  · by_cases e0 : a = c
    · subst e0
      constructor <;> simp [poolB, poolFrom, plOk, cidIn, givenL, leaseL, leaseP, leaseB, hasL, lsMade, lsStep, lsAt, placeL, cidL, h1, h1.symm]
    · by_cases e1 : b = c
      · subst e1
        constructor <;> simp [poolB, poolFrom, plOk, cidIn, givenL, leaseL, leaseP, leaseB, hasL, lsMade, lsStep, lsAt, placeL, cidL, h1, h1.symm]
      · constructor <;> simp [poolB, poolFrom, plOk, cidIn, givenL, leaseL, leaseP, leaseB, hasL, lsMade, lsStep, lsAt, placeL, cidL, h1, h1.symm, e0, Ne.symm e0, e1, Ne.symm e1]
  · by_cases e0 : a = c
    · subst e0
      constructor <;> simp [poolB, poolFrom, plOk, cidIn, givenL, leaseL, leaseP, leaseB, hasL, lsMade, lsStep, lsAt, placeL, cidL, h1, h1.symm, h2, h2.symm, h3, h3.symm]
    · by_cases e1 : b = c
      · subst e1
        constructor <;> simp [poolB, poolFrom, plOk, cidIn, givenL, leaseL, leaseP, leaseB, hasL, lsMade, lsStep, lsAt, placeL, cidL, h1, h1.symm, h2, h2.symm, h3, h3.symm]
      · by_cases e2 : d = c
        · subst e2
          constructor <;> simp [poolB, poolFrom, plOk, cidIn, givenL, leaseL, leaseP, leaseB, hasL, lsMade, lsStep, lsAt, placeL, cidL, h1, h1.symm, h2, h2.symm, h3, h3.symm]
        · constructor <;> simp [poolB, poolFrom, plOk, cidIn, givenL, leaseL, leaseP, leaseB, hasL, lsMade, lsStep, lsAt, placeL, cidL, h1, h1.symm, h2, h2.symm, h3, h3.symm, e0, Ne.symm e0, e1, Ne.symm e1, e2, Ne.symm e2]
end Go.Proofs.Ytclnhjkmhemebaa
