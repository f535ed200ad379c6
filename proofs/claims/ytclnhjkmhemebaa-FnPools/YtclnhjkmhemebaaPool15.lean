/- Chapter 15 in plain words: places. -/
import Derived.Test.YtclnhjkmhemebaaRowLs
namespace Go.Proofs.Ytclnhjkmhemebaa
open Go.RowKit
set_option linter.unusedVariables false
/-- Is a cid among the first k? -/
def cidIn (ls : List Ls) (c : Int) : Nat → Bool
  | 0 => false
  | k + 1 => cidIn ls c k || decide ((ls.getD k Ls.zero).c = c)
/-- Is the lease at i as it must be? -/
def plOk (ls : List Ls) (i : Nat) : Bool := (decide (10 ≤ (ls.getD i Ls.zero).p) && decide ((ls.getD i Ls.zero).p ≤ 12)) && (decide (i = 0) || decide ((ls.getD (i - 1) Ls.zero).p < (ls.getD i Ls.zero).p)) && !cidIn ls (ls.getD i Ls.zero).c i
/-- PoolOk. -/
def poolFrom (ls : List Ls) : Nat → Nat → Bool
  | 0, _ => true
  | f + 1, i => plOk ls i && poolFrom ls f (i + 1)
def poolB (ls : List Ls) : Bool := poolFrom ls ls.length 0 && decide (ls.length ≤ 3)
/-- PlaceOf, CidOf, from a place on. -/
def placeL : List Ls → Int → Int
  | [], _ => 0
  | x :: l, c => if x.c = c then x.p else placeL l c
def cidL : List Ls → Int → Int
  | [], _ => -1
  | x :: l, p => if x.p = p then x.c else cidL l p
def hasL (ls : List Ls) (c : Int) : Bool := ls.any (fun x => decide (x.c = c))
/-- Given. -/
def givenL (ls : List Ls) (c : Int) : List Ls := ls.filter (fun x => !decide (x.c = c))
/-- Leased. -/
def lsAt (ls : List Ls) (p : Int) : List Ls := ls.filter (fun x => decide (x.p = p))
def lsStep (ls : List Ls) (c : Int) (st : List Ls × Int) (p : Int) : List Ls × Int := if lsAt ls p = [] ∧ st.2 = 0 then (st.1 ++ [⟨p, c⟩], p) else (st.1 ++ lsAt ls p, st.2)
def lsMade (ls : List Ls) (c : Int) : List Ls × Int := lsStep ls c (lsStep ls c (lsStep ls c ([], 0) 10) 11) 12
def leaseL (ls : List Ls) (c : Int) : List Ls := if poolB ls = true ∧ hasL ls c = false ∧ (lsMade ls c).2 ≠ 0 then (lsMade ls c).1 else ls
def leaseP (ls : List Ls) (c : Int) : Int := if poolB ls = true then (if hasL ls c = true then placeL ls c else (lsMade ls c).2) else 0
def leaseB (ls : List Ls) (c : Int) : Bool := poolB ls && (hasL ls c || decide ((lsMade ls c).2 ≠ 0))
theorem drop_cons {ls : List Ls} {i : Nat} (h : i < ls.length) : ls.drop i = ls.getD i Ls.zero :: ls.drop (i + 1) := by
  rw [List.drop_eq_getElem_cons h, List.getD_eq_getElem?_getD, List.getElem?_eq_getElem h]; rfl
theorem take_next {ls : List Ls} {i : Nat} (h : i < ls.length) : ls.take (i + 1) = ls.take i ++ [ls.getD i Ls.zero] := by
  rw [List.take_succ_eq_append_getElem h, List.getD_eq_getElem?_getD, List.getElem?_eq_getElem h]; rfl
theorem cidIn_take {ls : List Ls} {c : Int} : ∀ {k : Nat}, k ≤ ls.length → cidIn ls c k = (ls.take k).any (fun x => decide (x.c = c))
  | 0, _ => rfl
  | k + 1, h => by rw [cidIn, cidIn_take (Nat.le_of_succ_le h), take_next h]; simp
theorem poolFrom_len {ls : List Ls} : ∀ {f i : Nat}, poolFrom ls f i = true → ∀ j, i ≤ j → j < i + f → plOk ls j = true
  | 0, i, _, j, h1, h2 => by omega
  | f + 1, i, h, j, h1, h2 => by
    rw [poolFrom, Bool.and_eq_true] at h
    rcases Nat.eq_or_lt_of_le h1 with rfl | h3
    · exact h.1
    · exact poolFrom_len h.2 j h3 (by omega)
theorem pool_len {ls : List Ls} (h : poolB ls = true) : ls.length ≤ 3 := by
  unfold poolB at h; simp at h; exact h.2
end Go.Proofs.Ytclnhjkmhemebaa
