/- Numbers of the curve, plain mathematics: sixteen limbs, what is carried on, and what is below the modulus. -/
import Derived.Test.YtjhglbdknjoeeaaLimbP
namespace Go.Proofs.Ytjhglbdknjoeeaa
/-- The bases of a field's limbs: 16 bits each, the last one 15. -/
def fb : List Int := [65536, 65536, 65536, 65536, 65536, 65536, 65536, 65536, 65536, 65536, 65536, 65536, 65536, 65536, 65536, 32768]
theorem fb_pos : ∀ b ∈ fb, 0 < b := by decide
theorem fb_all : lall fb = 57896044618658097711785492504343953926634992332820282019728792003956564819968 := by decide
def fp : Int := 57896044618658097711785492504343953926634992332820282019728792003956564819949
def addH (d : Int) : List Int → List Int
  | [] => []
  | x :: l => (x + d) :: l
theorem addH_len (d : Int) (l : List Int) : (addH d l).length = l.length := by cases l <;> rfl
theorem addH_val (d : Int) {l : List Int} (h : l.length = 16) : lval fb (addH d l) = lval fb l + d := by
  cases l with
  | nil => cases h
  | cons x l => simp only [addH, fb, lval]; omega
/-- The limbs of a number below the modulus. -/
def canon (v : Int) : List Int := lof fb (v % fp)
theorem canon_len (v : Int) : (canon v).length = 16 := lof_len _ _
theorem canon_ok (v : Int) : lok fb (canon v) := lof_ok _ fb_pos
theorem canon_val (v : Int) : lval fb (canon v) = v % fp := by
  unfold canon
  rw [lof_val _ fb_pos, fb_all]
  unfold fp
  omega
theorem canon_eq {l : List Int} (h : lok fb l) (hv : lval fb l < fp) : canon (lval fb l) = l := by
  have h0 := lval_low h
  unfold canon
  rw [Int.emod_eq_of_lt h0 hv]
  exact lof_of fb_pos h
/-- What is carried on, and what stands above it folded in. -/
theorem fold_mod {l : List Int} (h : l.length = 16) : lval fb (addH (19 * (lcar fb 0 l).2) (lcar fb 0 l).1) % fp = lval fb l % fp := by
  have e := lcar_val (bs := fb) 0 h
  have hl := lcar_len (bs := fb) 0 h
  rw [addH_val _ hl, ← Int.add_zero (lval fb l), ← e, fb_all]
  generalize lval fb (lcar fb 0 l).1 = a
  generalize (lcar fb 0 l).2 = b
  unfold fp
  omega
def frank (f : List Int) (over : Int) : Nat := if over = 0 then 0 else if 0 ≤ lval fb f + 19 * over ∧ lval fb f + 19 * over < 57896044618658097711785492504343953926634992332820282019728792003956564819968 then 1 else 2
theorem rank_less {f : List Int} {over : Int} (hf : lok fb f) (h0 : over ≠ 0) (h1 : -1152921504606846976 ≤ over) (h2 : over ≤ 1152921504606846976) :
    frank (lcar fb 0 (addH (19 * over) f)).1 (lcar fb 0 (addH (19 * over) f)).2 < frank f over ∧ -1 ≤ (lcar fb 0 (addH (19 * over) f)).2 ∧ (lcar fb 0 (addH (19 * over) f)).2 ≤ 1 := by
  have hl : f.length = 16 := lok_len hf
  have hl2 : (addH (19 * over) f).length = 16 := by rw [addH_len, hl]
  have o := lcar_over (bs := fb) 0 fb_pos hl2
  have a := lval_low hf
  have b := lval_lt hf
  rw [addH_val _ hl, fb_all, Int.add_zero] at o
  rw [fb_all] at b
  generalize (lcar fb 0 (addH (19 * over) f)).2 = q at o
  generalize (lcar fb 0 (addH (19 * over) f)).1 = g at o
  unfold frank
  generalize lval fb f = v at o a b
  generalize lval fb g = u at o
  rw [if_neg h0]
  obtain ⟨o1, o2⟩ := o
  refine ⟨?_, by omega, by omega⟩
  split
  · split <;> omega
  · split
    · split
      · omega
      · omega
    · split
      · omega
      · omega
/-- What is the modulus or more is less by the modulus. -/
theorem fin_yes {f : List Int} (hf : lok fb f) (h : (lcar fb 0 (addH 19 f)).2 ≠ 0) : (lcar fb 0 (addH 19 f)).1 = canon (lval fb f) := by
  have hl : f.length = 16 := lok_len hf
  have hl2 : (addH 19 f).length = 16 := by rw [addH_len, hl]
  have o := lcar_over (bs := fb) 0 fb_pos hl2
  have ok := lcar_ok (bs := fb) 0 fb_pos hl2
  have a := lval_low hf
  have b := lval_lt hf
  rw [addH_val _ hl, fb_all, Int.add_zero] at o
  rw [fb_all] at b
  refine lval_inj ok (canon_ok _) ?_
  rw [canon_val, o.2]
  have o1 := o.1
  generalize lval fb f = v at o1 a b
  generalize (lcar fb 0 (addH 19 f)).2 = q at o1 h
  unfold fp
  omega
theorem fin_no {f : List Int} (hf : lok fb f) (h : (lcar fb 0 (addH 19 f)).2 = 0) : f = canon (lval fb f) := by
  have hl : f.length = 16 := lok_len hf
  have hl2 : (addH 19 f).length = 16 := by rw [addH_len, hl]
  have o := (lcar_over (bs := fb) 0 fb_pos hl2).1
  have a := lval_low hf
  have b := lval_lt hf
  rw [addH_val _ hl, fb_all, Int.add_zero, h] at o
  rw [fb_all] at b
  refine (canon_eq hf ?_).symm
  unfold fp
  omega
end Go.Proofs.Ytjhglbdknjoeeaa
