/- Numbers of the curve, plain mathematics: numbers below the modulus, and the power that makes 1 with one. -/
import Derived.Test.YtjhglbdknjoeeaaMulP
namespace Go.Proofs.Ytjhglbdknjoeeaa
def one16 : List Int := [1, 0, 0, 0, 0, 0, 0, 0, 0, 0, 0, 0, 0, 0, 0, 0]
theorem canon_mod {a b : Int} (h : a % fp = b % fp) : canon a = canon b := by unfold canon; rw [h]
theorem canon_v (a : Int) : v16 (canon a) = a % fp := by rw [← v16_fb (canon_len a), canon_val]
theorem canon_mul (a b : Int) : canon (v16 (canon a) * v16 (canon b)) = canon (a * b) := canon_mod (by rw [canon_v, canon_v, ← Int.mul_emod])
theorem canon_add (a b : Int) : canon (v16 (canon a) + v16 (canon b)) = canon (a + b) := canon_mod (by rw [canon_v, canon_v, ← Int.add_emod])
theorem canon_sub (a b : Int) : canon (v16 (canon a) - v16 (canon b)) = canon (a - b) := canon_mod (by rw [canon_v, canon_v, ← Int.sub_emod])
/-- The power that makes 1 with a number, ahead of bit 254 - k. -/
def ivp (a : Int) : Nat → Int
  | 0 => 1
  | k + 1 => ivp a k * ivp a k * (if 254 - k = 4 ∨ 254 - k = 2 then 1 else a)
theorem canon_is {l : List Int} {a : Int} (h : l = canon a) : canon (v16 l) = l := by
  rw [h]; exact canon_mod (by rw [canon_v]; exact Int.emod_emod_of_dvd _ (Int.dvd_refl _))
end Go.Proofs.Ytjhglbdknjoeeaa
