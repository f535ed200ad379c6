/- What is made of a digest (chapter 21): DigestHex, CutDigest of both sides; the tables, both of them. -/
import Derived.Test.YthpkhbcahihbnaaDoorBoth21
import Derived.Test.YthpkhbcahihbnaaDoorHexW
import Derived.Test.YthpkhbcahihbnaaDoorIn01
import Derived.Test.YthpkhbcahihbnaaDoorXor24
import Derived.WalkKit
import Derived.WalkLawsBesides
import Derived.WalkSpells
namespace Go.Proofs.YthpkhbcahihbnaaDoor
open Go.RowKit Go.PlainAid
set_option maxRecDepth 20000
set_option linter.unusedVariables false
def hexT (t : ByteArray) : ByteArray := strOfNums (hexN (nums (tk (digT t) 0 (digT t).size)))
def cutT (t : ByteArray) (n : Int) : ByteArray := if inN n 1 32 = true then (digT t).extract 0 n.toNat else ByteArray.empty
theorem cutT_no (t : ByteArray) {n : Int} (h : ¬ (1 ≤ n ∧ n ≤ 32)) : cutT t n = ByteArray.empty := by
  unfold cutT
  rw [show inN n 1 32 = false by unfold inN; rw [← Bool.decide_and]; exact decide_eq_false h]; rfl
theorem cutT_yes (t : ByteArray) {n : Nat} (h : 1 ≤ n ∧ n ≤ 32) : cutT t (n : Int) = (digT t).extract 0 n := by
  unfold cutT
  rw [show inN (n : Int) 1 32 = true by unfold inN; rw [decide_eq_true (by omega), decide_eq_true (by omega)]; rfl, Int.toNat_natCast]; rfl
set_option maxHeartbeats 800000 in
theorem implCut_any (t : ByteArray) (n : Int) (w : World) (ht : t.size ≤ 100000000) (h : BothHere w) :
    Calls Tryd.prog 12 #[.string t, .int .i64 n] w fun e w' => e = .returned (.string (cutT t n)) ∧ Below w.heap.size w w' := by
  have HD : Hid _ := implDig_any t w ht h
  clear h
  by_cases hn : 1 ≤ n ∧ n ≤ 32
  · obtain ⟨k, rfl⟩ : ∃ k : Nat, n = (k : Int) := ⟨n.toNat, by omega⟩
    have HE : Hid _ := cutT_yes t (n := k) (by omega)
    have hz := digT_size t
    have h1 : ¬ (k : Int) < 1 := by omega
    have h2 : ¬ (32 : Int) < (k : Int) := by omega
    have h3 : (0 : Int) ≤ (k : Int) := by omega
    have h4 : (k : Int) ≤ (((digT t).size : Nat) : Int) := by omega
    clear hn hz
    generalize digT t = D at HD HE h4
    go_enter Tryd.func12, Tryd.ntmps12
    go_wp2_with fail
    refine Calls.mono HD.out ?_
    rintro e w1 ⟨rfl, hb1⟩
    go_wp2
    go_ret
    exact ⟨by rw [HE.out]; rfl, hb1⟩
  · have HE : Hid _ := cutT_no t (n := n) hn
    by_cases h1 : n < 1
    · clear hn HD
      go_enter Tryd.func12, Tryd.ntmps12
      go_wp2
      go_ret
      exact ⟨by rw [HE.out]; rfl, Below.refl _ _⟩
    · have h2 : (32 : Int) < n := by omega
      clear hn HD
      go_enter Tryd.func12, Tryd.ntmps12
      go_wp2
      go_ret
      exact ⟨by rw [HE.out]; rfl, Below.refl _ _⟩
end Go.Proofs.YthpkhbcahihbnaaDoor
