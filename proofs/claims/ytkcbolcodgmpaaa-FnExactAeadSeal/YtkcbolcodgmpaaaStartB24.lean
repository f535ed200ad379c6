/- The program's ChaStart (chapter 24). -/
import Derived.Test.YtkcbolcodgmpaaaStart24
import Derived.WalkKit
import Derived.WalkLawsBesides
import Derived.WalkSpells
import Derived.Great.Walk
namespace Go.Proofs.Ytkcbolcodgmpaaa
open Go.RowKit Go.PlainAid
set_option maxRecDepth 20000
set_option linter.unusedVariables false
set_option linter.unusedSimpArgs false
/-- What ChaStart answers. -/
def startL (key nonce : ByteArray) (c : Int) : List Int := if startOk key nonce c = true then bytesV 16 (wordsT (startT key nonce c.toNat)) else []
theorem startL_len (key nonce : ByteArray) (c : Int) : (startL key nonce c).length ≤ 16 := by
  unfold startL; split
  · rw [bytesV_len]; omega
  · exact Nat.zero_le _
theorem startOk_yes {key nonce : ByteArray} {c : Int} (h : startOk key nonce c = true) : key.size = 32 ∧ nonce.size = 12 ∧ 0 ≤ c ∧ c ≤ 4294967295 := by
  unfold startOk at h
  simp only [Bool.and_eq_true, decide_eq_true_eq] at h
  exact ⟨h.1.1, h.1.2, (okW_iff c).1 h.2⟩
theorem words0 : Words (fun _ => 0) := fun _ => (by decide : 0 < 4294967296)
end Go.Proofs.Ytkcbolcodgmpaaa
