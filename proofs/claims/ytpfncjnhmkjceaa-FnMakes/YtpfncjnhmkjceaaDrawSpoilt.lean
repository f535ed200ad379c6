/- The drawing functions l02Spoilt, DrawArena and DrawReadTerm of the specification: what they hand back, within bounds. -/
import Derived.Test.YtpfncjnhmkjceaaDrawArena
import Derived.Test.YtpfncjnhmkjceaaDrawAny
import Derived.Test.YtpfncjnhmkjceaaCodeW
import Derived.Test.YtpfncjnhmkjceaaMakeOrd
import Derived.Test.YtpfncjnhmkjceaaRegionK
import Derived.WalkKit
import Derived.WalkLawsBesides
import Derived.WalkSpells
import Derived.Laws.Rows
import Derived.Laws.ResultCell
namespace Go.Proofs.Ytpfncjnhmkjceaa
open Go.RowKit Go.PlainAid
set_option linter.unusedVariables false
theorem list6 {α : Type} (l : List α) (h : l.length = 6) : ∃ a0 a1 a2 a3 a4 a5, l = [a0, a1, a2, a3, a4, a5] := by
  match l, h with
  | [a0, a1, a2, a3, a4, a5], _ => exact ⟨a0, a1, a2, a3, a4, a5, rfl⟩
theorem txS_size (ns : List Nd) (k : Int) : (txS ns k).size ≤ 8000 := by
  unfold txS
  split
  · rename_i h
    have hb := inB_true h
    obtain ⟨i, rfl, hg, hsz⟩ := sizeN_good (show sizeN ns k ≠ 0 by omega)
    have := tx_len i hg (by omega)
    rw [Int.toNat_natCast, strOfNums_size]
    omega
  · simp
theorem extract_size (s : ByteArray) (i j : Nat) : (s.extract i j).size ≤ s.size := by rw [ByteArray.size_extract]; omega
theorem sliceTo (s : ByteArray) (i : Nat) (h : i ≤ s.size) (w : World) : (Instr.slice 9 (.string s) none (some (.int .i64 (i : Int))) none).run Try.prog w = .ok (.string (s.extract 0 i)) w := by
  have h1 : (0 : Int) ≤ (i : Int) := by omega
  have h2 : (i : Int) ≤ (s.size : Int) := by omega
  simp [go_sem, Try.underlying9, h1, h2]
theorem sliceFrom (s : ByteArray) (i : Nat) (h : i + 1 ≤ s.size) (w : World) : (Instr.slice 9 (.string s) (some (.int .i64 ((i : Int) + 1))) none none).run Try.prog w = .ok (.string (s.extract (i + 1) s.size)) w := by
  have h1 : (0 : Int) ≤ (i : Int) + 1 := by omega
  have h2 : (i : Int) + 1 ≤ (s.size : Int) := by omega
  simp [go_sem, Try.underlying9, h1, h2]
end Go.Proofs.Ytpfncjnhmkjceaa
