/- ReadTerm's answer by the program's way of reading. -/
import Derived.Test.YtffnadnndmmliaaSpecRT2
namespace Go.Proofs.Ytffnadnndmmliaa
open Go.RowKit Go.PlainAid
set_option linter.unusedVariables false
/-- Where the program's reading comes to an end of the text at a right place, ReadTerm answers with it. -/
theorem rtOk_some {s : ByteArray} {ns ms : List Nd} {k : Int} {e l' : Nat} (h : rdI s 2000 ns 0 2000 = (ms, k, e, l')) (hk : 0 ≤ k) (he : e = s.size) (hz : sizeN ms k ≠ 0) : rtOk s ns = some (ms, k.toNat) := by
  obtain ⟨c, hs, hc⟩ := rd_A s 2000 2001 ns 0 2000 ms k e l' (by omega) h hk
  obtain ⟨i, rfl, hg, hsz⟩ := sizeN_good hz
  have hC := (rd_C s 2001 ns 0 ms _ e c hs).2.2.2.2 ms (List.prefix_refl _) (by simpa using hg)
  have hB := (rd_B s 2001 2001 ns 0 2001 ms _ e c hs (by omega) (by omega)).2
  unfold rtOk
  rw [hs]
  have : inB (sizeN ms (((i : Int).toNat : Nat) : Int)) 1 2000 = true := by
    have h2 := hC.2
    simp only [Int.toNat_natCast] at h2 ⊢
    rw [hsz, h2]
    exact inB_mk (by omega)
  simp only
  rw [if_pos ⟨he, this⟩]
theorem rtOk_none {s : ByteArray} {ns ms : List Nd} {k : Int} {e l' : Nat} (h : rdI s 2000 ns 0 2000 = (ms, k, e, l')) (hn : k < 0 ∨ e ≠ s.size ∨ sizeN ms k = 0) : rtOk s ns = none := by
  unfold rtOk
  cases hs : rdS s 2001 ns 0 with
  | none => rfl
  | some r =>
    obtain ⟨ns', k', e', c⟩ := r
    simp only
    rw [if_neg]
    rintro ⟨he, hz⟩
    have hzb := inB_true hz
    obtain ⟨i, hi, hg, hsz⟩ := sizeN_good (show sizeN ns' (k' : Int) ≠ 0 by omega)
    obtain rfl : k' = i := by omega
    have hC := (rd_C s 2001 ns 0 ns' k' e' c hs).2.2.2.2 ns' (List.prefix_refl _) hg
    have hc : c ≤ 2000 := by have := hC.2; omega
    have hI := (rd_B s 2001 2000 ns 0 2000 ns' k' e' c hs hc (by omega)).1
    rw [h] at hI
    simp at hI
    obtain ⟨rfl, rfl, rfl, rfl⟩ := hI
    rcases hn with h1 | h1 | h1
    · omega
    · exact h1 he
    · omega
end Go.Proofs.Ytffnadnndmmliaa
