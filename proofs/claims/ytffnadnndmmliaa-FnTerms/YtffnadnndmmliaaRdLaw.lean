/- What the law of ReadTerm wants beside the contracts: the specification's contract in the same form, and a bound. -/
import Derived.Test.YtffnadnndmmliaaRdTop
namespace Go.Proofs.Ytffnadnndmmliaa
open Go.RowKit Go.PlainAid
set_option linter.unusedVariables false
theorem specRTv_any (a : Option Addr) (cap : Nat) (ns : List Nd) (s : ByteArray) (w : World) (hs : s.size ≤ 1048576) (hl : ns.length ≤ 1048576) (ha : AddrN a cap) (hr : RowN w.heap.size w a ns) :
    Calls Try.prog 16 #[.agg #[.slice a ns.length cap], .string s] w fun e w' => ∃ v, e = .returned (.tuple #[.agg #[v], .int .i64 (rtK s ns), .bool (rtB s ns)]) ∧ OwnN w.heap.size w' v (rtA s ns) ∧ Below w.heap.size w w' := by
  refine (specRT_any a cap ns s w hs hl ha hr).mono ?_
  intro e w' h
  unfold RtPost at h
  cases hr : rtOk s ns with
  | none =>
    obtain ⟨e1, e2, e3⟩ := rt_none hr
    rw [hr] at h
    rw [e1, e2, e3]
    exact h
  | some r =>
    obtain ⟨ms, k⟩ := r
    obtain ⟨e1, e2, e3⟩ := rt_some hr
    rw [hr] at h
    rw [e1, e2, e3]
    exact h
theorem rtA_le (s : ByteArray) (ns : List Nd) (h : ns.length ≤ 1048576) : (rtA s ns).length ≤ 1048576 := by
  cases hr : rtOk s ns with
  | none => rw [(rt_none hr).1]; omega
  | some r =>
    obtain ⟨ms, k⟩ := r
    rw [(rt_some hr).1]
    unfold rtOk at hr
    cases hs : rdS s 2001 ns 0 with
    | none => rw [hs] at hr; simp at hr
    | some q =>
      obtain ⟨ns', k', e', c⟩ := q
      rw [hs] at hr
      simp only at hr
      split at hr
      · rename_i hc
        simp at hr
        obtain ⟨rfl, rfl⟩ := hr
        have hzb := inB_true hc.2
        obtain ⟨i, hi, hg, hsz⟩ := sizeN_good (show sizeN ns' (k' : Int) ≠ 0 by omega)
        obtain rfl : k' = i := by omega
        have hC := (rd_C s 2001 ns 0 ns' k' e' c hs).2.2.2.2 ns' (List.prefix_refl _) hg
        have hc2 : c ≤ 2000 := by have := hC.2; omega
        have hI := (rd_B s 2001 2000 ns 0 2000 ns' k' e' c hs hc2 (by omega)).1
        have hb := (rdI_bd s 2000 ns 0 2000 h).1
        rw [hI] at hb
        simp only at hb
        omega
      · simp at hr
theorem rtA_len (s : ByteArray) (ns : List Nd) (h : ns.length ≤ 1048576) : (rtA s ns).length ≤ 1048577 := Nat.le_trans (rtA_le s ns h) (by omega)
end Go.Proofs.Ytffnadnndmmliaa
