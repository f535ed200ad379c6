/- How long an arena is that was kept. -/
import Derived.Test.YtffnadnndmmliaaKeptS
namespace Go.Proofs.Ytffnadnndmmliaa
theorem keptA_len {ns A : List Nd} {K : Int} (h : ns.length ≤ 1048576) (hA : A.length ≤ 1048576) : (keptA ns A K).length ≤ 1048577 := by
  unfold keptA; split <;> omega
theorem keptA_le {ns A : List Nd} {K : Int} (h : ns.length ≤ 1048576) (hA : A.length ≤ 1048576) : (keptA ns A K).length ≤ 1048576 := by
  unfold keptA; split <;> omega
end Go.Proofs.Ytffnadnndmmliaa
