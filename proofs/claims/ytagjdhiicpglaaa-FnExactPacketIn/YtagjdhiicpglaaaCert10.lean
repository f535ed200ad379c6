/- The contracts of chapter 10's LongSecret, PskOf and CertOf, the specification's, and what they make in plain words. -/
import Derived.Test.YtagjdhiicpglaaaArenaD
import Derived.Test.YtagjdhiicpglaaaKeptS
import Derived.WalkKit
import Derived.WalkLawsBesides
import Derived.WalkSpells
import Derived.Laws.Rows
namespace Go.Proofs.Ytagjdhiicpglaaa
open Go.RowKit
set_option linter.unusedVariables false
/-- The long secret of a name. -/
def nmB (n : Int) : Bool := inB n 0 9
def lgA (ns : List Nd) (n : Int) : List Nd := if nmB n = true then putA ns ⟨1, 2000 + n, 0, 0⟩ else ns
def lgK (ns : List Nd) (n : Int) : Int := if nmB n = true then putK ns ⟨1, 2000 + n, 0, 0⟩ else -1
/-- The secret of two names. -/
def pkB (x y : Int) : Bool := inB x 0 9 && inB y 0 9
def pkN (x y : Int) : Int := if y < x then 3000 + 10 * y + x else 3000 + 10 * x + y
def pkA (ns : List Nd) (x y : Int) : List Nd := if pkB x y = true then putA ns ⟨1, pkN x y, 0, 0⟩ else ns
def pkK (ns : List Nd) (x y : Int) : Int := if pkB x y = true then putK ns ⟨1, pkN x y, 0, 0⟩ else -1
/-- A certificate, made step by step. -/
def crA1 (ns : List Nd) : List Nd := putA ns ⟨1, 1000, 0, 0⟩
def crK1 (ns : List Nd) : Int := putK ns ⟨1, 1000, 0, 0⟩
def crA2 (ns : List Nd) : List Nd := putA (crA1 ns) ⟨1, 60, 0, 0⟩
def crK2 (ns : List Nd) : Int := putK (crA1 ns) ⟨1, 60, 0, 0⟩
def crA3 (ns : List Nd) (n : Int) : List Nd := putA (crA2 ns) ⟨1, n, 0, 0⟩
def crK3 (ns : List Nd) (n : Int) : Int := putK (crA2 ns) ⟨1, n, 0, 0⟩
def crA5 (ns : List Nd) (n : Int) : List Nd := makeA (lgA (crA3 ns n) n) 6 (lgK (crA3 ns n) n) 0
def crK5 (ns : List Nd) (n : Int) : Int := makeK (lgA (crA3 ns n) n) 6 (lgK (crA3 ns n) n) 0
def crL (ns : List Nd) (n : Int) : List Nd × Int := listF [crK2 ns, crK3 ns n, crK5 ns n] (crA5 ns n)
def crA (ns : List Nd) (n : Int) : List Nd := makeA (crL ns n).1 8 (crK1 ns) (crL ns n).2
def crK (ns : List Nd) (n : Int) : Int := makeK (crL ns n).1 8 (crK1 ns) (crL ns n).2
theorem lgA_le {ns : List Nd} {n : Int} (h : ns.length ≤ 1048576) : (lgA ns n).length ≤ 1048576 := by
  unfold lgA; split
  · exact putA_le2 h
  · exact h
theorem pkA_le {ns : List Nd} {x y : Int} (h : ns.length ≤ 1048576) : (pkA ns x y).length ≤ 1048576 := by
  unfold pkA; split
  · exact putA_le2 h
  · exact h
theorem crA2_le {ns : List Nd} (h : ns.length ≤ 1048576) : (crA2 ns).length ≤ 1048576 := putA_le2 (putA_le2 h)
theorem crA3_le {ns : List Nd} {n : Int} (h : ns.length ≤ 1048576) : (crA3 ns n).length ≤ 1048576 := putA_le2 (crA2_le h)
theorem crA5_le {ns : List Nd} {n : Int} (h : ns.length ≤ 1048576) : (crA5 ns n).length ≤ 1048576 := makeA_le (lgA_le (crA3_le h))
theorem crL_le {ns : List Nd} {n : Int} (h : ns.length ≤ 1048576) : (crL ns n).1.length ≤ 1048576 := listF_le _ (crA5_le h)
theorem crA_le {ns : List Nd} {n : Int} (h : ns.length ≤ 1048576) : (crA ns n).length ≤ 1048576 := makeA_le (crL_le h)
theorem in_le {x a b : Int} (h : inB x a b = true) : a ≤ x ∧ x ≤ b := by unfold inB at h; simpa using h
end Go.Proofs.Ytagjdhiicpglaaa
