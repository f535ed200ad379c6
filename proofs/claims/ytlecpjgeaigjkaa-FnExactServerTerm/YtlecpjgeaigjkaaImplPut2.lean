/- The contract of chapter 3's Put, the program's. -/
import Derived.Test.YtlecpjgeaigjkaaImplPut
import Derived.WalkKit
import Derived.WalkLawsBesides
import Derived.WalkSpells
import Derived.OwnWalk
import Derived.BigRegion
import Derived.OneCell
import Derived.Deep.AppendLies
namespace Go.Proofs.Ytlecpjgeaigjkaa
open Go.RowKit
set_option linter.unusedVariables false

theorem putK_new {ns : List Nd} {x : Nd} : putK ns x = (ns.length : Int) ↔ (nodeB x ns.length = true ∧ findN ns x = -1 ∧ ns.length < 3000) := by
  unfold putK
  have hr := findN_range ns x
  split
  · rename_i h
    split
    · rename_i h2; exact ⟨fun _ => ⟨h, h2⟩, fun _ => rfl⟩
    · rename_i h2; constructor
      · intro e; omega
      · intro e; exact absurd e.2 h2
  · rename_i h; constructor
    · intro e; omega
    · intro e; exact absurd e.1 h
theorem putA_new {ns : List Nd} {x : Nd} (h : putK ns x = (ns.length : Int)) : putA ns x = ns ++ [x] := by
  unfold putA; rw [if_pos (putK_new.1 h)]
theorem putA_old {ns : List Nd} {x : Nd} (h : putK ns x ≠ (ns.length : Int)) : putA ns x = ns := by
  unfold putA; rw [if_neg (fun e => h (putK_new.2 e))]

end Go.Proofs.Ytlecpjgeaigjkaa
