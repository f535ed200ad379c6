/-
  No cell of these rows narrows 'for every input' (looked for: loops, veiled, ifaces, maps, wideKeys, modest, calm, conditions, laid).
  DERIVED. THE GIVEN ROWS OF THIS SEAT. 5 by the template 'for every input the law returns true; each argument reads behind the call as it read before'; 0 by the template 'total and deterministic' (their statements: YtaanophnnkmkbaaTotals.lean).
  GIVEN WITH THE SEED: the statements are not yours to turn. If you find one false, say at which input.
  Laid BY PROGRAM, IN A SANDBOX (cutbox-rows.mjs): the forced cells as the released guide's own fill.sh prints them over the translation b42406cb2873e71f… (all of the seat's roots in one cut). By AI agents, Wed Nov 11 2026. No macro, syntax, notation, axiom, sorry.
-/
import Derived.Test.YtaanophnnkmkbaaChecked
import GoSem.Claim
import GoSem.ClaimJoined
import GoSem.ClaimMapViews
import Derived.JoinedTies
import Derived.KernelRfl
namespace Go.Proofs.Ytaanophnnkmkbaa
/- THE CELL 'sum', in the pinned program and in every row, IS THE sha256 OF THE DUMP (.gsa) THAT YtaanophnnkmkbaaProg.lean LOADS. Nothing in Lean hashes anything: it is a label: what it is worth is what the hold of that sum in a sandbox is worth. -/
noncomputable def Try.pinned : Pinned := { name := "ytaanophnnkmkbaa", sum := "b42406cb2873e71fcc45c9d73d5189c4f9b36ae30325b7eb785d3201bf417638", checked := Try.checked }
namespace Rows
def none {H : Type} : Left H := { results := [], args := [] }

/-- 'laws.FnExactPartOf': WHATEVER THE INPUT: true; the input reads as it did. -/
def fnExactPartOfSpec : ChangeSpec := { name := "fnExactPartOf", fn := fun _ => fun
  | [d1, d2, d3, d4, d5, d6] => { results := [.lit (.bool true)], args := [d1, d2, d3, d4, d5, d6] }
  | _ => none }
def fnExactPartOfRow : OpenClaim := { program := "ytaanophnnkmkbaa", sum := "b42406cb2873e71fcc45c9d73d5189c4f9b36ae30325b7eb785d3201bf417638", func := "loop.example/g00466/laws.FnExactPartOf", spec := "fnExactPartOf", unfollowed := true, recurses := true, plainKeys := false, apart := false }
def FnExactPartOfSaid : Prop := fnExactPartOfRow.holds Try.pinned (OpenSpec.ofChange fnExactPartOfSpec)

/-- ITS FALSE NEIGHBOUR: 'it returns false'. Refute it at one input. -/
def fnExactPartOfWrong : ChangeSpec := { name := "fnExactPartOf", fn := fun _ => fun
  | [d1, d2, d3, d4, d5, d6] => { results := [.lit (.bool false)], args := [d1, d2, d3, d4, d5, d6] }
  | _ => none }
def FnExactPartOfWrongFalsely : Prop := fnExactPartOfRow.holds Try.pinned (OpenSpec.ofChange fnExactPartOfWrong)

/-- 'laws.FnExactPartOk': WHATEVER THE INPUT: true; the input reads as it did. -/
def fnExactPartOkSpec : ChangeSpec := { name := "fnExactPartOk", fn := fun _ => fun
  | [d1, d2, d3, d4, d5, d6, d7] => { results := [.lit (.bool true)], args := [d1, d2, d3, d4, d5, d6, d7] }
  | _ => none }
def fnExactPartOkRow : OpenClaim := { program := "ytaanophnnkmkbaa", sum := "b42406cb2873e71fcc45c9d73d5189c4f9b36ae30325b7eb785d3201bf417638", func := "loop.example/g00466/laws.FnExactPartOk", spec := "fnExactPartOk", unfollowed := true, recurses := true, plainKeys := false, apart := false }
def FnExactPartOkSaid : Prop := fnExactPartOkRow.holds Try.pinned (OpenSpec.ofChange fnExactPartOkSpec)

/-- ITS FALSE NEIGHBOUR: 'it returns false'. Refute it at one input. -/
def fnExactPartOkWrong : ChangeSpec := { name := "fnExactPartOk", fn := fun _ => fun
  | [d1, d2, d3, d4, d5, d6, d7] => { results := [.lit (.bool false)], args := [d1, d2, d3, d4, d5, d6, d7] }
  | _ => none }
def FnExactPartOkWrongFalsely : Prop := fnExactPartOkRow.holds Try.pinned (OpenSpec.ofChange fnExactPartOkWrong)

/-- 'laws.FnExactAckOf': WHATEVER THE INPUT: true; the input reads as it did. -/
def fnExactAckOfSpec : ChangeSpec := { name := "fnExactAckOf", fn := fun _ => fun
  | [d1, d2, d3, d4] => { results := [.lit (.bool true)], args := [d1, d2, d3, d4] }
  | _ => none }
def fnExactAckOfRow : OpenClaim := { program := "ytaanophnnkmkbaa", sum := "b42406cb2873e71fcc45c9d73d5189c4f9b36ae30325b7eb785d3201bf417638", func := "loop.example/g00466/laws.FnExactAckOf", spec := "fnExactAckOf", unfollowed := true, recurses := true, plainKeys := false, apart := false }
def FnExactAckOfSaid : Prop := fnExactAckOfRow.holds Try.pinned (OpenSpec.ofChange fnExactAckOfSpec)

/-- ITS FALSE NEIGHBOUR: 'it returns false'. Refute it at one input. -/
def fnExactAckOfWrong : ChangeSpec := { name := "fnExactAckOf", fn := fun _ => fun
  | [d1, d2, d3, d4] => { results := [.lit (.bool false)], args := [d1, d2, d3, d4] }
  | _ => none }
def FnExactAckOfWrongFalsely : Prop := fnExactAckOfRow.holds Try.pinned (OpenSpec.ofChange fnExactAckOfWrong)

/-- 'laws.FnExactAckIn': WHATEVER THE INPUT: true; the input reads as it did. -/
def fnExactAckInSpec : ChangeSpec := { name := "fnExactAckIn", fn := fun _ => fun
  | [d1, d2, d3, d4] => { results := [.lit (.bool true)], args := [d1, d2, d3, d4] }
  | _ => none }
def fnExactAckInRow : OpenClaim := { program := "ytaanophnnkmkbaa", sum := "b42406cb2873e71fcc45c9d73d5189c4f9b36ae30325b7eb785d3201bf417638", func := "loop.example/g00466/laws.FnExactAckIn", spec := "fnExactAckIn", unfollowed := true, recurses := true, plainKeys := false, apart := false }
def FnExactAckInSaid : Prop := fnExactAckInRow.holds Try.pinned (OpenSpec.ofChange fnExactAckInSpec)

/-- ITS FALSE NEIGHBOUR: 'it returns false'. Refute it at one input. -/
def fnExactAckInWrong : ChangeSpec := { name := "fnExactAckIn", fn := fun _ => fun
  | [d1, d2, d3, d4] => { results := [.lit (.bool false)], args := [d1, d2, d3, d4] }
  | _ => none }
def FnExactAckInWrongFalsely : Prop := fnExactAckInRow.holds Try.pinned (OpenSpec.ofChange fnExactAckInWrong)

/-- 'laws.FnExactHandOf': WHATEVER THE INPUT: true; the input reads as it did. -/
def fnExactHandOfSpec : ChangeSpec := { name := "fnExactHandOf", fn := fun _ => fun
  | [d1, d2, d3, d4, d5, d6, d7] => { results := [.lit (.bool true)], args := [d1, d2, d3, d4, d5, d6, d7] }
  | _ => none }
def fnExactHandOfRow : OpenClaim := { program := "ytaanophnnkmkbaa", sum := "b42406cb2873e71fcc45c9d73d5189c4f9b36ae30325b7eb785d3201bf417638", func := "loop.example/g00466/laws.FnExactHandOf", spec := "fnExactHandOf", inPlace := ["internal/bytealg.abigen_runtime_cmpstring"], unfollowed := true, recurses := true, plainKeys := false, apart := false }
def FnExactHandOfSaid : Prop := fnExactHandOfRow.holds Try.pinned (OpenSpec.ofChange fnExactHandOfSpec)

/-- ITS FALSE NEIGHBOUR: 'it returns false'. Refute it at one input. -/
def fnExactHandOfWrong : ChangeSpec := { name := "fnExactHandOf", fn := fun _ => fun
  | [d1, d2, d3, d4, d5, d6, d7] => { results := [.lit (.bool false)], args := [d1, d2, d3, d4, d5, d6, d7] }
  | _ => none }
def FnExactHandOfWrongFalsely : Prop := fnExactHandOfRow.holds Try.pinned (OpenSpec.ofChange fnExactHandOfWrong)

/- THE SECOND FORM. 'bulk': how many values and letters a reading holds, each counted each time it is reached (what is shared counts as often as it is met; a slice's spare places count too). A statement '..UptoSaid' is the law's where the arguments, and the package variables that the reading takes, are together of bulk at most 1048576: NARROWER than '..Said'. Prove '..Said' where nothing that the law and all that it calls make is longer than what came in: it says more and counts as full. Else prove '..UptoSaid'. A law counts once. -/
mutual
def uptoBulk {H : Type} : DataW H → Nat
  | .lit (.string bytes) => bytes.length + 1
  | .lit _ => 1
  | .nil => 1
  | .ptr d => uptoBulk d + 1
  | .slice elems spare => uptoBulkAll elems + uptoBulkAll spare + 1
  | .agg parts => uptoBulkAll parts + 1
  | .iface _ d => uptoBulk d + 1
  | .map entries => uptoBulkEntries entries + 1
  | .held _ => 1
def uptoBulkAll {H : Type} : List (DataW H) → Nat
  | [] => 0
  | d :: r => uptoBulk d + uptoBulkAll r
def uptoBulkEntries {H : Type} : List (Lit × DataW H) → Nat
  | [] => 0
  | x :: r => uptoBulkEntry x + uptoBulkEntries r
def uptoBulkEntry {H : Type} : Lit × DataW H → Nat
  | (.string bytes, d) => bytes.length + uptoBulk d + 1
  | (_, d) => uptoBulk d + 1
 end
def uptoSmall : (H : Type) → List (DataW H) → Bool := fun _ ds => decide (uptoBulkAll ds ≤ 1048576)
def OpenSpec.upto (s : _root_.Go.ChangeSpec) : _root_.Go.OpenSpec := { _root_.Go.OpenSpec.ofChange s with cond := some uptoSmall }

/-- 'laws.FnExactPartOf', WHERE WHAT IT READS IS OF BULK AT MOST 1048576: true; the input reads as it did. -/
def fnExactPartOfUptoRow : OpenClaim := { program := "ytaanophnnkmkbaa", sum := "b42406cb2873e71fcc45c9d73d5189c4f9b36ae30325b7eb785d3201bf417638", func := "loop.example/g00466/laws.FnExactPartOf", spec := "fnExactPartOf", unfollowed := true, recurses := true, plainKeys := false, apart := false, narrowed := true }
def FnExactPartOfUptoSaid : Prop := fnExactPartOfUptoRow.holds Try.pinned (OpenSpec.upto fnExactPartOfSpec)

/-- 'laws.FnExactPartOk', WHERE WHAT IT READS IS OF BULK AT MOST 1048576: true; the input reads as it did. -/
def fnExactPartOkUptoRow : OpenClaim := { program := "ytaanophnnkmkbaa", sum := "b42406cb2873e71fcc45c9d73d5189c4f9b36ae30325b7eb785d3201bf417638", func := "loop.example/g00466/laws.FnExactPartOk", spec := "fnExactPartOk", unfollowed := true, recurses := true, plainKeys := false, apart := false, narrowed := true }
def FnExactPartOkUptoSaid : Prop := fnExactPartOkUptoRow.holds Try.pinned (OpenSpec.upto fnExactPartOkSpec)

/-- 'laws.FnExactAckOf', WHERE WHAT IT READS IS OF BULK AT MOST 1048576: true; the input reads as it did. -/
def fnExactAckOfUptoRow : OpenClaim := { program := "ytaanophnnkmkbaa", sum := "b42406cb2873e71fcc45c9d73d5189c4f9b36ae30325b7eb785d3201bf417638", func := "loop.example/g00466/laws.FnExactAckOf", spec := "fnExactAckOf", unfollowed := true, recurses := true, plainKeys := false, apart := false, narrowed := true }
def FnExactAckOfUptoSaid : Prop := fnExactAckOfUptoRow.holds Try.pinned (OpenSpec.upto fnExactAckOfSpec)

/-- 'laws.FnExactAckIn', WHERE WHAT IT READS IS OF BULK AT MOST 1048576: true; the input reads as it did. -/
def fnExactAckInUptoRow : OpenClaim := { program := "ytaanophnnkmkbaa", sum := "b42406cb2873e71fcc45c9d73d5189c4f9b36ae30325b7eb785d3201bf417638", func := "loop.example/g00466/laws.FnExactAckIn", spec := "fnExactAckIn", unfollowed := true, recurses := true, plainKeys := false, apart := false, narrowed := true }
def FnExactAckInUptoSaid : Prop := fnExactAckInUptoRow.holds Try.pinned (OpenSpec.upto fnExactAckInSpec)

/-- 'laws.FnExactHandOf', WHERE WHAT IT READS IS OF BULK AT MOST 1048576: true; the input reads as it did. -/
def fnExactHandOfUptoRow : OpenClaim := { program := "ytaanophnnkmkbaa", sum := "b42406cb2873e71fcc45c9d73d5189c4f9b36ae30325b7eb785d3201bf417638", func := "loop.example/g00466/laws.FnExactHandOf", spec := "fnExactHandOf", inPlace := ["internal/bytealg.abigen_runtime_cmpstring"], unfollowed := true, recurses := true, plainKeys := false, apart := false, narrowed := true }
def FnExactHandOfUptoSaid : Prop := fnExactHandOfUptoRow.holds Try.pinned (OpenSpec.upto fnExactHandOfSpec)

end Rows
end Go.Proofs.Ytaanophnnkmkbaa
