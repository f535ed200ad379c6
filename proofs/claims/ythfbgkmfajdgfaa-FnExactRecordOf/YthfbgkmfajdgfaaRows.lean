/-
  No cell of these rows narrows 'for every input' (looked for: loops, veiled, ifaces, maps, wideKeys, modest, calm, conditions, laid).
  DERIVED. THE GIVEN ROWS OF THIS SEAT. 5 by the template 'for every input the law returns true; each argument reads behind the call as it read before'; 0 by the template 'total and deterministic' (their statements: YthfbgkmfajdgfaaTotals.lean).
  GIVEN WITH THE SEED: the statements are not yours to turn. If you find one false, say at which input.
  Laid BY PROGRAM, IN A SANDBOX (cutbox-rows.mjs): the forced cells as the released guide's own fill.sh prints them over the translation 8c2bcaf0747d66e2… (all of the seat's roots in one cut). By AI agents, Wed Nov 11 2026. No macro, syntax, notation, axiom, sorry.
-/
import Derived.Test.YthfbgkmfajdgfaaChecked
import GoSem.Claim
import GoSem.ClaimJoined
import GoSem.ClaimMapViews
import Derived.JoinedTies
import Derived.KernelRfl
namespace Go.Proofs.Ythfbgkmfajdgfaa
/- THE CELL 'sum', in the pinned program and in every row, IS THE sha256 OF THE DUMP (.gsa) THAT YthfbgkmfajdgfaaProg.lean LOADS. Nothing in Lean hashes anything: it is a label: what it is worth is what the hold of that sum in a sandbox is worth. -/
noncomputable def Try.pinned : Pinned := { name := "ythfbgkmfajdgfaa", sum := "8c2bcaf0747d66e266cdf2831d97efac1bdecced8676676e581c0e726971e884", checked := Try.checked }
namespace Rows
def none {H : Type} : Left H := { results := [], args := [] }

/-- 'laws.FnMakes': WHATEVER THE INPUT: true; the input reads as it did. -/
def fnMakesSpec : ChangeSpec := { name := "fnMakes", fn := fun _ => fun
  | [d] => { results := [.lit (.bool true)], args := [d] }
  | _ => none }
def fnMakesRow : OpenClaim := { program := "ythfbgkmfajdgfaa", sum := "8c2bcaf0747d66e266cdf2831d97efac1bdecced8676676e581c0e726971e884", func := "loop.example/g00466/laws.FnMakes", spec := "fnMakes", inPlace := ["internal/bytealg.abigen_runtime_cmpstring"], unfollowed := true, recurses := true, plainKeys := false, apart := false }
def FnMakesSaid : Prop := fnMakesRow.holds Try.pinned (OpenSpec.ofChange fnMakesSpec)

/-- ITS FALSE NEIGHBOUR: 'it returns false'. Refute it at one input. -/
def fnMakesWrong : ChangeSpec := { name := "fnMakes", fn := fun _ => fun
  | [d] => { results := [.lit (.bool false)], args := [d] }
  | _ => none }
def FnMakesWrongFalsely : Prop := fnMakesRow.holds Try.pinned (OpenSpec.ofChange fnMakesWrong)

/-- 'laws.FnMakesTold': WHATEVER THE INPUT: true; the input reads as it did. -/
def fnMakesToldSpec : ChangeSpec := { name := "fnMakesTold", fn := fun _ => fun
  | [d] => { results := [.lit (.bool true)], args := [d] }
  | _ => none }
def fnMakesToldRow : OpenClaim := { program := "ythfbgkmfajdgfaa", sum := "8c2bcaf0747d66e266cdf2831d97efac1bdecced8676676e581c0e726971e884", func := "loop.example/g00466/laws.FnMakesTold", spec := "fnMakesTold", inPlace := ["internal/bytealg.abigen_runtime_cmpstring"], unfollowed := true, recurses := true, plainKeys := false, apart := false }
def FnMakesToldSaid : Prop := fnMakesToldRow.holds Try.pinned (OpenSpec.ofChange fnMakesToldSpec)

/-- ITS FALSE NEIGHBOUR: 'it returns false'. Refute it at one input. -/
def fnMakesToldWrong : ChangeSpec := { name := "fnMakesTold", fn := fun _ => fun
  | [d] => { results := [.lit (.bool false)], args := [d] }
  | _ => none }
def FnMakesToldWrongFalsely : Prop := fnMakesToldRow.holds Try.pinned (OpenSpec.ofChange fnMakesToldWrong)

/-- 'laws.FnExactList': WHATEVER THE INPUT: true; the input reads as it did. -/
def fnExactListSpec : ChangeSpec := { name := "fnExactList", fn := fun _ => fun
  | [d1, d2] => { results := [.lit (.bool true)], args := [d1, d2] }
  | _ => none }
def fnExactListRow : OpenClaim := { program := "ythfbgkmfajdgfaa", sum := "8c2bcaf0747d66e266cdf2831d97efac1bdecced8676676e581c0e726971e884", func := "loop.example/g00466/laws.FnExactList", spec := "fnExactList", unfollowed := true, recurses := true, plainKeys := false, apart := false }
def FnExactListSaid : Prop := fnExactListRow.holds Try.pinned (OpenSpec.ofChange fnExactListSpec)

/-- ITS FALSE NEIGHBOUR: 'it returns false'. Refute it at one input. -/
def fnExactListWrong : ChangeSpec := { name := "fnExactList", fn := fun _ => fun
  | [d1, d2] => { results := [.lit (.bool false)], args := [d1, d2] }
  | _ => none }
def FnExactListWrongFalsely : Prop := fnExactListRow.holds Try.pinned (OpenSpec.ofChange fnExactListWrong)

/-- 'laws.FnExactRecordOf': WHATEVER THE INPUT: true; the input reads as it did. -/
def fnExactRecordOfSpec : ChangeSpec := { name := "fnExactRecordOf", fn := fun _ => fun
  | [d1, d2, d3, d4, d5] => { results := [.lit (.bool true)], args := [d1, d2, d3, d4, d5] }
  | _ => none }
def fnExactRecordOfRow : OpenClaim := { program := "ythfbgkmfajdgfaa", sum := "8c2bcaf0747d66e266cdf2831d97efac1bdecced8676676e581c0e726971e884", func := "loop.example/g00466/laws.FnExactRecordOf", spec := "fnExactRecordOf", unfollowed := true, recurses := true, plainKeys := false, apart := false }
def FnExactRecordOfSaid : Prop := fnExactRecordOfRow.holds Try.pinned (OpenSpec.ofChange fnExactRecordOfSpec)

/-- ITS FALSE NEIGHBOUR: 'it returns false'. Refute it at one input. -/
def fnExactRecordOfWrong : ChangeSpec := { name := "fnExactRecordOf", fn := fun _ => fun
  | [d1, d2, d3, d4, d5] => { results := [.lit (.bool false)], args := [d1, d2, d3, d4, d5] }
  | _ => none }
def FnExactRecordOfWrongFalsely : Prop := fnExactRecordOfRow.holds Try.pinned (OpenSpec.ofChange fnExactRecordOfWrong)

/-- 'laws.FnExactRecordHead': WHATEVER THE INPUT: true; the input reads as it did. -/
def fnExactRecordHeadSpec : ChangeSpec := { name := "fnExactRecordHead", fn := fun _ => fun
  | [d1, d2] => { results := [.lit (.bool true)], args := [d1, d2] }
  | _ => none }
def fnExactRecordHeadRow : OpenClaim := { program := "ythfbgkmfajdgfaa", sum := "8c2bcaf0747d66e266cdf2831d97efac1bdecced8676676e581c0e726971e884", func := "loop.example/g00466/laws.FnExactRecordHead", spec := "fnExactRecordHead", unfollowed := true, recurses := true, plainKeys := false, apart := false }
def FnExactRecordHeadSaid : Prop := fnExactRecordHeadRow.holds Try.pinned (OpenSpec.ofChange fnExactRecordHeadSpec)

/-- ITS FALSE NEIGHBOUR: 'it returns false'. Refute it at one input. -/
def fnExactRecordHeadWrong : ChangeSpec := { name := "fnExactRecordHead", fn := fun _ => fun
  | [d1, d2] => { results := [.lit (.bool false)], args := [d1, d2] }
  | _ => none }
def FnExactRecordHeadWrongFalsely : Prop := fnExactRecordHeadRow.holds Try.pinned (OpenSpec.ofChange fnExactRecordHeadWrong)

/- THE SECOND FORM. 'bulk': how many values and letters a reading holds, each counted each time it is reached (what is shared counts as often as it is met; a slice's spare places count too). A statement '..UptoSaid' is the law's where the arguments, and the package variables that the reading takes, are together of bulk at most 1048576: NARROWER than '..Said'. Prove '..Said' where nothing that the law and all that it calls make is longer than what came in: it says more and counts as full. Else prove '..UptoSaid'. A law counts once. -/
mutual
def uptoBulk {H : Type} : DataW H → Nat
  | .lit (.string bytes) => bytes.length + 1
  | .lit _ => 1
  | .nil => 1
  | .ptr d => uptoBulk d + 1
  | .slice elems spare => uptoBulkAll elems + uptoBulkAll spare + 1
  | .agg parts => uptoBulkAll parts + 1
  | .iface _ d => uptoBulk d + 1
  | .map entries => uptoBulkEntries entries + 1
  | .held _ => 1
def uptoBulkAll {H : Type} : List (DataW H) → Nat
  | [] => 0
  | d :: r => uptoBulk d + uptoBulkAll r
def uptoBulkEntries {H : Type} : List (Lit × DataW H) → Nat
  | [] => 0
  | x :: r => uptoBulkEntry x + uptoBulkEntries r
def uptoBulkEntry {H : Type} : Lit × DataW H → Nat
  | (.string bytes, d) => bytes.length + uptoBulk d + 1
  | (_, d) => uptoBulk d + 1
 end
def uptoSmall : (H : Type) → List (DataW H) → Bool := fun _ ds => decide (uptoBulkAll ds ≤ 1048576)
def OpenSpec.upto (s : _root_.Go.ChangeSpec) : _root_.Go.OpenSpec := { _root_.Go.OpenSpec.ofChange s with cond := some uptoSmall }

/-- 'laws.FnMakes', WHERE WHAT IT READS IS OF BULK AT MOST 1048576: true; the input reads as it did. -/
def fnMakesUptoRow : OpenClaim := { program := "ythfbgkmfajdgfaa", sum := "8c2bcaf0747d66e266cdf2831d97efac1bdecced8676676e581c0e726971e884", func := "loop.example/g00466/laws.FnMakes", spec := "fnMakes", inPlace := ["internal/bytealg.abigen_runtime_cmpstring"], unfollowed := true, recurses := true, plainKeys := false, apart := false, narrowed := true }
def FnMakesUptoSaid : Prop := fnMakesUptoRow.holds Try.pinned (OpenSpec.upto fnMakesSpec)

/-- 'laws.FnMakesTold', WHERE WHAT IT READS IS OF BULK AT MOST 1048576: true; the input reads as it did. -/
def fnMakesToldUptoRow : OpenClaim := { program := "ythfbgkmfajdgfaa", sum := "8c2bcaf0747d66e266cdf2831d97efac1bdecced8676676e581c0e726971e884", func := "loop.example/g00466/laws.FnMakesTold", spec := "fnMakesTold", inPlace := ["internal/bytealg.abigen_runtime_cmpstring"], unfollowed := true, recurses := true, plainKeys := false, apart := false, narrowed := true }
def FnMakesToldUptoSaid : Prop := fnMakesToldUptoRow.holds Try.pinned (OpenSpec.upto fnMakesToldSpec)

/-- 'laws.FnExactList', WHERE WHAT IT READS IS OF BULK AT MOST 1048576: true; the input reads as it did. -/
def fnExactListUptoRow : OpenClaim := { program := "ythfbgkmfajdgfaa", sum := "8c2bcaf0747d66e266cdf2831d97efac1bdecced8676676e581c0e726971e884", func := "loop.example/g00466/laws.FnExactList", spec := "fnExactList", unfollowed := true, recurses := true, plainKeys := false, apart := false, narrowed := true }
def FnExactListUptoSaid : Prop := fnExactListUptoRow.holds Try.pinned (OpenSpec.upto fnExactListSpec)

/-- 'laws.FnExactRecordOf', WHERE WHAT IT READS IS OF BULK AT MOST 1048576: true; the input reads as it did. -/
def fnExactRecordOfUptoRow : OpenClaim := { program := "ythfbgkmfajdgfaa", sum := "8c2bcaf0747d66e266cdf2831d97efac1bdecced8676676e581c0e726971e884", func := "loop.example/g00466/laws.FnExactRecordOf", spec := "fnExactRecordOf", unfollowed := true, recurses := true, plainKeys := false, apart := false, narrowed := true }
def FnExactRecordOfUptoSaid : Prop := fnExactRecordOfUptoRow.holds Try.pinned (OpenSpec.upto fnExactRecordOfSpec)

/-- 'laws.FnExactRecordHead', WHERE WHAT IT READS IS OF BULK AT MOST 1048576: true; the input reads as it did. -/
def fnExactRecordHeadUptoRow : OpenClaim := { program := "ythfbgkmfajdgfaa", sum := "8c2bcaf0747d66e266cdf2831d97efac1bdecced8676676e581c0e726971e884", func := "loop.example/g00466/laws.FnExactRecordHead", spec := "fnExactRecordHead", unfollowed := true, recurses := true, plainKeys := false, apart := false, narrowed := true }
def FnExactRecordHeadUptoSaid : Prop := fnExactRecordHeadUptoRow.holds Try.pinned (OpenSpec.upto fnExactRecordHeadSpec)

end Rows
end Go.Proofs.Ythfbgkmfajdgfaa
