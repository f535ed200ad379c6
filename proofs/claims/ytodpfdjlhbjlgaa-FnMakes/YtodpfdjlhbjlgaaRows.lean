/-
  No cell of these rows narrows 'for every input' (looked for: loops, veiled, ifaces, maps, wideKeys, modest, calm, conditions, laid).
  DERIVED. THE GIVEN ROWS OF THIS SEAT. 10 by the template 'for every input the law returns true; each argument reads behind the call as it read before'; 0 by the template 'total and deterministic' (their statements: YtodpfdjlhbjlgaaTotals.lean).
  GIVEN WITH THE SEED: the statements are not yours to turn. If you find one false, say at which input.
  Laid BY PROGRAM, IN A SANDBOX (cutbox-rows.mjs): the forced cells as the released guide's own fill.sh prints them over the translation c123e811d6086cca… (all of the seat's roots in one cut). By AI agents, Wed Nov 11 2026. No macro, syntax, notation, axiom, sorry.
-/
import Derived.Test.YtodpfdjlhbjlgaaChecked
import GoSem.Claim
import GoSem.ClaimJoined
import GoSem.ClaimMapViews
import Derived.JoinedTies
import Derived.KernelRfl
namespace Go.Proofs.Ytodpfdjlhbjlgaa
/- THE CELL 'sum', in the pinned program and in every row, IS THE sha256 OF THE DUMP (.gsa) THAT YtodpfdjlhbjlgaaProg.lean LOADS. Nothing in Lean hashes anything: it is a label: what it is worth is what the hold of that sum in a sandbox is worth. -/
noncomputable def Try.pinned : Pinned := { name := "ytodpfdjlhbjlgaa", sum := "c123e811d6086cca9ea4609300d540118d045d0aff85dd2068f0b3dd5ba2a224", checked := Try.checked }
namespace Rows
def none {H : Type} : Left H := { results := [], args := [] }

/-- 'laws.FnTerms': WHATEVER THE INPUT: true; the input reads as it did. -/
def fnTermsSpec : ChangeSpec := { name := "fnTerms", fn := fun _ => fun
  | [d] => { results := [.lit (.bool true)], args := [d] }
  | _ => none }
def fnTermsRow : OpenClaim := { program := "ytodpfdjlhbjlgaa", sum := "c123e811d6086cca9ea4609300d540118d045d0aff85dd2068f0b3dd5ba2a224", func := "loop.example/g00466/laws.FnTerms", spec := "fnTerms", unfollowed := true, recurses := true, plainKeys := false, apart := false }
def FnTermsSaid : Prop := fnTermsRow.holds Try.pinned (OpenSpec.ofChange fnTermsSpec)

/-- ITS FALSE NEIGHBOUR: 'it returns false'. Refute it at one input. -/
def fnTermsWrong : ChangeSpec := { name := "fnTerms", fn := fun _ => fun
  | [d] => { results := [.lit (.bool false)], args := [d] }
  | _ => none }
def FnTermsWrongFalsely : Prop := fnTermsRow.holds Try.pinned (OpenSpec.ofChange fnTermsWrong)

/-- 'laws.FnTermsTold': WHATEVER THE INPUT: true; the input reads as it did. -/
def fnTermsToldSpec : ChangeSpec := { name := "fnTermsTold", fn := fun _ => fun
  | [d] => { results := [.lit (.bool true)], args := [d] }
  | _ => none }
def fnTermsToldRow : OpenClaim := { program := "ytodpfdjlhbjlgaa", sum := "c123e811d6086cca9ea4609300d540118d045d0aff85dd2068f0b3dd5ba2a224", func := "loop.example/g00466/laws.FnTermsTold", spec := "fnTermsTold", unfollowed := true, recurses := true, plainKeys := false, apart := false }
def FnTermsToldSaid : Prop := fnTermsToldRow.holds Try.pinned (OpenSpec.ofChange fnTermsToldSpec)

/-- ITS FALSE NEIGHBOUR: 'it returns false'. Refute it at one input. -/
def fnTermsToldWrong : ChangeSpec := { name := "fnTermsTold", fn := fun _ => fun
  | [d] => { results := [.lit (.bool false)], args := [d] }
  | _ => none }
def FnTermsToldWrongFalsely : Prop := fnTermsToldRow.holds Try.pinned (OpenSpec.ofChange fnTermsToldWrong)

/-- 'laws.FnExactPut': WHATEVER THE INPUT: true; the input reads as it did. -/
def fnExactPutSpec : ChangeSpec := { name := "fnExactPut", fn := fun _ => fun
  | [d1, d2] => { results := [.lit (.bool true)], args := [d1, d2] }
  | _ => none }
def fnExactPutRow : OpenClaim := { program := "ytodpfdjlhbjlgaa", sum := "c123e811d6086cca9ea4609300d540118d045d0aff85dd2068f0b3dd5ba2a224", func := "loop.example/g00466/laws.FnExactPut", spec := "fnExactPut", unfollowed := true, recurses := true, plainKeys := false, apart := false }
def FnExactPutSaid : Prop := fnExactPutRow.holds Try.pinned (OpenSpec.ofChange fnExactPutSpec)

/-- ITS FALSE NEIGHBOUR: 'it returns false'. Refute it at one input. -/
def fnExactPutWrong : ChangeSpec := { name := "fnExactPut", fn := fun _ => fun
  | [d1, d2] => { results := [.lit (.bool false)], args := [d1, d2] }
  | _ => none }
def FnExactPutWrongFalsely : Prop := fnExactPutRow.holds Try.pinned (OpenSpec.ofChange fnExactPutWrong)

/-- 'laws.FnExactReadTerm': WHATEVER THE INPUT: true; the input reads as it did. -/
def fnExactReadTermSpec : ChangeSpec := { name := "fnExactReadTerm", fn := fun _ => fun
  | [d1, d2] => { results := [.lit (.bool true)], args := [d1, d2] }
  | _ => none }
def fnExactReadTermRow : OpenClaim := { program := "ytodpfdjlhbjlgaa", sum := "c123e811d6086cca9ea4609300d540118d045d0aff85dd2068f0b3dd5ba2a224", func := "loop.example/g00466/laws.FnExactReadTerm", spec := "fnExactReadTerm", unfollowed := true, recurses := true, plainKeys := false, apart := false }
def FnExactReadTermSaid : Prop := fnExactReadTermRow.holds Try.pinned (OpenSpec.ofChange fnExactReadTermSpec)

/-- ITS FALSE NEIGHBOUR: 'it returns false'. Refute it at one input. -/
def fnExactReadTermWrong : ChangeSpec := { name := "fnExactReadTerm", fn := fun _ => fun
  | [d1, d2] => { results := [.lit (.bool false)], args := [d1, d2] }
  | _ => none }
def FnExactReadTermWrongFalsely : Prop := fnExactReadTermRow.holds Try.pinned (OpenSpec.ofChange fnExactReadTermWrong)

/-- 'laws.FnMakes': WHATEVER THE INPUT: true; the input reads as it did. -/
def fnMakesSpec : ChangeSpec := { name := "fnMakes", fn := fun _ => fun
  | [d] => { results := [.lit (.bool true)], args := [d] }
  | _ => none }
def fnMakesRow : OpenClaim := { program := "ytodpfdjlhbjlgaa", sum := "c123e811d6086cca9ea4609300d540118d045d0aff85dd2068f0b3dd5ba2a224", func := "loop.example/g00466/laws.FnMakes", spec := "fnMakes", inPlace := ["internal/bytealg.abigen_runtime_cmpstring"], unfollowed := true, recurses := true, plainKeys := false, apart := false }
def FnMakesSaid : Prop := fnMakesRow.holds Try.pinned (OpenSpec.ofChange fnMakesSpec)

/-- ITS FALSE NEIGHBOUR: 'it returns false'. Refute it at one input. -/
def fnMakesWrong : ChangeSpec := { name := "fnMakes", fn := fun _ => fun
  | [d] => { results := [.lit (.bool false)], args := [d] }
  | _ => none }
def FnMakesWrongFalsely : Prop := fnMakesRow.holds Try.pinned (OpenSpec.ofChange fnMakesWrong)

/-- 'laws.FnMakesTold': WHATEVER THE INPUT: true; the input reads as it did. -/
def fnMakesToldSpec : ChangeSpec := { name := "fnMakesTold", fn := fun _ => fun
  | [d] => { results := [.lit (.bool true)], args := [d] }
  | _ => none }
def fnMakesToldRow : OpenClaim := { program := "ytodpfdjlhbjlgaa", sum := "c123e811d6086cca9ea4609300d540118d045d0aff85dd2068f0b3dd5ba2a224", func := "loop.example/g00466/laws.FnMakesTold", spec := "fnMakesTold", inPlace := ["internal/bytealg.abigen_runtime_cmpstring"], unfollowed := true, recurses := true, plainKeys := false, apart := false }
def FnMakesToldSaid : Prop := fnMakesToldRow.holds Try.pinned (OpenSpec.ofChange fnMakesToldSpec)

/-- ITS FALSE NEIGHBOUR: 'it returns false'. Refute it at one input. -/
def fnMakesToldWrong : ChangeSpec := { name := "fnMakesTold", fn := fun _ => fun
  | [d] => { results := [.lit (.bool false)], args := [d] }
  | _ => none }
def FnMakesToldWrongFalsely : Prop := fnMakesToldRow.holds Try.pinned (OpenSpec.ofChange fnMakesToldWrong)

/-- 'laws.FnExactAtom': WHATEVER THE INPUT: true; the input reads as it did. -/
def fnExactAtomSpec : ChangeSpec := { name := "fnExactAtom", fn := fun _ => fun
  | [d1, d2] => { results := [.lit (.bool true)], args := [d1, d2] }
  | _ => none }
def fnExactAtomRow : OpenClaim := { program := "ytodpfdjlhbjlgaa", sum := "c123e811d6086cca9ea4609300d540118d045d0aff85dd2068f0b3dd5ba2a224", func := "loop.example/g00466/laws.FnExactAtom", spec := "fnExactAtom", unfollowed := true, recurses := true, plainKeys := false, apart := false }
def FnExactAtomSaid : Prop := fnExactAtomRow.holds Try.pinned (OpenSpec.ofChange fnExactAtomSpec)

/-- ITS FALSE NEIGHBOUR: 'it returns false'. Refute it at one input. -/
def fnExactAtomWrong : ChangeSpec := { name := "fnExactAtom", fn := fun _ => fun
  | [d1, d2] => { results := [.lit (.bool false)], args := [d1, d2] }
  | _ => none }
def FnExactAtomWrongFalsely : Prop := fnExactAtomRow.holds Try.pinned (OpenSpec.ofChange fnExactAtomWrong)

/-- 'laws.FnExactMake': WHATEVER THE INPUT: true; the input reads as it did. -/
def fnExactMakeSpec : ChangeSpec := { name := "fnExactMake", fn := fun _ => fun
  | [d1, d2, d3, d4] => { results := [.lit (.bool true)], args := [d1, d2, d3, d4] }
  | _ => none }
def fnExactMakeRow : OpenClaim := { program := "ytodpfdjlhbjlgaa", sum := "c123e811d6086cca9ea4609300d540118d045d0aff85dd2068f0b3dd5ba2a224", func := "loop.example/g00466/laws.FnExactMake", spec := "fnExactMake", unfollowed := true, recurses := true, plainKeys := false, apart := false }
def FnExactMakeSaid : Prop := fnExactMakeRow.holds Try.pinned (OpenSpec.ofChange fnExactMakeSpec)

/-- ITS FALSE NEIGHBOUR: 'it returns false'. Refute it at one input. -/
def fnExactMakeWrong : ChangeSpec := { name := "fnExactMake", fn := fun _ => fun
  | [d1, d2, d3, d4] => { results := [.lit (.bool false)], args := [d1, d2, d3, d4] }
  | _ => none }
def FnExactMakeWrongFalsely : Prop := fnExactMakeRow.holds Try.pinned (OpenSpec.ofChange fnExactMakeWrong)

/-- 'laws.FnExactList': WHATEVER THE INPUT: true; the input reads as it did. -/
def fnExactListSpec : ChangeSpec := { name := "fnExactList", fn := fun _ => fun
  | [d1, d2] => { results := [.lit (.bool true)], args := [d1, d2] }
  | _ => none }
def fnExactListRow : OpenClaim := { program := "ytodpfdjlhbjlgaa", sum := "c123e811d6086cca9ea4609300d540118d045d0aff85dd2068f0b3dd5ba2a224", func := "loop.example/g00466/laws.FnExactList", spec := "fnExactList", unfollowed := true, recurses := true, plainKeys := false, apart := false }
def FnExactListSaid : Prop := fnExactListRow.holds Try.pinned (OpenSpec.ofChange fnExactListSpec)

/-- ITS FALSE NEIGHBOUR: 'it returns false'. Refute it at one input. -/
def fnExactListWrong : ChangeSpec := { name := "fnExactList", fn := fun _ => fun
  | [d1, d2] => { results := [.lit (.bool false)], args := [d1, d2] }
  | _ => none }
def FnExactListWrongFalsely : Prop := fnExactListRow.holds Try.pinned (OpenSpec.ofChange fnExactListWrong)

/-- 'laws.FnExactDhOf': WHATEVER THE INPUT: true; the input reads as it did. -/
def fnExactDhOfSpec : ChangeSpec := { name := "fnExactDhOf", fn := fun _ => fun
  | [d1, d2, d3] => { results := [.lit (.bool true)], args := [d1, d2, d3] }
  | _ => none }
def fnExactDhOfRow : OpenClaim := { program := "ytodpfdjlhbjlgaa", sum := "c123e811d6086cca9ea4609300d540118d045d0aff85dd2068f0b3dd5ba2a224", func := "loop.example/g00466/laws.FnExactDhOf", spec := "fnExactDhOf", inPlace := ["internal/bytealg.abigen_runtime_cmpstring"], unfollowed := true, recurses := true, plainKeys := false, apart := false }
def FnExactDhOfSaid : Prop := fnExactDhOfRow.holds Try.pinned (OpenSpec.ofChange fnExactDhOfSpec)

/-- ITS FALSE NEIGHBOUR: 'it returns false'. Refute it at one input. -/
def fnExactDhOfWrong : ChangeSpec := { name := "fnExactDhOf", fn := fun _ => fun
  | [d1, d2, d3] => { results := [.lit (.bool false)], args := [d1, d2, d3] }
  | _ => none }
def FnExactDhOfWrongFalsely : Prop := fnExactDhOfRow.holds Try.pinned (OpenSpec.ofChange fnExactDhOfWrong)

/- THE SECOND FORM. 'bulk': how many values and letters a reading holds, each counted each time it is reached (what is shared counts as often as it is met; a slice's spare places count too). A statement '..UptoSaid' is the law's where the arguments, and the package variables that the reading takes, are together of bulk at most 1048576: NARROWER than '..Said'. Prove '..Said' where nothing that the law and all that it calls make is longer than what came in: it says more and counts as full. Else prove '..UptoSaid'. A law counts once. -/
mutual
def uptoBulk {H : Type} : DataW H → Nat
  | .lit (.string bytes) => bytes.length + 1
  | .lit _ => 1
  | .nil => 1
  | .ptr d => uptoBulk d + 1
  | .slice elems spare => uptoBulkAll elems + uptoBulkAll spare + 1
  | .agg parts => uptoBulkAll parts + 1
  | .iface _ d => uptoBulk d + 1
  | .map entries => uptoBulkEntries entries + 1
  | .held _ => 1
def uptoBulkAll {H : Type} : List (DataW H) → Nat
  | [] => 0
  | d :: r => uptoBulk d + uptoBulkAll r
def uptoBulkEntries {H : Type} : List (Lit × DataW H) → Nat
  | [] => 0
  | x :: r => uptoBulkEntry x + uptoBulkEntries r
def uptoBulkEntry {H : Type} : Lit × DataW H → Nat
  | (.string bytes, d) => bytes.length + uptoBulk d + 1
  | (_, d) => uptoBulk d + 1
 end
def uptoSmall : (H : Type) → List (DataW H) → Bool := fun _ ds => decide (uptoBulkAll ds ≤ 1048576)
def OpenSpec.upto (s : _root_.Go.ChangeSpec) : _root_.Go.OpenSpec := { _root_.Go.OpenSpec.ofChange s with cond := some uptoSmall }

/-- 'laws.FnTerms', WHERE WHAT IT READS IS OF BULK AT MOST 1048576: true; the input reads as it did. -/
def fnTermsUptoRow : OpenClaim := { program := "ytodpfdjlhbjlgaa", sum := "c123e811d6086cca9ea4609300d540118d045d0aff85dd2068f0b3dd5ba2a224", func := "loop.example/g00466/laws.FnTerms", spec := "fnTerms", unfollowed := true, recurses := true, plainKeys := false, apart := false, narrowed := true }
def FnTermsUptoSaid : Prop := fnTermsUptoRow.holds Try.pinned (OpenSpec.upto fnTermsSpec)

/-- 'laws.FnTermsTold', WHERE WHAT IT READS IS OF BULK AT MOST 1048576: true; the input reads as it did. -/
def fnTermsToldUptoRow : OpenClaim := { program := "ytodpfdjlhbjlgaa", sum := "c123e811d6086cca9ea4609300d540118d045d0aff85dd2068f0b3dd5ba2a224", func := "loop.example/g00466/laws.FnTermsTold", spec := "fnTermsTold", unfollowed := true, recurses := true, plainKeys := false, apart := false, narrowed := true }
def FnTermsToldUptoSaid : Prop := fnTermsToldUptoRow.holds Try.pinned (OpenSpec.upto fnTermsToldSpec)

/-- 'laws.FnExactPut', WHERE WHAT IT READS IS OF BULK AT MOST 1048576: true; the input reads as it did. -/
def fnExactPutUptoRow : OpenClaim := { program := "ytodpfdjlhbjlgaa", sum := "c123e811d6086cca9ea4609300d540118d045d0aff85dd2068f0b3dd5ba2a224", func := "loop.example/g00466/laws.FnExactPut", spec := "fnExactPut", unfollowed := true, recurses := true, plainKeys := false, apart := false, narrowed := true }
def FnExactPutUptoSaid : Prop := fnExactPutUptoRow.holds Try.pinned (OpenSpec.upto fnExactPutSpec)

/-- 'laws.FnExactReadTerm', WHERE WHAT IT READS IS OF BULK AT MOST 1048576: true; the input reads as it did. -/
def fnExactReadTermUptoRow : OpenClaim := { program := "ytodpfdjlhbjlgaa", sum := "c123e811d6086cca9ea4609300d540118d045d0aff85dd2068f0b3dd5ba2a224", func := "loop.example/g00466/laws.FnExactReadTerm", spec := "fnExactReadTerm", unfollowed := true, recurses := true, plainKeys := false, apart := false, narrowed := true }
def FnExactReadTermUptoSaid : Prop := fnExactReadTermUptoRow.holds Try.pinned (OpenSpec.upto fnExactReadTermSpec)

/-- 'laws.FnMakes', WHERE WHAT IT READS IS OF BULK AT MOST 1048576: true; the input reads as it did. -/
def fnMakesUptoRow : OpenClaim := { program := "ytodpfdjlhbjlgaa", sum := "c123e811d6086cca9ea4609300d540118d045d0aff85dd2068f0b3dd5ba2a224", func := "loop.example/g00466/laws.FnMakes", spec := "fnMakes", inPlace := ["internal/bytealg.abigen_runtime_cmpstring"], unfollowed := true, recurses := true, plainKeys := false, apart := false, narrowed := true }
def FnMakesUptoSaid : Prop := fnMakesUptoRow.holds Try.pinned (OpenSpec.upto fnMakesSpec)

/-- 'laws.FnMakesTold', WHERE WHAT IT READS IS OF BULK AT MOST 1048576: true; the input reads as it did. -/
def fnMakesToldUptoRow : OpenClaim := { program := "ytodpfdjlhbjlgaa", sum := "c123e811d6086cca9ea4609300d540118d045d0aff85dd2068f0b3dd5ba2a224", func := "loop.example/g00466/laws.FnMakesTold", spec := "fnMakesTold", inPlace := ["internal/bytealg.abigen_runtime_cmpstring"], unfollowed := true, recurses := true, plainKeys := false, apart := false, narrowed := true }
def FnMakesToldUptoSaid : Prop := fnMakesToldUptoRow.holds Try.pinned (OpenSpec.upto fnMakesToldSpec)

/-- 'laws.FnExactAtom', WHERE WHAT IT READS IS OF BULK AT MOST 1048576: true; the input reads as it did. -/
def fnExactAtomUptoRow : OpenClaim := { program := "ytodpfdjlhbjlgaa", sum := "c123e811d6086cca9ea4609300d540118d045d0aff85dd2068f0b3dd5ba2a224", func := "loop.example/g00466/laws.FnExactAtom", spec := "fnExactAtom", unfollowed := true, recurses := true, plainKeys := false, apart := false, narrowed := true }
def FnExactAtomUptoSaid : Prop := fnExactAtomUptoRow.holds Try.pinned (OpenSpec.upto fnExactAtomSpec)

/-- 'laws.FnExactMake', WHERE WHAT IT READS IS OF BULK AT MOST 1048576: true; the input reads as it did. -/
def fnExactMakeUptoRow : OpenClaim := { program := "ytodpfdjlhbjlgaa", sum := "c123e811d6086cca9ea4609300d540118d045d0aff85dd2068f0b3dd5ba2a224", func := "loop.example/g00466/laws.FnExactMake", spec := "fnExactMake", unfollowed := true, recurses := true, plainKeys := false, apart := false, narrowed := true }
def FnExactMakeUptoSaid : Prop := fnExactMakeUptoRow.holds Try.pinned (OpenSpec.upto fnExactMakeSpec)

/-- 'laws.FnExactList', WHERE WHAT IT READS IS OF BULK AT MOST 1048576: true; the input reads as it did. -/
def fnExactListUptoRow : OpenClaim := { program := "ytodpfdjlhbjlgaa", sum := "c123e811d6086cca9ea4609300d540118d045d0aff85dd2068f0b3dd5ba2a224", func := "loop.example/g00466/laws.FnExactList", spec := "fnExactList", unfollowed := true, recurses := true, plainKeys := false, apart := false, narrowed := true }
def FnExactListUptoSaid : Prop := fnExactListUptoRow.holds Try.pinned (OpenSpec.upto fnExactListSpec)

/-- 'laws.FnExactDhOf', WHERE WHAT IT READS IS OF BULK AT MOST 1048576: true; the input reads as it did. -/
def fnExactDhOfUptoRow : OpenClaim := { program := "ytodpfdjlhbjlgaa", sum := "c123e811d6086cca9ea4609300d540118d045d0aff85dd2068f0b3dd5ba2a224", func := "loop.example/g00466/laws.FnExactDhOf", spec := "fnExactDhOf", inPlace := ["internal/bytealg.abigen_runtime_cmpstring"], unfollowed := true, recurses := true, plainKeys := false, apart := false, narrowed := true }
def FnExactDhOfUptoSaid : Prop := fnExactDhOfUptoRow.holds Try.pinned (OpenSpec.upto fnExactDhOfSpec)

end Rows
end Go.Proofs.Ytodpfdjlhbjlgaa
