/-
  No cell of these rows narrows 'for every input' (looked for: loops, veiled, ifaces, maps, wideKeys, modest, calm, conditions, laid).
  DERIVED. THE GIVEN ROWS OF THIS SEAT. 6 by the template 'for every input the law returns true; each argument reads behind the call as it read before'; 0 by the template 'total and deterministic' (their statements: YthpmfnhllajfeaaTotals.lean).
  GIVEN WITH THE SEED: the statements are not yours to turn. If you find one false, say at which input.
  Laid BY PROGRAM, IN A SANDBOX (cutbox-rows.mjs): the forced cells as the released guide's own fill.sh prints them over the translation 7d8916a20c3e0091… (all of the seat's roots in one cut). By AI agents, Wed Nov 11 2026. No macro, syntax, notation, axiom, sorry.
-/
import Derived.Test.YthpmfnhllajfeaaChecked
import GoSem.Claim
import GoSem.ClaimJoined
import GoSem.ClaimMapViews
import Derived.JoinedTies
import Derived.KernelRfl
namespace Go.Proofs.Ythpmfnhllajfeaa
/- THE CELL 'sum', in the pinned program and in every row, IS THE sha256 OF THE DUMP (.gsa) THAT YthpmfnhllajfeaaProg.lean LOADS. Nothing in Lean hashes anything: it is a label: what it is worth is what the hold of that sum in a sandbox is worth. -/
noncomputable def Try.pinned : Pinned := { name := "ythpmfnhllajfeaa", sum := "7d8916a20c3e00916c920982a1041256c29219d0b839d92dcc49f47ab88e36cb", checked := Try.checked }
namespace Rows
def none {H : Type} : Left H := { results := [], args := [] }

/-- 'laws.FnTerms': WHATEVER THE INPUT: true; the input reads as it did. -/
def fnTermsSpec : ChangeSpec := { name := "fnTerms", fn := fun _ => fun
  | [d] => { results := [.lit (.bool true)], args := [d] }
  | _ => none }
def fnTermsRow : OpenClaim := { program := "ythpmfnhllajfeaa", sum := "7d8916a20c3e00916c920982a1041256c29219d0b839d92dcc49f47ab88e36cb", func := "loop.example/g00466/laws.FnTerms", spec := "fnTerms", unfollowed := true, recurses := true, plainKeys := false, apart := false }
def FnTermsSaid : Prop := fnTermsRow.holds Try.pinned (OpenSpec.ofChange fnTermsSpec)

/-- ITS FALSE NEIGHBOUR: 'it returns false'. Refute it at one input. -/
def fnTermsWrong : ChangeSpec := { name := "fnTerms", fn := fun _ => fun
  | [d] => { results := [.lit (.bool false)], args := [d] }
  | _ => none }
def FnTermsWrongFalsely : Prop := fnTermsRow.holds Try.pinned (OpenSpec.ofChange fnTermsWrong)

/-- 'laws.FnTermsTold': WHATEVER THE INPUT: true; the input reads as it did. -/
def fnTermsToldSpec : ChangeSpec := { name := "fnTermsTold", fn := fun _ => fun
  | [d] => { results := [.lit (.bool true)], args := [d] }
  | _ => none }
def fnTermsToldRow : OpenClaim := { program := "ythpmfnhllajfeaa", sum := "7d8916a20c3e00916c920982a1041256c29219d0b839d92dcc49f47ab88e36cb", func := "loop.example/g00466/laws.FnTermsTold", spec := "fnTermsTold", unfollowed := true, recurses := true, plainKeys := false, apart := false }
def FnTermsToldSaid : Prop := fnTermsToldRow.holds Try.pinned (OpenSpec.ofChange fnTermsToldSpec)

/-- ITS FALSE NEIGHBOUR: 'it returns false'. Refute it at one input. -/
def fnTermsToldWrong : ChangeSpec := { name := "fnTermsTold", fn := fun _ => fun
  | [d] => { results := [.lit (.bool false)], args := [d] }
  | _ => none }
def FnTermsToldWrongFalsely : Prop := fnTermsToldRow.holds Try.pinned (OpenSpec.ofChange fnTermsToldWrong)

/-- 'laws.FnMakes': WHATEVER THE INPUT: true; the input reads as it did. -/
def fnMakesSpec : ChangeSpec := { name := "fnMakes", fn := fun _ => fun
  | [d] => { results := [.lit (.bool true)], args := [d] }
  | _ => none }
def fnMakesRow : OpenClaim := { program := "ythpmfnhllajfeaa", sum := "7d8916a20c3e00916c920982a1041256c29219d0b839d92dcc49f47ab88e36cb", func := "loop.example/g00466/laws.FnMakes", spec := "fnMakes", inPlace := ["internal/bytealg.abigen_runtime_cmpstring"], unfollowed := true, recurses := true, plainKeys := false, apart := false }
def FnMakesSaid : Prop := fnMakesRow.holds Try.pinned (OpenSpec.ofChange fnMakesSpec)

/-- ITS FALSE NEIGHBOUR: 'it returns false'. Refute it at one input. -/
def fnMakesWrong : ChangeSpec := { name := "fnMakes", fn := fun _ => fun
  | [d] => { results := [.lit (.bool false)], args := [d] }
  | _ => none }
def FnMakesWrongFalsely : Prop := fnMakesRow.holds Try.pinned (OpenSpec.ofChange fnMakesWrong)

/-- 'laws.FnMakesTold': WHATEVER THE INPUT: true; the input reads as it did. -/
def fnMakesToldSpec : ChangeSpec := { name := "fnMakesTold", fn := fun _ => fun
  | [d] => { results := [.lit (.bool true)], args := [d] }
  | _ => none }
def fnMakesToldRow : OpenClaim := { program := "ythpmfnhllajfeaa", sum := "7d8916a20c3e00916c920982a1041256c29219d0b839d92dcc49f47ab88e36cb", func := "loop.example/g00466/laws.FnMakesTold", spec := "fnMakesTold", inPlace := ["internal/bytealg.abigen_runtime_cmpstring"], unfollowed := true, recurses := true, plainKeys := false, apart := false }
def FnMakesToldSaid : Prop := fnMakesToldRow.holds Try.pinned (OpenSpec.ofChange fnMakesToldSpec)

/-- ITS FALSE NEIGHBOUR: 'it returns false'. Refute it at one input. -/
def fnMakesToldWrong : ChangeSpec := { name := "fnMakesTold", fn := fun _ => fun
  | [d] => { results := [.lit (.bool false)], args := [d] }
  | _ => none }
def FnMakesToldWrongFalsely : Prop := fnMakesToldRow.holds Try.pinned (OpenSpec.ofChange fnMakesToldWrong)

/-- 'laws.FnCookies': WHATEVER THE INPUT: true; the input reads as it did. -/
def fnCookiesSpec : ChangeSpec := { name := "fnCookies", fn := fun _ => fun
  | [d] => { results := [.lit (.bool true)], args := [d] }
  | _ => none }
def fnCookiesRow : OpenClaim := { program := "ythpmfnhllajfeaa", sum := "7d8916a20c3e00916c920982a1041256c29219d0b839d92dcc49f47ab88e36cb", func := "loop.example/g00466/laws.FnCookies", spec := "fnCookies", unfollowed := true, recurses := true, plainKeys := false, apart := false }
def FnCookiesSaid : Prop := fnCookiesRow.holds Try.pinned (OpenSpec.ofChange fnCookiesSpec)

/-- ITS FALSE NEIGHBOUR: 'it returns false'. Refute it at one input. -/
def fnCookiesWrong : ChangeSpec := { name := "fnCookies", fn := fun _ => fun
  | [d] => { results := [.lit (.bool false)], args := [d] }
  | _ => none }
def FnCookiesWrongFalsely : Prop := fnCookiesRow.holds Try.pinned (OpenSpec.ofChange fnCookiesWrong)

/-- 'laws.FnExactPut': WHATEVER THE INPUT: true; the input reads as it did. -/
def fnExactPutSpec : ChangeSpec := { name := "fnExactPut", fn := fun _ => fun
  | [d1, d2] => { results := [.lit (.bool true)], args := [d1, d2] }
  | _ => none }
def fnExactPutRow : OpenClaim := { program := "ythpmfnhllajfeaa", sum := "7d8916a20c3e00916c920982a1041256c29219d0b839d92dcc49f47ab88e36cb", func := "loop.example/g00466/laws.FnExactPut", spec := "fnExactPut", unfollowed := true, recurses := true, plainKeys := false, apart := false }
def FnExactPutSaid : Prop := fnExactPutRow.holds Try.pinned (OpenSpec.ofChange fnExactPutSpec)

/-- ITS FALSE NEIGHBOUR: 'it returns false'. Refute it at one input. -/
def fnExactPutWrong : ChangeSpec := { name := "fnExactPut", fn := fun _ => fun
  | [d1, d2] => { results := [.lit (.bool false)], args := [d1, d2] }
  | _ => none }
def FnExactPutWrongFalsely : Prop := fnExactPutRow.holds Try.pinned (OpenSpec.ofChange fnExactPutWrong)

/- THE SECOND FORM. 'bulk': how many values and letters a reading holds, each counted each time it is reached (what is shared counts as often as it is met; a slice's spare places count too). A statement '..UptoSaid' is the law's where the arguments, and the package variables that the reading takes, are together of bulk at most 1048576: NARROWER than '..Said'. Prove '..Said' where nothing that the law and all that it calls make is longer than what came in: it says more and counts as full. Else prove '..UptoSaid'. A law counts once. -/
mutual
def uptoBulk {H : Type} : DataW H → Nat
  | .lit (.string bytes) => bytes.length + 1
  | .lit _ => 1
  | .nil => 1
  | .ptr d => uptoBulk d + 1
  | .slice elems spare => uptoBulkAll elems + uptoBulkAll spare + 1
  | .agg parts => uptoBulkAll parts + 1
  | .iface _ d => uptoBulk d + 1
  | .map entries => uptoBulkEntries entries + 1
  | .held _ => 1
def uptoBulkAll {H : Type} : List (DataW H) → Nat
  | [] => 0
  | d :: r => uptoBulk d + uptoBulkAll r
def uptoBulkEntries {H : Type} : List (Lit × DataW H) → Nat
  | [] => 0
  | x :: r => uptoBulkEntry x + uptoBulkEntries r
def uptoBulkEntry {H : Type} : Lit × DataW H → Nat
  | (.string bytes, d) => bytes.length + uptoBulk d + 1
  | (_, d) => uptoBulk d + 1
 end
def uptoSmall : (H : Type) → List (DataW H) → Bool := fun _ ds => decide (uptoBulkAll ds ≤ 1048576)
def OpenSpec.upto (s : _root_.Go.ChangeSpec) : _root_.Go.OpenSpec := { _root_.Go.OpenSpec.ofChange s with cond := some uptoSmall }

/-- 'laws.FnTerms', WHERE WHAT IT READS IS OF BULK AT MOST 1048576: true; the input reads as it did. -/
def fnTermsUptoRow : OpenClaim := { program := "ythpmfnhllajfeaa", sum := "7d8916a20c3e00916c920982a1041256c29219d0b839d92dcc49f47ab88e36cb", func := "loop.example/g00466/laws.FnTerms", spec := "fnTerms", unfollowed := true, recurses := true, plainKeys := false, apart := false, narrowed := true }
def FnTermsUptoSaid : Prop := fnTermsUptoRow.holds Try.pinned (OpenSpec.upto fnTermsSpec)

/-- 'laws.FnTermsTold', WHERE WHAT IT READS IS OF BULK AT MOST 1048576: true; the input reads as it did. -/
def fnTermsToldUptoRow : OpenClaim := { program := "ythpmfnhllajfeaa", sum := "7d8916a20c3e00916c920982a1041256c29219d0b839d92dcc49f47ab88e36cb", func := "loop.example/g00466/laws.FnTermsTold", spec := "fnTermsTold", unfollowed := true, recurses := true, plainKeys := false, apart := false, narrowed := true }
def FnTermsToldUptoSaid : Prop := fnTermsToldUptoRow.holds Try.pinned (OpenSpec.upto fnTermsToldSpec)

/-- 'laws.FnMakes', WHERE WHAT IT READS IS OF BULK AT MOST 1048576: true; the input reads as it did. -/
def fnMakesUptoRow : OpenClaim := { program := "ythpmfnhllajfeaa", sum := "7d8916a20c3e00916c920982a1041256c29219d0b839d92dcc49f47ab88e36cb", func := "loop.example/g00466/laws.FnMakes", spec := "fnMakes", inPlace := ["internal/bytealg.abigen_runtime_cmpstring"], unfollowed := true, recurses := true, plainKeys := false, apart := false, narrowed := true }
def FnMakesUptoSaid : Prop := fnMakesUptoRow.holds Try.pinned (OpenSpec.upto fnMakesSpec)

/-- 'laws.FnMakesTold', WHERE WHAT IT READS IS OF BULK AT MOST 1048576: true; the input reads as it did. -/
def fnMakesToldUptoRow : OpenClaim := { program := "ythpmfnhllajfeaa", sum := "7d8916a20c3e00916c920982a1041256c29219d0b839d92dcc49f47ab88e36cb", func := "loop.example/g00466/laws.FnMakesTold", spec := "fnMakesTold", inPlace := ["internal/bytealg.abigen_runtime_cmpstring"], unfollowed := true, recurses := true, plainKeys := false, apart := false, narrowed := true }
def FnMakesToldUptoSaid : Prop := fnMakesToldUptoRow.holds Try.pinned (OpenSpec.upto fnMakesToldSpec)

/-- 'laws.FnCookies', WHERE WHAT IT READS IS OF BULK AT MOST 1048576: true; the input reads as it did. -/
def fnCookiesUptoRow : OpenClaim := { program := "ythpmfnhllajfeaa", sum := "7d8916a20c3e00916c920982a1041256c29219d0b839d92dcc49f47ab88e36cb", func := "loop.example/g00466/laws.FnCookies", spec := "fnCookies", unfollowed := true, recurses := true, plainKeys := false, apart := false, narrowed := true }
def FnCookiesUptoSaid : Prop := fnCookiesUptoRow.holds Try.pinned (OpenSpec.upto fnCookiesSpec)

/-- 'laws.FnExactPut', WHERE WHAT IT READS IS OF BULK AT MOST 1048576: true; the input reads as it did. -/
def fnExactPutUptoRow : OpenClaim := { program := "ythpmfnhllajfeaa", sum := "7d8916a20c3e00916c920982a1041256c29219d0b839d92dcc49f47ab88e36cb", func := "loop.example/g00466/laws.FnExactPut", spec := "fnExactPut", unfollowed := true, recurses := true, plainKeys := false, apart := false, narrowed := true }
def FnExactPutUptoSaid : Prop := fnExactPutUptoRow.holds Try.pinned (OpenSpec.upto fnExactPutSpec)

end Rows
end Go.Proofs.Ythpmfnhllajfeaa
