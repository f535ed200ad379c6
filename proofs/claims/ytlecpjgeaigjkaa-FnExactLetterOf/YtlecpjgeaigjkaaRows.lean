/-
  No cell of these rows narrows 'for every input' (looked for: loops, veiled, ifaces, maps, wideKeys, modest, calm, conditions, laid).
  DERIVED. THE GIVEN ROWS OF THIS SEAT. 6 by the template 'for every input the law returns true; each argument reads behind the call as it read before'; 0 by the template 'total and deterministic' (their statements: YtlecpjgeaigjkaaTotals.lean).
  GIVEN WITH THE SEED: the statements are not yours to turn. If you find one false, say at which input.
  Laid BY PROGRAM, IN A SANDBOX (cutbox-rows.mjs): the forced cells as the released guide's own fill.sh prints them over the translation 0d0c85e97a05777b… (all of the seat's roots in one cut). By AI agents, Wed Nov 11 2026. No macro, syntax, notation, axiom, sorry.
-/
import Derived.Test.YtlecpjgeaigjkaaChecked
import GoSem.Claim
import GoSem.ClaimJoined
import GoSem.ClaimMapViews
import Derived.JoinedTies
import Derived.KernelRfl
namespace Go.Proofs.Ytlecpjgeaigjkaa
/- THE CELL 'sum', in the pinned program and in every row, IS THE sha256 OF THE DUMP (.gsa) THAT YtlecpjgeaigjkaaProg.lean LOADS. Nothing in Lean hashes anything: it is a label: what it is worth is what the hold of that sum in a sandbox is worth. -/
noncomputable def Try.pinned : Pinned := { name := "ytlecpjgeaigjkaa", sum := "0d0c85e97a05777be0897587e63c133b97267cec138b05693ac87afb2663d159", checked := Try.checked }
namespace Rows
def none {H : Type} : Left H := { results := [], args := [] }

/-- 'laws.FnExactHelloTerm': WHATEVER THE INPUT: true; the input reads as it did. -/
def fnExactHelloTermSpec : ChangeSpec := { name := "fnExactHelloTerm", fn := fun _ => fun
  | [d1, d2] => { results := [.lit (.bool true)], args := [d1, d2] }
  | _ => none }
def fnExactHelloTermRow : OpenClaim := { program := "ytlecpjgeaigjkaa", sum := "0d0c85e97a05777be0897587e63c133b97267cec138b05693ac87afb2663d159", func := "loop.example/g00466/laws.FnExactHelloTerm", spec := "fnExactHelloTerm", unfollowed := true, recurses := true, plainKeys := false, apart := false }
def FnExactHelloTermSaid : Prop := fnExactHelloTermRow.holds Try.pinned (OpenSpec.ofChange fnExactHelloTermSpec)

/-- ITS FALSE NEIGHBOUR: 'it returns false'. Refute it at one input. -/
def fnExactHelloTermWrong : ChangeSpec := { name := "fnExactHelloTerm", fn := fun _ => fun
  | [d1, d2] => { results := [.lit (.bool false)], args := [d1, d2] }
  | _ => none }
def FnExactHelloTermWrongFalsely : Prop := fnExactHelloTermRow.holds Try.pinned (OpenSpec.ofChange fnExactHelloTermWrong)

/-- 'laws.FnExactServerTerm': WHATEVER THE INPUT: true; the input reads as it did. -/
def fnExactServerTermSpec : ChangeSpec := { name := "fnExactServerTerm", fn := fun _ => fun
  | [d1, d2, d3] => { results := [.lit (.bool true)], args := [d1, d2, d3] }
  | _ => none }
def fnExactServerTermRow : OpenClaim := { program := "ytlecpjgeaigjkaa", sum := "0d0c85e97a05777be0897587e63c133b97267cec138b05693ac87afb2663d159", func := "loop.example/g00466/laws.FnExactServerTerm", spec := "fnExactServerTerm", unfollowed := true, recurses := true, plainKeys := false, apart := false }
def FnExactServerTermSaid : Prop := fnExactServerTermRow.holds Try.pinned (OpenSpec.ofChange fnExactServerTermSpec)

/-- ITS FALSE NEIGHBOUR: 'it returns false'. Refute it at one input. -/
def fnExactServerTermWrong : ChangeSpec := { name := "fnExactServerTerm", fn := fun _ => fun
  | [d1, d2, d3] => { results := [.lit (.bool false)], args := [d1, d2, d3] }
  | _ => none }
def FnExactServerTermWrongFalsely : Prop := fnExactServerTermRow.holds Try.pinned (OpenSpec.ofChange fnExactServerTermWrong)

/-- 'laws.FnExactLetterOf': WHATEVER THE INPUT: true; the input reads as it did. -/
def fnExactLetterOfSpec : ChangeSpec := { name := "fnExactLetterOf", fn := fun _ => fun
  | [d1, d2, d3] => { results := [.lit (.bool true)], args := [d1, d2, d3] }
  | _ => none }
def fnExactLetterOfRow : OpenClaim := { program := "ytlecpjgeaigjkaa", sum := "0d0c85e97a05777be0897587e63c133b97267cec138b05693ac87afb2663d159", func := "loop.example/g00466/laws.FnExactLetterOf", spec := "fnExactLetterOf", unfollowed := true, recurses := true, plainKeys := false, apart := false }
def FnExactLetterOfSaid : Prop := fnExactLetterOfRow.holds Try.pinned (OpenSpec.ofChange fnExactLetterOfSpec)

/-- ITS FALSE NEIGHBOUR: 'it returns false'. Refute it at one input. -/
def fnExactLetterOfWrong : ChangeSpec := { name := "fnExactLetterOf", fn := fun _ => fun
  | [d1, d2, d3] => { results := [.lit (.bool false)], args := [d1, d2, d3] }
  | _ => none }
def FnExactLetterOfWrongFalsely : Prop := fnExactLetterOfRow.holds Try.pinned (OpenSpec.ofChange fnExactLetterOfWrong)

/-- 'laws.FnHellos': WHATEVER THE INPUT: true; the input reads as it did. -/
def fnHellosSpec : ChangeSpec := { name := "fnHellos", fn := fun _ => fun
  | [d] => { results := [.lit (.bool true)], args := [d] }
  | _ => none }
def fnHellosRow : OpenClaim := { program := "ytlecpjgeaigjkaa", sum := "0d0c85e97a05777be0897587e63c133b97267cec138b05693ac87afb2663d159", func := "loop.example/g00466/laws.FnHellos", spec := "fnHellos", unfollowed := true, recurses := true, plainKeys := false, apart := false }
def FnHellosSaid : Prop := fnHellosRow.holds Try.pinned (OpenSpec.ofChange fnHellosSpec)

/-- ITS FALSE NEIGHBOUR: 'it returns false'. Refute it at one input. -/
def fnHellosWrong : ChangeSpec := { name := "fnHellos", fn := fun _ => fun
  | [d] => { results := [.lit (.bool false)], args := [d] }
  | _ => none }
def FnHellosWrongFalsely : Prop := fnHellosRow.holds Try.pinned (OpenSpec.ofChange fnHellosWrong)

/-- 'laws.FnExactPartOf': WHATEVER THE INPUT: true; the input reads as it did. -/
def fnExactPartOfSpec : ChangeSpec := { name := "fnExactPartOf", fn := fun _ => fun
  | [d1, d2, d3, d4, d5, d6] => { results := [.lit (.bool true)], args := [d1, d2, d3, d4, d5, d6] }
  | _ => none }
def fnExactPartOfRow : OpenClaim := { program := "ytlecpjgeaigjkaa", sum := "0d0c85e97a05777be0897587e63c133b97267cec138b05693ac87afb2663d159", func := "loop.example/g00466/laws.FnExactPartOf", spec := "fnExactPartOf", unfollowed := true, recurses := true, plainKeys := false, apart := false }
def FnExactPartOfSaid : Prop := fnExactPartOfRow.holds Try.pinned (OpenSpec.ofChange fnExactPartOfSpec)

/-- ITS FALSE NEIGHBOUR: 'it returns false'. Refute it at one input. -/
def fnExactPartOfWrong : ChangeSpec := { name := "fnExactPartOf", fn := fun _ => fun
  | [d1, d2, d3, d4, d5, d6] => { results := [.lit (.bool false)], args := [d1, d2, d3, d4, d5, d6] }
  | _ => none }
def FnExactPartOfWrongFalsely : Prop := fnExactPartOfRow.holds Try.pinned (OpenSpec.ofChange fnExactPartOfWrong)

/-- 'laws.FnExactAckOf': WHATEVER THE INPUT: true; the input reads as it did. -/
def fnExactAckOfSpec : ChangeSpec := { name := "fnExactAckOf", fn := fun _ => fun
  | [d1, d2, d3, d4] => { results := [.lit (.bool true)], args := [d1, d2, d3, d4] }
  | _ => none }
def fnExactAckOfRow : OpenClaim := { program := "ytlecpjgeaigjkaa", sum := "0d0c85e97a05777be0897587e63c133b97267cec138b05693ac87afb2663d159", func := "loop.example/g00466/laws.FnExactAckOf", spec := "fnExactAckOf", unfollowed := true, recurses := true, plainKeys := false, apart := false }
def FnExactAckOfSaid : Prop := fnExactAckOfRow.holds Try.pinned (OpenSpec.ofChange fnExactAckOfSpec)

/-- ITS FALSE NEIGHBOUR: 'it returns false'. Refute it at one input. -/
def fnExactAckOfWrong : ChangeSpec := { name := "fnExactAckOf", fn := fun _ => fun
  | [d1, d2, d3, d4] => { results := [.lit (.bool false)], args := [d1, d2, d3, d4] }
  | _ => none }
def FnExactAckOfWrongFalsely : Prop := fnExactAckOfRow.holds Try.pinned (OpenSpec.ofChange fnExactAckOfWrong)

/- THE SECOND FORM. 'bulk': how many values and letters a reading holds, each counted each time it is reached (what is shared counts as often as it is met; a slice's spare places count too). A statement '..UptoSaid' is the law's where the arguments, and the package variables that the reading takes, are together of bulk at most 1048576: NARROWER than '..Said'. Prove '..Said' where nothing that the law and all that it calls make is longer than what came in: it says more and counts as full. Else prove '..UptoSaid'. A law counts once. -/
mutual
def uptoBulk {H : Type} : DataW H → Nat
  | .lit (.string bytes) => bytes.length + 1
  | .lit _ => 1
  | .nil => 1
  | .ptr d => uptoBulk d + 1
  | .slice elems spare => uptoBulkAll elems + uptoBulkAll spare + 1
  | .agg parts => uptoBulkAll parts + 1
  | .iface _ d => uptoBulk d + 1
  | .map entries => uptoBulkEntries entries + 1
  | .held _ => 1
def uptoBulkAll {H : Type} : List (DataW H) → Nat
  | [] => 0
  | d :: r => uptoBulk d + uptoBulkAll r
def uptoBulkEntries {H : Type} : List (Lit × DataW H) → Nat
  | [] => 0
  | x :: r => uptoBulkEntry x + uptoBulkEntries r
def uptoBulkEntry {H : Type} : Lit × DataW H → Nat
  | (.string bytes, d) => bytes.length + uptoBulk d + 1
  | (_, d) => uptoBulk d + 1
 end
def uptoSmall : (H : Type) → List (DataW H) → Bool := fun _ ds => decide (uptoBulkAll ds ≤ 1048576)
def OpenSpec.upto (s : _root_.Go.ChangeSpec) : _root_.Go.OpenSpec := { _root_.Go.OpenSpec.ofChange s with cond := some uptoSmall }

/-- 'laws.FnExactHelloTerm', WHERE WHAT IT READS IS OF BULK AT MOST 1048576: true; the input reads as it did. -/
def fnExactHelloTermUptoRow : OpenClaim := { program := "ytlecpjgeaigjkaa", sum := "0d0c85e97a05777be0897587e63c133b97267cec138b05693ac87afb2663d159", func := "loop.example/g00466/laws.FnExactHelloTerm", spec := "fnExactHelloTerm", unfollowed := true, recurses := true, plainKeys := false, apart := false, narrowed := true }
def FnExactHelloTermUptoSaid : Prop := fnExactHelloTermUptoRow.holds Try.pinned (OpenSpec.upto fnExactHelloTermSpec)

/-- 'laws.FnExactServerTerm', WHERE WHAT IT READS IS OF BULK AT MOST 1048576: true; the input reads as it did. -/
def fnExactServerTermUptoRow : OpenClaim := { program := "ytlecpjgeaigjkaa", sum := "0d0c85e97a05777be0897587e63c133b97267cec138b05693ac87afb2663d159", func := "loop.example/g00466/laws.FnExactServerTerm", spec := "fnExactServerTerm", unfollowed := true, recurses := true, plainKeys := false, apart := false, narrowed := true }
def FnExactServerTermUptoSaid : Prop := fnExactServerTermUptoRow.holds Try.pinned (OpenSpec.upto fnExactServerTermSpec)

/-- 'laws.FnExactLetterOf', WHERE WHAT IT READS IS OF BULK AT MOST 1048576: true; the input reads as it did. -/
def fnExactLetterOfUptoRow : OpenClaim := { program := "ytlecpjgeaigjkaa", sum := "0d0c85e97a05777be0897587e63c133b97267cec138b05693ac87afb2663d159", func := "loop.example/g00466/laws.FnExactLetterOf", spec := "fnExactLetterOf", unfollowed := true, recurses := true, plainKeys := false, apart := false, narrowed := true }
def FnExactLetterOfUptoSaid : Prop := fnExactLetterOfUptoRow.holds Try.pinned (OpenSpec.upto fnExactLetterOfSpec)

/-- 'laws.FnHellos', WHERE WHAT IT READS IS OF BULK AT MOST 1048576: true; the input reads as it did. -/
def fnHellosUptoRow : OpenClaim := { program := "ytlecpjgeaigjkaa", sum := "0d0c85e97a05777be0897587e63c133b97267cec138b05693ac87afb2663d159", func := "loop.example/g00466/laws.FnHellos", spec := "fnHellos", unfollowed := true, recurses := true, plainKeys := false, apart := false, narrowed := true }
def FnHellosUptoSaid : Prop := fnHellosUptoRow.holds Try.pinned (OpenSpec.upto fnHellosSpec)

/-- 'laws.FnExactPartOf', WHERE WHAT IT READS IS OF BULK AT MOST 1048576: true; the input reads as it did. -/
def fnExactPartOfUptoRow : OpenClaim := { program := "ytlecpjgeaigjkaa", sum := "0d0c85e97a05777be0897587e63c133b97267cec138b05693ac87afb2663d159", func := "loop.example/g00466/laws.FnExactPartOf", spec := "fnExactPartOf", unfollowed := true, recurses := true, plainKeys := false, apart := false, narrowed := true }
def FnExactPartOfUptoSaid : Prop := fnExactPartOfUptoRow.holds Try.pinned (OpenSpec.upto fnExactPartOfSpec)

/-- 'laws.FnExactAckOf', WHERE WHAT IT READS IS OF BULK AT MOST 1048576: true; the input reads as it did. -/
def fnExactAckOfUptoRow : OpenClaim := { program := "ytlecpjgeaigjkaa", sum := "0d0c85e97a05777be0897587e63c133b97267cec138b05693ac87afb2663d159", func := "loop.example/g00466/laws.FnExactAckOf", spec := "fnExactAckOf", unfollowed := true, recurses := true, plainKeys := false, apart := false, narrowed := true }
def FnExactAckOfUptoSaid : Prop := fnExactAckOfUptoRow.holds Try.pinned (OpenSpec.upto fnExactAckOfSpec)

end Rows
end Go.Proofs.Ytlecpjgeaigjkaa
