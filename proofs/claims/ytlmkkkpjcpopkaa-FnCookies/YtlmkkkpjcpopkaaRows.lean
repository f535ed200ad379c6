/-
  No cell of these rows narrows 'for every input' (looked for: loops, veiled, ifaces, maps, wideKeys, modest, calm, conditions, laid).
  DERIVED. THE GIVEN ROWS OF THIS SEAT. 9 by the template 'for every input the law returns true; each argument reads behind the call as it read before'; 0 by the template 'total and deterministic' (their statements: YtlmkkkpjcpopkaaTotals.lean).
  GIVEN WITH THE SEED: the statements are not yours to turn. If you find one false, say at which input.
  Laid BY PROGRAM, IN A SANDBOX (cutbox-rows.mjs): the forced cells as the released guide's own fill.sh prints them over the translation 42c67bc623dcc8d3… (all of the seat's roots in one cut). By AI agents, Wed Nov 11 2026. No macro, syntax, notation, axiom, sorry.
-/
import Derived.Test.YtlmkkkpjcpopkaaChecked
import GoSem.Claim
import GoSem.ClaimJoined
import GoSem.ClaimMapViews
import Derived.JoinedTies
import Derived.KernelRfl
namespace Go.Proofs.Ytlmkkkpjcpopkaa
/- THE CELL 'sum', in the pinned program and in every row, IS THE sha256 OF THE DUMP (.gsa) THAT YtlmkkkpjcpopkaaProg.lean LOADS. Nothing in Lean hashes anything: it is a label: what it is worth is what the hold of that sum in a sandbox is worth. -/
noncomputable def Try.pinned : Pinned := { name := "ytlmkkkpjcpopkaa", sum := "42c67bc623dcc8d3b03afcf6e2c44125b746450a7a0058dad870eb799a54c5fb", checked := Try.checked }
namespace Rows
def none {H : Type} : Left H := { results := [], args := [] }

/-- 'laws.FnHellos': WHATEVER THE INPUT: true; the input reads as it did. -/
def fnHellosSpec : ChangeSpec := { name := "fnHellos", fn := fun _ => fun
  | [d] => { results := [.lit (.bool true)], args := [d] }
  | _ => none }
def fnHellosRow : OpenClaim := { program := "ytlmkkkpjcpopkaa", sum := "42c67bc623dcc8d3b03afcf6e2c44125b746450a7a0058dad870eb799a54c5fb", func := "loop.example/g00466/laws.FnHellos", spec := "fnHellos", unfollowed := true, recurses := true, plainKeys := false, apart := false }
def FnHellosSaid : Prop := fnHellosRow.holds Try.pinned (OpenSpec.ofChange fnHellosSpec)

/-- ITS FALSE NEIGHBOUR: 'it returns false'. Refute it at one input. -/
def fnHellosWrong : ChangeSpec := { name := "fnHellos", fn := fun _ => fun
  | [d] => { results := [.lit (.bool false)], args := [d] }
  | _ => none }
def FnHellosWrongFalsely : Prop := fnHellosRow.holds Try.pinned (OpenSpec.ofChange fnHellosWrong)

/-- 'laws.FnExactHelloTerm': WHATEVER THE INPUT: true; the input reads as it did. -/
def fnExactHelloTermSpec : ChangeSpec := { name := "fnExactHelloTerm", fn := fun _ => fun
  | [d1, d2] => { results := [.lit (.bool true)], args := [d1, d2] }
  | _ => none }
def fnExactHelloTermRow : OpenClaim := { program := "ytlmkkkpjcpopkaa", sum := "42c67bc623dcc8d3b03afcf6e2c44125b746450a7a0058dad870eb799a54c5fb", func := "loop.example/g00466/laws.FnExactHelloTerm", spec := "fnExactHelloTerm", unfollowed := true, recurses := true, plainKeys := false, apart := false }
def FnExactHelloTermSaid : Prop := fnExactHelloTermRow.holds Try.pinned (OpenSpec.ofChange fnExactHelloTermSpec)

/-- ITS FALSE NEIGHBOUR: 'it returns false'. Refute it at one input. -/
def fnExactHelloTermWrong : ChangeSpec := { name := "fnExactHelloTerm", fn := fun _ => fun
  | [d1, d2] => { results := [.lit (.bool false)], args := [d1, d2] }
  | _ => none }
def FnExactHelloTermWrongFalsely : Prop := fnExactHelloTermRow.holds Try.pinned (OpenSpec.ofChange fnExactHelloTermWrong)

/-- 'laws.FnExactHelloIn': WHATEVER THE INPUT: true; the input reads as it did. -/
def fnExactHelloInSpec : ChangeSpec := { name := "fnExactHelloIn", fn := fun _ => fun
  | [d1, d2] => { results := [.lit (.bool true)], args := [d1, d2] }
  | _ => none }
def fnExactHelloInRow : OpenClaim := { program := "ytlmkkkpjcpopkaa", sum := "42c67bc623dcc8d3b03afcf6e2c44125b746450a7a0058dad870eb799a54c5fb", func := "loop.example/g00466/laws.FnExactHelloIn", spec := "fnExactHelloIn", unfollowed := true, recurses := true, plainKeys := false, apart := false }
def FnExactHelloInSaid : Prop := fnExactHelloInRow.holds Try.pinned (OpenSpec.ofChange fnExactHelloInSpec)

/-- ITS FALSE NEIGHBOUR: 'it returns false'. Refute it at one input. -/
def fnExactHelloInWrong : ChangeSpec := { name := "fnExactHelloIn", fn := fun _ => fun
  | [d1, d2] => { results := [.lit (.bool false)], args := [d1, d2] }
  | _ => none }
def FnExactHelloInWrongFalsely : Prop := fnExactHelloInRow.holds Try.pinned (OpenSpec.ofChange fnExactHelloInWrong)

/-- 'laws.FnExactServerTerm': WHATEVER THE INPUT: true; the input reads as it did. -/
def fnExactServerTermSpec : ChangeSpec := { name := "fnExactServerTerm", fn := fun _ => fun
  | [d1, d2, d3] => { results := [.lit (.bool true)], args := [d1, d2, d3] }
  | _ => none }
def fnExactServerTermRow : OpenClaim := { program := "ytlmkkkpjcpopkaa", sum := "42c67bc623dcc8d3b03afcf6e2c44125b746450a7a0058dad870eb799a54c5fb", func := "loop.example/g00466/laws.FnExactServerTerm", spec := "fnExactServerTerm", unfollowed := true, recurses := true, plainKeys := false, apart := false }
def FnExactServerTermSaid : Prop := fnExactServerTermRow.holds Try.pinned (OpenSpec.ofChange fnExactServerTermSpec)

/-- ITS FALSE NEIGHBOUR: 'it returns false'. Refute it at one input. -/
def fnExactServerTermWrong : ChangeSpec := { name := "fnExactServerTerm", fn := fun _ => fun
  | [d1, d2, d3] => { results := [.lit (.bool false)], args := [d1, d2, d3] }
  | _ => none }
def FnExactServerTermWrongFalsely : Prop := fnExactServerTermRow.holds Try.pinned (OpenSpec.ofChange fnExactServerTermWrong)

/-- 'laws.FnExactServerIn': WHATEVER THE INPUT: true; the input reads as it did. -/
def fnExactServerInSpec : ChangeSpec := { name := "fnExactServerIn", fn := fun _ => fun
  | [d1, d2] => { results := [.lit (.bool true)], args := [d1, d2] }
  | _ => none }
def fnExactServerInRow : OpenClaim := { program := "ytlmkkkpjcpopkaa", sum := "42c67bc623dcc8d3b03afcf6e2c44125b746450a7a0058dad870eb799a54c5fb", func := "loop.example/g00466/laws.FnExactServerIn", spec := "fnExactServerIn", unfollowed := true, recurses := true, plainKeys := false, apart := false }
def FnExactServerInSaid : Prop := fnExactServerInRow.holds Try.pinned (OpenSpec.ofChange fnExactServerInSpec)

/-- ITS FALSE NEIGHBOUR: 'it returns false'. Refute it at one input. -/
def fnExactServerInWrong : ChangeSpec := { name := "fnExactServerIn", fn := fun _ => fun
  | [d1, d2] => { results := [.lit (.bool false)], args := [d1, d2] }
  | _ => none }
def FnExactServerInWrongFalsely : Prop := fnExactServerInRow.holds Try.pinned (OpenSpec.ofChange fnExactServerInWrong)

/-- 'laws.FnExactLetterOf': WHATEVER THE INPUT: true; the input reads as it did. -/
def fnExactLetterOfSpec : ChangeSpec := { name := "fnExactLetterOf", fn := fun _ => fun
  | [d1, d2, d3] => { results := [.lit (.bool true)], args := [d1, d2, d3] }
  | _ => none }
def fnExactLetterOfRow : OpenClaim := { program := "ytlmkkkpjcpopkaa", sum := "42c67bc623dcc8d3b03afcf6e2c44125b746450a7a0058dad870eb799a54c5fb", func := "loop.example/g00466/laws.FnExactLetterOf", spec := "fnExactLetterOf", unfollowed := true, recurses := true, plainKeys := false, apart := false }
def FnExactLetterOfSaid : Prop := fnExactLetterOfRow.holds Try.pinned (OpenSpec.ofChange fnExactLetterOfSpec)

/-- ITS FALSE NEIGHBOUR: 'it returns false'. Refute it at one input. -/
def fnExactLetterOfWrong : ChangeSpec := { name := "fnExactLetterOf", fn := fun _ => fun
  | [d1, d2, d3] => { results := [.lit (.bool false)], args := [d1, d2, d3] }
  | _ => none }
def FnExactLetterOfWrongFalsely : Prop := fnExactLetterOfRow.holds Try.pinned (OpenSpec.ofChange fnExactLetterOfWrong)

/-- 'laws.FnExactLetterIn': WHATEVER THE INPUT: true; the input reads as it did. -/
def fnExactLetterInSpec : ChangeSpec := { name := "fnExactLetterIn", fn := fun _ => fun
  | [d1, d2] => { results := [.lit (.bool true)], args := [d1, d2] }
  | _ => none }
def fnExactLetterInRow : OpenClaim := { program := "ytlmkkkpjcpopkaa", sum := "42c67bc623dcc8d3b03afcf6e2c44125b746450a7a0058dad870eb799a54c5fb", func := "loop.example/g00466/laws.FnExactLetterIn", spec := "fnExactLetterIn", unfollowed := true, recurses := true, plainKeys := false, apart := false }
def FnExactLetterInSaid : Prop := fnExactLetterInRow.holds Try.pinned (OpenSpec.ofChange fnExactLetterInSpec)

/-- ITS FALSE NEIGHBOUR: 'it returns false'. Refute it at one input. -/
def fnExactLetterInWrong : ChangeSpec := { name := "fnExactLetterIn", fn := fun _ => fun
  | [d1, d2] => { results := [.lit (.bool false)], args := [d1, d2] }
  | _ => none }
def FnExactLetterInWrongFalsely : Prop := fnExactLetterInRow.holds Try.pinned (OpenSpec.ofChange fnExactLetterInWrong)

/-- 'laws.FnCookies': WHATEVER THE INPUT: true; the input reads as it did. -/
def fnCookiesSpec : ChangeSpec := { name := "fnCookies", fn := fun _ => fun
  | [d] => { results := [.lit (.bool true)], args := [d] }
  | _ => none }
def fnCookiesRow : OpenClaim := { program := "ytlmkkkpjcpopkaa", sum := "42c67bc623dcc8d3b03afcf6e2c44125b746450a7a0058dad870eb799a54c5fb", func := "loop.example/g00466/laws.FnCookies", spec := "fnCookies", unfollowed := true, recurses := true, plainKeys := false, apart := false }
def FnCookiesSaid : Prop := fnCookiesRow.holds Try.pinned (OpenSpec.ofChange fnCookiesSpec)

/-- ITS FALSE NEIGHBOUR: 'it returns false'. Refute it at one input. -/
def fnCookiesWrong : ChangeSpec := { name := "fnCookies", fn := fun _ => fun
  | [d] => { results := [.lit (.bool false)], args := [d] }
  | _ => none }
def FnCookiesWrongFalsely : Prop := fnCookiesRow.holds Try.pinned (OpenSpec.ofChange fnCookiesWrong)

/-- 'laws.FnCerts': WHATEVER THE INPUT: true; the input reads as it did. -/
def fnCertsSpec : ChangeSpec := { name := "fnCerts", fn := fun _ => fun
  | [d] => { results := [.lit (.bool true)], args := [d] }
  | _ => none }
def fnCertsRow : OpenClaim := { program := "ytlmkkkpjcpopkaa", sum := "42c67bc623dcc8d3b03afcf6e2c44125b746450a7a0058dad870eb799a54c5fb", func := "loop.example/g00466/laws.FnCerts", spec := "fnCerts", unfollowed := true, recurses := true, plainKeys := false, apart := false }
def FnCertsSaid : Prop := fnCertsRow.holds Try.pinned (OpenSpec.ofChange fnCertsSpec)

/-- ITS FALSE NEIGHBOUR: 'it returns false'. Refute it at one input. -/
def fnCertsWrong : ChangeSpec := { name := "fnCerts", fn := fun _ => fun
  | [d] => { results := [.lit (.bool false)], args := [d] }
  | _ => none }
def FnCertsWrongFalsely : Prop := fnCertsRow.holds Try.pinned (OpenSpec.ofChange fnCertsWrong)

/- THE SECOND FORM. 'bulk': how many values and letters a reading holds, each counted each time it is reached (what is shared counts as often as it is met; a slice's spare places count too). A statement '..UptoSaid' is the law's where the arguments, and the package variables that the reading takes, are together of bulk at most 1048576: NARROWER than '..Said'. Prove '..Said' where nothing that the law and all that it calls make is longer than what came in: it says more and counts as full. Else prove '..UptoSaid'. A law counts once. -/
mutual
def uptoBulk {H : Type} : DataW H → Nat
  | .lit (.string bytes) => bytes.length + 1
  | .lit _ => 1
  | .nil => 1
  | .ptr d => uptoBulk d + 1
  | .slice elems spare => uptoBulkAll elems + uptoBulkAll spare + 1
  | .agg parts => uptoBulkAll parts + 1
  | .iface _ d => uptoBulk d + 1
  | .map entries => uptoBulkEntries entries + 1
  | .held _ => 1
def uptoBulkAll {H : Type} : List (DataW H) → Nat
  | [] => 0
  | d :: r => uptoBulk d + uptoBulkAll r
def uptoBulkEntries {H : Type} : List (Lit × DataW H) → Nat
  | [] => 0
  | x :: r => uptoBulkEntry x + uptoBulkEntries r
def uptoBulkEntry {H : Type} : Lit × DataW H → Nat
  | (.string bytes, d) => bytes.length + uptoBulk d + 1
  | (_, d) => uptoBulk d + 1
 end
def uptoSmall : (H : Type) → List (DataW H) → Bool := fun _ ds => decide (uptoBulkAll ds ≤ 1048576)
def OpenSpec.upto (s : _root_.Go.ChangeSpec) : _root_.Go.OpenSpec := { _root_.Go.OpenSpec.ofChange s with cond := some uptoSmall }

/-- 'laws.FnHellos', WHERE WHAT IT READS IS OF BULK AT MOST 1048576: true; the input reads as it did. -/
def fnHellosUptoRow : OpenClaim := { program := "ytlmkkkpjcpopkaa", sum := "42c67bc623dcc8d3b03afcf6e2c44125b746450a7a0058dad870eb799a54c5fb", func := "loop.example/g00466/laws.FnHellos", spec := "fnHellos", unfollowed := true, recurses := true, plainKeys := false, apart := false, narrowed := true }
def FnHellosUptoSaid : Prop := fnHellosUptoRow.holds Try.pinned (OpenSpec.upto fnHellosSpec)

/-- 'laws.FnExactHelloTerm', WHERE WHAT IT READS IS OF BULK AT MOST 1048576: true; the input reads as it did. -/
def fnExactHelloTermUptoRow : OpenClaim := { program := "ytlmkkkpjcpopkaa", sum := "42c67bc623dcc8d3b03afcf6e2c44125b746450a7a0058dad870eb799a54c5fb", func := "loop.example/g00466/laws.FnExactHelloTerm", spec := "fnExactHelloTerm", unfollowed := true, recurses := true, plainKeys := false, apart := false, narrowed := true }
def FnExactHelloTermUptoSaid : Prop := fnExactHelloTermUptoRow.holds Try.pinned (OpenSpec.upto fnExactHelloTermSpec)

/-- 'laws.FnExactHelloIn', WHERE WHAT IT READS IS OF BULK AT MOST 1048576: true; the input reads as it did. -/
def fnExactHelloInUptoRow : OpenClaim := { program := "ytlmkkkpjcpopkaa", sum := "42c67bc623dcc8d3b03afcf6e2c44125b746450a7a0058dad870eb799a54c5fb", func := "loop.example/g00466/laws.FnExactHelloIn", spec := "fnExactHelloIn", unfollowed := true, recurses := true, plainKeys := false, apart := false, narrowed := true }
def FnExactHelloInUptoSaid : Prop := fnExactHelloInUptoRow.holds Try.pinned (OpenSpec.upto fnExactHelloInSpec)

/-- 'laws.FnExactServerTerm', WHERE WHAT IT READS IS OF BULK AT MOST 1048576: true; the input reads as it did. -/
def fnExactServerTermUptoRow : OpenClaim := { program := "ytlmkkkpjcpopkaa", sum := "42c67bc623dcc8d3b03afcf6e2c44125b746450a7a0058dad870eb799a54c5fb", func := "loop.example/g00466/laws.FnExactServerTerm", spec := "fnExactServerTerm", unfollowed := true, recurses := true, plainKeys := false, apart := false, narrowed := true }
def FnExactServerTermUptoSaid : Prop := fnExactServerTermUptoRow.holds Try.pinned (OpenSpec.upto fnExactServerTermSpec)

/-- 'laws.FnExactServerIn', WHERE WHAT IT READS IS OF BULK AT MOST 1048576: true; the input reads as it did. -/
def fnExactServerInUptoRow : OpenClaim := { program := "ytlmkkkpjcpopkaa", sum := "42c67bc623dcc8d3b03afcf6e2c44125b746450a7a0058dad870eb799a54c5fb", func := "loop.example/g00466/laws.FnExactServerIn", spec := "fnExactServerIn", unfollowed := true, recurses := true, plainKeys := false, apart := false, narrowed := true }
def FnExactServerInUptoSaid : Prop := fnExactServerInUptoRow.holds Try.pinned (OpenSpec.upto fnExactServerInSpec)

/-- 'laws.FnExactLetterOf', WHERE WHAT IT READS IS OF BULK AT MOST 1048576: true; the input reads as it did. -/
def fnExactLetterOfUptoRow : OpenClaim := { program := "ytlmkkkpjcpopkaa", sum := "42c67bc623dcc8d3b03afcf6e2c44125b746450a7a0058dad870eb799a54c5fb", func := "loop.example/g00466/laws.FnExactLetterOf", spec := "fnExactLetterOf", unfollowed := true, recurses := true, plainKeys := false, apart := false, narrowed := true }
def FnExactLetterOfUptoSaid : Prop := fnExactLetterOfUptoRow.holds Try.pinned (OpenSpec.upto fnExactLetterOfSpec)

/-- 'laws.FnExactLetterIn', WHERE WHAT IT READS IS OF BULK AT MOST 1048576: true; the input reads as it did. -/
def fnExactLetterInUptoRow : OpenClaim := { program := "ytlmkkkpjcpopkaa", sum := "42c67bc623dcc8d3b03afcf6e2c44125b746450a7a0058dad870eb799a54c5fb", func := "loop.example/g00466/laws.FnExactLetterIn", spec := "fnExactLetterIn", unfollowed := true, recurses := true, plainKeys := false, apart := false, narrowed := true }
def FnExactLetterInUptoSaid : Prop := fnExactLetterInUptoRow.holds Try.pinned (OpenSpec.upto fnExactLetterInSpec)

/-- 'laws.FnCookies', WHERE WHAT IT READS IS OF BULK AT MOST 1048576: true; the input reads as it did. -/
def fnCookiesUptoRow : OpenClaim := { program := "ytlmkkkpjcpopkaa", sum := "42c67bc623dcc8d3b03afcf6e2c44125b746450a7a0058dad870eb799a54c5fb", func := "loop.example/g00466/laws.FnCookies", spec := "fnCookies", unfollowed := true, recurses := true, plainKeys := false, apart := false, narrowed := true }
def FnCookiesUptoSaid : Prop := fnCookiesUptoRow.holds Try.pinned (OpenSpec.upto fnCookiesSpec)

/-- 'laws.FnCerts', WHERE WHAT IT READS IS OF BULK AT MOST 1048576: true; the input reads as it did. -/
def fnCertsUptoRow : OpenClaim := { program := "ytlmkkkpjcpopkaa", sum := "42c67bc623dcc8d3b03afcf6e2c44125b746450a7a0058dad870eb799a54c5fb", func := "loop.example/g00466/laws.FnCerts", spec := "fnCerts", unfollowed := true, recurses := true, plainKeys := false, apart := false, narrowed := true }
def FnCertsUptoSaid : Prop := fnCertsUptoRow.holds Try.pinned (OpenSpec.upto fnCertsSpec)

end Rows
end Go.Proofs.Ytlmkkkpjcpopkaa
