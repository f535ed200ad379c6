/-
  No cell of these rows narrows 'for every input' (looked for: loops, veiled, ifaces, maps, wideKeys, modest, calm, conditions, laid).
  DERIVED. THE GIVEN ROWS OF THIS SEAT. 6 by the template 'for every input the law returns true; each argument reads behind the call as it read before'; 0 by the template 'total and deterministic' (their statements: YtpfncjnhmkjceaaTotals.lean).
  GIVEN WITH THE SEED: the statements are not yours to turn. If you find one false, say at which input.
  Laid BY PROGRAM, IN A SANDBOX (cutbox-rows.mjs): the forced cells as the released guide's own fill.sh prints them over the translation 965830a99c641947… (all of the seat's roots in one cut). By AI agents, Wed Nov 11 2026. No macro, syntax, notation, axiom, sorry.
-/
import Derived.Test.YtpfncjnhmkjceaaChecked
import GoSem.Claim
import GoSem.ClaimJoined
import GoSem.ClaimMapViews
import Derived.JoinedTies
import Derived.KernelRfl
namespace Go.Proofs.Ytpfncjnhmkjceaa
/- THE CELL 'sum', in the pinned program and in every row, IS THE sha256 OF THE DUMP (.gsa) THAT YtpfncjnhmkjceaaProg.lean LOADS. Nothing in Lean hashes anything: it is a label: what it is worth is what the hold of that sum in a sandbox is worth. -/
noncomputable def Try.pinned : Pinned := { name := "ytpfncjnhmkjceaa", sum := "965830a99c641947a4c05d67ef93bfc9d18cebb1ccf5da9c6fbd73d77bf69687", checked := Try.checked }
namespace Rows
def none {H : Type} : Left H := { results := [], args := [] }

/-- 'laws.FnMakes': WHATEVER THE INPUT: true; the input reads as it did. -/
def fnMakesSpec : ChangeSpec := { name := "fnMakes", fn := fun _ => fun
  | [d] => { results := [.lit (.bool true)], args := [d] }
  | _ => none }
def fnMakesRow : OpenClaim := { program := "ytpfncjnhmkjceaa", sum := "965830a99c641947a4c05d67ef93bfc9d18cebb1ccf5da9c6fbd73d77bf69687", func := "loop.example/g00466/laws.FnMakes", spec := "fnMakes", inPlace := ["internal/bytealg.abigen_runtime_cmpstring"], unfollowed := true, recurses := true, plainKeys := false, apart := false }
def FnMakesSaid : Prop := fnMakesRow.holds Try.pinned (OpenSpec.ofChange fnMakesSpec)

/-- ITS FALSE NEIGHBOUR: 'it returns false'. Refute it at one input. -/
def fnMakesWrong : ChangeSpec := { name := "fnMakes", fn := fun _ => fun
  | [d] => { results := [.lit (.bool false)], args := [d] }
  | _ => none }
def FnMakesWrongFalsely : Prop := fnMakesRow.holds Try.pinned (OpenSpec.ofChange fnMakesWrong)

/-- 'laws.FnMakesTold': WHATEVER THE INPUT: true; the input reads as it did. -/
def fnMakesToldSpec : ChangeSpec := { name := "fnMakesTold", fn := fun _ => fun
  | [d] => { results := [.lit (.bool true)], args := [d] }
  | _ => none }
def fnMakesToldRow : OpenClaim := { program := "ytpfncjnhmkjceaa", sum := "965830a99c641947a4c05d67ef93bfc9d18cebb1ccf5da9c6fbd73d77bf69687", func := "loop.example/g00466/laws.FnMakesTold", spec := "fnMakesTold", inPlace := ["internal/bytealg.abigen_runtime_cmpstring"], unfollowed := true, recurses := true, plainKeys := false, apart := false }
def FnMakesToldSaid : Prop := fnMakesToldRow.holds Try.pinned (OpenSpec.ofChange fnMakesToldSpec)

/-- ITS FALSE NEIGHBOUR: 'it returns false'. Refute it at one input. -/
def fnMakesToldWrong : ChangeSpec := { name := "fnMakesTold", fn := fun _ => fun
  | [d] => { results := [.lit (.bool false)], args := [d] }
  | _ => none }
def FnMakesToldWrongFalsely : Prop := fnMakesToldRow.holds Try.pinned (OpenSpec.ofChange fnMakesToldWrong)

/-- 'laws.FnSecrets': WHATEVER THE INPUT: true; the input reads as it did. -/
def fnSecretsSpec : ChangeSpec := { name := "fnSecrets", fn := fun _ => fun
  | [d] => { results := [.lit (.bool true)], args := [d] }
  | _ => none }
def fnSecretsRow : OpenClaim := { program := "ytpfncjnhmkjceaa", sum := "965830a99c641947a4c05d67ef93bfc9d18cebb1ccf5da9c6fbd73d77bf69687", func := "loop.example/g00466/laws.FnSecrets", spec := "fnSecrets", unfollowed := true, recurses := true, plainKeys := false, apart := false }
def FnSecretsSaid : Prop := fnSecretsRow.holds Try.pinned (OpenSpec.ofChange fnSecretsSpec)

/-- ITS FALSE NEIGHBOUR: 'it returns false'. Refute it at one input. -/
def fnSecretsWrong : ChangeSpec := { name := "fnSecrets", fn := fun _ => fun
  | [d] => { results := [.lit (.bool false)], args := [d] }
  | _ => none }
def FnSecretsWrongFalsely : Prop := fnSecretsRow.holds Try.pinned (OpenSpec.ofChange fnSecretsWrong)

/-- 'laws.FnSecretsTold': WHATEVER THE INPUT: true; the input reads as it did. -/
def fnSecretsToldSpec : ChangeSpec := { name := "fnSecretsTold", fn := fun _ => fun
  | [d] => { results := [.lit (.bool true)], args := [d] }
  | _ => none }
def fnSecretsToldRow : OpenClaim := { program := "ytpfncjnhmkjceaa", sum := "965830a99c641947a4c05d67ef93bfc9d18cebb1ccf5da9c6fbd73d77bf69687", func := "loop.example/g00466/laws.FnSecretsTold", spec := "fnSecretsTold", unfollowed := true, recurses := true, plainKeys := false, apart := false }
def FnSecretsToldSaid : Prop := fnSecretsToldRow.holds Try.pinned (OpenSpec.ofChange fnSecretsToldSpec)

/-- ITS FALSE NEIGHBOUR: 'it returns false'. Refute it at one input. -/
def fnSecretsToldWrong : ChangeSpec := { name := "fnSecretsTold", fn := fun _ => fun
  | [d] => { results := [.lit (.bool false)], args := [d] }
  | _ => none }
def FnSecretsToldWrongFalsely : Prop := fnSecretsToldRow.holds Try.pinned (OpenSpec.ofChange fnSecretsToldWrong)

/-- 'laws.FnCookies': WHATEVER THE INPUT: true; the input reads as it did. -/
def fnCookiesSpec : ChangeSpec := { name := "fnCookies", fn := fun _ => fun
  | [d] => { results := [.lit (.bool true)], args := [d] }
  | _ => none }
def fnCookiesRow : OpenClaim := { program := "ytpfncjnhmkjceaa", sum := "965830a99c641947a4c05d67ef93bfc9d18cebb1ccf5da9c6fbd73d77bf69687", func := "loop.example/g00466/laws.FnCookies", spec := "fnCookies", unfollowed := true, recurses := true, plainKeys := false, apart := false }
def FnCookiesSaid : Prop := fnCookiesRow.holds Try.pinned (OpenSpec.ofChange fnCookiesSpec)

/-- ITS FALSE NEIGHBOUR: 'it returns false'. Refute it at one input. -/
def fnCookiesWrong : ChangeSpec := { name := "fnCookies", fn := fun _ => fun
  | [d] => { results := [.lit (.bool false)], args := [d] }
  | _ => none }
def FnCookiesWrongFalsely : Prop := fnCookiesRow.holds Try.pinned (OpenSpec.ofChange fnCookiesWrong)

/-- 'laws.FnExactParts': WHATEVER THE INPUT: true; the input reads as it did. -/
def fnExactPartsSpec : ChangeSpec := { name := "fnExactParts", fn := fun _ => fun
  | [d1, d2, d3] => { results := [.lit (.bool true)], args := [d1, d2, d3] }
  | _ => none }
def fnExactPartsRow : OpenClaim := { program := "ytpfncjnhmkjceaa", sum := "965830a99c641947a4c05d67ef93bfc9d18cebb1ccf5da9c6fbd73d77bf69687", func := "loop.example/g00466/laws.FnExactParts", spec := "fnExactParts", unfollowed := true, recurses := true, plainKeys := false, apart := false }
def FnExactPartsSaid : Prop := fnExactPartsRow.holds Try.pinned (OpenSpec.ofChange fnExactPartsSpec)

/-- ITS FALSE NEIGHBOUR: 'it returns false'. Refute it at one input. -/
def fnExactPartsWrong : ChangeSpec := { name := "fnExactParts", fn := fun _ => fun
  | [d1, d2, d3] => { results := [.lit (.bool false)], args := [d1, d2, d3] }
  | _ => none }
def FnExactPartsWrongFalsely : Prop := fnExactPartsRow.holds Try.pinned (OpenSpec.ofChange fnExactPartsWrong)

/- THE SECOND FORM. 'bulk': how many values and letters a reading holds, each counted each time it is reached (what is shared counts as often as it is met; a slice's spare places count too). A statement '..UptoSaid' is the law's where the arguments, and the package variables that the reading takes, are together of bulk at most 1048576: NARROWER than '..Said'. Prove '..Said' where nothing that the law and all that it calls make is longer than what came in: it says more and counts as full. Else prove '..UptoSaid'. A law counts once. -/
mutual
def uptoBulk {H : Type} : DataW H → Nat
  | .lit (.string bytes) => bytes.length + 1
  | .lit _ => 1
  | .nil => 1
  | .ptr d => uptoBulk d + 1
  | .slice elems spare => uptoBulkAll elems + uptoBulkAll spare + 1
  | .agg parts => uptoBulkAll parts + 1
  | .iface _ d => uptoBulk d + 1
  | .map entries => uptoBulkEntries entries + 1
  | .held _ => 1
def uptoBulkAll {H : Type} : List (DataW H) → Nat
  | [] => 0
  | d :: r => uptoBulk d + uptoBulkAll r
def uptoBulkEntries {H : Type} : List (Lit × DataW H) → Nat
  | [] => 0
  | x :: r => uptoBulkEntry x + uptoBulkEntries r
def uptoBulkEntry {H : Type} : Lit × DataW H → Nat
  | (.string bytes, d) => bytes.length + uptoBulk d + 1
  | (_, d) => uptoBulk d + 1
 end
def uptoSmall : (H : Type) → List (DataW H) → Bool := fun _ ds => decide (uptoBulkAll ds ≤ 1048576)
def OpenSpec.upto (s : _root_.Go.ChangeSpec) : _root_.Go.OpenSpec := { _root_.Go.OpenSpec.ofChange s with cond := some uptoSmall }

/-- 'laws.FnMakes', WHERE WHAT IT READS IS OF BULK AT MOST 1048576: true; the input reads as it did. -/
def fnMakesUptoRow : OpenClaim := { program := "ytpfncjnhmkjceaa", sum := "965830a99c641947a4c05d67ef93bfc9d18cebb1ccf5da9c6fbd73d77bf69687", func := "loop.example/g00466/laws.FnMakes", spec := "fnMakes", inPlace := ["internal/bytealg.abigen_runtime_cmpstring"], unfollowed := true, recurses := true, plainKeys := false, apart := false, narrowed := true }
def FnMakesUptoSaid : Prop := fnMakesUptoRow.holds Try.pinned (OpenSpec.upto fnMakesSpec)

/-- 'laws.FnMakesTold', WHERE WHAT IT READS IS OF BULK AT MOST 1048576: true; the input reads as it did. -/
def fnMakesToldUptoRow : OpenClaim := { program := "ytpfncjnhmkjceaa", sum := "965830a99c641947a4c05d67ef93bfc9d18cebb1ccf5da9c6fbd73d77bf69687", func := "loop.example/g00466/laws.FnMakesTold", spec := "fnMakesTold", inPlace := ["internal/bytealg.abigen_runtime_cmpstring"], unfollowed := true, recurses := true, plainKeys := false, apart := false, narrowed := true }
def FnMakesToldUptoSaid : Prop := fnMakesToldUptoRow.holds Try.pinned (OpenSpec.upto fnMakesToldSpec)

/-- 'laws.FnSecrets', WHERE WHAT IT READS IS OF BULK AT MOST 1048576: true; the input reads as it did. -/
def fnSecretsUptoRow : OpenClaim := { program := "ytpfncjnhmkjceaa", sum := "965830a99c641947a4c05d67ef93bfc9d18cebb1ccf5da9c6fbd73d77bf69687", func := "loop.example/g00466/laws.FnSecrets", spec := "fnSecrets", unfollowed := true, recurses := true, plainKeys := false, apart := false, narrowed := true }
def FnSecretsUptoSaid : Prop := fnSecretsUptoRow.holds Try.pinned (OpenSpec.upto fnSecretsSpec)

/-- 'laws.FnSecretsTold', WHERE WHAT IT READS IS OF BULK AT MOST 1048576: true; the input reads as it did. -/
def fnSecretsToldUptoRow : OpenClaim := { program := "ytpfncjnhmkjceaa", sum := "965830a99c641947a4c05d67ef93bfc9d18cebb1ccf5da9c6fbd73d77bf69687", func := "loop.example/g00466/laws.FnSecretsTold", spec := "fnSecretsTold", unfollowed := true, recurses := true, plainKeys := false, apart := false, narrowed := true }
def FnSecretsToldUptoSaid : Prop := fnSecretsToldUptoRow.holds Try.pinned (OpenSpec.upto fnSecretsToldSpec)

/-- 'laws.FnCookies', WHERE WHAT IT READS IS OF BULK AT MOST 1048576: true; the input reads as it did. -/
def fnCookiesUptoRow : OpenClaim := { program := "ytpfncjnhmkjceaa", sum := "965830a99c641947a4c05d67ef93bfc9d18cebb1ccf5da9c6fbd73d77bf69687", func := "loop.example/g00466/laws.FnCookies", spec := "fnCookies", unfollowed := true, recurses := true, plainKeys := false, apart := false, narrowed := true }
def FnCookiesUptoSaid : Prop := fnCookiesUptoRow.holds Try.pinned (OpenSpec.upto fnCookiesSpec)

/-- 'laws.FnExactParts', WHERE WHAT IT READS IS OF BULK AT MOST 1048576: true; the input reads as it did. -/
def fnExactPartsUptoRow : OpenClaim := { program := "ytpfncjnhmkjceaa", sum := "965830a99c641947a4c05d67ef93bfc9d18cebb1ccf5da9c6fbd73d77bf69687", func := "loop.example/g00466/laws.FnExactParts", spec := "fnExactParts", unfollowed := true, recurses := true, plainKeys := false, apart := false, narrowed := true }
def FnExactPartsUptoSaid : Prop := fnExactPartsUptoRow.holds Try.pinned (OpenSpec.upto fnExactPartsSpec)

end Rows
end Go.Proofs.Ytpfncjnhmkjceaa
