/-
  No cell of these rows narrows 'for every input' (looked for: loops, veiled, ifaces, maps, wideKeys, modest, calm, conditions, laid).
  DERIVED. THE GIVEN ROWS OF THIS SEAT. 12 by the template 'for every input the law returns true; each argument reads behind the call as it read before'; 0 by the template 'total and deterministic' (their statements: YtffnadnndmmliaaTotals.lean).
  GIVEN WITH THE SEED: the statements are not yours to turn. If you find one false, say at which input.
  Laid BY PROGRAM, IN A SANDBOX (cutbox-rows.mjs): the forced cells as the released guide's own fill.sh prints them over the translation c724340f67ec96b1… (all of the seat's roots in one cut). By AI agents, Wed Nov 11 2026. No macro, syntax, notation, axiom, sorry.
-/
import Derived.Test.YtffnadnndmmliaaChecked
import GoSem.Claim
import GoSem.ClaimJoined
import GoSem.ClaimMapViews
import Derived.JoinedTies
import Derived.KernelRfl
namespace Go.Proofs.Ytffnadnndmmliaa
/- THE CELL 'sum', in the pinned program and in every row, IS THE sha256 OF THE DUMP (.gsa) THAT YtffnadnndmmliaaProg.lean LOADS. Nothing in Lean hashes anything: it is a label: what it is worth is what the hold of that sum in a sandbox is worth. -/
noncomputable def Try.pinned : Pinned := { name := "ytffnadnndmmliaa", sum := "c724340f67ec96b11ca1223e5583c7dc2a14b284bf8812cd2d84244f35c28066", checked := Try.checked }
namespace Rows
def none {H : Type} : Left H := { results := [], args := [] }

/-- 'laws.FnExactReadTerm': WHATEVER THE INPUT: true; the input reads as it did. -/
def fnExactReadTermSpec : ChangeSpec := { name := "fnExactReadTerm", fn := fun _ => fun
  | [d1, d2] => { results := [.lit (.bool true)], args := [d1, d2] }
  | _ => none }
def fnExactReadTermRow : OpenClaim := { program := "ytffnadnndmmliaa", sum := "c724340f67ec96b11ca1223e5583c7dc2a14b284bf8812cd2d84244f35c28066", func := "loop.example/g00466/laws.FnExactReadTerm", spec := "fnExactReadTerm", unfollowed := true, recurses := true, plainKeys := false, apart := false }
def FnExactReadTermSaid : Prop := fnExactReadTermRow.holds Try.pinned (OpenSpec.ofChange fnExactReadTermSpec)

/-- ITS FALSE NEIGHBOUR: 'it returns false'. Refute it at one input. -/
def fnExactReadTermWrong : ChangeSpec := { name := "fnExactReadTerm", fn := fun _ => fun
  | [d1, d2] => { results := [.lit (.bool false)], args := [d1, d2] }
  | _ => none }
def FnExactReadTermWrongFalsely : Prop := fnExactReadTermRow.holds Try.pinned (OpenSpec.ofChange fnExactReadTermWrong)

/-- 'laws.FnTerms': WHATEVER THE INPUT: true; the input reads as it did. -/
def fnTermsSpec : ChangeSpec := { name := "fnTerms", fn := fun _ => fun
  | [d] => { results := [.lit (.bool true)], args := [d] }
  | _ => none }
def fnTermsRow : OpenClaim := { program := "ytffnadnndmmliaa", sum := "c724340f67ec96b11ca1223e5583c7dc2a14b284bf8812cd2d84244f35c28066", func := "loop.example/g00466/laws.FnTerms", spec := "fnTerms", unfollowed := true, recurses := true, plainKeys := false, apart := false }
def FnTermsSaid : Prop := fnTermsRow.holds Try.pinned (OpenSpec.ofChange fnTermsSpec)

/-- ITS FALSE NEIGHBOUR: 'it returns false'. Refute it at one input. -/
def fnTermsWrong : ChangeSpec := { name := "fnTerms", fn := fun _ => fun
  | [d] => { results := [.lit (.bool false)], args := [d] }
  | _ => none }
def FnTermsWrongFalsely : Prop := fnTermsRow.holds Try.pinned (OpenSpec.ofChange fnTermsWrong)

/-- 'laws.FnTermsTold': WHATEVER THE INPUT: true; the input reads as it did. -/
def fnTermsToldSpec : ChangeSpec := { name := "fnTermsTold", fn := fun _ => fun
  | [d] => { results := [.lit (.bool true)], args := [d] }
  | _ => none }
def fnTermsToldRow : OpenClaim := { program := "ytffnadnndmmliaa", sum := "c724340f67ec96b11ca1223e5583c7dc2a14b284bf8812cd2d84244f35c28066", func := "loop.example/g00466/laws.FnTermsTold", spec := "fnTermsTold", unfollowed := true, recurses := true, plainKeys := false, apart := false }
def FnTermsToldSaid : Prop := fnTermsToldRow.holds Try.pinned (OpenSpec.ofChange fnTermsToldSpec)

/-- ITS FALSE NEIGHBOUR: 'it returns false'. Refute it at one input. -/
def fnTermsToldWrong : ChangeSpec := { name := "fnTermsTold", fn := fun _ => fun
  | [d] => { results := [.lit (.bool false)], args := [d] }
  | _ => none }
def FnTermsToldWrongFalsely : Prop := fnTermsToldRow.holds Try.pinned (OpenSpec.ofChange fnTermsToldWrong)

/-- 'laws.FnExactEpochSecret': WHATEVER THE INPUT: true; the input reads as it did. -/
def fnExactEpochSecretSpec : ChangeSpec := { name := "fnExactEpochSecret", fn := fun _ => fun
  | [d1, d2, d3] => { results := [.lit (.bool true)], args := [d1, d2, d3] }
  | _ => none }
def fnExactEpochSecretRow : OpenClaim := { program := "ytffnadnndmmliaa", sum := "c724340f67ec96b11ca1223e5583c7dc2a14b284bf8812cd2d84244f35c28066", func := "loop.example/g00466/laws.FnExactEpochSecret", spec := "fnExactEpochSecret", unfollowed := true, recurses := true, plainKeys := false, apart := false }
def FnExactEpochSecretSaid : Prop := fnExactEpochSecretRow.holds Try.pinned (OpenSpec.ofChange fnExactEpochSecretSpec)

/-- ITS FALSE NEIGHBOUR: 'it returns false'. Refute it at one input. -/
def fnExactEpochSecretWrong : ChangeSpec := { name := "fnExactEpochSecret", fn := fun _ => fun
  | [d1, d2, d3] => { results := [.lit (.bool false)], args := [d1, d2, d3] }
  | _ => none }
def FnExactEpochSecretWrongFalsely : Prop := fnExactEpochSecretRow.holds Try.pinned (OpenSpec.ofChange fnExactEpochSecretWrong)

/-- 'laws.FnSecrets': WHATEVER THE INPUT: true; the input reads as it did. -/
def fnSecretsSpec : ChangeSpec := { name := "fnSecrets", fn := fun _ => fun
  | [d] => { results := [.lit (.bool true)], args := [d] }
  | _ => none }
def fnSecretsRow : OpenClaim := { program := "ytffnadnndmmliaa", sum := "c724340f67ec96b11ca1223e5583c7dc2a14b284bf8812cd2d84244f35c28066", func := "loop.example/g00466/laws.FnSecrets", spec := "fnSecrets", unfollowed := true, recurses := true, plainKeys := false, apart := false }
def FnSecretsSaid : Prop := fnSecretsRow.holds Try.pinned (OpenSpec.ofChange fnSecretsSpec)

/-- ITS FALSE NEIGHBOUR: 'it returns false'. Refute it at one input. -/
def fnSecretsWrong : ChangeSpec := { name := "fnSecrets", fn := fun _ => fun
  | [d] => { results := [.lit (.bool false)], args := [d] }
  | _ => none }
def FnSecretsWrongFalsely : Prop := fnSecretsRow.holds Try.pinned (OpenSpec.ofChange fnSecretsWrong)

/-- 'laws.FnSecretsTold': WHATEVER THE INPUT: true; the input reads as it did. -/
def fnSecretsToldSpec : ChangeSpec := { name := "fnSecretsTold", fn := fun _ => fun
  | [d] => { results := [.lit (.bool true)], args := [d] }
  | _ => none }
def fnSecretsToldRow : OpenClaim := { program := "ytffnadnndmmliaa", sum := "c724340f67ec96b11ca1223e5583c7dc2a14b284bf8812cd2d84244f35c28066", func := "loop.example/g00466/laws.FnSecretsTold", spec := "fnSecretsTold", unfollowed := true, recurses := true, plainKeys := false, apart := false }
def FnSecretsToldSaid : Prop := fnSecretsToldRow.holds Try.pinned (OpenSpec.ofChange fnSecretsToldSpec)

/-- ITS FALSE NEIGHBOUR: 'it returns false'. Refute it at one input. -/
def fnSecretsToldWrong : ChangeSpec := { name := "fnSecretsTold", fn := fun _ => fun
  | [d] => { results := [.lit (.bool false)], args := [d] }
  | _ => none }
def FnSecretsToldWrongFalsely : Prop := fnSecretsToldRow.holds Try.pinned (OpenSpec.ofChange fnSecretsToldWrong)

/-- 'laws.FnExactRecordOf': WHATEVER THE INPUT: true; the input reads as it did. -/
def fnExactRecordOfSpec : ChangeSpec := { name := "fnExactRecordOf", fn := fun _ => fun
  | [d1, d2, d3, d4, d5] => { results := [.lit (.bool true)], args := [d1, d2, d3, d4, d5] }
  | _ => none }
def fnExactRecordOfRow : OpenClaim := { program := "ytffnadnndmmliaa", sum := "c724340f67ec96b11ca1223e5583c7dc2a14b284bf8812cd2d84244f35c28066", func := "loop.example/g00466/laws.FnExactRecordOf", spec := "fnExactRecordOf", unfollowed := true, recurses := true, plainKeys := false, apart := false }
def FnExactRecordOfSaid : Prop := fnExactRecordOfRow.holds Try.pinned (OpenSpec.ofChange fnExactRecordOfSpec)

/-- ITS FALSE NEIGHBOUR: 'it returns false'. Refute it at one input. -/
def fnExactRecordOfWrong : ChangeSpec := { name := "fnExactRecordOf", fn := fun _ => fun
  | [d1, d2, d3, d4, d5] => { results := [.lit (.bool false)], args := [d1, d2, d3, d4, d5] }
  | _ => none }
def FnExactRecordOfWrongFalsely : Prop := fnExactRecordOfRow.holds Try.pinned (OpenSpec.ofChange fnExactRecordOfWrong)

/-- 'laws.FnExactCookieOf': WHATEVER THE INPUT: true; the input reads as it did. -/
def fnExactCookieOfSpec : ChangeSpec := { name := "fnExactCookieOf", fn := fun _ => fun
  | [d1, d2, d3, d4] => { results := [.lit (.bool true)], args := [d1, d2, d3, d4] }
  | _ => none }
def fnExactCookieOfRow : OpenClaim := { program := "ytffnadnndmmliaa", sum := "c724340f67ec96b11ca1223e5583c7dc2a14b284bf8812cd2d84244f35c28066", func := "loop.example/g00466/laws.FnExactCookieOf", spec := "fnExactCookieOf", unfollowed := true, recurses := true, plainKeys := false, apart := false }
def FnExactCookieOfSaid : Prop := fnExactCookieOfRow.holds Try.pinned (OpenSpec.ofChange fnExactCookieOfSpec)

/-- ITS FALSE NEIGHBOUR: 'it returns false'. Refute it at one input. -/
def fnExactCookieOfWrong : ChangeSpec := { name := "fnExactCookieOf", fn := fun _ => fun
  | [d1, d2, d3, d4] => { results := [.lit (.bool false)], args := [d1, d2, d3, d4] }
  | _ => none }
def FnExactCookieOfWrongFalsely : Prop := fnExactCookieOfRow.holds Try.pinned (OpenSpec.ofChange fnExactCookieOfWrong)

/-- 'laws.FnCookies': WHATEVER THE INPUT: true; the input reads as it did. -/
def fnCookiesSpec : ChangeSpec := { name := "fnCookies", fn := fun _ => fun
  | [d] => { results := [.lit (.bool true)], args := [d] }
  | _ => none }
def fnCookiesRow : OpenClaim := { program := "ytffnadnndmmliaa", sum := "c724340f67ec96b11ca1223e5583c7dc2a14b284bf8812cd2d84244f35c28066", func := "loop.example/g00466/laws.FnCookies", spec := "fnCookies", unfollowed := true, recurses := true, plainKeys := false, apart := false }
def FnCookiesSaid : Prop := fnCookiesRow.holds Try.pinned (OpenSpec.ofChange fnCookiesSpec)

/-- ITS FALSE NEIGHBOUR: 'it returns false'. Refute it at one input. -/
def fnCookiesWrong : ChangeSpec := { name := "fnCookies", fn := fun _ => fun
  | [d] => { results := [.lit (.bool false)], args := [d] }
  | _ => none }
def FnCookiesWrongFalsely : Prop := fnCookiesRow.holds Try.pinned (OpenSpec.ofChange fnCookiesWrong)

/-- 'laws.FnExactCertOf': WHATEVER THE INPUT: true; the input reads as it did. -/
def fnExactCertOfSpec : ChangeSpec := { name := "fnExactCertOf", fn := fun _ => fun
  | [d1, d2] => { results := [.lit (.bool true)], args := [d1, d2] }
  | _ => none }
def fnExactCertOfRow : OpenClaim := { program := "ytffnadnndmmliaa", sum := "c724340f67ec96b11ca1223e5583c7dc2a14b284bf8812cd2d84244f35c28066", func := "loop.example/g00466/laws.FnExactCertOf", spec := "fnExactCertOf", unfollowed := true, recurses := true, plainKeys := false, apart := false }
def FnExactCertOfSaid : Prop := fnExactCertOfRow.holds Try.pinned (OpenSpec.ofChange fnExactCertOfSpec)

/-- ITS FALSE NEIGHBOUR: 'it returns false'. Refute it at one input. -/
def fnExactCertOfWrong : ChangeSpec := { name := "fnExactCertOf", fn := fun _ => fun
  | [d1, d2] => { results := [.lit (.bool false)], args := [d1, d2] }
  | _ => none }
def FnExactCertOfWrongFalsely : Prop := fnExactCertOfRow.holds Try.pinned (OpenSpec.ofChange fnExactCertOfWrong)

/-- 'laws.FnCerts': WHATEVER THE INPUT: true; the input reads as it did. -/
def fnCertsSpec : ChangeSpec := { name := "fnCerts", fn := fun _ => fun
  | [d] => { results := [.lit (.bool true)], args := [d] }
  | _ => none }
def fnCertsRow : OpenClaim := { program := "ytffnadnndmmliaa", sum := "c724340f67ec96b11ca1223e5583c7dc2a14b284bf8812cd2d84244f35c28066", func := "loop.example/g00466/laws.FnCerts", spec := "fnCerts", unfollowed := true, recurses := true, plainKeys := false, apart := false }
def FnCertsSaid : Prop := fnCertsRow.holds Try.pinned (OpenSpec.ofChange fnCertsSpec)

/-- ITS FALSE NEIGHBOUR: 'it returns false'. Refute it at one input. -/
def fnCertsWrong : ChangeSpec := { name := "fnCerts", fn := fun _ => fun
  | [d] => { results := [.lit (.bool false)], args := [d] }
  | _ => none }
def FnCertsWrongFalsely : Prop := fnCertsRow.holds Try.pinned (OpenSpec.ofChange fnCertsWrong)

/-- 'laws.FnExactHandOf': WHATEVER THE INPUT: true; the input reads as it did. -/
def fnExactHandOfSpec : ChangeSpec := { name := "fnExactHandOf", fn := fun _ => fun
  | [d1, d2, d3, d4, d5, d6, d7] => { results := [.lit (.bool true)], args := [d1, d2, d3, d4, d5, d6, d7] }
  | _ => none }
def fnExactHandOfRow : OpenClaim := { program := "ytffnadnndmmliaa", sum := "c724340f67ec96b11ca1223e5583c7dc2a14b284bf8812cd2d84244f35c28066", func := "loop.example/g00466/laws.FnExactHandOf", spec := "fnExactHandOf", inPlace := ["internal/bytealg.abigen_runtime_cmpstring"], unfollowed := true, recurses := true, plainKeys := false, apart := false }
def FnExactHandOfSaid : Prop := fnExactHandOfRow.holds Try.pinned (OpenSpec.ofChange fnExactHandOfSpec)

/-- ITS FALSE NEIGHBOUR: 'it returns false'. Refute it at one input. -/
def fnExactHandOfWrong : ChangeSpec := { name := "fnExactHandOf", fn := fun _ => fun
  | [d1, d2, d3, d4, d5, d6, d7] => { results := [.lit (.bool false)], args := [d1, d2, d3, d4, d5, d6, d7] }
  | _ => none }
def FnExactHandOfWrongFalsely : Prop := fnExactHandOfRow.holds Try.pinned (OpenSpec.ofChange fnExactHandOfWrong)

/- THE SECOND FORM. 'bulk': how many values and letters a reading holds, each counted each time it is reached (what is shared counts as often as it is met; a slice's spare places count too). A statement '..UptoSaid' is the law's where the arguments, and the package variables that the reading takes, are together of bulk at most 1048576: NARROWER than '..Said'. Prove '..Said' where nothing that the law and all that it calls make is longer than what came in: it says more and counts as full. Else prove '..UptoSaid'. A law counts once. -/
mutual
def uptoBulk {H : Type} : DataW H → Nat
  | .lit (.string bytes) => bytes.length + 1
  | .lit _ => 1
  | .nil => 1
  | .ptr d => uptoBulk d + 1
  | .slice elems spare => uptoBulkAll elems + uptoBulkAll spare + 1
  | .agg parts => uptoBulkAll parts + 1
  | .iface _ d => uptoBulk d + 1
  | .map entries => uptoBulkEntries entries + 1
  | .held _ => 1
def uptoBulkAll {H : Type} : List (DataW H) → Nat
  | [] => 0
  | d :: r => uptoBulk d + uptoBulkAll r
def uptoBulkEntries {H : Type} : List (Lit × DataW H) → Nat
  | [] => 0
  | x :: r => uptoBulkEntry x + uptoBulkEntries r
def uptoBulkEntry {H : Type} : Lit × DataW H → Nat
  | (.string bytes, d) => bytes.length + uptoBulk d + 1
  | (_, d) => uptoBulk d + 1
 end
def uptoSmall : (H : Type) → List (DataW H) → Bool := fun _ ds => decide (uptoBulkAll ds ≤ 1048576)
def OpenSpec.upto (s : _root_.Go.ChangeSpec) : _root_.Go.OpenSpec := { _root_.Go.OpenSpec.ofChange s with cond := some uptoSmall }

/-- 'laws.FnExactReadTerm', WHERE WHAT IT READS IS OF BULK AT MOST 1048576: true; the input reads as it did. -/
def fnExactReadTermUptoRow : OpenClaim := { program := "ytffnadnndmmliaa", sum := "c724340f67ec96b11ca1223e5583c7dc2a14b284bf8812cd2d84244f35c28066", func := "loop.example/g00466/laws.FnExactReadTerm", spec := "fnExactReadTerm", unfollowed := true, recurses := true, plainKeys := false, apart := false, narrowed := true }
def FnExactReadTermUptoSaid : Prop := fnExactReadTermUptoRow.holds Try.pinned (OpenSpec.upto fnExactReadTermSpec)

/-- 'laws.FnTerms', WHERE WHAT IT READS IS OF BULK AT MOST 1048576: true; the input reads as it did. -/
def fnTermsUptoRow : OpenClaim := { program := "ytffnadnndmmliaa", sum := "c724340f67ec96b11ca1223e5583c7dc2a14b284bf8812cd2d84244f35c28066", func := "loop.example/g00466/laws.FnTerms", spec := "fnTerms", unfollowed := true, recurses := true, plainKeys := false, apart := false, narrowed := true }
def FnTermsUptoSaid : Prop := fnTermsUptoRow.holds Try.pinned (OpenSpec.upto fnTermsSpec)

/-- 'laws.FnTermsTold', WHERE WHAT IT READS IS OF BULK AT MOST 1048576: true; the input reads as it did. -/
def fnTermsToldUptoRow : OpenClaim := { program := "ytffnadnndmmliaa", sum := "c724340f67ec96b11ca1223e5583c7dc2a14b284bf8812cd2d84244f35c28066", func := "loop.example/g00466/laws.FnTermsTold", spec := "fnTermsTold", unfollowed := true, recurses := true, plainKeys := false, apart := false, narrowed := true }
def FnTermsToldUptoSaid : Prop := fnTermsToldUptoRow.holds Try.pinned (OpenSpec.upto fnTermsToldSpec)

/-- 'laws.FnExactEpochSecret', WHERE WHAT IT READS IS OF BULK AT MOST 1048576: true; the input reads as it did. -/
def fnExactEpochSecretUptoRow : OpenClaim := { program := "ytffnadnndmmliaa", sum := "c724340f67ec96b11ca1223e5583c7dc2a14b284bf8812cd2d84244f35c28066", func := "loop.example/g00466/laws.FnExactEpochSecret", spec := "fnExactEpochSecret", unfollowed := true, recurses := true, plainKeys := false, apart := false, narrowed := true }
def FnExactEpochSecretUptoSaid : Prop := fnExactEpochSecretUptoRow.holds Try.pinned (OpenSpec.upto fnExactEpochSecretSpec)

/-- 'laws.FnSecrets', WHERE WHAT IT READS IS OF BULK AT MOST 1048576: true; the input reads as it did. -/
def fnSecretsUptoRow : OpenClaim := { program := "ytffnadnndmmliaa", sum := "c724340f67ec96b11ca1223e5583c7dc2a14b284bf8812cd2d84244f35c28066", func := "loop.example/g00466/laws.FnSecrets", spec := "fnSecrets", unfollowed := true, recurses := true, plainKeys := false, apart := false, narrowed := true }
def FnSecretsUptoSaid : Prop := fnSecretsUptoRow.holds Try.pinned (OpenSpec.upto fnSecretsSpec)

/-- 'laws.FnSecretsTold', WHERE WHAT IT READS IS OF BULK AT MOST 1048576: true; the input reads as it did. -/
def fnSecretsToldUptoRow : OpenClaim := { program := "ytffnadnndmmliaa", sum := "c724340f67ec96b11ca1223e5583c7dc2a14b284bf8812cd2d84244f35c28066", func := "loop.example/g00466/laws.FnSecretsTold", spec := "fnSecretsTold", unfollowed := true, recurses := true, plainKeys := false, apart := false, narrowed := true }
def FnSecretsToldUptoSaid : Prop := fnSecretsToldUptoRow.holds Try.pinned (OpenSpec.upto fnSecretsToldSpec)

/-- 'laws.FnExactRecordOf', WHERE WHAT IT READS IS OF BULK AT MOST 1048576: true; the input reads as it did. -/
def fnExactRecordOfUptoRow : OpenClaim := { program := "ytffnadnndmmliaa", sum := "c724340f67ec96b11ca1223e5583c7dc2a14b284bf8812cd2d84244f35c28066", func := "loop.example/g00466/laws.FnExactRecordOf", spec := "fnExactRecordOf", unfollowed := true, recurses := true, plainKeys := false, apart := false, narrowed := true }
def FnExactRecordOfUptoSaid : Prop := fnExactRecordOfUptoRow.holds Try.pinned (OpenSpec.upto fnExactRecordOfSpec)

/-- 'laws.FnExactCookieOf', WHERE WHAT IT READS IS OF BULK AT MOST 1048576: true; the input reads as it did. -/
def fnExactCookieOfUptoRow : OpenClaim := { program := "ytffnadnndmmliaa", sum := "c724340f67ec96b11ca1223e5583c7dc2a14b284bf8812cd2d84244f35c28066", func := "loop.example/g00466/laws.FnExactCookieOf", spec := "fnExactCookieOf", unfollowed := true, recurses := true, plainKeys := false, apart := false, narrowed := true }
def FnExactCookieOfUptoSaid : Prop := fnExactCookieOfUptoRow.holds Try.pinned (OpenSpec.upto fnExactCookieOfSpec)

/-- 'laws.FnCookies', WHERE WHAT IT READS IS OF BULK AT MOST 1048576: true; the input reads as it did. -/
def fnCookiesUptoRow : OpenClaim := { program := "ytffnadnndmmliaa", sum := "c724340f67ec96b11ca1223e5583c7dc2a14b284bf8812cd2d84244f35c28066", func := "loop.example/g00466/laws.FnCookies", spec := "fnCookies", unfollowed := true, recurses := true, plainKeys := false, apart := false, narrowed := true }
def FnCookiesUptoSaid : Prop := fnCookiesUptoRow.holds Try.pinned (OpenSpec.upto fnCookiesSpec)

/-- 'laws.FnExactCertOf', WHERE WHAT IT READS IS OF BULK AT MOST 1048576: true; the input reads as it did. -/
def fnExactCertOfUptoRow : OpenClaim := { program := "ytffnadnndmmliaa", sum := "c724340f67ec96b11ca1223e5583c7dc2a14b284bf8812cd2d84244f35c28066", func := "loop.example/g00466/laws.FnExactCertOf", spec := "fnExactCertOf", unfollowed := true, recurses := true, plainKeys := false, apart := false, narrowed := true }
def FnExactCertOfUptoSaid : Prop := fnExactCertOfUptoRow.holds Try.pinned (OpenSpec.upto fnExactCertOfSpec)

/-- 'laws.FnCerts', WHERE WHAT IT READS IS OF BULK AT MOST 1048576: true; the input reads as it did. -/
def fnCertsUptoRow : OpenClaim := { program := "ytffnadnndmmliaa", sum := "c724340f67ec96b11ca1223e5583c7dc2a14b284bf8812cd2d84244f35c28066", func := "loop.example/g00466/laws.FnCerts", spec := "fnCerts", unfollowed := true, recurses := true, plainKeys := false, apart := false, narrowed := true }
def FnCertsUptoSaid : Prop := fnCertsUptoRow.holds Try.pinned (OpenSpec.upto fnCertsSpec)

/-- 'laws.FnExactHandOf', WHERE WHAT IT READS IS OF BULK AT MOST 1048576: true; the input reads as it did. -/
def fnExactHandOfUptoRow : OpenClaim := { program := "ytffnadnndmmliaa", sum := "c724340f67ec96b11ca1223e5583c7dc2a14b284bf8812cd2d84244f35c28066", func := "loop.example/g00466/laws.FnExactHandOf", spec := "fnExactHandOf", inPlace := ["internal/bytealg.abigen_runtime_cmpstring"], unfollowed := true, recurses := true, plainKeys := false, apart := false, narrowed := true }
def FnExactHandOfUptoSaid : Prop := fnExactHandOfUptoRow.holds Try.pinned (OpenSpec.upto fnExactHandOfSpec)

end Rows
end Go.Proofs.Ytffnadnndmmliaa
