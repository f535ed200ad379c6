/-
  No cell of these rows narrows 'for every input' (looked for: loops, veiled, ifaces, maps, wideKeys, modest, calm, conditions, laid).
  DERIVED. THE GIVEN ROWS OF THIS SEAT. 12 by the template 'for every input the law returns true; each argument reads behind the call as it read before'; 0 by the template 'total and deterministic' (their statements: YtedihnfhjchdbaaTotals.lean).
  GIVEN WITH THE SEED: the statements are not yours to turn. If you find one false, say at which input.
  Laid BY PROGRAM, IN A SANDBOX (cutbox-rows.mjs): the forced cells as the released guide's own fill.sh prints them over the translation ed06deb5b5453554… (all of the seat's roots in one cut). By AI agents, Wed Nov 11 2026. No macro, syntax, notation, axiom, sorry.
-/
import Derived.Test.YtedihnfhjchdbaaChecked
import GoSem.Claim
import GoSem.ClaimJoined
import GoSem.ClaimMapViews
import Derived.JoinedTies
import Derived.KernelRfl
namespace Go.Proofs.Ytedihnfhjchdbaa
/- THE CELL 'sum', in the pinned program and in every row, IS THE sha256 OF THE DUMP (.gsa) THAT YtedihnfhjchdbaaProg.lean LOADS. Nothing in Lean hashes anything: it is a label: what it is worth is what the hold of that sum in a sandbox is worth. -/
noncomputable def Try.pinned : Pinned := { name := "ytedihnfhjchdbaa", sum := "ed06deb5b5453554566e8691b17245a73acd0a7be1904555684f0d0e1c9eede1", checked := Try.checked }
namespace Rows
def none {H : Type} : Left H := { results := [], args := [] }

/-- 'laws.FnSecrets': WHATEVER THE INPUT: true; the input reads as it did. -/
def fnSecretsSpec : ChangeSpec := { name := "fnSecrets", fn := fun _ => fun
  | [d] => { results := [.lit (.bool true)], args := [d] }
  | _ => none }
def fnSecretsRow : OpenClaim := { program := "ytedihnfhjchdbaa", sum := "ed06deb5b5453554566e8691b17245a73acd0a7be1904555684f0d0e1c9eede1", func := "loop.example/g00466/laws.FnSecrets", spec := "fnSecrets", unfollowed := true, recurses := true, plainKeys := false, apart := false }
def FnSecretsSaid : Prop := fnSecretsRow.holds Try.pinned (OpenSpec.ofChange fnSecretsSpec)

/-- ITS FALSE NEIGHBOUR: 'it returns false'. Refute it at one input. -/
def fnSecretsWrong : ChangeSpec := { name := "fnSecrets", fn := fun _ => fun
  | [d] => { results := [.lit (.bool false)], args := [d] }
  | _ => none }
def FnSecretsWrongFalsely : Prop := fnSecretsRow.holds Try.pinned (OpenSpec.ofChange fnSecretsWrong)

/-- 'laws.FnSecretsTold': WHATEVER THE INPUT: true; the input reads as it did. -/
def fnSecretsToldSpec : ChangeSpec := { name := "fnSecretsTold", fn := fun _ => fun
  | [d] => { results := [.lit (.bool true)], args := [d] }
  | _ => none }
def fnSecretsToldRow : OpenClaim := { program := "ytedihnfhjchdbaa", sum := "ed06deb5b5453554566e8691b17245a73acd0a7be1904555684f0d0e1c9eede1", func := "loop.example/g00466/laws.FnSecretsTold", spec := "fnSecretsTold", unfollowed := true, recurses := true, plainKeys := false, apart := false }
def FnSecretsToldSaid : Prop := fnSecretsToldRow.holds Try.pinned (OpenSpec.ofChange fnSecretsToldSpec)

/-- ITS FALSE NEIGHBOUR: 'it returns false'. Refute it at one input. -/
def fnSecretsToldWrong : ChangeSpec := { name := "fnSecretsTold", fn := fun _ => fun
  | [d] => { results := [.lit (.bool false)], args := [d] }
  | _ => none }
def FnSecretsToldWrongFalsely : Prop := fnSecretsToldRow.holds Try.pinned (OpenSpec.ofChange fnSecretsToldWrong)

/-- 'laws.FnExactHandSecret': WHATEVER THE INPUT: true; the input reads as it did. -/
def fnExactHandSecretSpec : ChangeSpec := { name := "fnExactHandSecret", fn := fun _ => fun
  | [d1, d2, d3, d4] => { results := [.lit (.bool true)], args := [d1, d2, d3, d4] }
  | _ => none }
def fnExactHandSecretRow : OpenClaim := { program := "ytedihnfhjchdbaa", sum := "ed06deb5b5453554566e8691b17245a73acd0a7be1904555684f0d0e1c9eede1", func := "loop.example/g00466/laws.FnExactHandSecret", spec := "fnExactHandSecret", unfollowed := true, recurses := true, plainKeys := false, apart := false }
def FnExactHandSecretSaid : Prop := fnExactHandSecretRow.holds Try.pinned (OpenSpec.ofChange fnExactHandSecretSpec)

/-- ITS FALSE NEIGHBOUR: 'it returns false'. Refute it at one input. -/
def fnExactHandSecretWrong : ChangeSpec := { name := "fnExactHandSecret", fn := fun _ => fun
  | [d1, d2, d3, d4] => { results := [.lit (.bool false)], args := [d1, d2, d3, d4] }
  | _ => none }
def FnExactHandSecretWrongFalsely : Prop := fnExactHandSecretRow.holds Try.pinned (OpenSpec.ofChange fnExactHandSecretWrong)

/-- 'laws.FnExactSideKey': WHATEVER THE INPUT: true; the input reads as it did. -/
def fnExactSideKeySpec : ChangeSpec := { name := "fnExactSideKey", fn := fun _ => fun
  | [d1, d2, d3] => { results := [.lit (.bool true)], args := [d1, d2, d3] }
  | _ => none }
def fnExactSideKeyRow : OpenClaim := { program := "ytedihnfhjchdbaa", sum := "ed06deb5b5453554566e8691b17245a73acd0a7be1904555684f0d0e1c9eede1", func := "loop.example/g00466/laws.FnExactSideKey", spec := "fnExactSideKey", unfollowed := true, recurses := true, plainKeys := false, apart := false }
def FnExactSideKeySaid : Prop := fnExactSideKeyRow.holds Try.pinned (OpenSpec.ofChange fnExactSideKeySpec)

/-- ITS FALSE NEIGHBOUR: 'it returns false'. Refute it at one input. -/
def fnExactSideKeyWrong : ChangeSpec := { name := "fnExactSideKey", fn := fun _ => fun
  | [d1, d2, d3] => { results := [.lit (.bool false)], args := [d1, d2, d3] }
  | _ => none }
def FnExactSideKeyWrongFalsely : Prop := fnExactSideKeyRow.holds Try.pinned (OpenSpec.ofChange fnExactSideKeyWrong)

/-- 'laws.FnExactDoneMac': WHATEVER THE INPUT: true; the input reads as it did. -/
def fnExactDoneMacSpec : ChangeSpec := { name := "fnExactDoneMac", fn := fun _ => fun
  | [d1, d2, d3, d4] => { results := [.lit (.bool true)], args := [d1, d2, d3, d4] }
  | _ => none }
def fnExactDoneMacRow : OpenClaim := { program := "ytedihnfhjchdbaa", sum := "ed06deb5b5453554566e8691b17245a73acd0a7be1904555684f0d0e1c9eede1", func := "loop.example/g00466/laws.FnExactDoneMac", spec := "fnExactDoneMac", unfollowed := true, recurses := true, plainKeys := false, apart := false }
def FnExactDoneMacSaid : Prop := fnExactDoneMacRow.holds Try.pinned (OpenSpec.ofChange fnExactDoneMacSpec)

/-- ITS FALSE NEIGHBOUR: 'it returns false'. Refute it at one input. -/
def fnExactDoneMacWrong : ChangeSpec := { name := "fnExactDoneMac", fn := fun _ => fun
  | [d1, d2, d3, d4] => { results := [.lit (.bool false)], args := [d1, d2, d3, d4] }
  | _ => none }
def FnExactDoneMacWrongFalsely : Prop := fnExactDoneMacRow.holds Try.pinned (OpenSpec.ofChange fnExactDoneMacWrong)

/-- 'laws.FnExactAppSecret': WHATEVER THE INPUT: true; the input reads as it did. -/
def fnExactAppSecretSpec : ChangeSpec := { name := "fnExactAppSecret", fn := fun _ => fun
  | [d1, d2, d3] => { results := [.lit (.bool true)], args := [d1, d2, d3] }
  | _ => none }
def fnExactAppSecretRow : OpenClaim := { program := "ytedihnfhjchdbaa", sum := "ed06deb5b5453554566e8691b17245a73acd0a7be1904555684f0d0e1c9eede1", func := "loop.example/g00466/laws.FnExactAppSecret", spec := "fnExactAppSecret", unfollowed := true, recurses := true, plainKeys := false, apart := false }
def FnExactAppSecretSaid : Prop := fnExactAppSecretRow.holds Try.pinned (OpenSpec.ofChange fnExactAppSecretSpec)

/-- ITS FALSE NEIGHBOUR: 'it returns false'. Refute it at one input. -/
def fnExactAppSecretWrong : ChangeSpec := { name := "fnExactAppSecret", fn := fun _ => fun
  | [d1, d2, d3] => { results := [.lit (.bool false)], args := [d1, d2, d3] }
  | _ => none }
def FnExactAppSecretWrongFalsely : Prop := fnExactAppSecretRow.holds Try.pinned (OpenSpec.ofChange fnExactAppSecretWrong)

/-- 'laws.FnExactEpochSecret': WHATEVER THE INPUT: true; the input reads as it did. -/
def fnExactEpochSecretSpec : ChangeSpec := { name := "fnExactEpochSecret", fn := fun _ => fun
  | [d1, d2, d3] => { results := [.lit (.bool true)], args := [d1, d2, d3] }
  | _ => none }
def fnExactEpochSecretRow : OpenClaim := { program := "ytedihnfhjchdbaa", sum := "ed06deb5b5453554566e8691b17245a73acd0a7be1904555684f0d0e1c9eede1", func := "loop.example/g00466/laws.FnExactEpochSecret", spec := "fnExactEpochSecret", unfollowed := true, recurses := true, plainKeys := false, apart := false }
def FnExactEpochSecretSaid : Prop := fnExactEpochSecretRow.holds Try.pinned (OpenSpec.ofChange fnExactEpochSecretSpec)

/-- ITS FALSE NEIGHBOUR: 'it returns false'. Refute it at one input. -/
def fnExactEpochSecretWrong : ChangeSpec := { name := "fnExactEpochSecret", fn := fun _ => fun
  | [d1, d2, d3] => { results := [.lit (.bool false)], args := [d1, d2, d3] }
  | _ => none }
def FnExactEpochSecretWrongFalsely : Prop := fnExactEpochSecretRow.holds Try.pinned (OpenSpec.ofChange fnExactEpochSecretWrong)

/-- 'laws.FnExactRecordOf': WHATEVER THE INPUT: true; the input reads as it did. -/
def fnExactRecordOfSpec : ChangeSpec := { name := "fnExactRecordOf", fn := fun _ => fun
  | [d1, d2, d3, d4, d5] => { results := [.lit (.bool true)], args := [d1, d2, d3, d4, d5] }
  | _ => none }
def fnExactRecordOfRow : OpenClaim := { program := "ytedihnfhjchdbaa", sum := "ed06deb5b5453554566e8691b17245a73acd0a7be1904555684f0d0e1c9eede1", func := "loop.example/g00466/laws.FnExactRecordOf", spec := "fnExactRecordOf", unfollowed := true, recurses := true, plainKeys := false, apart := false }
def FnExactRecordOfSaid : Prop := fnExactRecordOfRow.holds Try.pinned (OpenSpec.ofChange fnExactRecordOfSpec)

/-- ITS FALSE NEIGHBOUR: 'it returns false'. Refute it at one input. -/
def fnExactRecordOfWrong : ChangeSpec := { name := "fnExactRecordOf", fn := fun _ => fun
  | [d1, d2, d3, d4, d5] => { results := [.lit (.bool false)], args := [d1, d2, d3, d4, d5] }
  | _ => none }
def FnExactRecordOfWrongFalsely : Prop := fnExactRecordOfRow.holds Try.pinned (OpenSpec.ofChange fnExactRecordOfWrong)

/-- 'laws.FnExactCookieOf': WHATEVER THE INPUT: true; the input reads as it did. -/
def fnExactCookieOfSpec : ChangeSpec := { name := "fnExactCookieOf", fn := fun _ => fun
  | [d1, d2, d3, d4] => { results := [.lit (.bool true)], args := [d1, d2, d3, d4] }
  | _ => none }
def fnExactCookieOfRow : OpenClaim := { program := "ytedihnfhjchdbaa", sum := "ed06deb5b5453554566e8691b17245a73acd0a7be1904555684f0d0e1c9eede1", func := "loop.example/g00466/laws.FnExactCookieOf", spec := "fnExactCookieOf", unfollowed := true, recurses := true, plainKeys := false, apart := false }
def FnExactCookieOfSaid : Prop := fnExactCookieOfRow.holds Try.pinned (OpenSpec.ofChange fnExactCookieOfSpec)

/-- ITS FALSE NEIGHBOUR: 'it returns false'. Refute it at one input. -/
def fnExactCookieOfWrong : ChangeSpec := { name := "fnExactCookieOf", fn := fun _ => fun
  | [d1, d2, d3, d4] => { results := [.lit (.bool false)], args := [d1, d2, d3, d4] }
  | _ => none }
def FnExactCookieOfWrongFalsely : Prop := fnExactCookieOfRow.holds Try.pinned (OpenSpec.ofChange fnExactCookieOfWrong)

/-- 'laws.FnExactLongSecret': WHATEVER THE INPUT: true; the input reads as it did. -/
def fnExactLongSecretSpec : ChangeSpec := { name := "fnExactLongSecret", fn := fun _ => fun
  | [d1, d2] => { results := [.lit (.bool true)], args := [d1, d2] }
  | _ => none }
def fnExactLongSecretRow : OpenClaim := { program := "ytedihnfhjchdbaa", sum := "ed06deb5b5453554566e8691b17245a73acd0a7be1904555684f0d0e1c9eede1", func := "loop.example/g00466/laws.FnExactLongSecret", spec := "fnExactLongSecret", unfollowed := true, recurses := true, plainKeys := false, apart := false }
def FnExactLongSecretSaid : Prop := fnExactLongSecretRow.holds Try.pinned (OpenSpec.ofChange fnExactLongSecretSpec)

/-- ITS FALSE NEIGHBOUR: 'it returns false'. Refute it at one input. -/
def fnExactLongSecretWrong : ChangeSpec := { name := "fnExactLongSecret", fn := fun _ => fun
  | [d1, d2] => { results := [.lit (.bool false)], args := [d1, d2] }
  | _ => none }
def FnExactLongSecretWrongFalsely : Prop := fnExactLongSecretRow.holds Try.pinned (OpenSpec.ofChange fnExactLongSecretWrong)

/-- 'laws.FnExactPskOf': WHATEVER THE INPUT: true; the input reads as it did. -/
def fnExactPskOfSpec : ChangeSpec := { name := "fnExactPskOf", fn := fun _ => fun
  | [d1, d2, d3] => { results := [.lit (.bool true)], args := [d1, d2, d3] }
  | _ => none }
def fnExactPskOfRow : OpenClaim := { program := "ytedihnfhjchdbaa", sum := "ed06deb5b5453554566e8691b17245a73acd0a7be1904555684f0d0e1c9eede1", func := "loop.example/g00466/laws.FnExactPskOf", spec := "fnExactPskOf", unfollowed := true, recurses := true, plainKeys := false, apart := false }
def FnExactPskOfSaid : Prop := fnExactPskOfRow.holds Try.pinned (OpenSpec.ofChange fnExactPskOfSpec)

/-- ITS FALSE NEIGHBOUR: 'it returns false'. Refute it at one input. -/
def fnExactPskOfWrong : ChangeSpec := { name := "fnExactPskOf", fn := fun _ => fun
  | [d1, d2, d3] => { results := [.lit (.bool false)], args := [d1, d2, d3] }
  | _ => none }
def FnExactPskOfWrongFalsely : Prop := fnExactPskOfRow.holds Try.pinned (OpenSpec.ofChange fnExactPskOfWrong)

/-- 'laws.FnExactCertOf': WHATEVER THE INPUT: true; the input reads as it did. -/
def fnExactCertOfSpec : ChangeSpec := { name := "fnExactCertOf", fn := fun _ => fun
  | [d1, d2] => { results := [.lit (.bool true)], args := [d1, d2] }
  | _ => none }
def fnExactCertOfRow : OpenClaim := { program := "ytedihnfhjchdbaa", sum := "ed06deb5b5453554566e8691b17245a73acd0a7be1904555684f0d0e1c9eede1", func := "loop.example/g00466/laws.FnExactCertOf", spec := "fnExactCertOf", unfollowed := true, recurses := true, plainKeys := false, apart := false }
def FnExactCertOfSaid : Prop := fnExactCertOfRow.holds Try.pinned (OpenSpec.ofChange fnExactCertOfSpec)

/-- ITS FALSE NEIGHBOUR: 'it returns false'. Refute it at one input. -/
def fnExactCertOfWrong : ChangeSpec := { name := "fnExactCertOf", fn := fun _ => fun
  | [d1, d2] => { results := [.lit (.bool false)], args := [d1, d2] }
  | _ => none }
def FnExactCertOfWrongFalsely : Prop := fnExactCertOfRow.holds Try.pinned (OpenSpec.ofChange fnExactCertOfWrong)

/- THE SECOND FORM. 'bulk': how many values and letters a reading holds, each counted each time it is reached (what is shared counts as often as it is met; a slice's spare places count too). A statement '..UptoSaid' is the law's where the arguments, and the package variables that the reading takes, are together of bulk at most 1048576: NARROWER than '..Said'. Prove '..Said' where nothing that the law and all that it calls make is longer than what came in: it says more and counts as full. Else prove '..UptoSaid'. A law counts once. -/
mutual
def uptoBulk {H : Type} : DataW H → Nat
  | .lit (.string bytes) => bytes.length + 1
  | .lit _ => 1
  | .nil => 1
  | .ptr d => uptoBulk d + 1
  | .slice elems spare => uptoBulkAll elems + uptoBulkAll spare + 1
  | .agg parts => uptoBulkAll parts + 1
  | .iface _ d => uptoBulk d + 1
  | .map entries => uptoBulkEntries entries + 1
  | .held _ => 1
def uptoBulkAll {H : Type} : List (DataW H) → Nat
  | [] => 0
  | d :: r => uptoBulk d + uptoBulkAll r
def uptoBulkEntries {H : Type} : List (Lit × DataW H) → Nat
  | [] => 0
  | x :: r => uptoBulkEntry x + uptoBulkEntries r
def uptoBulkEntry {H : Type} : Lit × DataW H → Nat
  | (.string bytes, d) => bytes.length + uptoBulk d + 1
  | (_, d) => uptoBulk d + 1
 end
def uptoSmall : (H : Type) → List (DataW H) → Bool := fun _ ds => decide (uptoBulkAll ds ≤ 1048576)
def OpenSpec.upto (s : _root_.Go.ChangeSpec) : _root_.Go.OpenSpec := { _root_.Go.OpenSpec.ofChange s with cond := some uptoSmall }

/-- 'laws.FnSecrets', WHERE WHAT IT READS IS OF BULK AT MOST 1048576: true; the input reads as it did. -/
def fnSecretsUptoRow : OpenClaim := { program := "ytedihnfhjchdbaa", sum := "ed06deb5b5453554566e8691b17245a73acd0a7be1904555684f0d0e1c9eede1", func := "loop.example/g00466/laws.FnSecrets", spec := "fnSecrets", unfollowed := true, recurses := true, plainKeys := false, apart := false, narrowed := true }
def FnSecretsUptoSaid : Prop := fnSecretsUptoRow.holds Try.pinned (OpenSpec.upto fnSecretsSpec)

/-- 'laws.FnSecretsTold', WHERE WHAT IT READS IS OF BULK AT MOST 1048576: true; the input reads as it did. -/
def fnSecretsToldUptoRow : OpenClaim := { program := "ytedihnfhjchdbaa", sum := "ed06deb5b5453554566e8691b17245a73acd0a7be1904555684f0d0e1c9eede1", func := "loop.example/g00466/laws.FnSecretsTold", spec := "fnSecretsTold", unfollowed := true, recurses := true, plainKeys := false, apart := false, narrowed := true }
def FnSecretsToldUptoSaid : Prop := fnSecretsToldUptoRow.holds Try.pinned (OpenSpec.upto fnSecretsToldSpec)

/-- 'laws.FnExactHandSecret', WHERE WHAT IT READS IS OF BULK AT MOST 1048576: true; the input reads as it did. -/
def fnExactHandSecretUptoRow : OpenClaim := { program := "ytedihnfhjchdbaa", sum := "ed06deb5b5453554566e8691b17245a73acd0a7be1904555684f0d0e1c9eede1", func := "loop.example/g00466/laws.FnExactHandSecret", spec := "fnExactHandSecret", unfollowed := true, recurses := true, plainKeys := false, apart := false, narrowed := true }
def FnExactHandSecretUptoSaid : Prop := fnExactHandSecretUptoRow.holds Try.pinned (OpenSpec.upto fnExactHandSecretSpec)

/-- 'laws.FnExactSideKey', WHERE WHAT IT READS IS OF BULK AT MOST 1048576: true; the input reads as it did. -/
def fnExactSideKeyUptoRow : OpenClaim := { program := "ytedihnfhjchdbaa", sum := "ed06deb5b5453554566e8691b17245a73acd0a7be1904555684f0d0e1c9eede1", func := "loop.example/g00466/laws.FnExactSideKey", spec := "fnExactSideKey", unfollowed := true, recurses := true, plainKeys := false, apart := false, narrowed := true }
def FnExactSideKeyUptoSaid : Prop := fnExactSideKeyUptoRow.holds Try.pinned (OpenSpec.upto fnExactSideKeySpec)

/-- 'laws.FnExactDoneMac', WHERE WHAT IT READS IS OF BULK AT MOST 1048576: true; the input reads as it did. -/
def fnExactDoneMacUptoRow : OpenClaim := { program := "ytedihnfhjchdbaa", sum := "ed06deb5b5453554566e8691b17245a73acd0a7be1904555684f0d0e1c9eede1", func := "loop.example/g00466/laws.FnExactDoneMac", spec := "fnExactDoneMac", unfollowed := true, recurses := true, plainKeys := false, apart := false, narrowed := true }
def FnExactDoneMacUptoSaid : Prop := fnExactDoneMacUptoRow.holds Try.pinned (OpenSpec.upto fnExactDoneMacSpec)

/-- 'laws.FnExactAppSecret', WHERE WHAT IT READS IS OF BULK AT MOST 1048576: true; the input reads as it did. -/
def fnExactAppSecretUptoRow : OpenClaim := { program := "ytedihnfhjchdbaa", sum := "ed06deb5b5453554566e8691b17245a73acd0a7be1904555684f0d0e1c9eede1", func := "loop.example/g00466/laws.FnExactAppSecret", spec := "fnExactAppSecret", unfollowed := true, recurses := true, plainKeys := false, apart := false, narrowed := true }
def FnExactAppSecretUptoSaid : Prop := fnExactAppSecretUptoRow.holds Try.pinned (OpenSpec.upto fnExactAppSecretSpec)

/-- 'laws.FnExactEpochSecret', WHERE WHAT IT READS IS OF BULK AT MOST 1048576: true; the input reads as it did. -/
def fnExactEpochSecretUptoRow : OpenClaim := { program := "ytedihnfhjchdbaa", sum := "ed06deb5b5453554566e8691b17245a73acd0a7be1904555684f0d0e1c9eede1", func := "loop.example/g00466/laws.FnExactEpochSecret", spec := "fnExactEpochSecret", unfollowed := true, recurses := true, plainKeys := false, apart := false, narrowed := true }
def FnExactEpochSecretUptoSaid : Prop := fnExactEpochSecretUptoRow.holds Try.pinned (OpenSpec.upto fnExactEpochSecretSpec)

/-- 'laws.FnExactRecordOf', WHERE WHAT IT READS IS OF BULK AT MOST 1048576: true; the input reads as it did. -/
def fnExactRecordOfUptoRow : OpenClaim := { program := "ytedihnfhjchdbaa", sum := "ed06deb5b5453554566e8691b17245a73acd0a7be1904555684f0d0e1c9eede1", func := "loop.example/g00466/laws.FnExactRecordOf", spec := "fnExactRecordOf", unfollowed := true, recurses := true, plainKeys := false, apart := false, narrowed := true }
def FnExactRecordOfUptoSaid : Prop := fnExactRecordOfUptoRow.holds Try.pinned (OpenSpec.upto fnExactRecordOfSpec)

/-- 'laws.FnExactCookieOf', WHERE WHAT IT READS IS OF BULK AT MOST 1048576: true; the input reads as it did. -/
def fnExactCookieOfUptoRow : OpenClaim := { program := "ytedihnfhjchdbaa", sum := "ed06deb5b5453554566e8691b17245a73acd0a7be1904555684f0d0e1c9eede1", func := "loop.example/g00466/laws.FnExactCookieOf", spec := "fnExactCookieOf", unfollowed := true, recurses := true, plainKeys := false, apart := false, narrowed := true }
def FnExactCookieOfUptoSaid : Prop := fnExactCookieOfUptoRow.holds Try.pinned (OpenSpec.upto fnExactCookieOfSpec)

/-- 'laws.FnExactLongSecret', WHERE WHAT IT READS IS OF BULK AT MOST 1048576: true; the input reads as it did. -/
def fnExactLongSecretUptoRow : OpenClaim := { program := "ytedihnfhjchdbaa", sum := "ed06deb5b5453554566e8691b17245a73acd0a7be1904555684f0d0e1c9eede1", func := "loop.example/g00466/laws.FnExactLongSecret", spec := "fnExactLongSecret", unfollowed := true, recurses := true, plainKeys := false, apart := false, narrowed := true }
def FnExactLongSecretUptoSaid : Prop := fnExactLongSecretUptoRow.holds Try.pinned (OpenSpec.upto fnExactLongSecretSpec)

/-- 'laws.FnExactPskOf', WHERE WHAT IT READS IS OF BULK AT MOST 1048576: true; the input reads as it did. -/
def fnExactPskOfUptoRow : OpenClaim := { program := "ytedihnfhjchdbaa", sum := "ed06deb5b5453554566e8691b17245a73acd0a7be1904555684f0d0e1c9eede1", func := "loop.example/g00466/laws.FnExactPskOf", spec := "fnExactPskOf", unfollowed := true, recurses := true, plainKeys := false, apart := false, narrowed := true }
def FnExactPskOfUptoSaid : Prop := fnExactPskOfUptoRow.holds Try.pinned (OpenSpec.upto fnExactPskOfSpec)

/-- 'laws.FnExactCertOf', WHERE WHAT IT READS IS OF BULK AT MOST 1048576: true; the input reads as it did. -/
def fnExactCertOfUptoRow : OpenClaim := { program := "ytedihnfhjchdbaa", sum := "ed06deb5b5453554566e8691b17245a73acd0a7be1904555684f0d0e1c9eede1", func := "loop.example/g00466/laws.FnExactCertOf", spec := "fnExactCertOf", unfollowed := true, recurses := true, plainKeys := false, apart := false, narrowed := true }
def FnExactCertOfUptoSaid : Prop := fnExactCertOfUptoRow.holds Try.pinned (OpenSpec.upto fnExactCertOfSpec)

end Rows
end Go.Proofs.Ytedihnfhjchdbaa
