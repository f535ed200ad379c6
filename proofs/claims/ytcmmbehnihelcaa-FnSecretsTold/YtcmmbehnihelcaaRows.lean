/-
  No cell of these rows narrows 'for every input' (looked for: loops, veiled, ifaces, maps, wideKeys, modest, calm, conditions, laid).
  DERIVED. THE GIVEN ROWS OF THIS SEAT. 6 by the template 'for every input the law returns true; each argument reads behind the call as it read before'; 0 by the template 'total and deterministic' (their statements: YtcmmbehnihelcaaTotals.lean).
  GIVEN WITH THE SEED: the statements are not yours to turn. If you find one false, say at which input.
  Laid BY PROGRAM, IN A SANDBOX (cutbox-rows.mjs): the forced cells as the released guide's own fill.sh prints them over the translation 7b36c8cc5cb57fe2… (all of the seat's roots in one cut). By AI agents, Wed Nov 11 2026. No macro, syntax, notation, axiom, sorry.
-/
import Derived.Test.YtcmmbehnihelcaaChecked
import GoSem.Claim
import GoSem.ClaimJoined
import GoSem.ClaimMapViews
import Derived.JoinedTies
import Derived.KernelRfl
namespace Go.Proofs.Ytcmmbehnihelcaa
/- THE CELL 'sum', in the pinned program and in every row, IS THE sha256 OF THE DUMP (.gsa) THAT YtcmmbehnihelcaaProg.lean LOADS. Nothing in Lean hashes anything: it is a label: what it is worth is what the hold of that sum in a sandbox is worth. -/
noncomputable def Try.pinned : Pinned := { name := "ytcmmbehnihelcaa", sum := "7b36c8cc5cb57fe27cd01ef6eac3420072a70eef4d20ba4a73f9935b32f15bf7", checked := Try.checked }
namespace Rows
def none {H : Type} : Left H := { results := [], args := [] }

/-- 'laws.FnReaches': WHATEVER THE INPUT: true; the input reads as it did. -/
def fnReachesSpec : ChangeSpec := { name := "fnReaches", fn := fun _ => fun
  | [d] => { results := [.lit (.bool true)], args := [d] }
  | _ => none }
def fnReachesRow : OpenClaim := { program := "ytcmmbehnihelcaa", sum := "7b36c8cc5cb57fe27cd01ef6eac3420072a70eef4d20ba4a73f9935b32f15bf7", func := "loop.example/g00466/laws.FnReaches", spec := "fnReaches", unfollowed := true, recurses := true, plainKeys := false, apart := false }
def FnReachesSaid : Prop := fnReachesRow.holds Try.pinned (OpenSpec.ofChange fnReachesSpec)

/-- ITS FALSE NEIGHBOUR: 'it returns false'. Refute it at one input. -/
def fnReachesWrong : ChangeSpec := { name := "fnReaches", fn := fun _ => fun
  | [d] => { results := [.lit (.bool false)], args := [d] }
  | _ => none }
def FnReachesWrongFalsely : Prop := fnReachesRow.holds Try.pinned (OpenSpec.ofChange fnReachesWrong)

/-- 'laws.FnSecrets': WHATEVER THE INPUT: true; the input reads as it did. -/
def fnSecretsSpec : ChangeSpec := { name := "fnSecrets", fn := fun _ => fun
  | [d] => { results := [.lit (.bool true)], args := [d] }
  | _ => none }
def fnSecretsRow : OpenClaim := { program := "ytcmmbehnihelcaa", sum := "7b36c8cc5cb57fe27cd01ef6eac3420072a70eef4d20ba4a73f9935b32f15bf7", func := "loop.example/g00466/laws.FnSecrets", spec := "fnSecrets", unfollowed := true, recurses := true, plainKeys := false, apart := false }
def FnSecretsSaid : Prop := fnSecretsRow.holds Try.pinned (OpenSpec.ofChange fnSecretsSpec)

/-- ITS FALSE NEIGHBOUR: 'it returns false'. Refute it at one input. -/
def fnSecretsWrong : ChangeSpec := { name := "fnSecrets", fn := fun _ => fun
  | [d] => { results := [.lit (.bool false)], args := [d] }
  | _ => none }
def FnSecretsWrongFalsely : Prop := fnSecretsRow.holds Try.pinned (OpenSpec.ofChange fnSecretsWrong)

/-- 'laws.FnSecretsTold': WHATEVER THE INPUT: true; the input reads as it did. -/
def fnSecretsToldSpec : ChangeSpec := { name := "fnSecretsTold", fn := fun _ => fun
  | [d] => { results := [.lit (.bool true)], args := [d] }
  | _ => none }
def fnSecretsToldRow : OpenClaim := { program := "ytcmmbehnihelcaa", sum := "7b36c8cc5cb57fe27cd01ef6eac3420072a70eef4d20ba4a73f9935b32f15bf7", func := "loop.example/g00466/laws.FnSecretsTold", spec := "fnSecretsTold", unfollowed := true, recurses := true, plainKeys := false, apart := false }
def FnSecretsToldSaid : Prop := fnSecretsToldRow.holds Try.pinned (OpenSpec.ofChange fnSecretsToldSpec)

/-- ITS FALSE NEIGHBOUR: 'it returns false'. Refute it at one input. -/
def fnSecretsToldWrong : ChangeSpec := { name := "fnSecretsTold", fn := fun _ => fun
  | [d] => { results := [.lit (.bool false)], args := [d] }
  | _ => none }
def FnSecretsToldWrongFalsely : Prop := fnSecretsToldRow.holds Try.pinned (OpenSpec.ofChange fnSecretsToldWrong)

/-- 'laws.FnExactReach': WHATEVER THE INPUT: true; the input reads as it did. -/
def fnExactReachSpec : ChangeSpec := { name := "fnExactReach", fn := fun _ => fun
  | [d1, d2] => { results := [.lit (.bool true)], args := [d1, d2] }
  | _ => none }
def fnExactReachRow : OpenClaim := { program := "ytcmmbehnihelcaa", sum := "7b36c8cc5cb57fe27cd01ef6eac3420072a70eef4d20ba4a73f9935b32f15bf7", func := "loop.example/g00466/laws.FnExactReach", spec := "fnExactReach", unfollowed := true, recurses := true, plainKeys := false, apart := false }
def FnExactReachSaid : Prop := fnExactReachRow.holds Try.pinned (OpenSpec.ofChange fnExactReachSpec)

/-- ITS FALSE NEIGHBOUR: 'it returns false'. Refute it at one input. -/
def fnExactReachWrong : ChangeSpec := { name := "fnExactReach", fn := fun _ => fun
  | [d1, d2] => { results := [.lit (.bool false)], args := [d1, d2] }
  | _ => none }
def FnExactReachWrongFalsely : Prop := fnExactReachRow.holds Try.pinned (OpenSpec.ofChange fnExactReachWrong)

/-- 'laws.FnExactDerives': WHATEVER THE INPUT: true; the input reads as it did. -/
def fnExactDerivesSpec : ChangeSpec := { name := "fnExactDerives", fn := fun _ => fun
  | [d1, d2, d3] => { results := [.lit (.bool true)], args := [d1, d2, d3] }
  | _ => none }
def fnExactDerivesRow : OpenClaim := { program := "ytcmmbehnihelcaa", sum := "7b36c8cc5cb57fe27cd01ef6eac3420072a70eef4d20ba4a73f9935b32f15bf7", func := "loop.example/g00466/laws.FnExactDerives", spec := "fnExactDerives", unfollowed := true, recurses := true, plainKeys := false, apart := false }
def FnExactDerivesSaid : Prop := fnExactDerivesRow.holds Try.pinned (OpenSpec.ofChange fnExactDerivesSpec)

/-- ITS FALSE NEIGHBOUR: 'it returns false'. Refute it at one input. -/
def fnExactDerivesWrong : ChangeSpec := { name := "fnExactDerives", fn := fun _ => fun
  | [d1, d2, d3] => { results := [.lit (.bool false)], args := [d1, d2, d3] }
  | _ => none }
def FnExactDerivesWrongFalsely : Prop := fnExactDerivesRow.holds Try.pinned (OpenSpec.ofChange fnExactDerivesWrong)

/-- 'laws.FnExactHandSecret': WHATEVER THE INPUT: true; the input reads as it did. -/
def fnExactHandSecretSpec : ChangeSpec := { name := "fnExactHandSecret", fn := fun _ => fun
  | [d1, d2, d3, d4] => { results := [.lit (.bool true)], args := [d1, d2, d3, d4] }
  | _ => none }
def fnExactHandSecretRow : OpenClaim := { program := "ytcmmbehnihelcaa", sum := "7b36c8cc5cb57fe27cd01ef6eac3420072a70eef4d20ba4a73f9935b32f15bf7", func := "loop.example/g00466/laws.FnExactHandSecret", spec := "fnExactHandSecret", unfollowed := true, recurses := true, plainKeys := false, apart := false }
def FnExactHandSecretSaid : Prop := fnExactHandSecretRow.holds Try.pinned (OpenSpec.ofChange fnExactHandSecretSpec)

/-- ITS FALSE NEIGHBOUR: 'it returns false'. Refute it at one input. -/
def fnExactHandSecretWrong : ChangeSpec := { name := "fnExactHandSecret", fn := fun _ => fun
  | [d1, d2, d3, d4] => { results := [.lit (.bool false)], args := [d1, d2, d3, d4] }
  | _ => none }
def FnExactHandSecretWrongFalsely : Prop := fnExactHandSecretRow.holds Try.pinned (OpenSpec.ofChange fnExactHandSecretWrong)

/- THE SECOND FORM. 'bulk': how many values and letters a reading holds, each counted each time it is reached (what is shared counts as often as it is met; a slice's spare places count too). A statement '..UptoSaid' is the law's where the arguments, and the package variables that the reading takes, are together of bulk at most 1048576: NARROWER than '..Said'. Prove '..Said' where nothing that the law and all that it calls make is longer than what came in: it says more and counts as full. Else prove '..UptoSaid'. A law counts once. -/
mutual
def uptoBulk {H : Type} : DataW H → Nat
  | .lit (.string bytes) => bytes.length + 1
  | .lit _ => 1
  | .nil => 1
  | .ptr d => uptoBulk d + 1
  | .slice elems spare => uptoBulkAll elems + uptoBulkAll spare + 1
  | .agg parts => uptoBulkAll parts + 1
  | .iface _ d => uptoBulk d + 1
  | .map entries => uptoBulkEntries entries + 1
  | .held _ => 1
def uptoBulkAll {H : Type} : List (DataW H) → Nat
  | [] => 0
  | d :: r => uptoBulk d + uptoBulkAll r
def uptoBulkEntries {H : Type} : List (Lit × DataW H) → Nat
  | [] => 0
  | x :: r => uptoBulkEntry x + uptoBulkEntries r
def uptoBulkEntry {H : Type} : Lit × DataW H → Nat
  | (.string bytes, d) => bytes.length + uptoBulk d + 1
  | (_, d) => uptoBulk d + 1
 end
def uptoSmall : (H : Type) → List (DataW H) → Bool := fun _ ds => decide (uptoBulkAll ds ≤ 1048576)
def OpenSpec.upto (s : _root_.Go.ChangeSpec) : _root_.Go.OpenSpec := { _root_.Go.OpenSpec.ofChange s with cond := some uptoSmall }

/-- 'laws.FnReaches', WHERE WHAT IT READS IS OF BULK AT MOST 1048576: true; the input reads as it did. -/
def fnReachesUptoRow : OpenClaim := { program := "ytcmmbehnihelcaa", sum := "7b36c8cc5cb57fe27cd01ef6eac3420072a70eef4d20ba4a73f9935b32f15bf7", func := "loop.example/g00466/laws.FnReaches", spec := "fnReaches", unfollowed := true, recurses := true, plainKeys := false, apart := false, narrowed := true }
def FnReachesUptoSaid : Prop := fnReachesUptoRow.holds Try.pinned (OpenSpec.upto fnReachesSpec)

/-- 'laws.FnSecrets', WHERE WHAT IT READS IS OF BULK AT MOST 1048576: true; the input reads as it did. -/
def fnSecretsUptoRow : OpenClaim := { program := "ytcmmbehnihelcaa", sum := "7b36c8cc5cb57fe27cd01ef6eac3420072a70eef4d20ba4a73f9935b32f15bf7", func := "loop.example/g00466/laws.FnSecrets", spec := "fnSecrets", unfollowed := true, recurses := true, plainKeys := false, apart := false, narrowed := true }
def FnSecretsUptoSaid : Prop := fnSecretsUptoRow.holds Try.pinned (OpenSpec.upto fnSecretsSpec)

/-- 'laws.FnSecretsTold', WHERE WHAT IT READS IS OF BULK AT MOST 1048576: true; the input reads as it did. -/
def fnSecretsToldUptoRow : OpenClaim := { program := "ytcmmbehnihelcaa", sum := "7b36c8cc5cb57fe27cd01ef6eac3420072a70eef4d20ba4a73f9935b32f15bf7", func := "loop.example/g00466/laws.FnSecretsTold", spec := "fnSecretsTold", unfollowed := true, recurses := true, plainKeys := false, apart := false, narrowed := true }
def FnSecretsToldUptoSaid : Prop := fnSecretsToldUptoRow.holds Try.pinned (OpenSpec.upto fnSecretsToldSpec)

/-- 'laws.FnExactReach', WHERE WHAT IT READS IS OF BULK AT MOST 1048576: true; the input reads as it did. -/
def fnExactReachUptoRow : OpenClaim := { program := "ytcmmbehnihelcaa", sum := "7b36c8cc5cb57fe27cd01ef6eac3420072a70eef4d20ba4a73f9935b32f15bf7", func := "loop.example/g00466/laws.FnExactReach", spec := "fnExactReach", unfollowed := true, recurses := true, plainKeys := false, apart := false, narrowed := true }
def FnExactReachUptoSaid : Prop := fnExactReachUptoRow.holds Try.pinned (OpenSpec.upto fnExactReachSpec)

/-- 'laws.FnExactDerives', WHERE WHAT IT READS IS OF BULK AT MOST 1048576: true; the input reads as it did. -/
def fnExactDerivesUptoRow : OpenClaim := { program := "ytcmmbehnihelcaa", sum := "7b36c8cc5cb57fe27cd01ef6eac3420072a70eef4d20ba4a73f9935b32f15bf7", func := "loop.example/g00466/laws.FnExactDerives", spec := "fnExactDerives", unfollowed := true, recurses := true, plainKeys := false, apart := false, narrowed := true }
def FnExactDerivesUptoSaid : Prop := fnExactDerivesUptoRow.holds Try.pinned (OpenSpec.upto fnExactDerivesSpec)

/-- 'laws.FnExactHandSecret', WHERE WHAT IT READS IS OF BULK AT MOST 1048576: true; the input reads as it did. -/
def fnExactHandSecretUptoRow : OpenClaim := { program := "ytcmmbehnihelcaa", sum := "7b36c8cc5cb57fe27cd01ef6eac3420072a70eef4d20ba4a73f9935b32f15bf7", func := "loop.example/g00466/laws.FnExactHandSecret", spec := "fnExactHandSecret", unfollowed := true, recurses := true, plainKeys := false, apart := false, narrowed := true }
def FnExactHandSecretUptoSaid : Prop := fnExactHandSecretUptoRow.holds Try.pinned (OpenSpec.upto fnExactHandSecretSpec)

end Rows
end Go.Proofs.Ytcmmbehnihelcaa
