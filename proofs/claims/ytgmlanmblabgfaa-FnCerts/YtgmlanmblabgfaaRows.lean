/-
  No cell of these rows narrows 'for every input' (looked for: loops, veiled, ifaces, maps, wideKeys, modest, calm, conditions, laid).
  DERIVED. THE GIVEN ROWS OF THIS SEAT. 5 by the template 'for every input the law returns true; each argument reads behind the call as it read before'; 0 by the template 'total and deterministic' (their statements: YtgmlanmblabgfaaTotals.lean).
  GIVEN WITH THE SEED: the statements are not yours to turn. If you find one false, say at which input.
  Laid BY PROGRAM, IN A SANDBOX (cutbox-rows.mjs): the forced cells as the released guide's own fill.sh prints them over the translation a1cce573171af24f… (all of the seat's roots in one cut). By AI agents, Wed Nov 11 2026. No macro, syntax, notation, axiom, sorry.
-/
import Derived.Test.YtgmlanmblabgfaaChecked
import GoSem.Claim
import GoSem.ClaimJoined
import GoSem.ClaimMapViews
import Derived.JoinedTies
import Derived.KernelRfl
namespace Go.Proofs.Ytgmlanmblabgfaa
/- THE CELL 'sum', in the pinned program and in every row, IS THE sha256 OF THE DUMP (.gsa) THAT YtgmlanmblabgfaaProg.lean LOADS. Nothing in Lean hashes anything: it is a label: what it is worth is what the hold of that sum in a sandbox is worth. -/
noncomputable def Try.pinned : Pinned := { name := "ytgmlanmblabgfaa", sum := "a1cce573171af24f776ba0140da17bab10b09cdc7fb6b4755d5c737a98500f93", checked := Try.checked }
namespace Rows
def none {H : Type} : Left H := { results := [], args := [] }

/-- 'laws.FnCerts': WHATEVER THE INPUT: true; the input reads as it did. -/
def fnCertsSpec : ChangeSpec := { name := "fnCerts", fn := fun _ => fun
  | [d] => { results := [.lit (.bool true)], args := [d] }
  | _ => none }
def fnCertsRow : OpenClaim := { program := "ytgmlanmblabgfaa", sum := "a1cce573171af24f776ba0140da17bab10b09cdc7fb6b4755d5c737a98500f93", func := "loop.example/g00466/laws.FnCerts", spec := "fnCerts", unfollowed := true, recurses := true, plainKeys := false, apart := false }
def FnCertsSaid : Prop := fnCertsRow.holds Try.pinned (OpenSpec.ofChange fnCertsSpec)

/-- ITS FALSE NEIGHBOUR: 'it returns false'. Refute it at one input. -/
def fnCertsWrong : ChangeSpec := { name := "fnCerts", fn := fun _ => fun
  | [d] => { results := [.lit (.bool false)], args := [d] }
  | _ => none }
def FnCertsWrongFalsely : Prop := fnCertsRow.holds Try.pinned (OpenSpec.ofChange fnCertsWrong)

/-- 'laws.FnExactLongSecret': WHATEVER THE INPUT: true; the input reads as it did. -/
def fnExactLongSecretSpec : ChangeSpec := { name := "fnExactLongSecret", fn := fun _ => fun
  | [d1, d2] => { results := [.lit (.bool true)], args := [d1, d2] }
  | _ => none }
def fnExactLongSecretRow : OpenClaim := { program := "ytgmlanmblabgfaa", sum := "a1cce573171af24f776ba0140da17bab10b09cdc7fb6b4755d5c737a98500f93", func := "loop.example/g00466/laws.FnExactLongSecret", spec := "fnExactLongSecret", unfollowed := true, recurses := true, plainKeys := false, apart := false }
def FnExactLongSecretSaid : Prop := fnExactLongSecretRow.holds Try.pinned (OpenSpec.ofChange fnExactLongSecretSpec)

/-- ITS FALSE NEIGHBOUR: 'it returns false'. Refute it at one input. -/
def fnExactLongSecretWrong : ChangeSpec := { name := "fnExactLongSecret", fn := fun _ => fun
  | [d1, d2] => { results := [.lit (.bool false)], args := [d1, d2] }
  | _ => none }
def FnExactLongSecretWrongFalsely : Prop := fnExactLongSecretRow.holds Try.pinned (OpenSpec.ofChange fnExactLongSecretWrong)

/-- 'laws.FnExactPskOf': WHATEVER THE INPUT: true; the input reads as it did. -/
def fnExactPskOfSpec : ChangeSpec := { name := "fnExactPskOf", fn := fun _ => fun
  | [d1, d2, d3] => { results := [.lit (.bool true)], args := [d1, d2, d3] }
  | _ => none }
def fnExactPskOfRow : OpenClaim := { program := "ytgmlanmblabgfaa", sum := "a1cce573171af24f776ba0140da17bab10b09cdc7fb6b4755d5c737a98500f93", func := "loop.example/g00466/laws.FnExactPskOf", spec := "fnExactPskOf", unfollowed := true, recurses := true, plainKeys := false, apart := false }
def FnExactPskOfSaid : Prop := fnExactPskOfRow.holds Try.pinned (OpenSpec.ofChange fnExactPskOfSpec)

/-- ITS FALSE NEIGHBOUR: 'it returns false'. Refute it at one input. -/
def fnExactPskOfWrong : ChangeSpec := { name := "fnExactPskOf", fn := fun _ => fun
  | [d1, d2, d3] => { results := [.lit (.bool false)], args := [d1, d2, d3] }
  | _ => none }
def FnExactPskOfWrongFalsely : Prop := fnExactPskOfRow.holds Try.pinned (OpenSpec.ofChange fnExactPskOfWrong)

/-- 'laws.FnExactCertOf': WHATEVER THE INPUT: true; the input reads as it did. -/
def fnExactCertOfSpec : ChangeSpec := { name := "fnExactCertOf", fn := fun _ => fun
  | [d1, d2] => { results := [.lit (.bool true)], args := [d1, d2] }
  | _ => none }
def fnExactCertOfRow : OpenClaim := { program := "ytgmlanmblabgfaa", sum := "a1cce573171af24f776ba0140da17bab10b09cdc7fb6b4755d5c737a98500f93", func := "loop.example/g00466/laws.FnExactCertOf", spec := "fnExactCertOf", unfollowed := true, recurses := true, plainKeys := false, apart := false }
def FnExactCertOfSaid : Prop := fnExactCertOfRow.holds Try.pinned (OpenSpec.ofChange fnExactCertOfSpec)

/-- ITS FALSE NEIGHBOUR: 'it returns false'. Refute it at one input. -/
def fnExactCertOfWrong : ChangeSpec := { name := "fnExactCertOf", fn := fun _ => fun
  | [d1, d2] => { results := [.lit (.bool false)], args := [d1, d2] }
  | _ => none }
def FnExactCertOfWrongFalsely : Prop := fnExactCertOfRow.holds Try.pinned (OpenSpec.ofChange fnExactCertOfWrong)

/-- 'laws.FnExactCertIn': WHATEVER THE INPUT: true; the input reads as it did. -/
def fnExactCertInSpec : ChangeSpec := { name := "fnExactCertIn", fn := fun _ => fun
  | [d1, d2] => { results := [.lit (.bool true)], args := [d1, d2] }
  | _ => none }
def fnExactCertInRow : OpenClaim := { program := "ytgmlanmblabgfaa", sum := "a1cce573171af24f776ba0140da17bab10b09cdc7fb6b4755d5c737a98500f93", func := "loop.example/g00466/laws.FnExactCertIn", spec := "fnExactCertIn", unfollowed := true, recurses := true, plainKeys := false, apart := false }
def FnExactCertInSaid : Prop := fnExactCertInRow.holds Try.pinned (OpenSpec.ofChange fnExactCertInSpec)

/-- ITS FALSE NEIGHBOUR: 'it returns false'. Refute it at one input. -/
def fnExactCertInWrong : ChangeSpec := { name := "fnExactCertIn", fn := fun _ => fun
  | [d1, d2] => { results := [.lit (.bool false)], args := [d1, d2] }
  | _ => none }
def FnExactCertInWrongFalsely : Prop := fnExactCertInRow.holds Try.pinned (OpenSpec.ofChange fnExactCertInWrong)

/- THE SECOND FORM. 'bulk': how many values and letters a reading holds, each counted each time it is reached (what is shared counts as often as it is met; a slice's spare places count too). A statement '..UptoSaid' is the law's where the arguments, and the package variables that the reading takes, are together of bulk at most 1048576: NARROWER than '..Said'. Prove '..Said' where nothing that the law and all that it calls make is longer than what came in: it says more and counts as full. Else prove '..UptoSaid'. A law counts once. -/
mutual
def uptoBulk {H : Type} : DataW H → Nat
  | .lit (.string bytes) => bytes.length + 1
  | .lit _ => 1
  | .nil => 1
  | .ptr d => uptoBulk d + 1
  | .slice elems spare => uptoBulkAll elems + uptoBulkAll spare + 1
  | .agg parts => uptoBulkAll parts + 1
  | .iface _ d => uptoBulk d + 1
  | .map entries => uptoBulkEntries entries + 1
  | .held _ => 1
def uptoBulkAll {H : Type} : List (DataW H) → Nat
  | [] => 0
  | d :: r => uptoBulk d + uptoBulkAll r
def uptoBulkEntries {H : Type} : List (Lit × DataW H) → Nat
  | [] => 0
  | x :: r => uptoBulkEntry x + uptoBulkEntries r
def uptoBulkEntry {H : Type} : Lit × DataW H → Nat
  | (.string bytes, d) => bytes.length + uptoBulk d + 1
  | (_, d) => uptoBulk d + 1
 end
def uptoSmall : (H : Type) → List (DataW H) → Bool := fun _ ds => decide (uptoBulkAll ds ≤ 1048576)
def OpenSpec.upto (s : _root_.Go.ChangeSpec) : _root_.Go.OpenSpec := { _root_.Go.OpenSpec.ofChange s with cond := some uptoSmall }

/-- 'laws.FnCerts', WHERE WHAT IT READS IS OF BULK AT MOST 1048576: true; the input reads as it did. -/
def fnCertsUptoRow : OpenClaim := { program := "ytgmlanmblabgfaa", sum := "a1cce573171af24f776ba0140da17bab10b09cdc7fb6b4755d5c737a98500f93", func := "loop.example/g00466/laws.FnCerts", spec := "fnCerts", unfollowed := true, recurses := true, plainKeys := false, apart := false, narrowed := true }
def FnCertsUptoSaid : Prop := fnCertsUptoRow.holds Try.pinned (OpenSpec.upto fnCertsSpec)

/-- 'laws.FnExactLongSecret', WHERE WHAT IT READS IS OF BULK AT MOST 1048576: true; the input reads as it did. -/
def fnExactLongSecretUptoRow : OpenClaim := { program := "ytgmlanmblabgfaa", sum := "a1cce573171af24f776ba0140da17bab10b09cdc7fb6b4755d5c737a98500f93", func := "loop.example/g00466/laws.FnExactLongSecret", spec := "fnExactLongSecret", unfollowed := true, recurses := true, plainKeys := false, apart := false, narrowed := true }
def FnExactLongSecretUptoSaid : Prop := fnExactLongSecretUptoRow.holds Try.pinned (OpenSpec.upto fnExactLongSecretSpec)

/-- 'laws.FnExactPskOf', WHERE WHAT IT READS IS OF BULK AT MOST 1048576: true; the input reads as it did. -/
def fnExactPskOfUptoRow : OpenClaim := { program := "ytgmlanmblabgfaa", sum := "a1cce573171af24f776ba0140da17bab10b09cdc7fb6b4755d5c737a98500f93", func := "loop.example/g00466/laws.FnExactPskOf", spec := "fnExactPskOf", unfollowed := true, recurses := true, plainKeys := false, apart := false, narrowed := true }
def FnExactPskOfUptoSaid : Prop := fnExactPskOfUptoRow.holds Try.pinned (OpenSpec.upto fnExactPskOfSpec)

/-- 'laws.FnExactCertOf', WHERE WHAT IT READS IS OF BULK AT MOST 1048576: true; the input reads as it did. -/
def fnExactCertOfUptoRow : OpenClaim := { program := "ytgmlanmblabgfaa", sum := "a1cce573171af24f776ba0140da17bab10b09cdc7fb6b4755d5c737a98500f93", func := "loop.example/g00466/laws.FnExactCertOf", spec := "fnExactCertOf", unfollowed := true, recurses := true, plainKeys := false, apart := false, narrowed := true }
def FnExactCertOfUptoSaid : Prop := fnExactCertOfUptoRow.holds Try.pinned (OpenSpec.upto fnExactCertOfSpec)

/-- 'laws.FnExactCertIn', WHERE WHAT IT READS IS OF BULK AT MOST 1048576: true; the input reads as it did. -/
def fnExactCertInUptoRow : OpenClaim := { program := "ytgmlanmblabgfaa", sum := "a1cce573171af24f776ba0140da17bab10b09cdc7fb6b4755d5c737a98500f93", func := "loop.example/g00466/laws.FnExactCertIn", spec := "fnExactCertIn", unfollowed := true, recurses := true, plainKeys := false, apart := false, narrowed := true }
def FnExactCertInUptoSaid : Prop := fnExactCertInUptoRow.holds Try.pinned (OpenSpec.upto fnExactCertInSpec)

end Rows
end Go.Proofs.Ytgmlanmblabgfaa
