/-
  No cell of these rows narrows 'for every input' (looked for: loops, veiled, ifaces, maps, wideKeys, modest, calm, conditions, laid).
  DERIVED. THE GIVEN ROWS OF THIS SEAT. 4 by the template 'for every input the law returns true; each argument reads behind the call as it read before'; 0 by the template 'total and deterministic' (their statements: YtpfncjnhmkjceabTotals.lean).
  GIVEN WITH THE SEED: the statements are not yours to turn. If you find one false, say at which input.
  Laid BY PROGRAM, IN A SANDBOX (cutbox-rows.mjs): the forced cells as the released guide's own fill.sh prints them over the translation d69b8cb7754ed2b8… (all of the seat's roots in one cut). By AI agents, Wed Nov 11 2026. No macro, syntax, notation, axiom, sorry.
-/
import Derived.Test.YtpfncjnhmkjceabChecked
import GoSem.Claim
import GoSem.ClaimJoined
import GoSem.ClaimMapViews
import Derived.JoinedTies
import Derived.KernelRfl
namespace Go.Proofs.Ytpfncjnhmkjceab
/- THE CELL 'sum', in the pinned program and in every row, IS THE sha256 OF THE DUMP (.gsa) THAT YtpfncjnhmkjceabProg.lean LOADS. Nothing in Lean hashes anything: it is a label: what it is worth is what the hold of that sum in a sandbox is worth. -/
noncomputable def Try.pinned : Pinned := { name := "ytpfncjnhmkjceab", sum := "d69b8cb7754ed2b89596b34d90472f5a358b275bb8a6b675d02003bc3aa3cedd", checked := Try.checked }
namespace Rows
def none {H : Type} : Left H := { results := [], args := [] }

/-- 'laws.FnExactHandSecret': WHATEVER THE INPUT: true; the input reads as it did. -/
def fnExactHandSecretSpec : ChangeSpec := { name := "fnExactHandSecret", fn := fun _ => fun
  | [d1, d2, d3, d4] => { results := [.lit (.bool true)], args := [d1, d2, d3, d4] }
  | _ => none }
def fnExactHandSecretRow : OpenClaim := { program := "ytpfncjnhmkjceab", sum := "d69b8cb7754ed2b89596b34d90472f5a358b275bb8a6b675d02003bc3aa3cedd", func := "loop.example/g00466/laws.FnExactHandSecret", spec := "fnExactHandSecret", unfollowed := true, recurses := true, plainKeys := false, apart := false }
def FnExactHandSecretSaid : Prop := fnExactHandSecretRow.holds Try.pinned (OpenSpec.ofChange fnExactHandSecretSpec)

/-- ITS FALSE NEIGHBOUR: 'it returns false'. Refute it at one input. -/
def fnExactHandSecretWrong : ChangeSpec := { name := "fnExactHandSecret", fn := fun _ => fun
  | [d1, d2, d3, d4] => { results := [.lit (.bool false)], args := [d1, d2, d3, d4] }
  | _ => none }
def FnExactHandSecretWrongFalsely : Prop := fnExactHandSecretRow.holds Try.pinned (OpenSpec.ofChange fnExactHandSecretWrong)

/-- 'laws.FnExactDoneMac': WHATEVER THE INPUT: true; the input reads as it did. -/
def fnExactDoneMacSpec : ChangeSpec := { name := "fnExactDoneMac", fn := fun _ => fun
  | [d1, d2, d3, d4] => { results := [.lit (.bool true)], args := [d1, d2, d3, d4] }
  | _ => none }
def fnExactDoneMacRow : OpenClaim := { program := "ytpfncjnhmkjceab", sum := "d69b8cb7754ed2b89596b34d90472f5a358b275bb8a6b675d02003bc3aa3cedd", func := "loop.example/g00466/laws.FnExactDoneMac", spec := "fnExactDoneMac", unfollowed := true, recurses := true, plainKeys := false, apart := false }
def FnExactDoneMacSaid : Prop := fnExactDoneMacRow.holds Try.pinned (OpenSpec.ofChange fnExactDoneMacSpec)

/-- ITS FALSE NEIGHBOUR: 'it returns false'. Refute it at one input. -/
def fnExactDoneMacWrong : ChangeSpec := { name := "fnExactDoneMac", fn := fun _ => fun
  | [d1, d2, d3, d4] => { results := [.lit (.bool false)], args := [d1, d2, d3, d4] }
  | _ => none }
def FnExactDoneMacWrongFalsely : Prop := fnExactDoneMacRow.holds Try.pinned (OpenSpec.ofChange fnExactDoneMacWrong)

/-- 'laws.FnExactAppSecret': WHATEVER THE INPUT: true; the input reads as it did. -/
def fnExactAppSecretSpec : ChangeSpec := { name := "fnExactAppSecret", fn := fun _ => fun
  | [d1, d2, d3] => { results := [.lit (.bool true)], args := [d1, d2, d3] }
  | _ => none }
def fnExactAppSecretRow : OpenClaim := { program := "ytpfncjnhmkjceab", sum := "d69b8cb7754ed2b89596b34d90472f5a358b275bb8a6b675d02003bc3aa3cedd", func := "loop.example/g00466/laws.FnExactAppSecret", spec := "fnExactAppSecret", unfollowed := true, recurses := true, plainKeys := false, apart := false }
def FnExactAppSecretSaid : Prop := fnExactAppSecretRow.holds Try.pinned (OpenSpec.ofChange fnExactAppSecretSpec)

/-- ITS FALSE NEIGHBOUR: 'it returns false'. Refute it at one input. -/
def fnExactAppSecretWrong : ChangeSpec := { name := "fnExactAppSecret", fn := fun _ => fun
  | [d1, d2, d3] => { results := [.lit (.bool false)], args := [d1, d2, d3] }
  | _ => none }
def FnExactAppSecretWrongFalsely : Prop := fnExactAppSecretRow.holds Try.pinned (OpenSpec.ofChange fnExactAppSecretWrong)

/-- 'laws.FnExactCookieOf': WHATEVER THE INPUT: true; the input reads as it did. -/
def fnExactCookieOfSpec : ChangeSpec := { name := "fnExactCookieOf", fn := fun _ => fun
  | [d1, d2, d3, d4] => { results := [.lit (.bool true)], args := [d1, d2, d3, d4] }
  | _ => none }
def fnExactCookieOfRow : OpenClaim := { program := "ytpfncjnhmkjceab", sum := "d69b8cb7754ed2b89596b34d90472f5a358b275bb8a6b675d02003bc3aa3cedd", func := "loop.example/g00466/laws.FnExactCookieOf", spec := "fnExactCookieOf", unfollowed := true, recurses := true, plainKeys := false, apart := false }
def FnExactCookieOfSaid : Prop := fnExactCookieOfRow.holds Try.pinned (OpenSpec.ofChange fnExactCookieOfSpec)

/-- ITS FALSE NEIGHBOUR: 'it returns false'. Refute it at one input. -/
def fnExactCookieOfWrong : ChangeSpec := { name := "fnExactCookieOf", fn := fun _ => fun
  | [d1, d2, d3, d4] => { results := [.lit (.bool false)], args := [d1, d2, d3, d4] }
  | _ => none }
def FnExactCookieOfWrongFalsely : Prop := fnExactCookieOfRow.holds Try.pinned (OpenSpec.ofChange fnExactCookieOfWrong)

/- THE SECOND FORM. 'bulk': how many values and letters a reading holds, each counted each time it is reached (what is shared counts as often as it is met; a slice's spare places count too). A statement '..UptoSaid' is the law's where the arguments, and the package variables that the reading takes, are together of bulk at most 1048576: NARROWER than '..Said'. Prove '..Said' where nothing that the law and all that it calls make is longer than what came in: it says more and counts as full. Else prove '..UptoSaid'. A law counts once. -/
mutual
def uptoBulk {H : Type} : DataW H → Nat
  | .lit (.string bytes) => bytes.length + 1
  | .lit _ => 1
  | .nil => 1
  | .ptr d => uptoBulk d + 1
  | .slice elems spare => uptoBulkAll elems + uptoBulkAll spare + 1
  | .agg parts => uptoBulkAll parts + 1
  | .iface _ d => uptoBulk d + 1
  | .map entries => uptoBulkEntries entries + 1
  | .held _ => 1
def uptoBulkAll {H : Type} : List (DataW H) → Nat
  | [] => 0
  | d :: r => uptoBulk d + uptoBulkAll r
def uptoBulkEntries {H : Type} : List (Lit × DataW H) → Nat
  | [] => 0
  | x :: r => uptoBulkEntry x + uptoBulkEntries r
def uptoBulkEntry {H : Type} : Lit × DataW H → Nat
  | (.string bytes, d) => bytes.length + uptoBulk d + 1
  | (_, d) => uptoBulk d + 1
 end
def uptoSmall : (H : Type) → List (DataW H) → Bool := fun _ ds => decide (uptoBulkAll ds ≤ 1048576)
def OpenSpec.upto (s : _root_.Go.ChangeSpec) : _root_.Go.OpenSpec := { _root_.Go.OpenSpec.ofChange s with cond := some uptoSmall }

/-- 'laws.FnExactHandSecret', WHERE WHAT IT READS IS OF BULK AT MOST 1048576: true; the input reads as it did. -/
def fnExactHandSecretUptoRow : OpenClaim := { program := "ytpfncjnhmkjceab", sum := "d69b8cb7754ed2b89596b34d90472f5a358b275bb8a6b675d02003bc3aa3cedd", func := "loop.example/g00466/laws.FnExactHandSecret", spec := "fnExactHandSecret", unfollowed := true, recurses := true, plainKeys := false, apart := false, narrowed := true }
def FnExactHandSecretUptoSaid : Prop := fnExactHandSecretUptoRow.holds Try.pinned (OpenSpec.upto fnExactHandSecretSpec)

/-- 'laws.FnExactDoneMac', WHERE WHAT IT READS IS OF BULK AT MOST 1048576: true; the input reads as it did. -/
def fnExactDoneMacUptoRow : OpenClaim := { program := "ytpfncjnhmkjceab", sum := "d69b8cb7754ed2b89596b34d90472f5a358b275bb8a6b675d02003bc3aa3cedd", func := "loop.example/g00466/laws.FnExactDoneMac", spec := "fnExactDoneMac", unfollowed := true, recurses := true, plainKeys := false, apart := false, narrowed := true }
def FnExactDoneMacUptoSaid : Prop := fnExactDoneMacUptoRow.holds Try.pinned (OpenSpec.upto fnExactDoneMacSpec)

/-- 'laws.FnExactAppSecret', WHERE WHAT IT READS IS OF BULK AT MOST 1048576: true; the input reads as it did. -/
def fnExactAppSecretUptoRow : OpenClaim := { program := "ytpfncjnhmkjceab", sum := "d69b8cb7754ed2b89596b34d90472f5a358b275bb8a6b675d02003bc3aa3cedd", func := "loop.example/g00466/laws.FnExactAppSecret", spec := "fnExactAppSecret", unfollowed := true, recurses := true, plainKeys := false, apart := false, narrowed := true }
def FnExactAppSecretUptoSaid : Prop := fnExactAppSecretUptoRow.holds Try.pinned (OpenSpec.upto fnExactAppSecretSpec)

/-- 'laws.FnExactCookieOf', WHERE WHAT IT READS IS OF BULK AT MOST 1048576: true; the input reads as it did. -/
def fnExactCookieOfUptoRow : OpenClaim := { program := "ytpfncjnhmkjceab", sum := "d69b8cb7754ed2b89596b34d90472f5a358b275bb8a6b675d02003bc3aa3cedd", func := "loop.example/g00466/laws.FnExactCookieOf", spec := "fnExactCookieOf", unfollowed := true, recurses := true, plainKeys := false, apart := false, narrowed := true }
def FnExactCookieOfUptoSaid : Prop := fnExactCookieOfUptoRow.holds Try.pinned (OpenSpec.upto fnExactCookieOfSpec)

end Rows
end Go.Proofs.Ytpfncjnhmkjceab
