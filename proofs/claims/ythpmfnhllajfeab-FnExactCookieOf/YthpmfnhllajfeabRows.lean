/-
  No cell of these rows narrows 'for every input' (looked for: loops, veiled, ifaces, maps, wideKeys, modest, calm, conditions, laid).
  DERIVED. THE GIVEN ROWS OF THIS SEAT. 5 by the template 'for every input the law returns true; each argument reads behind the call as it read before'; 0 by the template 'total and deterministic' (their statements: YthpmfnhllajfeabTotals.lean).
  GIVEN WITH THE SEED: the statements are not yours to turn. If you find one false, say at which input.
  Laid BY PROGRAM, IN A SANDBOX (cutbox-rows.mjs): the forced cells as the released guide's own fill.sh prints them over the translation d635cbc213f5b0be… (all of the seat's roots in one cut). By AI agents, Wed Nov 11 2026. No macro, syntax, notation, axiom, sorry.
-/
import Derived.Test.YthpmfnhllajfeabChecked
import GoSem.Claim
import GoSem.ClaimJoined
import GoSem.ClaimMapViews
import Derived.JoinedTies
import Derived.KernelRfl
namespace Go.Proofs.Ythpmfnhllajfeab
/- THE CELL 'sum', in the pinned program and in every row, IS THE sha256 OF THE DUMP (.gsa) THAT YthpmfnhllajfeabProg.lean LOADS. Nothing in Lean hashes anything: it is a label: what it is worth is what the hold of that sum in a sandbox is worth. -/
noncomputable def Try.pinned : Pinned := { name := "ythpmfnhllajfeab", sum := "d635cbc213f5b0beeb7b5ed9880a5a629302ad2964fb953c2200d838161c494e", checked := Try.checked }
namespace Rows
def none {H : Type} : Left H := { results := [], args := [] }

/-- 'laws.FnExactAtom': WHATEVER THE INPUT: true; the input reads as it did. -/
def fnExactAtomSpec : ChangeSpec := { name := "fnExactAtom", fn := fun _ => fun
  | [d1, d2] => { results := [.lit (.bool true)], args := [d1, d2] }
  | _ => none }
def fnExactAtomRow : OpenClaim := { program := "ythpmfnhllajfeab", sum := "d635cbc213f5b0beeb7b5ed9880a5a629302ad2964fb953c2200d838161c494e", func := "loop.example/g00466/laws.FnExactAtom", spec := "fnExactAtom", unfollowed := true, recurses := true, plainKeys := false, apart := false }
def FnExactAtomSaid : Prop := fnExactAtomRow.holds Try.pinned (OpenSpec.ofChange fnExactAtomSpec)

/-- ITS FALSE NEIGHBOUR: 'it returns false'. Refute it at one input. -/
def fnExactAtomWrong : ChangeSpec := { name := "fnExactAtom", fn := fun _ => fun
  | [d1, d2] => { results := [.lit (.bool false)], args := [d1, d2] }
  | _ => none }
def FnExactAtomWrongFalsely : Prop := fnExactAtomRow.holds Try.pinned (OpenSpec.ofChange fnExactAtomWrong)

/-- 'laws.FnExactMake': WHATEVER THE INPUT: true; the input reads as it did. -/
def fnExactMakeSpec : ChangeSpec := { name := "fnExactMake", fn := fun _ => fun
  | [d1, d2, d3, d4] => { results := [.lit (.bool true)], args := [d1, d2, d3, d4] }
  | _ => none }
def fnExactMakeRow : OpenClaim := { program := "ythpmfnhllajfeab", sum := "d635cbc213f5b0beeb7b5ed9880a5a629302ad2964fb953c2200d838161c494e", func := "loop.example/g00466/laws.FnExactMake", spec := "fnExactMake", unfollowed := true, recurses := true, plainKeys := false, apart := false }
def FnExactMakeSaid : Prop := fnExactMakeRow.holds Try.pinned (OpenSpec.ofChange fnExactMakeSpec)

/-- ITS FALSE NEIGHBOUR: 'it returns false'. Refute it at one input. -/
def fnExactMakeWrong : ChangeSpec := { name := "fnExactMake", fn := fun _ => fun
  | [d1, d2, d3, d4] => { results := [.lit (.bool false)], args := [d1, d2, d3, d4] }
  | _ => none }
def FnExactMakeWrongFalsely : Prop := fnExactMakeRow.holds Try.pinned (OpenSpec.ofChange fnExactMakeWrong)

/-- 'laws.FnExactDhOf': WHATEVER THE INPUT: true; the input reads as it did. -/
def fnExactDhOfSpec : ChangeSpec := { name := "fnExactDhOf", fn := fun _ => fun
  | [d1, d2, d3] => { results := [.lit (.bool true)], args := [d1, d2, d3] }
  | _ => none }
def fnExactDhOfRow : OpenClaim := { program := "ythpmfnhllajfeab", sum := "d635cbc213f5b0beeb7b5ed9880a5a629302ad2964fb953c2200d838161c494e", func := "loop.example/g00466/laws.FnExactDhOf", spec := "fnExactDhOf", inPlace := ["internal/bytealg.abigen_runtime_cmpstring"], unfollowed := true, recurses := true, plainKeys := false, apart := false }
def FnExactDhOfSaid : Prop := fnExactDhOfRow.holds Try.pinned (OpenSpec.ofChange fnExactDhOfSpec)

/-- ITS FALSE NEIGHBOUR: 'it returns false'. Refute it at one input. -/
def fnExactDhOfWrong : ChangeSpec := { name := "fnExactDhOf", fn := fun _ => fun
  | [d1, d2, d3] => { results := [.lit (.bool false)], args := [d1, d2, d3] }
  | _ => none }
def FnExactDhOfWrongFalsely : Prop := fnExactDhOfRow.holds Try.pinned (OpenSpec.ofChange fnExactDhOfWrong)

/-- 'laws.FnExactCookieOf': WHATEVER THE INPUT: true; the input reads as it did. -/
def fnExactCookieOfSpec : ChangeSpec := { name := "fnExactCookieOf", fn := fun _ => fun
  | [d1, d2, d3, d4] => { results := [.lit (.bool true)], args := [d1, d2, d3, d4] }
  | _ => none }
def fnExactCookieOfRow : OpenClaim := { program := "ythpmfnhllajfeab", sum := "d635cbc213f5b0beeb7b5ed9880a5a629302ad2964fb953c2200d838161c494e", func := "loop.example/g00466/laws.FnExactCookieOf", spec := "fnExactCookieOf", unfollowed := true, recurses := true, plainKeys := false, apart := false }
def FnExactCookieOfSaid : Prop := fnExactCookieOfRow.holds Try.pinned (OpenSpec.ofChange fnExactCookieOfSpec)

/-- ITS FALSE NEIGHBOUR: 'it returns false'. Refute it at one input. -/
def fnExactCookieOfWrong : ChangeSpec := { name := "fnExactCookieOf", fn := fun _ => fun
  | [d1, d2, d3, d4] => { results := [.lit (.bool false)], args := [d1, d2, d3, d4] }
  | _ => none }
def FnExactCookieOfWrongFalsely : Prop := fnExactCookieOfRow.holds Try.pinned (OpenSpec.ofChange fnExactCookieOfWrong)

/-- 'laws.FnExactCookieOk': WHATEVER THE INPUT: true; the input reads as it did. -/
def fnExactCookieOkSpec : ChangeSpec := { name := "fnExactCookieOk", fn := fun _ => fun
  | [d1, d2, d3, d4, d5] => { results := [.lit (.bool true)], args := [d1, d2, d3, d4, d5] }
  | _ => none }
def fnExactCookieOkRow : OpenClaim := { program := "ythpmfnhllajfeab", sum := "d635cbc213f5b0beeb7b5ed9880a5a629302ad2964fb953c2200d838161c494e", func := "loop.example/g00466/laws.FnExactCookieOk", spec := "fnExactCookieOk", unfollowed := true, recurses := true, plainKeys := false, apart := false }
def FnExactCookieOkSaid : Prop := fnExactCookieOkRow.holds Try.pinned (OpenSpec.ofChange fnExactCookieOkSpec)

/-- ITS FALSE NEIGHBOUR: 'it returns false'. Refute it at one input. -/
def fnExactCookieOkWrong : ChangeSpec := { name := "fnExactCookieOk", fn := fun _ => fun
  | [d1, d2, d3, d4, d5] => { results := [.lit (.bool false)], args := [d1, d2, d3, d4, d5] }
  | _ => none }
def FnExactCookieOkWrongFalsely : Prop := fnExactCookieOkRow.holds Try.pinned (OpenSpec.ofChange fnExactCookieOkWrong)

/- THE SECOND FORM. 'bulk': how many values and letters a reading holds, each counted each time it is reached (what is shared counts as often as it is met; a slice's spare places count too). A statement '..UptoSaid' is the law's where the arguments, and the package variables that the reading takes, are together of bulk at most 1048576: NARROWER than '..Said'. Prove '..Said' where nothing that the law and all that it calls make is longer than what came in: it says more and counts as full. Else prove '..UptoSaid'. A law counts once. -/
mutual
def uptoBulk {H : Type} : DataW H → Nat
  | .lit (.string bytes) => bytes.length + 1
  | .lit _ => 1
  | .nil => 1
  | .ptr d => uptoBulk d + 1
  | .slice elems spare => uptoBulkAll elems + uptoBulkAll spare + 1
  | .agg parts => uptoBulkAll parts + 1
  | .iface _ d => uptoBulk d + 1
  | .map entries => uptoBulkEntries entries + 1
  | .held _ => 1
def uptoBulkAll {H : Type} : List (DataW H) → Nat
  | [] => 0
  | d :: r => uptoBulk d + uptoBulkAll r
def uptoBulkEntries {H : Type} : List (Lit × DataW H) → Nat
  | [] => 0
  | x :: r => uptoBulkEntry x + uptoBulkEntries r
def uptoBulkEntry {H : Type} : Lit × DataW H → Nat
  | (.string bytes, d) => bytes.length + uptoBulk d + 1
  | (_, d) => uptoBulk d + 1
 end
def uptoSmall : (H : Type) → List (DataW H) → Bool := fun _ ds => decide (uptoBulkAll ds ≤ 1048576)
def OpenSpec.upto (s : _root_.Go.ChangeSpec) : _root_.Go.OpenSpec := { _root_.Go.OpenSpec.ofChange s with cond := some uptoSmall }

/-- 'laws.FnExactAtom', WHERE WHAT IT READS IS OF BULK AT MOST 1048576: true; the input reads as it did. -/
def fnExactAtomUptoRow : OpenClaim := { program := "ythpmfnhllajfeab", sum := "d635cbc213f5b0beeb7b5ed9880a5a629302ad2964fb953c2200d838161c494e", func := "loop.example/g00466/laws.FnExactAtom", spec := "fnExactAtom", unfollowed := true, recurses := true, plainKeys := false, apart := false, narrowed := true }
def FnExactAtomUptoSaid : Prop := fnExactAtomUptoRow.holds Try.pinned (OpenSpec.upto fnExactAtomSpec)

/-- 'laws.FnExactMake', WHERE WHAT IT READS IS OF BULK AT MOST 1048576: true; the input reads as it did. -/
def fnExactMakeUptoRow : OpenClaim := { program := "ythpmfnhllajfeab", sum := "d635cbc213f5b0beeb7b5ed9880a5a629302ad2964fb953c2200d838161c494e", func := "loop.example/g00466/laws.FnExactMake", spec := "fnExactMake", unfollowed := true, recurses := true, plainKeys := false, apart := false, narrowed := true }
def FnExactMakeUptoSaid : Prop := fnExactMakeUptoRow.holds Try.pinned (OpenSpec.upto fnExactMakeSpec)

/-- 'laws.FnExactDhOf', WHERE WHAT IT READS IS OF BULK AT MOST 1048576: true; the input reads as it did. -/
def fnExactDhOfUptoRow : OpenClaim := { program := "ythpmfnhllajfeab", sum := "d635cbc213f5b0beeb7b5ed9880a5a629302ad2964fb953c2200d838161c494e", func := "loop.example/g00466/laws.FnExactDhOf", spec := "fnExactDhOf", inPlace := ["internal/bytealg.abigen_runtime_cmpstring"], unfollowed := true, recurses := true, plainKeys := false, apart := false, narrowed := true }
def FnExactDhOfUptoSaid : Prop := fnExactDhOfUptoRow.holds Try.pinned (OpenSpec.upto fnExactDhOfSpec)

/-- 'laws.FnExactCookieOf', WHERE WHAT IT READS IS OF BULK AT MOST 1048576: true; the input reads as it did. -/
def fnExactCookieOfUptoRow : OpenClaim := { program := "ythpmfnhllajfeab", sum := "d635cbc213f5b0beeb7b5ed9880a5a629302ad2964fb953c2200d838161c494e", func := "loop.example/g00466/laws.FnExactCookieOf", spec := "fnExactCookieOf", unfollowed := true, recurses := true, plainKeys := false, apart := false, narrowed := true }
def FnExactCookieOfUptoSaid : Prop := fnExactCookieOfUptoRow.holds Try.pinned (OpenSpec.upto fnExactCookieOfSpec)

/-- 'laws.FnExactCookieOk', WHERE WHAT IT READS IS OF BULK AT MOST 1048576: true; the input reads as it did. -/
def fnExactCookieOkUptoRow : OpenClaim := { program := "ythpmfnhllajfeab", sum := "d635cbc213f5b0beeb7b5ed9880a5a629302ad2964fb953c2200d838161c494e", func := "loop.example/g00466/laws.FnExactCookieOk", spec := "fnExactCookieOk", unfollowed := true, recurses := true, plainKeys := false, apart := false, narrowed := true }
def FnExactCookieOkUptoSaid : Prop := fnExactCookieOkUptoRow.holds Try.pinned (OpenSpec.upto fnExactCookieOkSpec)

end Rows
end Go.Proofs.Ythpmfnhllajfeab
