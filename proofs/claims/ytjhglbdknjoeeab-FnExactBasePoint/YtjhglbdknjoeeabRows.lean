/-
  No cell of these rows narrows 'for every input' (looked for: loops, veiled, ifaces, maps, wideKeys, modest, calm, conditions, laid).
  DERIVED. THE GIVEN ROWS OF THIS SEAT. 4 by the template 'for every input the law returns true; each argument reads behind the call as it read before'; 0 by the template 'total and deterministic' (their statements: YtjhglbdknjoeeabTotals.lean).
  GIVEN WITH THE SEED: the statements are not yours to turn. If you find one false, say at which input.
  Laid BY PROGRAM, IN A SANDBOX (cutbox-rows.mjs): the forced cells as the released guide's own fill.sh prints them over the translation 6440c4c508e689e1… (all of the seat's roots in one cut). By AI agents, Wed Nov 11 2026. No macro, syntax, notation, axiom, sorry.
-/
import Derived.Test.YtjhglbdknjoeeabChecked
import GoSem.Claim
import GoSem.ClaimJoined
import GoSem.ClaimMapViews
import Derived.JoinedTies
import Derived.KernelRfl
namespace Go.Proofs.Ytjhglbdknjoeeab
/- THE CELL 'sum', in the pinned program and in every row, IS THE sha256 OF THE DUMP (.gsa) THAT YtjhglbdknjoeeabProg.lean LOADS. Nothing in Lean hashes anything: it is a label: what it is worth is what the hold of that sum in a sandbox is worth. -/
noncomputable def Try.pinned : Pinned := { name := "ytjhglbdknjoeeab", sum := "6440c4c508e689e163b536ef1426d12ed4f86ec5fbd2fb9de437decaa1b14502", checked := Try.checked }
namespace Rows
def none {H : Type} : Left H := { results := [], args := [] }

/-- 'laws.FnExactX25519': WHATEVER THE INPUT: true; the input reads as it did. -/
def fnExactX25519Spec : ChangeSpec := { name := "fnExactX25519", fn := fun _ => fun
  | [d1, d2] => { results := [.lit (.bool true)], args := [d1, d2] }
  | _ => none }
def fnExactX25519Row : OpenClaim := { program := "ytjhglbdknjoeeab", sum := "6440c4c508e689e163b536ef1426d12ed4f86ec5fbd2fb9de437decaa1b14502", func := "loop.example/g00466/laws.FnExactX25519", spec := "fnExactX25519", unfollowed := true, recurses := true, apart := false }
def FnExactX25519Said : Prop := fnExactX25519Row.holds Try.pinned (OpenSpec.ofChange fnExactX25519Spec)

/-- ITS FALSE NEIGHBOUR: 'it returns false'. Refute it at one input. -/
def fnExactX25519Wrong : ChangeSpec := { name := "fnExactX25519", fn := fun _ => fun
  | [d1, d2] => { results := [.lit (.bool false)], args := [d1, d2] }
  | _ => none }
def FnExactX25519WrongFalsely : Prop := fnExactX25519Row.holds Try.pinned (OpenSpec.ofChange fnExactX25519Wrong)

/-- 'laws.FnExactBasePoint': WHATEVER THE INPUT: true; the input reads as it did. -/
def fnExactBasePointSpec : ChangeSpec := { name := "fnExactBasePoint", fn := fun _ => fun
  | [] => { results := [.lit (.bool true)], args := [] }
  | _ => none }
def fnExactBasePointRow : OpenClaim := { program := "ytjhglbdknjoeeab", sum := "6440c4c508e689e163b536ef1426d12ed4f86ec5fbd2fb9de437decaa1b14502", func := "loop.example/g00466/laws.FnExactBasePoint", spec := "fnExactBasePoint", apart := false }
def FnExactBasePointSaid : Prop := fnExactBasePointRow.holds Try.pinned (OpenSpec.ofChange fnExactBasePointSpec)

/-- ITS FALSE NEIGHBOUR: 'it returns false'. Refute it at one input. -/
def fnExactBasePointWrong : ChangeSpec := { name := "fnExactBasePoint", fn := fun _ => fun
  | [] => { results := [.lit (.bool false)], args := [] }
  | _ => none }
def FnExactBasePointWrongFalsely : Prop := fnExactBasePointRow.holds Try.pinned (OpenSpec.ofChange fnExactBasePointWrong)

/-- 'laws.FnExactPublicOf': WHATEVER THE INPUT: true; the input reads as it did. -/
def fnExactPublicOfSpec : ChangeSpec := { name := "fnExactPublicOf", fn := fun _ => fun
  | [d] => { results := [.lit (.bool true)], args := [d] }
  | _ => none }
def fnExactPublicOfRow : OpenClaim := { program := "ytjhglbdknjoeeab", sum := "6440c4c508e689e163b536ef1426d12ed4f86ec5fbd2fb9de437decaa1b14502", func := "loop.example/g00466/laws.FnExactPublicOf", spec := "fnExactPublicOf", unfollowed := true, recurses := true, apart := false }
def FnExactPublicOfSaid : Prop := fnExactPublicOfRow.holds Try.pinned (OpenSpec.ofChange fnExactPublicOfSpec)

/-- ITS FALSE NEIGHBOUR: 'it returns false'. Refute it at one input. -/
def fnExactPublicOfWrong : ChangeSpec := { name := "fnExactPublicOf", fn := fun _ => fun
  | [d] => { results := [.lit (.bool false)], args := [d] }
  | _ => none }
def FnExactPublicOfWrongFalsely : Prop := fnExactPublicOfRow.holds Try.pinned (OpenSpec.ofChange fnExactPublicOfWrong)

/-- 'laws.FnExactSharedOf': WHATEVER THE INPUT: true; the input reads as it did. -/
def fnExactSharedOfSpec : ChangeSpec := { name := "fnExactSharedOf", fn := fun _ => fun
  | [d1, d2] => { results := [.lit (.bool true)], args := [d1, d2] }
  | _ => none }
def fnExactSharedOfRow : OpenClaim := { program := "ytjhglbdknjoeeab", sum := "6440c4c508e689e163b536ef1426d12ed4f86ec5fbd2fb9de437decaa1b14502", func := "loop.example/g00466/laws.FnExactSharedOf", spec := "fnExactSharedOf", inPlace := ["internal/abi.NoEscape", "internal/bytealg.MakeNoZero"], unfollowed := true, recurses := true, apart := false }
def FnExactSharedOfSaid : Prop := fnExactSharedOfRow.holds Try.pinned (OpenSpec.ofChange fnExactSharedOfSpec)

/-- ITS FALSE NEIGHBOUR: 'it returns false'. Refute it at one input. -/
def fnExactSharedOfWrong : ChangeSpec := { name := "fnExactSharedOf", fn := fun _ => fun
  | [d1, d2] => { results := [.lit (.bool false)], args := [d1, d2] }
  | _ => none }
def FnExactSharedOfWrongFalsely : Prop := fnExactSharedOfRow.holds Try.pinned (OpenSpec.ofChange fnExactSharedOfWrong)

/- THE SECOND FORM. 'bulk': how many values and letters a reading holds, each counted each time it is reached (what is shared counts as often as it is met; a slice's spare places count too). A statement '..UptoSaid' is the law's where the arguments, and the package variables that the reading takes, are together of bulk at most 1048576: NARROWER than '..Said'. Prove '..Said' where nothing that the law and all that it calls make is longer than what came in: it says more and counts as full. Else prove '..UptoSaid'. A law counts once. -/
mutual
def uptoBulk {H : Type} : DataW H → Nat
  | .lit (.string bytes) => bytes.length + 1
  | .lit _ => 1
  | .nil => 1
  | .ptr d => uptoBulk d + 1
  | .slice elems spare => uptoBulkAll elems + uptoBulkAll spare + 1
  | .agg parts => uptoBulkAll parts + 1
  | .iface _ d => uptoBulk d + 1
  | .map entries => uptoBulkEntries entries + 1
  | .held _ => 1
def uptoBulkAll {H : Type} : List (DataW H) → Nat
  | [] => 0
  | d :: r => uptoBulk d + uptoBulkAll r
def uptoBulkEntries {H : Type} : List (Lit × DataW H) → Nat
  | [] => 0
  | x :: r => uptoBulkEntry x + uptoBulkEntries r
def uptoBulkEntry {H : Type} : Lit × DataW H → Nat
  | (.string bytes, d) => bytes.length + uptoBulk d + 1
  | (_, d) => uptoBulk d + 1
 end
def uptoSmall : (H : Type) → List (DataW H) → Bool := fun _ ds => decide (uptoBulkAll ds ≤ 1048576)
def OpenSpec.upto (s : _root_.Go.ChangeSpec) : _root_.Go.OpenSpec := { _root_.Go.OpenSpec.ofChange s with cond := some uptoSmall }

/-- 'laws.FnExactX25519', WHERE WHAT IT READS IS OF BULK AT MOST 1048576: true; the input reads as it did. -/
def fnExactX25519UptoRow : OpenClaim := { program := "ytjhglbdknjoeeab", sum := "6440c4c508e689e163b536ef1426d12ed4f86ec5fbd2fb9de437decaa1b14502", func := "loop.example/g00466/laws.FnExactX25519", spec := "fnExactX25519", unfollowed := true, recurses := true, apart := false, narrowed := true }
def FnExactX25519UptoSaid : Prop := fnExactX25519UptoRow.holds Try.pinned (OpenSpec.upto fnExactX25519Spec)

/-- 'laws.FnExactBasePoint', WHERE WHAT IT READS IS OF BULK AT MOST 1048576: true; the input reads as it did. -/
def fnExactBasePointUptoRow : OpenClaim := { program := "ytjhglbdknjoeeab", sum := "6440c4c508e689e163b536ef1426d12ed4f86ec5fbd2fb9de437decaa1b14502", func := "loop.example/g00466/laws.FnExactBasePoint", spec := "fnExactBasePoint", apart := false, narrowed := true }
def FnExactBasePointUptoSaid : Prop := fnExactBasePointUptoRow.holds Try.pinned (OpenSpec.upto fnExactBasePointSpec)

/-- 'laws.FnExactPublicOf', WHERE WHAT IT READS IS OF BULK AT MOST 1048576: true; the input reads as it did. -/
def fnExactPublicOfUptoRow : OpenClaim := { program := "ytjhglbdknjoeeab", sum := "6440c4c508e689e163b536ef1426d12ed4f86ec5fbd2fb9de437decaa1b14502", func := "loop.example/g00466/laws.FnExactPublicOf", spec := "fnExactPublicOf", unfollowed := true, recurses := true, apart := false, narrowed := true }
def FnExactPublicOfUptoSaid : Prop := fnExactPublicOfUptoRow.holds Try.pinned (OpenSpec.upto fnExactPublicOfSpec)

/-- 'laws.FnExactSharedOf', WHERE WHAT IT READS IS OF BULK AT MOST 1048576: true; the input reads as it did. -/
def fnExactSharedOfUptoRow : OpenClaim := { program := "ytjhglbdknjoeeab", sum := "6440c4c508e689e163b536ef1426d12ed4f86ec5fbd2fb9de437decaa1b14502", func := "loop.example/g00466/laws.FnExactSharedOf", spec := "fnExactSharedOf", inPlace := ["internal/abi.NoEscape", "internal/bytealg.MakeNoZero"], unfollowed := true, recurses := true, apart := false, narrowed := true }
def FnExactSharedOfUptoSaid : Prop := fnExactSharedOfUptoRow.holds Try.pinned (OpenSpec.upto fnExactSharedOfSpec)

end Rows
end Go.Proofs.Ytjhglbdknjoeeab
