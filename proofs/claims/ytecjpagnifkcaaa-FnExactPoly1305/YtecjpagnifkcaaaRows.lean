/-
  No cell of these rows narrows 'for every input' (looked for: loops, veiled, ifaces, maps, wideKeys, modest, calm, conditions, laid).
  DERIVED. THE GIVEN ROWS OF THIS SEAT. 6 by the template 'for every input the law returns true; each argument reads behind the call as it read before'; 0 by the template 'total and deterministic' (their statements: YtecjpagnifkcaaaTotals.lean).
  GIVEN WITH THE SEED: the statements are not yours to turn. If you find one false, say at which input.
  Laid BY PROGRAM, IN A SANDBOX (cutbox-rows.mjs): the forced cells as the released guide's own fill.sh prints them over the translation 83d7bd26e2730cfe… (all of the seat's roots in one cut). By AI agents, Wed Nov 11 2026. No macro, syntax, notation, axiom, sorry.
-/
import Derived.Test.YtecjpagnifkcaaaChecked
import GoSem.Claim
import GoSem.ClaimJoined
import GoSem.ClaimMapViews
import Derived.JoinedTies
import Derived.KernelRfl
namespace Go.Proofs.Ytecjpagnifkcaaa
/- THE CELL 'sum', in the pinned program and in every row, IS THE sha256 OF THE DUMP (.gsa) THAT YtecjpagnifkcaaaProg.lean LOADS. Nothing in Lean hashes anything: it is a label: what it is worth is what the hold of that sum in a sandbox is worth. -/
noncomputable def Try.pinned : Pinned := { name := "ytecjpagnifkcaaa", sum := "83d7bd26e2730cfe0c9f30f5a1ea9aab9f0ae58d3773154eb831082438a12cdf", checked := Try.checked }
namespace Rows
def none {H : Type} : Left H := { results := [], args := [] }

/-- 'laws.FnExactLimbsOf': WHATEVER THE INPUT: true; the input reads as it did. -/
def fnExactLimbsOfSpec : ChangeSpec := { name := "fnExactLimbsOf", fn := fun _ => fun
  | [d] => { results := [.lit (.bool true)], args := [d] }
  | _ => none }
def fnExactLimbsOfRow : OpenClaim := { program := "ytecjpagnifkcaaa", sum := "83d7bd26e2730cfe0c9f30f5a1ea9aab9f0ae58d3773154eb831082438a12cdf", func := "loop.example/g00466/laws.FnExactLimbsOf", spec := "fnExactLimbsOf", apart := false }
def FnExactLimbsOfSaid : Prop := fnExactLimbsOfRow.holds Try.pinned (OpenSpec.ofChange fnExactLimbsOfSpec)

/-- ITS FALSE NEIGHBOUR: 'it returns false'. Refute it at one input. -/
def fnExactLimbsOfWrong : ChangeSpec := { name := "fnExactLimbsOf", fn := fun _ => fun
  | [d] => { results := [.lit (.bool false)], args := [d] }
  | _ => none }
def FnExactLimbsOfWrongFalsely : Prop := fnExactLimbsOfRow.holds Try.pinned (OpenSpec.ofChange fnExactLimbsOfWrong)

/-- 'laws.FnExactLimbsOk': WHATEVER THE INPUT: true; the input reads as it did. -/
def fnExactLimbsOkSpec : ChangeSpec := { name := "fnExactLimbsOk", fn := fun _ => fun
  | [d] => { results := [.lit (.bool true)], args := [d] }
  | _ => none }
def fnExactLimbsOkRow : OpenClaim := { program := "ytecjpagnifkcaaa", sum := "83d7bd26e2730cfe0c9f30f5a1ea9aab9f0ae58d3773154eb831082438a12cdf", func := "loop.example/g00466/laws.FnExactLimbsOk", spec := "fnExactLimbsOk", apart := false }
def FnExactLimbsOkSaid : Prop := fnExactLimbsOkRow.holds Try.pinned (OpenSpec.ofChange fnExactLimbsOkSpec)

/-- ITS FALSE NEIGHBOUR: 'it returns false'. Refute it at one input. -/
def fnExactLimbsOkWrong : ChangeSpec := { name := "fnExactLimbsOk", fn := fun _ => fun
  | [d] => { results := [.lit (.bool false)], args := [d] }
  | _ => none }
def FnExactLimbsOkWrongFalsely : Prop := fnExactLimbsOkRow.holds Try.pinned (OpenSpec.ofChange fnExactLimbsOkWrong)

/-- 'laws.FnExactAddLimbs': WHATEVER THE INPUT: true; the input reads as it did. -/
def fnExactAddLimbsSpec : ChangeSpec := { name := "fnExactAddLimbs", fn := fun _ => fun
  | [d1, d2] => { results := [.lit (.bool true)], args := [d1, d2] }
  | _ => none }
def fnExactAddLimbsRow : OpenClaim := { program := "ytecjpagnifkcaaa", sum := "83d7bd26e2730cfe0c9f30f5a1ea9aab9f0ae58d3773154eb831082438a12cdf", func := "loop.example/g00466/laws.FnExactAddLimbs", spec := "fnExactAddLimbs", unfollowed := true, recurses := true, apart := false }
def FnExactAddLimbsSaid : Prop := fnExactAddLimbsRow.holds Try.pinned (OpenSpec.ofChange fnExactAddLimbsSpec)

/-- ITS FALSE NEIGHBOUR: 'it returns false'. Refute it at one input. -/
def fnExactAddLimbsWrong : ChangeSpec := { name := "fnExactAddLimbs", fn := fun _ => fun
  | [d1, d2] => { results := [.lit (.bool false)], args := [d1, d2] }
  | _ => none }
def FnExactAddLimbsWrongFalsely : Prop := fnExactAddLimbsRow.holds Try.pinned (OpenSpec.ofChange fnExactAddLimbsWrong)

/-- 'laws.FnExactMulLimbs': WHATEVER THE INPUT: true; the input reads as it did. -/
def fnExactMulLimbsSpec : ChangeSpec := { name := "fnExactMulLimbs", fn := fun _ => fun
  | [d1, d2] => { results := [.lit (.bool true)], args := [d1, d2] }
  | _ => none }
def fnExactMulLimbsRow : OpenClaim := { program := "ytecjpagnifkcaaa", sum := "83d7bd26e2730cfe0c9f30f5a1ea9aab9f0ae58d3773154eb831082438a12cdf", func := "loop.example/g00466/laws.FnExactMulLimbs", spec := "fnExactMulLimbs", unfollowed := true, recurses := true, apart := false }
def FnExactMulLimbsSaid : Prop := fnExactMulLimbsRow.holds Try.pinned (OpenSpec.ofChange fnExactMulLimbsSpec)

/-- ITS FALSE NEIGHBOUR: 'it returns false'. Refute it at one input. -/
def fnExactMulLimbsWrong : ChangeSpec := { name := "fnExactMulLimbs", fn := fun _ => fun
  | [d1, d2] => { results := [.lit (.bool false)], args := [d1, d2] }
  | _ => none }
def FnExactMulLimbsWrongFalsely : Prop := fnExactMulLimbsRow.holds Try.pinned (OpenSpec.ofChange fnExactMulLimbsWrong)

/-- 'laws.FnExactLimbsText': WHATEVER THE INPUT: true; the input reads as it did. -/
def fnExactLimbsTextSpec : ChangeSpec := { name := "fnExactLimbsText", fn := fun _ => fun
  | [d] => { results := [.lit (.bool true)], args := [d] }
  | _ => none }
def fnExactLimbsTextRow : OpenClaim := { program := "ytecjpagnifkcaaa", sum := "83d7bd26e2730cfe0c9f30f5a1ea9aab9f0ae58d3773154eb831082438a12cdf", func := "loop.example/g00466/laws.FnExactLimbsText", spec := "fnExactLimbsText", apart := false }
def FnExactLimbsTextSaid : Prop := fnExactLimbsTextRow.holds Try.pinned (OpenSpec.ofChange fnExactLimbsTextSpec)

/-- ITS FALSE NEIGHBOUR: 'it returns false'. Refute it at one input. -/
def fnExactLimbsTextWrong : ChangeSpec := { name := "fnExactLimbsText", fn := fun _ => fun
  | [d] => { results := [.lit (.bool false)], args := [d] }
  | _ => none }
def FnExactLimbsTextWrongFalsely : Prop := fnExactLimbsTextRow.holds Try.pinned (OpenSpec.ofChange fnExactLimbsTextWrong)

/-- 'laws.FnExactPoly1305': WHATEVER THE INPUT: true; the input reads as it did. -/
def fnExactPoly1305Spec : ChangeSpec := { name := "fnExactPoly1305", fn := fun _ => fun
  | [d1, d2] => { results := [.lit (.bool true)], args := [d1, d2] }
  | _ => none }
def fnExactPoly1305Row : OpenClaim := { program := "ytecjpagnifkcaaa", sum := "83d7bd26e2730cfe0c9f30f5a1ea9aab9f0ae58d3773154eb831082438a12cdf", func := "loop.example/g00466/laws.FnExactPoly1305", spec := "fnExactPoly1305", apart := false }
def FnExactPoly1305Said : Prop := fnExactPoly1305Row.holds Try.pinned (OpenSpec.ofChange fnExactPoly1305Spec)

/-- ITS FALSE NEIGHBOUR: 'it returns false'. Refute it at one input. -/
def fnExactPoly1305Wrong : ChangeSpec := { name := "fnExactPoly1305", fn := fun _ => fun
  | [d1, d2] => { results := [.lit (.bool false)], args := [d1, d2] }
  | _ => none }
def FnExactPoly1305WrongFalsely : Prop := fnExactPoly1305Row.holds Try.pinned (OpenSpec.ofChange fnExactPoly1305Wrong)

/- THE SECOND FORM. 'bulk': how many values and letters a reading holds, each counted each time it is reached (what is shared counts as often as it is met; a slice's spare places count too). A statement '..UptoSaid' is the law's where the arguments, and the package variables that the reading takes, are together of bulk at most 1048576: NARROWER than '..Said'. Prove '..Said' where nothing that the law and all that it calls make is longer than what came in: it says more and counts as full. Else prove '..UptoSaid'. A law counts once. -/
mutual
def uptoBulk {H : Type} : DataW H → Nat
  | .lit (.string bytes) => bytes.length + 1
  | .lit _ => 1
  | .nil => 1
  | .ptr d => uptoBulk d + 1
  | .slice elems spare => uptoBulkAll elems + uptoBulkAll spare + 1
  | .agg parts => uptoBulkAll parts + 1
  | .iface _ d => uptoBulk d + 1
  | .map entries => uptoBulkEntries entries + 1
  | .held _ => 1
def uptoBulkAll {H : Type} : List (DataW H) → Nat
  | [] => 0
  | d :: r => uptoBulk d + uptoBulkAll r
def uptoBulkEntries {H : Type} : List (Lit × DataW H) → Nat
  | [] => 0
  | x :: r => uptoBulkEntry x + uptoBulkEntries r
def uptoBulkEntry {H : Type} : Lit × DataW H → Nat
  | (.string bytes, d) => bytes.length + uptoBulk d + 1
  | (_, d) => uptoBulk d + 1
 end
def uptoSmall : (H : Type) → List (DataW H) → Bool := fun _ ds => decide (uptoBulkAll ds ≤ 1048576)
def OpenSpec.upto (s : _root_.Go.ChangeSpec) : _root_.Go.OpenSpec := { _root_.Go.OpenSpec.ofChange s with cond := some uptoSmall }

/-- 'laws.FnExactLimbsOf', WHERE WHAT IT READS IS OF BULK AT MOST 1048576: true; the input reads as it did. -/
def fnExactLimbsOfUptoRow : OpenClaim := { program := "ytecjpagnifkcaaa", sum := "83d7bd26e2730cfe0c9f30f5a1ea9aab9f0ae58d3773154eb831082438a12cdf", func := "loop.example/g00466/laws.FnExactLimbsOf", spec := "fnExactLimbsOf", apart := false, narrowed := true }
def FnExactLimbsOfUptoSaid : Prop := fnExactLimbsOfUptoRow.holds Try.pinned (OpenSpec.upto fnExactLimbsOfSpec)

/-- 'laws.FnExactLimbsOk', WHERE WHAT IT READS IS OF BULK AT MOST 1048576: true; the input reads as it did. -/
def fnExactLimbsOkUptoRow : OpenClaim := { program := "ytecjpagnifkcaaa", sum := "83d7bd26e2730cfe0c9f30f5a1ea9aab9f0ae58d3773154eb831082438a12cdf", func := "loop.example/g00466/laws.FnExactLimbsOk", spec := "fnExactLimbsOk", apart := false, narrowed := true }
def FnExactLimbsOkUptoSaid : Prop := fnExactLimbsOkUptoRow.holds Try.pinned (OpenSpec.upto fnExactLimbsOkSpec)

/-- 'laws.FnExactAddLimbs', WHERE WHAT IT READS IS OF BULK AT MOST 1048576: true; the input reads as it did. -/
def fnExactAddLimbsUptoRow : OpenClaim := { program := "ytecjpagnifkcaaa", sum := "83d7bd26e2730cfe0c9f30f5a1ea9aab9f0ae58d3773154eb831082438a12cdf", func := "loop.example/g00466/laws.FnExactAddLimbs", spec := "fnExactAddLimbs", unfollowed := true, recurses := true, apart := false, narrowed := true }
def FnExactAddLimbsUptoSaid : Prop := fnExactAddLimbsUptoRow.holds Try.pinned (OpenSpec.upto fnExactAddLimbsSpec)

/-- 'laws.FnExactMulLimbs', WHERE WHAT IT READS IS OF BULK AT MOST 1048576: true; the input reads as it did. -/
def fnExactMulLimbsUptoRow : OpenClaim := { program := "ytecjpagnifkcaaa", sum := "83d7bd26e2730cfe0c9f30f5a1ea9aab9f0ae58d3773154eb831082438a12cdf", func := "loop.example/g00466/laws.FnExactMulLimbs", spec := "fnExactMulLimbs", unfollowed := true, recurses := true, apart := false, narrowed := true }
def FnExactMulLimbsUptoSaid : Prop := fnExactMulLimbsUptoRow.holds Try.pinned (OpenSpec.upto fnExactMulLimbsSpec)

/-- 'laws.FnExactLimbsText', WHERE WHAT IT READS IS OF BULK AT MOST 1048576: true; the input reads as it did. -/
def fnExactLimbsTextUptoRow : OpenClaim := { program := "ytecjpagnifkcaaa", sum := "83d7bd26e2730cfe0c9f30f5a1ea9aab9f0ae58d3773154eb831082438a12cdf", func := "loop.example/g00466/laws.FnExactLimbsText", spec := "fnExactLimbsText", apart := false, narrowed := true }
def FnExactLimbsTextUptoSaid : Prop := fnExactLimbsTextUptoRow.holds Try.pinned (OpenSpec.upto fnExactLimbsTextSpec)

/-- 'laws.FnExactPoly1305', WHERE WHAT IT READS IS OF BULK AT MOST 1048576: true; the input reads as it did. -/
def fnExactPoly1305UptoRow : OpenClaim := { program := "ytecjpagnifkcaaa", sum := "83d7bd26e2730cfe0c9f30f5a1ea9aab9f0ae58d3773154eb831082438a12cdf", func := "loop.example/g00466/laws.FnExactPoly1305", spec := "fnExactPoly1305", apart := false, narrowed := true }
def FnExactPoly1305UptoSaid : Prop := fnExactPoly1305UptoRow.holds Try.pinned (OpenSpec.upto fnExactPoly1305Spec)

end Rows
end Go.Proofs.Ytecjpagnifkcaaa
