/-
  No cell of these rows narrows 'for every input' (looked for: loops, veiled, ifaces, maps, wideKeys, modest, calm, conditions, laid).
  DERIVED. THE GIVEN ROWS OF THIS SEAT. 5 by the template 'for every input the law returns true; each argument reads behind the call as it read before'; 0 by the template 'total and deterministic' (their statements: YtnjihmailppjkaaTotals.lean).
  GIVEN WITH THE SEED: the statements are not yours to turn. If you find one false, say at which input.
  Laid BY PROGRAM, IN A SANDBOX (cutbox-rows.mjs): the forced cells as the released guide's own fill.sh prints them over the translation 9ad9ee577a9b7f58… (all of the seat's roots in one cut). By AI agents, Wed Nov 11 2026. No macro, syntax, notation, axiom, sorry.
-/
import Derived.Test.YtnjihmailppjkaaChecked
import GoSem.Claim
import GoSem.ClaimJoined
import GoSem.ClaimMapViews
import Derived.JoinedTies
import Derived.KernelRfl
namespace Go.Proofs.Ytnjihmailppjkaa
/- THE CELL 'sum', in the pinned program and in every row, IS THE sha256 OF THE DUMP (.gsa) THAT YtnjihmailppjkaaProg.lean LOADS. Nothing in Lean hashes anything: it is a label: what it is worth is what the hold of that sum in a sandbox is worth. -/
noncomputable def Try.pinned : Pinned := { name := "ytnjihmailppjkaa", sum := "9ad9ee577a9b7f5807f87c276a823cfe385352a80856856bbdae1fccc045aa09", checked := Try.checked }
namespace Rows
def none {H : Type} : Left H := { results := [], args := [] }

/-- 'laws.FnExactChanNew': WHATEVER THE INPUT: true; the input reads as it did. -/
def fnExactChanNewSpec : ChangeSpec := { name := "fnExactChanNew", fn := fun _ => fun
  | [d1, d2] => { results := [.lit (.bool true)], args := [d1, d2] }
  | _ => none }
def fnExactChanNewRow : OpenClaim := { program := "ytnjihmailppjkaa", sum := "9ad9ee577a9b7f5807f87c276a823cfe385352a80856856bbdae1fccc045aa09", func := "loop.example/g00466/laws.FnExactChanNew", spec := "fnExactChanNew", plainKeys := false, apart := false }
def FnExactChanNewSaid : Prop := fnExactChanNewRow.holds Try.pinned (OpenSpec.ofChange fnExactChanNewSpec)

/-- ITS FALSE NEIGHBOUR: 'it returns false'. Refute it at one input. -/
def fnExactChanNewWrong : ChangeSpec := { name := "fnExactChanNew", fn := fun _ => fun
  | [d1, d2] => { results := [.lit (.bool false)], args := [d1, d2] }
  | _ => none }
def FnExactChanNewWrongFalsely : Prop := fnExactChanNewRow.holds Try.pinned (OpenSpec.ofChange fnExactChanNewWrong)

/-- 'laws.FnExactChanOk': WHATEVER THE INPUT: true; the input reads as it did. -/
def fnExactChanOkSpec : ChangeSpec := { name := "fnExactChanOk", fn := fun _ => fun
  | [d1, d2] => { results := [.lit (.bool true)], args := [d1, d2] }
  | _ => none }
def fnExactChanOkRow : OpenClaim := { program := "ytnjihmailppjkaa", sum := "9ad9ee577a9b7f5807f87c276a823cfe385352a80856856bbdae1fccc045aa09", func := "loop.example/g00466/laws.FnExactChanOk", spec := "fnExactChanOk", unfollowed := true, recurses := true, plainKeys := false, apart := false }
def FnExactChanOkSaid : Prop := fnExactChanOkRow.holds Try.pinned (OpenSpec.ofChange fnExactChanOkSpec)

/-- ITS FALSE NEIGHBOUR: 'it returns false'. Refute it at one input. -/
def fnExactChanOkWrong : ChangeSpec := { name := "fnExactChanOk", fn := fun _ => fun
  | [d1, d2] => { results := [.lit (.bool false)], args := [d1, d2] }
  | _ => none }
def FnExactChanOkWrongFalsely : Prop := fnExactChanOkRow.holds Try.pinned (OpenSpec.ofChange fnExactChanOkWrong)

/-- 'laws.FnExactSayOn': WHATEVER THE INPUT: true; the input reads as it did. -/
def fnExactSayOnSpec : ChangeSpec := { name := "fnExactSayOn", fn := fun _ => fun
  | [d1, d2, d3] => { results := [.lit (.bool true)], args := [d1, d2, d3] }
  | _ => none }
def fnExactSayOnRow : OpenClaim := { program := "ytnjihmailppjkaa", sum := "9ad9ee577a9b7f5807f87c276a823cfe385352a80856856bbdae1fccc045aa09", func := "loop.example/g00466/laws.FnExactSayOn", spec := "fnExactSayOn", unfollowed := true, recurses := true, plainKeys := false, apart := false }
def FnExactSayOnSaid : Prop := fnExactSayOnRow.holds Try.pinned (OpenSpec.ofChange fnExactSayOnSpec)

/-- ITS FALSE NEIGHBOUR: 'it returns false'. Refute it at one input. -/
def fnExactSayOnWrong : ChangeSpec := { name := "fnExactSayOn", fn := fun _ => fun
  | [d1, d2, d3] => { results := [.lit (.bool false)], args := [d1, d2, d3] }
  | _ => none }
def FnExactSayOnWrongFalsely : Prop := fnExactSayOnRow.holds Try.pinned (OpenSpec.ofChange fnExactSayOnWrong)

/-- 'laws.FnExactTurnOn': WHATEVER THE INPUT: true; the input reads as it did. -/
def fnExactTurnOnSpec : ChangeSpec := { name := "fnExactTurnOn", fn := fun _ => fun
  | [d] => { results := [.lit (.bool true)], args := [d] }
  | _ => none }
def fnExactTurnOnRow : OpenClaim := { program := "ytnjihmailppjkaa", sum := "9ad9ee577a9b7f5807f87c276a823cfe385352a80856856bbdae1fccc045aa09", func := "loop.example/g00466/laws.FnExactTurnOn", spec := "fnExactTurnOn", plainKeys := false, apart := false }
def FnExactTurnOnSaid : Prop := fnExactTurnOnRow.holds Try.pinned (OpenSpec.ofChange fnExactTurnOnSpec)

/-- ITS FALSE NEIGHBOUR: 'it returns false'. Refute it at one input. -/
def fnExactTurnOnWrong : ChangeSpec := { name := "fnExactTurnOn", fn := fun _ => fun
  | [d] => { results := [.lit (.bool false)], args := [d] }
  | _ => none }
def FnExactTurnOnWrongFalsely : Prop := fnExactTurnOnRow.holds Try.pinned (OpenSpec.ofChange fnExactTurnOnWrong)

/-- 'laws.FnExactNewerOn': WHATEVER THE INPUT: true; the input reads as it did. -/
def fnExactNewerOnSpec : ChangeSpec := { name := "fnExactNewerOn", fn := fun _ => fun
  | [d1, d2, d3] => { results := [.lit (.bool true)], args := [d1, d2, d3] }
  | _ => none }
def fnExactNewerOnRow : OpenClaim := { program := "ytnjihmailppjkaa", sum := "9ad9ee577a9b7f5807f87c276a823cfe385352a80856856bbdae1fccc045aa09", func := "loop.example/g00466/laws.FnExactNewerOn", spec := "fnExactNewerOn", unfollowed := true, recurses := true, plainKeys := false, apart := false }
def FnExactNewerOnSaid : Prop := fnExactNewerOnRow.holds Try.pinned (OpenSpec.ofChange fnExactNewerOnSpec)

/-- ITS FALSE NEIGHBOUR: 'it returns false'. Refute it at one input. -/
def fnExactNewerOnWrong : ChangeSpec := { name := "fnExactNewerOn", fn := fun _ => fun
  | [d1, d2, d3] => { results := [.lit (.bool false)], args := [d1, d2, d3] }
  | _ => none }
def FnExactNewerOnWrongFalsely : Prop := fnExactNewerOnRow.holds Try.pinned (OpenSpec.ofChange fnExactNewerOnWrong)

/- THE SECOND FORM. 'bulk': how many values and letters a reading holds, each counted each time it is reached (what is shared counts as often as it is met; a slice's spare places count too). A statement '..UptoSaid' is the law's where the arguments, and the package variables that the reading takes, are together of bulk at most 1048576: NARROWER than '..Said'. Prove '..Said' where nothing that the law and all that it calls make is longer than what came in: it says more and counts as full. Else prove '..UptoSaid'. A law counts once. -/
mutual
def uptoBulk {H : Type} : DataW H → Nat
  | .lit (.string bytes) => bytes.length + 1
  | .lit _ => 1
  | .nil => 1
  | .ptr d => uptoBulk d + 1
  | .slice elems spare => uptoBulkAll elems + uptoBulkAll spare + 1
  | .agg parts => uptoBulkAll parts + 1
  | .iface _ d => uptoBulk d + 1
  | .map entries => uptoBulkEntries entries + 1
  | .held _ => 1
def uptoBulkAll {H : Type} : List (DataW H) → Nat
  | [] => 0
  | d :: r => uptoBulk d + uptoBulkAll r
def uptoBulkEntries {H : Type} : List (Lit × DataW H) → Nat
  | [] => 0
  | x :: r => uptoBulkEntry x + uptoBulkEntries r
def uptoBulkEntry {H : Type} : Lit × DataW H → Nat
  | (.string bytes, d) => bytes.length + uptoBulk d + 1
  | (_, d) => uptoBulk d + 1
 end
def uptoSmall : (H : Type) → List (DataW H) → Bool := fun _ ds => decide (uptoBulkAll ds ≤ 1048576)
def OpenSpec.upto (s : _root_.Go.ChangeSpec) : _root_.Go.OpenSpec := { _root_.Go.OpenSpec.ofChange s with cond := some uptoSmall }

/-- 'laws.FnExactChanNew', WHERE WHAT IT READS IS OF BULK AT MOST 1048576: true; the input reads as it did. -/
def fnExactChanNewUptoRow : OpenClaim := { program := "ytnjihmailppjkaa", sum := "9ad9ee577a9b7f5807f87c276a823cfe385352a80856856bbdae1fccc045aa09", func := "loop.example/g00466/laws.FnExactChanNew", spec := "fnExactChanNew", plainKeys := false, apart := false, narrowed := true }
def FnExactChanNewUptoSaid : Prop := fnExactChanNewUptoRow.holds Try.pinned (OpenSpec.upto fnExactChanNewSpec)

/-- 'laws.FnExactChanOk', WHERE WHAT IT READS IS OF BULK AT MOST 1048576: true; the input reads as it did. -/
def fnExactChanOkUptoRow : OpenClaim := { program := "ytnjihmailppjkaa", sum := "9ad9ee577a9b7f5807f87c276a823cfe385352a80856856bbdae1fccc045aa09", func := "loop.example/g00466/laws.FnExactChanOk", spec := "fnExactChanOk", unfollowed := true, recurses := true, plainKeys := false, apart := false, narrowed := true }
def FnExactChanOkUptoSaid : Prop := fnExactChanOkUptoRow.holds Try.pinned (OpenSpec.upto fnExactChanOkSpec)

/-- 'laws.FnExactSayOn', WHERE WHAT IT READS IS OF BULK AT MOST 1048576: true; the input reads as it did. -/
def fnExactSayOnUptoRow : OpenClaim := { program := "ytnjihmailppjkaa", sum := "9ad9ee577a9b7f5807f87c276a823cfe385352a80856856bbdae1fccc045aa09", func := "loop.example/g00466/laws.FnExactSayOn", spec := "fnExactSayOn", unfollowed := true, recurses := true, plainKeys := false, apart := false, narrowed := true }
def FnExactSayOnUptoSaid : Prop := fnExactSayOnUptoRow.holds Try.pinned (OpenSpec.upto fnExactSayOnSpec)

/-- 'laws.FnExactTurnOn', WHERE WHAT IT READS IS OF BULK AT MOST 1048576: true; the input reads as it did. -/
def fnExactTurnOnUptoRow : OpenClaim := { program := "ytnjihmailppjkaa", sum := "9ad9ee577a9b7f5807f87c276a823cfe385352a80856856bbdae1fccc045aa09", func := "loop.example/g00466/laws.FnExactTurnOn", spec := "fnExactTurnOn", plainKeys := false, apart := false, narrowed := true }
def FnExactTurnOnUptoSaid : Prop := fnExactTurnOnUptoRow.holds Try.pinned (OpenSpec.upto fnExactTurnOnSpec)

/-- 'laws.FnExactNewerOn', WHERE WHAT IT READS IS OF BULK AT MOST 1048576: true; the input reads as it did. -/
def fnExactNewerOnUptoRow : OpenClaim := { program := "ytnjihmailppjkaa", sum := "9ad9ee577a9b7f5807f87c276a823cfe385352a80856856bbdae1fccc045aa09", func := "loop.example/g00466/laws.FnExactNewerOn", spec := "fnExactNewerOn", unfollowed := true, recurses := true, plainKeys := false, apart := false, narrowed := true }
def FnExactNewerOnUptoSaid : Prop := fnExactNewerOnUptoRow.holds Try.pinned (OpenSpec.upto fnExactNewerOnSpec)

end Rows
end Go.Proofs.Ytnjihmailppjkaa
