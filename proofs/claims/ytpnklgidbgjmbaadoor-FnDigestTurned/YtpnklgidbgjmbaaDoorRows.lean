/-
  NARROWER THAN 'FOR EVERY INPUT', by the rows' own cells (each row's printed sentence says how): FnKnown: laid · FnBlocks: laid · FnDigestTurned: laid · FnExactShaBlock: laid · FnExactShaStart: laid · FnExactDigest: laid · FnExactDigestHex: laid · FnExactCutDigest: laid.
  DERIVED. THE GIVEN ROWS OF THIS SEAT. 8 by the template 'for every input the law returns true; each argument reads behind the call as it read before'; 0 by the template 'total and deterministic' (their statements: YtpnklgidbgjmbaaDoorTotals.lean).
  GIVEN WITH THE SEED: the statements are not yours to turn. If you find one false, say at which input.
  Laid BY PROGRAM, IN A SANDBOX (cutbox-rows.mjs): the forced cells as the released guide's own fill.sh prints them over the translation 04255a4741b5847a… (all of the seat's roots in one cut). By AI agents, Wed Nov 11 2026. No macro, syntax, notation, axiom, sorry.
-/
import Derived.Test.YtpnklgidbgjmbaaDoorChecked
import GoSem.Claim
import GoSem.ClaimJoined
import GoSem.ClaimMapViews
import Derived.JoinedTies
import Derived.KernelRfl
namespace Go.Proofs.YtpnklgidbgjmbaaDoor
/- THE CELL 'sum', in the pinned program and in every row, IS THE sha256 OF THE DUMP (.gsa) THAT YtpnklgidbgjmbaaDoorProg.lean LOADS. Nothing in Lean hashes anything: it is a label: what it is worth is what the hold of that sum in a sandbox is worth. -/
noncomputable def Tryd.pinned : Pinned := { name := "ytpnklgidbgjmbaadoor", sum := "04255a4741b5847a22b3fd898c8c83d34953cfe5237223eba485851c39970e2c", checked := Tryd.checked }
namespace Rows
def none {H : Type} : Left H := { results := [], args := [] }

/- WHAT THE LISTED PACKAGE-LEVEL VARIABLES READ AS WHEN THE CALL BEGINS. Each datum BY PROGRAM (the guide's laid-datum.mjs) off the statement by which the dump's own 'gosem.cut.vars' lays the variable. In a bare row this is a premise. The card (YtpnklgidbgjmbaaDoorCards.lean) ties it to the program's text. -/
def laid_loop_example_g00466_impl_roundWords {H : Type} : DataW H := .agg [.lit (.int .u32 1116352408), .lit (.int .u32 1899447441), .lit (.int .u32 3049323471), .lit (.int .u32 3921009573), .lit (.int .u32 961987163), .lit (.int .u32 1508970993), .lit (.int .u32 2453635748), .lit (.int .u32 2870763221), .lit (.int .u32 3624381080), .lit (.int .u32 310598401), .lit (.int .u32 607225278), .lit (.int .u32 1426881987), .lit (.int .u32 1925078388), .lit (.int .u32 2162078206), .lit (.int .u32 2614888103), .lit (.int .u32 3248222580), .lit (.int .u32 3835390401), .lit (.int .u32 4022224774), .lit (.int .u32 264347078), .lit (.int .u32 604807628), .lit (.int .u32 770255983), .lit (.int .u32 1249150122), .lit (.int .u32 1555081692), .lit (.int .u32 1996064986), .lit (.int .u32 2554220882), .lit (.int .u32 2821834349), .lit (.int .u32 2952996808), .lit (.int .u32 3210313671), .lit (.int .u32 3336571891), .lit (.int .u32 3584528711), .lit (.int .u32 113926993), .lit (.int .u32 338241895), .lit (.int .u32 666307205), .lit (.int .u32 773529912), .lit (.int .u32 1294757372), .lit (.int .u32 1396182291), .lit (.int .u32 1695183700), .lit (.int .u32 1986661051), .lit (.int .u32 2177026350), .lit (.int .u32 2456956037), .lit (.int .u32 2730485921), .lit (.int .u32 2820302411), .lit (.int .u32 3259730800), .lit (.int .u32 3345764771), .lit (.int .u32 3516065817), .lit (.int .u32 3600352804), .lit (.int .u32 4094571909), .lit (.int .u32 275423344), .lit (.int .u32 430227734), .lit (.int .u32 506948616), .lit (.int .u32 659060556), .lit (.int .u32 883997877), .lit (.int .u32 958139571), .lit (.int .u32 1322822218), .lit (.int .u32 1537002063), .lit (.int .u32 1747873779), .lit (.int .u32 1955562222), .lit (.int .u32 2024104815), .lit (.int .u32 2227730452), .lit (.int .u32 2361852424), .lit (.int .u32 2428436474), .lit (.int .u32 2756734187), .lit (.int .u32 3204031479), .lit (.int .u32 3329325298)]
def laid_loop_example_g00466_impl_startWords {H : Type} : DataW H := .agg [.lit (.int .u32 1779033703), .lit (.int .u32 3144134277), .lit (.int .u32 1013904242), .lit (.int .u32 2773480762), .lit (.int .u32 1359893119), .lit (.int .u32 2600822924), .lit (.int .u32 528734635), .lit (.int .u32 1541459225)]

/-- 'laws.FnKnown': WHATEVER THE INPUT: true; the input reads as it did. -/
def fnKnownSpec : ChangeSpec := { name := "fnKnown", vars := ["loop.example/g00466/impl.startWords", "loop.example/g00466/impl.roundWords"], fn := fun _ => fun
  | [d, g1, g2] => { results := [.lit (.bool true)], args := [d], vars := [g1, g2] }
  | _ => none }
def fnKnownRow : OpenClaim := { program := "ytpnklgidbgjmbaadoor", sum := "04255a4741b5847a22b3fd898c8c83d34953cfe5237223eba485851c39970e2c", func := "loop.example/g00466/laws.FnKnown", spec := "fnKnown", inPlace := ["internal/abi.NoEscape", "internal/bytealg.MakeNoZero"], unfollowed := true, recurses := true, named := ["loop.example/g00466/impl.startWords", "loop.example/g00466/impl.roundWords"], apart := false, laid := [("loop.example/g00466/impl.roundWords", laid_loop_example_g00466_impl_roundWords), ("loop.example/g00466/impl.startWords", laid_loop_example_g00466_impl_startWords)] }
def FnKnownSaid : Prop := fnKnownRow.holds Tryd.pinned (OpenSpec.ofChange fnKnownSpec)

/-- ITS FALSE NEIGHBOUR: 'it returns false'. Refute it at one input. -/
def fnKnownWrong : ChangeSpec := { name := "fnKnown", vars := ["loop.example/g00466/impl.startWords", "loop.example/g00466/impl.roundWords"], fn := fun _ => fun
  | [d, g1, g2] => { results := [.lit (.bool false)], args := [d], vars := [g1, g2] }
  | _ => none }
def FnKnownWrongFalsely : Prop := fnKnownRow.holds Tryd.pinned (OpenSpec.ofChange fnKnownWrong)

/-- 'laws.FnBlocks': WHATEVER THE INPUT: true; the input reads as it did. -/
def fnBlocksSpec : ChangeSpec := { name := "fnBlocks", vars := ["loop.example/g00466/impl.startWords", "loop.example/g00466/impl.roundWords"], fn := fun _ => fun
  | [d, g1, g2] => { results := [.lit (.bool true)], args := [d], vars := [g1, g2] }
  | _ => none }
def fnBlocksRow : OpenClaim := { program := "ytpnklgidbgjmbaadoor", sum := "04255a4741b5847a22b3fd898c8c83d34953cfe5237223eba485851c39970e2c", func := "loop.example/g00466/laws.FnBlocks", spec := "fnBlocks", inPlace := ["internal/abi.NoEscape", "internal/bytealg.MakeNoZero"], unfollowed := true, recurses := true, named := ["loop.example/g00466/impl.startWords", "loop.example/g00466/impl.roundWords"], apart := false, laid := [("loop.example/g00466/impl.roundWords", laid_loop_example_g00466_impl_roundWords), ("loop.example/g00466/impl.startWords", laid_loop_example_g00466_impl_startWords)] }
def FnBlocksSaid : Prop := fnBlocksRow.holds Tryd.pinned (OpenSpec.ofChange fnBlocksSpec)

/-- ITS FALSE NEIGHBOUR: 'it returns false'. Refute it at one input. -/
def fnBlocksWrong : ChangeSpec := { name := "fnBlocks", vars := ["loop.example/g00466/impl.startWords", "loop.example/g00466/impl.roundWords"], fn := fun _ => fun
  | [d, g1, g2] => { results := [.lit (.bool false)], args := [d], vars := [g1, g2] }
  | _ => none }
def FnBlocksWrongFalsely : Prop := fnBlocksRow.holds Tryd.pinned (OpenSpec.ofChange fnBlocksWrong)

/-- 'laws.FnDigestTurned': WHATEVER THE INPUT: true; the input reads as it did. -/
def fnDigestTurnedSpec : ChangeSpec := { name := "fnDigestTurned", vars := ["loop.example/g00466/impl.startWords", "loop.example/g00466/impl.roundWords"], fn := fun _ => fun
  | [d, g1, g2] => { results := [.lit (.bool true)], args := [d], vars := [g1, g2] }
  | _ => none }
def fnDigestTurnedRow : OpenClaim := { program := "ytpnklgidbgjmbaadoor", sum := "04255a4741b5847a22b3fd898c8c83d34953cfe5237223eba485851c39970e2c", func := "loop.example/g00466/laws.FnDigestTurned", spec := "fnDigestTurned", inPlace := ["internal/abi.NoEscape", "internal/bytealg.MakeNoZero"], unfollowed := true, recurses := true, named := ["loop.example/g00466/impl.startWords", "loop.example/g00466/impl.roundWords"], apart := false, laid := [("loop.example/g00466/impl.roundWords", laid_loop_example_g00466_impl_roundWords), ("loop.example/g00466/impl.startWords", laid_loop_example_g00466_impl_startWords)] }
def FnDigestTurnedSaid : Prop := fnDigestTurnedRow.holds Tryd.pinned (OpenSpec.ofChange fnDigestTurnedSpec)

/-- ITS FALSE NEIGHBOUR: 'it returns false'. Refute it at one input. -/
def fnDigestTurnedWrong : ChangeSpec := { name := "fnDigestTurned", vars := ["loop.example/g00466/impl.startWords", "loop.example/g00466/impl.roundWords"], fn := fun _ => fun
  | [d, g1, g2] => { results := [.lit (.bool false)], args := [d], vars := [g1, g2] }
  | _ => none }
def FnDigestTurnedWrongFalsely : Prop := fnDigestTurnedRow.holds Tryd.pinned (OpenSpec.ofChange fnDigestTurnedWrong)

/-- 'laws.FnExactShaBlock': WHATEVER THE INPUT: true; the input reads as it did. -/
def fnExactShaBlockSpec : ChangeSpec := { name := "fnExactShaBlock", vars := ["loop.example/g00466/impl.roundWords"], fn := fun _ => fun
  | [d1, d2, g1] => { results := [.lit (.bool true)], args := [d1, d2], vars := [g1] }
  | _ => none }
def fnExactShaBlockRow : OpenClaim := { program := "ytpnklgidbgjmbaadoor", sum := "04255a4741b5847a22b3fd898c8c83d34953cfe5237223eba485851c39970e2c", func := "loop.example/g00466/laws.FnExactShaBlock", spec := "fnExactShaBlock", unfollowed := true, recurses := true, named := ["loop.example/g00466/impl.roundWords"], apart := false, laid := [("loop.example/g00466/impl.roundWords", laid_loop_example_g00466_impl_roundWords)] }
def FnExactShaBlockSaid : Prop := fnExactShaBlockRow.holds Tryd.pinned (OpenSpec.ofChange fnExactShaBlockSpec)

/-- ITS FALSE NEIGHBOUR: 'it returns false'. Refute it at one input. -/
def fnExactShaBlockWrong : ChangeSpec := { name := "fnExactShaBlock", vars := ["loop.example/g00466/impl.roundWords"], fn := fun _ => fun
  | [d1, d2, g1] => { results := [.lit (.bool false)], args := [d1, d2], vars := [g1] }
  | _ => none }
def FnExactShaBlockWrongFalsely : Prop := fnExactShaBlockRow.holds Tryd.pinned (OpenSpec.ofChange fnExactShaBlockWrong)

/-- 'laws.FnExactShaStart': WHATEVER THE INPUT: true; the input reads as it did. -/
def fnExactShaStartSpec : ChangeSpec := { name := "fnExactShaStart", vars := ["loop.example/g00466/impl.startWords"], fn := fun _ => fun
  | [g1] => { results := [.lit (.bool true)], args := [], vars := [g1] }
  | _ => none }
def fnExactShaStartRow : OpenClaim := { program := "ytpnklgidbgjmbaadoor", sum := "04255a4741b5847a22b3fd898c8c83d34953cfe5237223eba485851c39970e2c", func := "loop.example/g00466/laws.FnExactShaStart", spec := "fnExactShaStart", named := ["loop.example/g00466/impl.startWords"], apart := false, laid := [("loop.example/g00466/impl.startWords", laid_loop_example_g00466_impl_startWords)] }
def FnExactShaStartSaid : Prop := fnExactShaStartRow.holds Tryd.pinned (OpenSpec.ofChange fnExactShaStartSpec)

/-- ITS FALSE NEIGHBOUR: 'it returns false'. Refute it at one input. -/
def fnExactShaStartWrong : ChangeSpec := { name := "fnExactShaStart", vars := ["loop.example/g00466/impl.startWords"], fn := fun _ => fun
  | [g1] => { results := [.lit (.bool false)], args := [], vars := [g1] }
  | _ => none }
def FnExactShaStartWrongFalsely : Prop := fnExactShaStartRow.holds Tryd.pinned (OpenSpec.ofChange fnExactShaStartWrong)

/-- 'laws.FnExactDigest': WHATEVER THE INPUT: true; the input reads as it did. -/
def fnExactDigestSpec : ChangeSpec := { name := "fnExactDigest", vars := ["loop.example/g00466/impl.startWords", "loop.example/g00466/impl.roundWords"], fn := fun _ => fun
  | [d, g1, g2] => { results := [.lit (.bool true)], args := [d], vars := [g1, g2] }
  | _ => none }
def fnExactDigestRow : OpenClaim := { program := "ytpnklgidbgjmbaadoor", sum := "04255a4741b5847a22b3fd898c8c83d34953cfe5237223eba485851c39970e2c", func := "loop.example/g00466/laws.FnExactDigest", spec := "fnExactDigest", inPlace := ["internal/abi.NoEscape", "internal/bytealg.MakeNoZero"], unfollowed := true, recurses := true, named := ["loop.example/g00466/impl.startWords", "loop.example/g00466/impl.roundWords"], apart := false, laid := [("loop.example/g00466/impl.roundWords", laid_loop_example_g00466_impl_roundWords), ("loop.example/g00466/impl.startWords", laid_loop_example_g00466_impl_startWords)] }
def FnExactDigestSaid : Prop := fnExactDigestRow.holds Tryd.pinned (OpenSpec.ofChange fnExactDigestSpec)

/-- ITS FALSE NEIGHBOUR: 'it returns false'. Refute it at one input. -/
def fnExactDigestWrong : ChangeSpec := { name := "fnExactDigest", vars := ["loop.example/g00466/impl.startWords", "loop.example/g00466/impl.roundWords"], fn := fun _ => fun
  | [d, g1, g2] => { results := [.lit (.bool false)], args := [d], vars := [g1, g2] }
  | _ => none }
def FnExactDigestWrongFalsely : Prop := fnExactDigestRow.holds Tryd.pinned (OpenSpec.ofChange fnExactDigestWrong)

/-- 'laws.FnExactDigestHex': WHATEVER THE INPUT: true; the input reads as it did. -/
def fnExactDigestHexSpec : ChangeSpec := { name := "fnExactDigestHex", vars := ["loop.example/g00466/impl.startWords", "loop.example/g00466/impl.roundWords"], fn := fun _ => fun
  | [d, g1, g2] => { results := [.lit (.bool true)], args := [d], vars := [g1, g2] }
  | _ => none }
def fnExactDigestHexRow : OpenClaim := { program := "ytpnklgidbgjmbaadoor", sum := "04255a4741b5847a22b3fd898c8c83d34953cfe5237223eba485851c39970e2c", func := "loop.example/g00466/laws.FnExactDigestHex", spec := "fnExactDigestHex", inPlace := ["internal/abi.NoEscape", "internal/bytealg.MakeNoZero"], unfollowed := true, recurses := true, named := ["loop.example/g00466/impl.startWords", "loop.example/g00466/impl.roundWords"], apart := false, laid := [("loop.example/g00466/impl.roundWords", laid_loop_example_g00466_impl_roundWords), ("loop.example/g00466/impl.startWords", laid_loop_example_g00466_impl_startWords)] }
def FnExactDigestHexSaid : Prop := fnExactDigestHexRow.holds Tryd.pinned (OpenSpec.ofChange fnExactDigestHexSpec)

/-- ITS FALSE NEIGHBOUR: 'it returns false'. Refute it at one input. -/
def fnExactDigestHexWrong : ChangeSpec := { name := "fnExactDigestHex", vars := ["loop.example/g00466/impl.startWords", "loop.example/g00466/impl.roundWords"], fn := fun _ => fun
  | [d, g1, g2] => { results := [.lit (.bool false)], args := [d], vars := [g1, g2] }
  | _ => none }
def FnExactDigestHexWrongFalsely : Prop := fnExactDigestHexRow.holds Tryd.pinned (OpenSpec.ofChange fnExactDigestHexWrong)

/-- 'laws.FnExactCutDigest': WHATEVER THE INPUT: true; the input reads as it did. -/
def fnExactCutDigestSpec : ChangeSpec := { name := "fnExactCutDigest", vars := ["loop.example/g00466/impl.startWords", "loop.example/g00466/impl.roundWords"], fn := fun _ => fun
  | [d1, d2, g1, g2] => { results := [.lit (.bool true)], args := [d1, d2], vars := [g1, g2] }
  | _ => none }
def fnExactCutDigestRow : OpenClaim := { program := "ytpnklgidbgjmbaadoor", sum := "04255a4741b5847a22b3fd898c8c83d34953cfe5237223eba485851c39970e2c", func := "loop.example/g00466/laws.FnExactCutDigest", spec := "fnExactCutDigest", inPlace := ["internal/abi.NoEscape", "internal/bytealg.MakeNoZero"], unfollowed := true, recurses := true, named := ["loop.example/g00466/impl.startWords", "loop.example/g00466/impl.roundWords"], apart := false, laid := [("loop.example/g00466/impl.roundWords", laid_loop_example_g00466_impl_roundWords), ("loop.example/g00466/impl.startWords", laid_loop_example_g00466_impl_startWords)] }
def FnExactCutDigestSaid : Prop := fnExactCutDigestRow.holds Tryd.pinned (OpenSpec.ofChange fnExactCutDigestSpec)

/-- ITS FALSE NEIGHBOUR: 'it returns false'. Refute it at one input. -/
def fnExactCutDigestWrong : ChangeSpec := { name := "fnExactCutDigest", vars := ["loop.example/g00466/impl.startWords", "loop.example/g00466/impl.roundWords"], fn := fun _ => fun
  | [d1, d2, g1, g2] => { results := [.lit (.bool false)], args := [d1, d2], vars := [g1, g2] }
  | _ => none }
def FnExactCutDigestWrongFalsely : Prop := fnExactCutDigestRow.holds Tryd.pinned (OpenSpec.ofChange fnExactCutDigestWrong)

/- THE SECOND FORM. 'bulk': how many values and letters a reading holds, each counted each time it is reached (what is shared counts as often as it is met; a slice's spare places count too). A statement '..UptoSaid' is the law's where the arguments, and the package variables that the reading takes, are together of bulk at most 1048576: NARROWER than '..Said'. Prove '..Said' where nothing that the law and all that it calls make is longer than what came in: it says more and counts as full. Else prove '..UptoSaid'. A law counts once. -/
mutual
def uptoBulk {H : Type} : DataW H → Nat
  | .lit (.string bytes) => bytes.length + 1
  | .lit _ => 1
  | .nil => 1
  | .ptr d => uptoBulk d + 1
  | .slice elems spare => uptoBulkAll elems + uptoBulkAll spare + 1
  | .agg parts => uptoBulkAll parts + 1
  | .iface _ d => uptoBulk d + 1
  | .map entries => uptoBulkEntries entries + 1
  | .held _ => 1
def uptoBulkAll {H : Type} : List (DataW H) → Nat
  | [] => 0
  | d :: r => uptoBulk d + uptoBulkAll r
def uptoBulkEntries {H : Type} : List (Lit × DataW H) → Nat
  | [] => 0
  | x :: r => uptoBulkEntry x + uptoBulkEntries r
def uptoBulkEntry {H : Type} : Lit × DataW H → Nat
  | (.string bytes, d) => bytes.length + uptoBulk d + 1
  | (_, d) => uptoBulk d + 1
 end
def uptoSmall : (H : Type) → List (DataW H) → Bool := fun _ ds => decide (uptoBulkAll ds ≤ 1048576)
def OpenSpec.upto (s : _root_.Go.ChangeSpec) : _root_.Go.OpenSpec := { _root_.Go.OpenSpec.ofChange s with cond := some uptoSmall }

/-- 'laws.FnKnown', WHERE WHAT IT READS IS OF BULK AT MOST 1048576: true; the input reads as it did. -/
def fnKnownUptoRow : OpenClaim := { program := "ytpnklgidbgjmbaadoor", sum := "04255a4741b5847a22b3fd898c8c83d34953cfe5237223eba485851c39970e2c", func := "loop.example/g00466/laws.FnKnown", spec := "fnKnown", inPlace := ["internal/abi.NoEscape", "internal/bytealg.MakeNoZero"], unfollowed := true, recurses := true, named := ["loop.example/g00466/impl.startWords", "loop.example/g00466/impl.roundWords"], apart := false, laid := [("loop.example/g00466/impl.roundWords", laid_loop_example_g00466_impl_roundWords), ("loop.example/g00466/impl.startWords", laid_loop_example_g00466_impl_startWords)], narrowed := true }
def FnKnownUptoSaid : Prop := fnKnownUptoRow.holds Tryd.pinned (OpenSpec.upto fnKnownSpec)

/-- 'laws.FnBlocks', WHERE WHAT IT READS IS OF BULK AT MOST 1048576: true; the input reads as it did. -/
def fnBlocksUptoRow : OpenClaim := { program := "ytpnklgidbgjmbaadoor", sum := "04255a4741b5847a22b3fd898c8c83d34953cfe5237223eba485851c39970e2c", func := "loop.example/g00466/laws.FnBlocks", spec := "fnBlocks", inPlace := ["internal/abi.NoEscape", "internal/bytealg.MakeNoZero"], unfollowed := true, recurses := true, named := ["loop.example/g00466/impl.startWords", "loop.example/g00466/impl.roundWords"], apart := false, laid := [("loop.example/g00466/impl.roundWords", laid_loop_example_g00466_impl_roundWords), ("loop.example/g00466/impl.startWords", laid_loop_example_g00466_impl_startWords)], narrowed := true }
def FnBlocksUptoSaid : Prop := fnBlocksUptoRow.holds Tryd.pinned (OpenSpec.upto fnBlocksSpec)

/-- 'laws.FnDigestTurned', WHERE WHAT IT READS IS OF BULK AT MOST 1048576: true; the input reads as it did. -/
def fnDigestTurnedUptoRow : OpenClaim := { program := "ytpnklgidbgjmbaadoor", sum := "04255a4741b5847a22b3fd898c8c83d34953cfe5237223eba485851c39970e2c", func := "loop.example/g00466/laws.FnDigestTurned", spec := "fnDigestTurned", inPlace := ["internal/abi.NoEscape", "internal/bytealg.MakeNoZero"], unfollowed := true, recurses := true, named := ["loop.example/g00466/impl.startWords", "loop.example/g00466/impl.roundWords"], apart := false, laid := [("loop.example/g00466/impl.roundWords", laid_loop_example_g00466_impl_roundWords), ("loop.example/g00466/impl.startWords", laid_loop_example_g00466_impl_startWords)], narrowed := true }
def FnDigestTurnedUptoSaid : Prop := fnDigestTurnedUptoRow.holds Tryd.pinned (OpenSpec.upto fnDigestTurnedSpec)

/-- 'laws.FnExactShaBlock', WHERE WHAT IT READS IS OF BULK AT MOST 1048576: true; the input reads as it did. -/
def fnExactShaBlockUptoRow : OpenClaim := { program := "ytpnklgidbgjmbaadoor", sum := "04255a4741b5847a22b3fd898c8c83d34953cfe5237223eba485851c39970e2c", func := "loop.example/g00466/laws.FnExactShaBlock", spec := "fnExactShaBlock", unfollowed := true, recurses := true, named := ["loop.example/g00466/impl.roundWords"], apart := false, laid := [("loop.example/g00466/impl.roundWords", laid_loop_example_g00466_impl_roundWords)], narrowed := true }
def FnExactShaBlockUptoSaid : Prop := fnExactShaBlockUptoRow.holds Tryd.pinned (OpenSpec.upto fnExactShaBlockSpec)

/-- 'laws.FnExactShaStart', WHERE WHAT IT READS IS OF BULK AT MOST 1048576: true; the input reads as it did. -/
def fnExactShaStartUptoRow : OpenClaim := { program := "ytpnklgidbgjmbaadoor", sum := "04255a4741b5847a22b3fd898c8c83d34953cfe5237223eba485851c39970e2c", func := "loop.example/g00466/laws.FnExactShaStart", spec := "fnExactShaStart", named := ["loop.example/g00466/impl.startWords"], apart := false, laid := [("loop.example/g00466/impl.startWords", laid_loop_example_g00466_impl_startWords)], narrowed := true }
def FnExactShaStartUptoSaid : Prop := fnExactShaStartUptoRow.holds Tryd.pinned (OpenSpec.upto fnExactShaStartSpec)

/-- 'laws.FnExactDigest', WHERE WHAT IT READS IS OF BULK AT MOST 1048576: true; the input reads as it did. -/
def fnExactDigestUptoRow : OpenClaim := { program := "ytpnklgidbgjmbaadoor", sum := "04255a4741b5847a22b3fd898c8c83d34953cfe5237223eba485851c39970e2c", func := "loop.example/g00466/laws.FnExactDigest", spec := "fnExactDigest", inPlace := ["internal/abi.NoEscape", "internal/bytealg.MakeNoZero"], unfollowed := true, recurses := true, named := ["loop.example/g00466/impl.startWords", "loop.example/g00466/impl.roundWords"], apart := false, laid := [("loop.example/g00466/impl.roundWords", laid_loop_example_g00466_impl_roundWords), ("loop.example/g00466/impl.startWords", laid_loop_example_g00466_impl_startWords)], narrowed := true }
def FnExactDigestUptoSaid : Prop := fnExactDigestUptoRow.holds Tryd.pinned (OpenSpec.upto fnExactDigestSpec)

/-- 'laws.FnExactDigestHex', WHERE WHAT IT READS IS OF BULK AT MOST 1048576: true; the input reads as it did. -/
def fnExactDigestHexUptoRow : OpenClaim := { program := "ytpnklgidbgjmbaadoor", sum := "04255a4741b5847a22b3fd898c8c83d34953cfe5237223eba485851c39970e2c", func := "loop.example/g00466/laws.FnExactDigestHex", spec := "fnExactDigestHex", inPlace := ["internal/abi.NoEscape", "internal/bytealg.MakeNoZero"], unfollowed := true, recurses := true, named := ["loop.example/g00466/impl.startWords", "loop.example/g00466/impl.roundWords"], apart := false, laid := [("loop.example/g00466/impl.roundWords", laid_loop_example_g00466_impl_roundWords), ("loop.example/g00466/impl.startWords", laid_loop_example_g00466_impl_startWords)], narrowed := true }
def FnExactDigestHexUptoSaid : Prop := fnExactDigestHexUptoRow.holds Tryd.pinned (OpenSpec.upto fnExactDigestHexSpec)

/-- 'laws.FnExactCutDigest', WHERE WHAT IT READS IS OF BULK AT MOST 1048576: true; the input reads as it did. -/
def fnExactCutDigestUptoRow : OpenClaim := { program := "ytpnklgidbgjmbaadoor", sum := "04255a4741b5847a22b3fd898c8c83d34953cfe5237223eba485851c39970e2c", func := "loop.example/g00466/laws.FnExactCutDigest", spec := "fnExactCutDigest", inPlace := ["internal/abi.NoEscape", "internal/bytealg.MakeNoZero"], unfollowed := true, recurses := true, named := ["loop.example/g00466/impl.startWords", "loop.example/g00466/impl.roundWords"], apart := false, laid := [("loop.example/g00466/impl.roundWords", laid_loop_example_g00466_impl_roundWords), ("loop.example/g00466/impl.startWords", laid_loop_example_g00466_impl_startWords)], narrowed := true }
def FnExactCutDigestUptoSaid : Prop := fnExactCutDigestUptoRow.holds Tryd.pinned (OpenSpec.upto fnExactCutDigestSpec)

end Rows
end Go.Proofs.YtpnklgidbgjmbaaDoor
