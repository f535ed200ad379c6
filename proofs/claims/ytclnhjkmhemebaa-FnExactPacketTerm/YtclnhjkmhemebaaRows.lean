/-
  No cell of these rows narrows 'for every input' (looked for: loops, veiled, ifaces, maps, wideKeys, modest, calm, conditions, laid).
  DERIVED. THE GIVEN ROWS OF THIS SEAT. 13 by the template 'for every input the law returns true; each argument reads behind the call as it read before'; 0 by the template 'total and deterministic' (their statements: YtclnhjkmhemebaaTotals.lean).
  GIVEN WITH THE SEED: the statements are not yours to turn. If you find one false, say at which input.
  Laid BY PROGRAM, IN A SANDBOX (cutbox-rows.mjs): the forced cells as the released guide's own fill.sh prints them over the translation e4f4dd7a62507d2c… (all of the seat's roots in one cut). By AI agents, Wed Nov 11 2026. No macro, syntax, notation, axiom, sorry.
-/
import Derived.Test.YtclnhjkmhemebaaChecked
import GoSem.Claim
import GoSem.ClaimJoined
import GoSem.ClaimMapViews
import Derived.JoinedTies
import Derived.KernelRfl
namespace Go.Proofs.Ytclnhjkmhemebaa
/- THE CELL 'sum', in the pinned program and in every row, IS THE sha256 OF THE DUMP (.gsa) THAT YtclnhjkmhemebaaProg.lean LOADS. Nothing in Lean hashes anything: it is a label: what it is worth is what the hold of that sum in a sandbox is worth. -/
noncomputable def Try.pinned : Pinned := { name := "ytclnhjkmhemebaa", sum := "e4f4dd7a62507d2c38d641350ff933d16521ed5e5e128cff9f73595752f7299e", checked := Try.checked }
namespace Rows
def none {H : Type} : Left H := { results := [], args := [] }

/-- 'laws.FnPools': WHATEVER THE INPUT: true; the input reads as it did. -/
def fnPoolsSpec : ChangeSpec := { name := "fnPools", fn := fun _ => fun
  | [d] => { results := [.lit (.bool true)], args := [d] }
  | _ => none }
def fnPoolsRow : OpenClaim := { program := "ytclnhjkmhemebaa", sum := "e4f4dd7a62507d2c38d641350ff933d16521ed5e5e128cff9f73595752f7299e", func := "loop.example/g00466/laws.FnPools", spec := "fnPools", unfollowed := true, recurses := true, plainKeys := false, apart := false }
def FnPoolsSaid : Prop := fnPoolsRow.holds Try.pinned (OpenSpec.ofChange fnPoolsSpec)

/-- ITS FALSE NEIGHBOUR: 'it returns false'. Refute it at one input. -/
def fnPoolsWrong : ChangeSpec := { name := "fnPools", fn := fun _ => fun
  | [d] => { results := [.lit (.bool false)], args := [d] }
  | _ => none }
def FnPoolsWrongFalsely : Prop := fnPoolsRow.holds Try.pinned (OpenSpec.ofChange fnPoolsWrong)

/-- 'laws.FnExactPoolOk': WHATEVER THE INPUT: true; the input reads as it did. -/
def fnExactPoolOkSpec : ChangeSpec := { name := "fnExactPoolOk", fn := fun _ => fun
  | [d] => { results := [.lit (.bool true)], args := [d] }
  | _ => none }
def fnExactPoolOkRow : OpenClaim := { program := "ytclnhjkmhemebaa", sum := "e4f4dd7a62507d2c38d641350ff933d16521ed5e5e128cff9f73595752f7299e", func := "loop.example/g00466/laws.FnExactPoolOk", spec := "fnExactPoolOk", plainKeys := false, apart := false }
def FnExactPoolOkSaid : Prop := fnExactPoolOkRow.holds Try.pinned (OpenSpec.ofChange fnExactPoolOkSpec)

/-- ITS FALSE NEIGHBOUR: 'it returns false'. Refute it at one input. -/
def fnExactPoolOkWrong : ChangeSpec := { name := "fnExactPoolOk", fn := fun _ => fun
  | [d] => { results := [.lit (.bool false)], args := [d] }
  | _ => none }
def FnExactPoolOkWrongFalsely : Prop := fnExactPoolOkRow.holds Try.pinned (OpenSpec.ofChange fnExactPoolOkWrong)

/-- 'laws.FnExactLeased': WHATEVER THE INPUT: true; the input reads as it did. -/
def fnExactLeasedSpec : ChangeSpec := { name := "fnExactLeased", fn := fun _ => fun
  | [d1, d2] => { results := [.lit (.bool true)], args := [d1, d2] }
  | _ => none }
def fnExactLeasedRow : OpenClaim := { program := "ytclnhjkmhemebaa", sum := "e4f4dd7a62507d2c38d641350ff933d16521ed5e5e128cff9f73595752f7299e", func := "loop.example/g00466/laws.FnExactLeased", spec := "fnExactLeased", unfollowed := true, recurses := true, plainKeys := false, apart := false }
def FnExactLeasedSaid : Prop := fnExactLeasedRow.holds Try.pinned (OpenSpec.ofChange fnExactLeasedSpec)

/-- ITS FALSE NEIGHBOUR: 'it returns false'. Refute it at one input. -/
def fnExactLeasedWrong : ChangeSpec := { name := "fnExactLeased", fn := fun _ => fun
  | [d1, d2] => { results := [.lit (.bool false)], args := [d1, d2] }
  | _ => none }
def FnExactLeasedWrongFalsely : Prop := fnExactLeasedRow.holds Try.pinned (OpenSpec.ofChange fnExactLeasedWrong)

/-- 'laws.FnExactGiven': WHATEVER THE INPUT: true; the input reads as it did. -/
def fnExactGivenSpec : ChangeSpec := { name := "fnExactGiven", fn := fun _ => fun
  | [d1, d2] => { results := [.lit (.bool true)], args := [d1, d2] }
  | _ => none }
def fnExactGivenRow : OpenClaim := { program := "ytclnhjkmhemebaa", sum := "e4f4dd7a62507d2c38d641350ff933d16521ed5e5e128cff9f73595752f7299e", func := "loop.example/g00466/laws.FnExactGiven", spec := "fnExactGiven", unfollowed := true, recurses := true, plainKeys := false, apart := false }
def FnExactGivenSaid : Prop := fnExactGivenRow.holds Try.pinned (OpenSpec.ofChange fnExactGivenSpec)

/-- ITS FALSE NEIGHBOUR: 'it returns false'. Refute it at one input. -/
def fnExactGivenWrong : ChangeSpec := { name := "fnExactGiven", fn := fun _ => fun
  | [d1, d2] => { results := [.lit (.bool false)], args := [d1, d2] }
  | _ => none }
def FnExactGivenWrongFalsely : Prop := fnExactGivenRow.holds Try.pinned (OpenSpec.ofChange fnExactGivenWrong)

/-- 'laws.FnExactPlaceOf': WHATEVER THE INPUT: true; the input reads as it did. -/
def fnExactPlaceOfSpec : ChangeSpec := { name := "fnExactPlaceOf", fn := fun _ => fun
  | [d1, d2] => { results := [.lit (.bool true)], args := [d1, d2] }
  | _ => none }
def fnExactPlaceOfRow : OpenClaim := { program := "ytclnhjkmhemebaa", sum := "e4f4dd7a62507d2c38d641350ff933d16521ed5e5e128cff9f73595752f7299e", func := "loop.example/g00466/laws.FnExactPlaceOf", spec := "fnExactPlaceOf", unfollowed := true, recurses := true, plainKeys := false, apart := false }
def FnExactPlaceOfSaid : Prop := fnExactPlaceOfRow.holds Try.pinned (OpenSpec.ofChange fnExactPlaceOfSpec)

/-- ITS FALSE NEIGHBOUR: 'it returns false'. Refute it at one input. -/
def fnExactPlaceOfWrong : ChangeSpec := { name := "fnExactPlaceOf", fn := fun _ => fun
  | [d1, d2] => { results := [.lit (.bool false)], args := [d1, d2] }
  | _ => none }
def FnExactPlaceOfWrongFalsely : Prop := fnExactPlaceOfRow.holds Try.pinned (OpenSpec.ofChange fnExactPlaceOfWrong)

/-- 'laws.FnExactCidOf': WHATEVER THE INPUT: true; the input reads as it did. -/
def fnExactCidOfSpec : ChangeSpec := { name := "fnExactCidOf", fn := fun _ => fun
  | [d1, d2] => { results := [.lit (.bool true)], args := [d1, d2] }
  | _ => none }
def fnExactCidOfRow : OpenClaim := { program := "ytclnhjkmhemebaa", sum := "e4f4dd7a62507d2c38d641350ff933d16521ed5e5e128cff9f73595752f7299e", func := "loop.example/g00466/laws.FnExactCidOf", spec := "fnExactCidOf", unfollowed := true, recurses := true, plainKeys := false, apart := false }
def FnExactCidOfSaid : Prop := fnExactCidOfRow.holds Try.pinned (OpenSpec.ofChange fnExactCidOfSpec)

/-- ITS FALSE NEIGHBOUR: 'it returns false'. Refute it at one input. -/
def fnExactCidOfWrong : ChangeSpec := { name := "fnExactCidOf", fn := fun _ => fun
  | [d1, d2] => { results := [.lit (.bool false)], args := [d1, d2] }
  | _ => none }
def FnExactCidOfWrongFalsely : Prop := fnExactCidOfRow.holds Try.pinned (OpenSpec.ofChange fnExactCidOfWrong)

/-- 'laws.FnRoutes': WHATEVER THE INPUT: true; the input reads as it did. -/
def fnRoutesSpec : ChangeSpec := { name := "fnRoutes", fn := fun _ => fun
  | [d] => { results := [.lit (.bool true)], args := [d] }
  | _ => none }
def fnRoutesRow : OpenClaim := { program := "ytclnhjkmhemebaa", sum := "e4f4dd7a62507d2c38d641350ff933d16521ed5e5e128cff9f73595752f7299e", func := "loop.example/g00466/laws.FnRoutes", spec := "fnRoutes", unfollowed := true, recurses := true, plainKeys := false, apart := false }
def FnRoutesSaid : Prop := fnRoutesRow.holds Try.pinned (OpenSpec.ofChange fnRoutesSpec)

/-- ITS FALSE NEIGHBOUR: 'it returns false'. Refute it at one input. -/
def fnRoutesWrong : ChangeSpec := { name := "fnRoutes", fn := fun _ => fun
  | [d] => { results := [.lit (.bool false)], args := [d] }
  | _ => none }
def FnRoutesWrongFalsely : Prop := fnRoutesRow.holds Try.pinned (OpenSpec.ofChange fnRoutesWrong)

/-- 'laws.FnExactPacketOk': WHATEVER THE INPUT: true; the input reads as it did. -/
def fnExactPacketOkSpec : ChangeSpec := { name := "fnExactPacketOk", fn := fun _ => fun
  | [d] => { results := [.lit (.bool true)], args := [d] }
  | _ => none }
def fnExactPacketOkRow : OpenClaim := { program := "ytclnhjkmhemebaa", sum := "e4f4dd7a62507d2c38d641350ff933d16521ed5e5e128cff9f73595752f7299e", func := "loop.example/g00466/laws.FnExactPacketOk", spec := "fnExactPacketOk", plainKeys := false, apart := false }
def FnExactPacketOkSaid : Prop := fnExactPacketOkRow.holds Try.pinned (OpenSpec.ofChange fnExactPacketOkSpec)

/-- ITS FALSE NEIGHBOUR: 'it returns false'. Refute it at one input. -/
def fnExactPacketOkWrong : ChangeSpec := { name := "fnExactPacketOk", fn := fun _ => fun
  | [d] => { results := [.lit (.bool false)], args := [d] }
  | _ => none }
def FnExactPacketOkWrongFalsely : Prop := fnExactPacketOkRow.holds Try.pinned (OpenSpec.ofChange fnExactPacketOkWrong)

/-- 'laws.FnExactPacketTerm': WHATEVER THE INPUT: true; the input reads as it did. -/
def fnExactPacketTermSpec : ChangeSpec := { name := "fnExactPacketTerm", fn := fun _ => fun
  | [d1, d2] => { results := [.lit (.bool true)], args := [d1, d2] }
  | _ => none }
def fnExactPacketTermRow : OpenClaim := { program := "ytclnhjkmhemebaa", sum := "e4f4dd7a62507d2c38d641350ff933d16521ed5e5e128cff9f73595752f7299e", func := "loop.example/g00466/laws.FnExactPacketTerm", spec := "fnExactPacketTerm", unfollowed := true, recurses := true, plainKeys := false, apart := false }
def FnExactPacketTermSaid : Prop := fnExactPacketTermRow.holds Try.pinned (OpenSpec.ofChange fnExactPacketTermSpec)

/-- ITS FALSE NEIGHBOUR: 'it returns false'. Refute it at one input. -/
def fnExactPacketTermWrong : ChangeSpec := { name := "fnExactPacketTerm", fn := fun _ => fun
  | [d1, d2] => { results := [.lit (.bool false)], args := [d1, d2] }
  | _ => none }
def FnExactPacketTermWrongFalsely : Prop := fnExactPacketTermRow.holds Try.pinned (OpenSpec.ofChange fnExactPacketTermWrong)

/-- 'laws.FnExactPacketIn': WHATEVER THE INPUT: true; the input reads as it did. -/
def fnExactPacketInSpec : ChangeSpec := { name := "fnExactPacketIn", fn := fun _ => fun
  | [d1, d2] => { results := [.lit (.bool true)], args := [d1, d2] }
  | _ => none }
def fnExactPacketInRow : OpenClaim := { program := "ytclnhjkmhemebaa", sum := "e4f4dd7a62507d2c38d641350ff933d16521ed5e5e128cff9f73595752f7299e", func := "loop.example/g00466/laws.FnExactPacketIn", spec := "fnExactPacketIn", unfollowed := true, recurses := true, plainKeys := false, apart := false }
def FnExactPacketInSaid : Prop := fnExactPacketInRow.holds Try.pinned (OpenSpec.ofChange fnExactPacketInSpec)

/-- ITS FALSE NEIGHBOUR: 'it returns false'. Refute it at one input. -/
def fnExactPacketInWrong : ChangeSpec := { name := "fnExactPacketIn", fn := fun _ => fun
  | [d1, d2] => { results := [.lit (.bool false)], args := [d1, d2] }
  | _ => none }
def FnExactPacketInWrongFalsely : Prop := fnExactPacketInRow.holds Try.pinned (OpenSpec.ofChange fnExactPacketInWrong)

/-- 'laws.FnExactRoutesOk': WHATEVER THE INPUT: true; the input reads as it did. -/
def fnExactRoutesOkSpec : ChangeSpec := { name := "fnExactRoutesOk", fn := fun _ => fun
  | [d] => { results := [.lit (.bool true)], args := [d] }
  | _ => none }
def fnExactRoutesOkRow : OpenClaim := { program := "ytclnhjkmhemebaa", sum := "e4f4dd7a62507d2c38d641350ff933d16521ed5e5e128cff9f73595752f7299e", func := "loop.example/g00466/laws.FnExactRoutesOk", spec := "fnExactRoutesOk", unfollowed := true, recurses := true, plainKeys := false, apart := false }
def FnExactRoutesOkSaid : Prop := fnExactRoutesOkRow.holds Try.pinned (OpenSpec.ofChange fnExactRoutesOkSpec)

/-- ITS FALSE NEIGHBOUR: 'it returns false'. Refute it at one input. -/
def fnExactRoutesOkWrong : ChangeSpec := { name := "fnExactRoutesOk", fn := fun _ => fun
  | [d] => { results := [.lit (.bool false)], args := [d] }
  | _ => none }
def FnExactRoutesOkWrongFalsely : Prop := fnExactRoutesOkRow.holds Try.pinned (OpenSpec.ofChange fnExactRoutesOkWrong)

/-- 'laws.FnExactFitsRoute': WHATEVER THE INPUT: true; the input reads as it did. -/
def fnExactFitsRouteSpec : ChangeSpec := { name := "fnExactFitsRoute", fn := fun _ => fun
  | [d1, d2] => { results := [.lit (.bool true)], args := [d1, d2] }
  | _ => none }
def fnExactFitsRouteRow : OpenClaim := { program := "ytclnhjkmhemebaa", sum := "e4f4dd7a62507d2c38d641350ff933d16521ed5e5e128cff9f73595752f7299e", func := "loop.example/g00466/laws.FnExactFitsRoute", spec := "fnExactFitsRoute", plainKeys := false, apart := false }
def FnExactFitsRouteSaid : Prop := fnExactFitsRouteRow.holds Try.pinned (OpenSpec.ofChange fnExactFitsRouteSpec)

/-- ITS FALSE NEIGHBOUR: 'it returns false'. Refute it at one input. -/
def fnExactFitsRouteWrong : ChangeSpec := { name := "fnExactFitsRoute", fn := fun _ => fun
  | [d1, d2] => { results := [.lit (.bool false)], args := [d1, d2] }
  | _ => none }
def FnExactFitsRouteWrongFalsely : Prop := fnExactFitsRouteRow.holds Try.pinned (OpenSpec.ofChange fnExactFitsRouteWrong)

/-- 'laws.FnExactRouteOf': WHATEVER THE INPUT: true; the input reads as it did. -/
def fnExactRouteOfSpec : ChangeSpec := { name := "fnExactRouteOf", fn := fun _ => fun
  | [d1, d2] => { results := [.lit (.bool true)], args := [d1, d2] }
  | _ => none }
def fnExactRouteOfRow : OpenClaim := { program := "ytclnhjkmhemebaa", sum := "e4f4dd7a62507d2c38d641350ff933d16521ed5e5e128cff9f73595752f7299e", func := "loop.example/g00466/laws.FnExactRouteOf", spec := "fnExactRouteOf", plainKeys := false, apart := false }
def FnExactRouteOfSaid : Prop := fnExactRouteOfRow.holds Try.pinned (OpenSpec.ofChange fnExactRouteOfSpec)

/-- ITS FALSE NEIGHBOUR: 'it returns false'. Refute it at one input. -/
def fnExactRouteOfWrong : ChangeSpec := { name := "fnExactRouteOf", fn := fun _ => fun
  | [d1, d2] => { results := [.lit (.bool false)], args := [d1, d2] }
  | _ => none }
def FnExactRouteOfWrongFalsely : Prop := fnExactRouteOfRow.holds Try.pinned (OpenSpec.ofChange fnExactRouteOfWrong)

/- THE SECOND FORM. 'bulk': how many values and letters a reading holds, each counted each time it is reached (what is shared counts as often as it is met; a slice's spare places count too). A statement '..UptoSaid' is the law's where the arguments, and the package variables that the reading takes, are together of bulk at most 1048576: NARROWER than '..Said'. Prove '..Said' where nothing that the law and all that it calls make is longer than what came in: it says more and counts as full. Else prove '..UptoSaid'. A law counts once. -/
mutual
def uptoBulk {H : Type} : DataW H → Nat
  | .lit (.string bytes) => bytes.length + 1
  | .lit _ => 1
  | .nil => 1
  | .ptr d => uptoBulk d + 1
  | .slice elems spare => uptoBulkAll elems + uptoBulkAll spare + 1
  | .agg parts => uptoBulkAll parts + 1
  | .iface _ d => uptoBulk d + 1
  | .map entries => uptoBulkEntries entries + 1
  | .held _ => 1
def uptoBulkAll {H : Type} : List (DataW H) → Nat
  | [] => 0
  | d :: r => uptoBulk d + uptoBulkAll r
def uptoBulkEntries {H : Type} : List (Lit × DataW H) → Nat
  | [] => 0
  | x :: r => uptoBulkEntry x + uptoBulkEntries r
def uptoBulkEntry {H : Type} : Lit × DataW H → Nat
  | (.string bytes, d) => bytes.length + uptoBulk d + 1
  | (_, d) => uptoBulk d + 1
 end
def uptoSmall : (H : Type) → List (DataW H) → Bool := fun _ ds => decide (uptoBulkAll ds ≤ 1048576)
def OpenSpec.upto (s : _root_.Go.ChangeSpec) : _root_.Go.OpenSpec := { _root_.Go.OpenSpec.ofChange s with cond := some uptoSmall }

/-- 'laws.FnPools', WHERE WHAT IT READS IS OF BULK AT MOST 1048576: true; the input reads as it did. -/
def fnPoolsUptoRow : OpenClaim := { program := "ytclnhjkmhemebaa", sum := "e4f4dd7a62507d2c38d641350ff933d16521ed5e5e128cff9f73595752f7299e", func := "loop.example/g00466/laws.FnPools", spec := "fnPools", unfollowed := true, recurses := true, plainKeys := false, apart := false, narrowed := true }
def FnPoolsUptoSaid : Prop := fnPoolsUptoRow.holds Try.pinned (OpenSpec.upto fnPoolsSpec)

/-- 'laws.FnExactPoolOk', WHERE WHAT IT READS IS OF BULK AT MOST 1048576: true; the input reads as it did. -/
def fnExactPoolOkUptoRow : OpenClaim := { program := "ytclnhjkmhemebaa", sum := "e4f4dd7a62507d2c38d641350ff933d16521ed5e5e128cff9f73595752f7299e", func := "loop.example/g00466/laws.FnExactPoolOk", spec := "fnExactPoolOk", plainKeys := false, apart := false, narrowed := true }
def FnExactPoolOkUptoSaid : Prop := fnExactPoolOkUptoRow.holds Try.pinned (OpenSpec.upto fnExactPoolOkSpec)

/-- 'laws.FnExactLeased', WHERE WHAT IT READS IS OF BULK AT MOST 1048576: true; the input reads as it did. -/
def fnExactLeasedUptoRow : OpenClaim := { program := "ytclnhjkmhemebaa", sum := "e4f4dd7a62507d2c38d641350ff933d16521ed5e5e128cff9f73595752f7299e", func := "loop.example/g00466/laws.FnExactLeased", spec := "fnExactLeased", unfollowed := true, recurses := true, plainKeys := false, apart := false, narrowed := true }
def FnExactLeasedUptoSaid : Prop := fnExactLeasedUptoRow.holds Try.pinned (OpenSpec.upto fnExactLeasedSpec)

/-- 'laws.FnExactGiven', WHERE WHAT IT READS IS OF BULK AT MOST 1048576: true; the input reads as it did. -/
def fnExactGivenUptoRow : OpenClaim := { program := "ytclnhjkmhemebaa", sum := "e4f4dd7a62507d2c38d641350ff933d16521ed5e5e128cff9f73595752f7299e", func := "loop.example/g00466/laws.FnExactGiven", spec := "fnExactGiven", unfollowed := true, recurses := true, plainKeys := false, apart := false, narrowed := true }
def FnExactGivenUptoSaid : Prop := fnExactGivenUptoRow.holds Try.pinned (OpenSpec.upto fnExactGivenSpec)

/-- 'laws.FnExactPlaceOf', WHERE WHAT IT READS IS OF BULK AT MOST 1048576: true; the input reads as it did. -/
def fnExactPlaceOfUptoRow : OpenClaim := { program := "ytclnhjkmhemebaa", sum := "e4f4dd7a62507d2c38d641350ff933d16521ed5e5e128cff9f73595752f7299e", func := "loop.example/g00466/laws.FnExactPlaceOf", spec := "fnExactPlaceOf", unfollowed := true, recurses := true, plainKeys := false, apart := false, narrowed := true }
def FnExactPlaceOfUptoSaid : Prop := fnExactPlaceOfUptoRow.holds Try.pinned (OpenSpec.upto fnExactPlaceOfSpec)

/-- 'laws.FnExactCidOf', WHERE WHAT IT READS IS OF BULK AT MOST 1048576: true; the input reads as it did. -/
def fnExactCidOfUptoRow : OpenClaim := { program := "ytclnhjkmhemebaa", sum := "e4f4dd7a62507d2c38d641350ff933d16521ed5e5e128cff9f73595752f7299e", func := "loop.example/g00466/laws.FnExactCidOf", spec := "fnExactCidOf", unfollowed := true, recurses := true, plainKeys := false, apart := false, narrowed := true }
def FnExactCidOfUptoSaid : Prop := fnExactCidOfUptoRow.holds Try.pinned (OpenSpec.upto fnExactCidOfSpec)

/-- 'laws.FnRoutes', WHERE WHAT IT READS IS OF BULK AT MOST 1048576: true; the input reads as it did. -/
def fnRoutesUptoRow : OpenClaim := { program := "ytclnhjkmhemebaa", sum := "e4f4dd7a62507d2c38d641350ff933d16521ed5e5e128cff9f73595752f7299e", func := "loop.example/g00466/laws.FnRoutes", spec := "fnRoutes", unfollowed := true, recurses := true, plainKeys := false, apart := false, narrowed := true }
def FnRoutesUptoSaid : Prop := fnRoutesUptoRow.holds Try.pinned (OpenSpec.upto fnRoutesSpec)

/-- 'laws.FnExactPacketOk', WHERE WHAT IT READS IS OF BULK AT MOST 1048576: true; the input reads as it did. -/
def fnExactPacketOkUptoRow : OpenClaim := { program := "ytclnhjkmhemebaa", sum := "e4f4dd7a62507d2c38d641350ff933d16521ed5e5e128cff9f73595752f7299e", func := "loop.example/g00466/laws.FnExactPacketOk", spec := "fnExactPacketOk", plainKeys := false, apart := false, narrowed := true }
def FnExactPacketOkUptoSaid : Prop := fnExactPacketOkUptoRow.holds Try.pinned (OpenSpec.upto fnExactPacketOkSpec)

/-- 'laws.FnExactPacketTerm', WHERE WHAT IT READS IS OF BULK AT MOST 1048576: true; the input reads as it did. -/
def fnExactPacketTermUptoRow : OpenClaim := { program := "ytclnhjkmhemebaa", sum := "e4f4dd7a62507d2c38d641350ff933d16521ed5e5e128cff9f73595752f7299e", func := "loop.example/g00466/laws.FnExactPacketTerm", spec := "fnExactPacketTerm", unfollowed := true, recurses := true, plainKeys := false, apart := false, narrowed := true }
def FnExactPacketTermUptoSaid : Prop := fnExactPacketTermUptoRow.holds Try.pinned (OpenSpec.upto fnExactPacketTermSpec)

/-- 'laws.FnExactPacketIn', WHERE WHAT IT READS IS OF BULK AT MOST 1048576: true; the input reads as it did. -/
def fnExactPacketInUptoRow : OpenClaim := { program := "ytclnhjkmhemebaa", sum := "e4f4dd7a62507d2c38d641350ff933d16521ed5e5e128cff9f73595752f7299e", func := "loop.example/g00466/laws.FnExactPacketIn", spec := "fnExactPacketIn", unfollowed := true, recurses := true, plainKeys := false, apart := false, narrowed := true }
def FnExactPacketInUptoSaid : Prop := fnExactPacketInUptoRow.holds Try.pinned (OpenSpec.upto fnExactPacketInSpec)

/-- 'laws.FnExactRoutesOk', WHERE WHAT IT READS IS OF BULK AT MOST 1048576: true; the input reads as it did. -/
def fnExactRoutesOkUptoRow : OpenClaim := { program := "ytclnhjkmhemebaa", sum := "e4f4dd7a62507d2c38d641350ff933d16521ed5e5e128cff9f73595752f7299e", func := "loop.example/g00466/laws.FnExactRoutesOk", spec := "fnExactRoutesOk", unfollowed := true, recurses := true, plainKeys := false, apart := false, narrowed := true }
def FnExactRoutesOkUptoSaid : Prop := fnExactRoutesOkUptoRow.holds Try.pinned (OpenSpec.upto fnExactRoutesOkSpec)

/-- 'laws.FnExactFitsRoute', WHERE WHAT IT READS IS OF BULK AT MOST 1048576: true; the input reads as it did. -/
def fnExactFitsRouteUptoRow : OpenClaim := { program := "ytclnhjkmhemebaa", sum := "e4f4dd7a62507d2c38d641350ff933d16521ed5e5e128cff9f73595752f7299e", func := "loop.example/g00466/laws.FnExactFitsRoute", spec := "fnExactFitsRoute", plainKeys := false, apart := false, narrowed := true }
def FnExactFitsRouteUptoSaid : Prop := fnExactFitsRouteUptoRow.holds Try.pinned (OpenSpec.upto fnExactFitsRouteSpec)

/-- 'laws.FnExactRouteOf', WHERE WHAT IT READS IS OF BULK AT MOST 1048576: true; the input reads as it did. -/
def fnExactRouteOfUptoRow : OpenClaim := { program := "ytclnhjkmhemebaa", sum := "e4f4dd7a62507d2c38d641350ff933d16521ed5e5e128cff9f73595752f7299e", func := "loop.example/g00466/laws.FnExactRouteOf", spec := "fnExactRouteOf", plainKeys := false, apart := false, narrowed := true }
def FnExactRouteOfUptoSaid : Prop := fnExactRouteOfUptoRow.holds Try.pinned (OpenSpec.upto fnExactRouteOfSpec)

end Rows
end Go.Proofs.Ytclnhjkmhemebaa
