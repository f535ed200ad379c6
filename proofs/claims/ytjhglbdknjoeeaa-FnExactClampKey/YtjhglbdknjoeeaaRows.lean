/-
  No cell of these rows narrows 'for every input' (looked for: loops, veiled, ifaces, maps, wideKeys, modest, calm, conditions, laid).
  DERIVED. THE GIVEN ROWS OF THIS SEAT. 12 by the template 'for every input the law returns true; each argument reads behind the call as it read before'; 0 by the template 'total and deterministic' (their statements: YtjhglbdknjoeeaaTotals.lean).
  GIVEN WITH THE SEED: the statements are not yours to turn. If you find one false, say at which input.
  Laid BY PROGRAM, IN A SANDBOX (cutbox-rows.mjs): the forced cells as the released guide's own fill.sh prints them over the translation 03e0527e1289ba36… (all of the seat's roots in one cut). By AI agents, Wed Nov 11 2026. No macro, syntax, notation, axiom, sorry.
-/
import Derived.Test.YtjhglbdknjoeeaaChecked
import GoSem.Claim
import GoSem.ClaimJoined
import GoSem.ClaimMapViews
import Derived.JoinedTies
import Derived.KernelRfl
namespace Go.Proofs.Ytjhglbdknjoeeaa
/- THE CELL 'sum', in the pinned program and in every row, IS THE sha256 OF THE DUMP (.gsa) THAT YtjhglbdknjoeeaaProg.lean LOADS. Nothing in Lean hashes anything: it is a label: what it is worth is what the hold of that sum in a sandbox is worth. -/
noncomputable def Try.pinned : Pinned := { name := "ytjhglbdknjoeeaa", sum := "03e0527e1289ba36a0b8a260e70bbeed5e4ea9010c2b9c5a0213d0d1fa1b19e9", checked := Try.checked }
namespace Rows
def none {H : Type} : Left H := { results := [], args := [] }

/-- 'laws.FnFields': WHATEVER THE INPUT: true; the input reads as it did. -/
def fnFieldsSpec : ChangeSpec := { name := "fnFields", fn := fun _ => fun
  | [d] => { results := [.lit (.bool true)], args := [d] }
  | _ => none }
def fnFieldsRow : OpenClaim := { program := "ytjhglbdknjoeeaa", sum := "03e0527e1289ba36a0b8a260e70bbeed5e4ea9010c2b9c5a0213d0d1fa1b19e9", func := "loop.example/g00466/laws.FnFields", spec := "fnFields", unfollowed := true, recurses := true, apart := false }
def FnFieldsSaid : Prop := fnFieldsRow.holds Try.pinned (OpenSpec.ofChange fnFieldsSpec)

/-- ITS FALSE NEIGHBOUR: 'it returns false'. Refute it at one input. -/
def fnFieldsWrong : ChangeSpec := { name := "fnFields", fn := fun _ => fun
  | [d] => { results := [.lit (.bool false)], args := [d] }
  | _ => none }
def FnFieldsWrongFalsely : Prop := fnFieldsRow.holds Try.pinned (OpenSpec.ofChange fnFieldsWrong)

/-- 'laws.FnFieldsTold': WHATEVER THE INPUT: true; the input reads as it did. -/
def fnFieldsToldSpec : ChangeSpec := { name := "fnFieldsTold", fn := fun _ => fun
  | [d] => { results := [.lit (.bool true)], args := [d] }
  | _ => none }
def fnFieldsToldRow : OpenClaim := { program := "ytjhglbdknjoeeaa", sum := "03e0527e1289ba36a0b8a260e70bbeed5e4ea9010c2b9c5a0213d0d1fa1b19e9", func := "loop.example/g00466/laws.FnFieldsTold", spec := "fnFieldsTold", unfollowed := true, recurses := true, apart := false }
def FnFieldsToldSaid : Prop := fnFieldsToldRow.holds Try.pinned (OpenSpec.ofChange fnFieldsToldSpec)

/-- ITS FALSE NEIGHBOUR: 'it returns false'. Refute it at one input. -/
def fnFieldsToldWrong : ChangeSpec := { name := "fnFieldsTold", fn := fun _ => fun
  | [d] => { results := [.lit (.bool false)], args := [d] }
  | _ => none }
def FnFieldsToldWrongFalsely : Prop := fnFieldsToldRow.holds Try.pinned (OpenSpec.ofChange fnFieldsToldWrong)

/-- 'laws.FnCurves': WHATEVER THE INPUT: true; the input reads as it did. -/
def fnCurvesSpec : ChangeSpec := { name := "fnCurves", fn := fun _ => fun
  | [d] => { results := [.lit (.bool true)], args := [d] }
  | _ => none }
def fnCurvesRow : OpenClaim := { program := "ytjhglbdknjoeeaa", sum := "03e0527e1289ba36a0b8a260e70bbeed5e4ea9010c2b9c5a0213d0d1fa1b19e9", func := "loop.example/g00466/laws.FnCurves", spec := "fnCurves", inPlace := ["internal/abi.NoEscape", "internal/bytealg.MakeNoZero"], unfollowed := true, recurses := true, apart := false }
def FnCurvesSaid : Prop := fnCurvesRow.holds Try.pinned (OpenSpec.ofChange fnCurvesSpec)

/-- ITS FALSE NEIGHBOUR: 'it returns false'. Refute it at one input. -/
def fnCurvesWrong : ChangeSpec := { name := "fnCurves", fn := fun _ => fun
  | [d] => { results := [.lit (.bool false)], args := [d] }
  | _ => none }
def FnCurvesWrongFalsely : Prop := fnCurvesRow.holds Try.pinned (OpenSpec.ofChange fnCurvesWrong)

/-- 'laws.FnCurvesTold': WHATEVER THE INPUT: true; the input reads as it did. -/
def fnCurvesToldSpec : ChangeSpec := { name := "fnCurvesTold", fn := fun _ => fun
  | [d] => { results := [.lit (.bool true)], args := [d] }
  | _ => none }
def fnCurvesToldRow : OpenClaim := { program := "ytjhglbdknjoeeaa", sum := "03e0527e1289ba36a0b8a260e70bbeed5e4ea9010c2b9c5a0213d0d1fa1b19e9", func := "loop.example/g00466/laws.FnCurvesTold", spec := "fnCurvesTold", inPlace := ["internal/abi.NoEscape", "internal/bytealg.MakeNoZero"], unfollowed := true, recurses := true, apart := false }
def FnCurvesToldSaid : Prop := fnCurvesToldRow.holds Try.pinned (OpenSpec.ofChange fnCurvesToldSpec)

/-- ITS FALSE NEIGHBOUR: 'it returns false'. Refute it at one input. -/
def fnCurvesToldWrong : ChangeSpec := { name := "fnCurvesTold", fn := fun _ => fun
  | [d] => { results := [.lit (.bool false)], args := [d] }
  | _ => none }
def FnCurvesToldWrongFalsely : Prop := fnCurvesToldRow.holds Try.pinned (OpenSpec.ofChange fnCurvesToldWrong)

/-- 'laws.FnExactFieldOk': WHATEVER THE INPUT: true; the input reads as it did. -/
def fnExactFieldOkSpec : ChangeSpec := { name := "fnExactFieldOk", fn := fun _ => fun
  | [d] => { results := [.lit (.bool true)], args := [d] }
  | _ => none }
def fnExactFieldOkRow : OpenClaim := { program := "ytjhglbdknjoeeaa", sum := "03e0527e1289ba36a0b8a260e70bbeed5e4ea9010c2b9c5a0213d0d1fa1b19e9", func := "loop.example/g00466/laws.FnExactFieldOk", spec := "fnExactFieldOk", apart := false }
def FnExactFieldOkSaid : Prop := fnExactFieldOkRow.holds Try.pinned (OpenSpec.ofChange fnExactFieldOkSpec)

/-- ITS FALSE NEIGHBOUR: 'it returns false'. Refute it at one input. -/
def fnExactFieldOkWrong : ChangeSpec := { name := "fnExactFieldOk", fn := fun _ => fun
  | [d] => { results := [.lit (.bool false)], args := [d] }
  | _ => none }
def FnExactFieldOkWrongFalsely : Prop := fnExactFieldOkRow.holds Try.pinned (OpenSpec.ofChange fnExactFieldOkWrong)

/-- 'laws.FnExactFieldOf': WHATEVER THE INPUT: true; the input reads as it did. -/
def fnExactFieldOfSpec : ChangeSpec := { name := "fnExactFieldOf", fn := fun _ => fun
  | [d] => { results := [.lit (.bool true)], args := [d] }
  | _ => none }
def fnExactFieldOfRow : OpenClaim := { program := "ytjhglbdknjoeeaa", sum := "03e0527e1289ba36a0b8a260e70bbeed5e4ea9010c2b9c5a0213d0d1fa1b19e9", func := "loop.example/g00466/laws.FnExactFieldOf", spec := "fnExactFieldOf", apart := false }
def FnExactFieldOfSaid : Prop := fnExactFieldOfRow.holds Try.pinned (OpenSpec.ofChange fnExactFieldOfSpec)

/-- ITS FALSE NEIGHBOUR: 'it returns false'. Refute it at one input. -/
def fnExactFieldOfWrong : ChangeSpec := { name := "fnExactFieldOf", fn := fun _ => fun
  | [d] => { results := [.lit (.bool false)], args := [d] }
  | _ => none }
def FnExactFieldOfWrongFalsely : Prop := fnExactFieldOfRow.holds Try.pinned (OpenSpec.ofChange fnExactFieldOfWrong)

/-- 'laws.FnExactFieldText': WHATEVER THE INPUT: true; the input reads as it did. -/
def fnExactFieldTextSpec : ChangeSpec := { name := "fnExactFieldText", fn := fun _ => fun
  | [d] => { results := [.lit (.bool true)], args := [d] }
  | _ => none }
def fnExactFieldTextRow : OpenClaim := { program := "ytjhglbdknjoeeaa", sum := "03e0527e1289ba36a0b8a260e70bbeed5e4ea9010c2b9c5a0213d0d1fa1b19e9", func := "loop.example/g00466/laws.FnExactFieldText", spec := "fnExactFieldText", apart := false }
def FnExactFieldTextSaid : Prop := fnExactFieldTextRow.holds Try.pinned (OpenSpec.ofChange fnExactFieldTextSpec)

/-- ITS FALSE NEIGHBOUR: 'it returns false'. Refute it at one input. -/
def fnExactFieldTextWrong : ChangeSpec := { name := "fnExactFieldText", fn := fun _ => fun
  | [d] => { results := [.lit (.bool false)], args := [d] }
  | _ => none }
def FnExactFieldTextWrongFalsely : Prop := fnExactFieldTextRow.holds Try.pinned (OpenSpec.ofChange fnExactFieldTextWrong)

/-- 'laws.FnExactFieldAdd': WHATEVER THE INPUT: true; the input reads as it did. -/
def fnExactFieldAddSpec : ChangeSpec := { name := "fnExactFieldAdd", fn := fun _ => fun
  | [d1, d2] => { results := [.lit (.bool true)], args := [d1, d2] }
  | _ => none }
def fnExactFieldAddRow : OpenClaim := { program := "ytjhglbdknjoeeaa", sum := "03e0527e1289ba36a0b8a260e70bbeed5e4ea9010c2b9c5a0213d0d1fa1b19e9", func := "loop.example/g00466/laws.FnExactFieldAdd", spec := "fnExactFieldAdd", unfollowed := true, recurses := true, apart := false }
def FnExactFieldAddSaid : Prop := fnExactFieldAddRow.holds Try.pinned (OpenSpec.ofChange fnExactFieldAddSpec)

/-- ITS FALSE NEIGHBOUR: 'it returns false'. Refute it at one input. -/
def fnExactFieldAddWrong : ChangeSpec := { name := "fnExactFieldAdd", fn := fun _ => fun
  | [d1, d2] => { results := [.lit (.bool false)], args := [d1, d2] }
  | _ => none }
def FnExactFieldAddWrongFalsely : Prop := fnExactFieldAddRow.holds Try.pinned (OpenSpec.ofChange fnExactFieldAddWrong)

/-- 'laws.FnExactFieldSub': WHATEVER THE INPUT: true; the input reads as it did. -/
def fnExactFieldSubSpec : ChangeSpec := { name := "fnExactFieldSub", fn := fun _ => fun
  | [d1, d2] => { results := [.lit (.bool true)], args := [d1, d2] }
  | _ => none }
def fnExactFieldSubRow : OpenClaim := { program := "ytjhglbdknjoeeaa", sum := "03e0527e1289ba36a0b8a260e70bbeed5e4ea9010c2b9c5a0213d0d1fa1b19e9", func := "loop.example/g00466/laws.FnExactFieldSub", spec := "fnExactFieldSub", unfollowed := true, recurses := true, apart := false }
def FnExactFieldSubSaid : Prop := fnExactFieldSubRow.holds Try.pinned (OpenSpec.ofChange fnExactFieldSubSpec)

/-- ITS FALSE NEIGHBOUR: 'it returns false'. Refute it at one input. -/
def fnExactFieldSubWrong : ChangeSpec := { name := "fnExactFieldSub", fn := fun _ => fun
  | [d1, d2] => { results := [.lit (.bool false)], args := [d1, d2] }
  | _ => none }
def FnExactFieldSubWrongFalsely : Prop := fnExactFieldSubRow.holds Try.pinned (OpenSpec.ofChange fnExactFieldSubWrong)

/-- 'laws.FnExactFieldMul': WHATEVER THE INPUT: true; the input reads as it did. -/
def fnExactFieldMulSpec : ChangeSpec := { name := "fnExactFieldMul", fn := fun _ => fun
  | [d1, d2] => { results := [.lit (.bool true)], args := [d1, d2] }
  | _ => none }
def fnExactFieldMulRow : OpenClaim := { program := "ytjhglbdknjoeeaa", sum := "03e0527e1289ba36a0b8a260e70bbeed5e4ea9010c2b9c5a0213d0d1fa1b19e9", func := "loop.example/g00466/laws.FnExactFieldMul", spec := "fnExactFieldMul", unfollowed := true, recurses := true, apart := false }
def FnExactFieldMulSaid : Prop := fnExactFieldMulRow.holds Try.pinned (OpenSpec.ofChange fnExactFieldMulSpec)

/-- ITS FALSE NEIGHBOUR: 'it returns false'. Refute it at one input. -/
def fnExactFieldMulWrong : ChangeSpec := { name := "fnExactFieldMul", fn := fun _ => fun
  | [d1, d2] => { results := [.lit (.bool false)], args := [d1, d2] }
  | _ => none }
def FnExactFieldMulWrongFalsely : Prop := fnExactFieldMulRow.holds Try.pinned (OpenSpec.ofChange fnExactFieldMulWrong)

/-- 'laws.FnExactFieldInv': WHATEVER THE INPUT: true; the input reads as it did. -/
def fnExactFieldInvSpec : ChangeSpec := { name := "fnExactFieldInv", fn := fun _ => fun
  | [d] => { results := [.lit (.bool true)], args := [d] }
  | _ => none }
def fnExactFieldInvRow : OpenClaim := { program := "ytjhglbdknjoeeaa", sum := "03e0527e1289ba36a0b8a260e70bbeed5e4ea9010c2b9c5a0213d0d1fa1b19e9", func := "loop.example/g00466/laws.FnExactFieldInv", spec := "fnExactFieldInv", apart := false }
def FnExactFieldInvSaid : Prop := fnExactFieldInvRow.holds Try.pinned (OpenSpec.ofChange fnExactFieldInvSpec)

/-- ITS FALSE NEIGHBOUR: 'it returns false'. Refute it at one input. -/
def fnExactFieldInvWrong : ChangeSpec := { name := "fnExactFieldInv", fn := fun _ => fun
  | [d] => { results := [.lit (.bool false)], args := [d] }
  | _ => none }
def FnExactFieldInvWrongFalsely : Prop := fnExactFieldInvRow.holds Try.pinned (OpenSpec.ofChange fnExactFieldInvWrong)

/-- 'laws.FnExactClampKey': WHATEVER THE INPUT: true; the input reads as it did. -/
def fnExactClampKeySpec : ChangeSpec := { name := "fnExactClampKey", fn := fun _ => fun
  | [d] => { results := [.lit (.bool true)], args := [d] }
  | _ => none }
def fnExactClampKeyRow : OpenClaim := { program := "ytjhglbdknjoeeaa", sum := "03e0527e1289ba36a0b8a260e70bbeed5e4ea9010c2b9c5a0213d0d1fa1b19e9", func := "loop.example/g00466/laws.FnExactClampKey", spec := "fnExactClampKey", apart := false }
def FnExactClampKeySaid : Prop := fnExactClampKeyRow.holds Try.pinned (OpenSpec.ofChange fnExactClampKeySpec)

/-- ITS FALSE NEIGHBOUR: 'it returns false'. Refute it at one input. -/
def fnExactClampKeyWrong : ChangeSpec := { name := "fnExactClampKey", fn := fun _ => fun
  | [d] => { results := [.lit (.bool false)], args := [d] }
  | _ => none }
def FnExactClampKeyWrongFalsely : Prop := fnExactClampKeyRow.holds Try.pinned (OpenSpec.ofChange fnExactClampKeyWrong)

/- THE SECOND FORM. 'bulk': how many values and letters a reading holds, each counted each time it is reached (what is shared counts as often as it is met; a slice's spare places count too). A statement '..UptoSaid' is the law's where the arguments, and the package variables that the reading takes, are together of bulk at most 1048576: NARROWER than '..Said'. Prove '..Said' where nothing that the law and all that it calls make is longer than what came in: it says more and counts as full. Else prove '..UptoSaid'. A law counts once. -/
mutual
def uptoBulk {H : Type} : DataW H → Nat
  | .lit (.string bytes) => bytes.length + 1
  | .lit _ => 1
  | .nil => 1
  | .ptr d => uptoBulk d + 1
  | .slice elems spare => uptoBulkAll elems + uptoBulkAll spare + 1
  | .agg parts => uptoBulkAll parts + 1
  | .iface _ d => uptoBulk d + 1
  | .map entries => uptoBulkEntries entries + 1
  | .held _ => 1
def uptoBulkAll {H : Type} : List (DataW H) → Nat
  | [] => 0
  | d :: r => uptoBulk d + uptoBulkAll r
def uptoBulkEntries {H : Type} : List (Lit × DataW H) → Nat
  | [] => 0
  | x :: r => uptoBulkEntry x + uptoBulkEntries r
def uptoBulkEntry {H : Type} : Lit × DataW H → Nat
  | (.string bytes, d) => bytes.length + uptoBulk d + 1
  | (_, d) => uptoBulk d + 1
 end
def uptoSmall : (H : Type) → List (DataW H) → Bool := fun _ ds => decide (uptoBulkAll ds ≤ 1048576)
def OpenSpec.upto (s : _root_.Go.ChangeSpec) : _root_.Go.OpenSpec := { _root_.Go.OpenSpec.ofChange s with cond := some uptoSmall }

/-- 'laws.FnFields', WHERE WHAT IT READS IS OF BULK AT MOST 1048576: true; the input reads as it did. -/
def fnFieldsUptoRow : OpenClaim := { program := "ytjhglbdknjoeeaa", sum := "03e0527e1289ba36a0b8a260e70bbeed5e4ea9010c2b9c5a0213d0d1fa1b19e9", func := "loop.example/g00466/laws.FnFields", spec := "fnFields", unfollowed := true, recurses := true, apart := false, narrowed := true }
def FnFieldsUptoSaid : Prop := fnFieldsUptoRow.holds Try.pinned (OpenSpec.upto fnFieldsSpec)

/-- 'laws.FnFieldsTold', WHERE WHAT IT READS IS OF BULK AT MOST 1048576: true; the input reads as it did. -/
def fnFieldsToldUptoRow : OpenClaim := { program := "ytjhglbdknjoeeaa", sum := "03e0527e1289ba36a0b8a260e70bbeed5e4ea9010c2b9c5a0213d0d1fa1b19e9", func := "loop.example/g00466/laws.FnFieldsTold", spec := "fnFieldsTold", unfollowed := true, recurses := true, apart := false, narrowed := true }
def FnFieldsToldUptoSaid : Prop := fnFieldsToldUptoRow.holds Try.pinned (OpenSpec.upto fnFieldsToldSpec)

/-- 'laws.FnCurves', WHERE WHAT IT READS IS OF BULK AT MOST 1048576: true; the input reads as it did. -/
def fnCurvesUptoRow : OpenClaim := { program := "ytjhglbdknjoeeaa", sum := "03e0527e1289ba36a0b8a260e70bbeed5e4ea9010c2b9c5a0213d0d1fa1b19e9", func := "loop.example/g00466/laws.FnCurves", spec := "fnCurves", inPlace := ["internal/abi.NoEscape", "internal/bytealg.MakeNoZero"], unfollowed := true, recurses := true, apart := false, narrowed := true }
def FnCurvesUptoSaid : Prop := fnCurvesUptoRow.holds Try.pinned (OpenSpec.upto fnCurvesSpec)

/-- 'laws.FnCurvesTold', WHERE WHAT IT READS IS OF BULK AT MOST 1048576: true; the input reads as it did. -/
def fnCurvesToldUptoRow : OpenClaim := { program := "ytjhglbdknjoeeaa", sum := "03e0527e1289ba36a0b8a260e70bbeed5e4ea9010c2b9c5a0213d0d1fa1b19e9", func := "loop.example/g00466/laws.FnCurvesTold", spec := "fnCurvesTold", inPlace := ["internal/abi.NoEscape", "internal/bytealg.MakeNoZero"], unfollowed := true, recurses := true, apart := false, narrowed := true }
def FnCurvesToldUptoSaid : Prop := fnCurvesToldUptoRow.holds Try.pinned (OpenSpec.upto fnCurvesToldSpec)

/-- 'laws.FnExactFieldOk', WHERE WHAT IT READS IS OF BULK AT MOST 1048576: true; the input reads as it did. -/
def fnExactFieldOkUptoRow : OpenClaim := { program := "ytjhglbdknjoeeaa", sum := "03e0527e1289ba36a0b8a260e70bbeed5e4ea9010c2b9c5a0213d0d1fa1b19e9", func := "loop.example/g00466/laws.FnExactFieldOk", spec := "fnExactFieldOk", apart := false, narrowed := true }
def FnExactFieldOkUptoSaid : Prop := fnExactFieldOkUptoRow.holds Try.pinned (OpenSpec.upto fnExactFieldOkSpec)

/-- 'laws.FnExactFieldOf', WHERE WHAT IT READS IS OF BULK AT MOST 1048576: true; the input reads as it did. -/
def fnExactFieldOfUptoRow : OpenClaim := { program := "ytjhglbdknjoeeaa", sum := "03e0527e1289ba36a0b8a260e70bbeed5e4ea9010c2b9c5a0213d0d1fa1b19e9", func := "loop.example/g00466/laws.FnExactFieldOf", spec := "fnExactFieldOf", apart := false, narrowed := true }
def FnExactFieldOfUptoSaid : Prop := fnExactFieldOfUptoRow.holds Try.pinned (OpenSpec.upto fnExactFieldOfSpec)

/-- 'laws.FnExactFieldText', WHERE WHAT IT READS IS OF BULK AT MOST 1048576: true; the input reads as it did. -/
def fnExactFieldTextUptoRow : OpenClaim := { program := "ytjhglbdknjoeeaa", sum := "03e0527e1289ba36a0b8a260e70bbeed5e4ea9010c2b9c5a0213d0d1fa1b19e9", func := "loop.example/g00466/laws.FnExactFieldText", spec := "fnExactFieldText", apart := false, narrowed := true }
def FnExactFieldTextUptoSaid : Prop := fnExactFieldTextUptoRow.holds Try.pinned (OpenSpec.upto fnExactFieldTextSpec)

/-- 'laws.FnExactFieldAdd', WHERE WHAT IT READS IS OF BULK AT MOST 1048576: true; the input reads as it did. -/
def fnExactFieldAddUptoRow : OpenClaim := { program := "ytjhglbdknjoeeaa", sum := "03e0527e1289ba36a0b8a260e70bbeed5e4ea9010c2b9c5a0213d0d1fa1b19e9", func := "loop.example/g00466/laws.FnExactFieldAdd", spec := "fnExactFieldAdd", unfollowed := true, recurses := true, apart := false, narrowed := true }
def FnExactFieldAddUptoSaid : Prop := fnExactFieldAddUptoRow.holds Try.pinned (OpenSpec.upto fnExactFieldAddSpec)

/-- 'laws.FnExactFieldSub', WHERE WHAT IT READS IS OF BULK AT MOST 1048576: true; the input reads as it did. -/
def fnExactFieldSubUptoRow : OpenClaim := { program := "ytjhglbdknjoeeaa", sum := "03e0527e1289ba36a0b8a260e70bbeed5e4ea9010c2b9c5a0213d0d1fa1b19e9", func := "loop.example/g00466/laws.FnExactFieldSub", spec := "fnExactFieldSub", unfollowed := true, recurses := true, apart := false, narrowed := true }
def FnExactFieldSubUptoSaid : Prop := fnExactFieldSubUptoRow.holds Try.pinned (OpenSpec.upto fnExactFieldSubSpec)

/-- 'laws.FnExactFieldMul', WHERE WHAT IT READS IS OF BULK AT MOST 1048576: true; the input reads as it did. -/
def fnExactFieldMulUptoRow : OpenClaim := { program := "ytjhglbdknjoeeaa", sum := "03e0527e1289ba36a0b8a260e70bbeed5e4ea9010c2b9c5a0213d0d1fa1b19e9", func := "loop.example/g00466/laws.FnExactFieldMul", spec := "fnExactFieldMul", unfollowed := true, recurses := true, apart := false, narrowed := true }
def FnExactFieldMulUptoSaid : Prop := fnExactFieldMulUptoRow.holds Try.pinned (OpenSpec.upto fnExactFieldMulSpec)

/-- 'laws.FnExactFieldInv', WHERE WHAT IT READS IS OF BULK AT MOST 1048576: true; the input reads as it did. -/
def fnExactFieldInvUptoRow : OpenClaim := { program := "ytjhglbdknjoeeaa", sum := "03e0527e1289ba36a0b8a260e70bbeed5e4ea9010c2b9c5a0213d0d1fa1b19e9", func := "loop.example/g00466/laws.FnExactFieldInv", spec := "fnExactFieldInv", apart := false, narrowed := true }
def FnExactFieldInvUptoSaid : Prop := fnExactFieldInvUptoRow.holds Try.pinned (OpenSpec.upto fnExactFieldInvSpec)

/-- 'laws.FnExactClampKey', WHERE WHAT IT READS IS OF BULK AT MOST 1048576: true; the input reads as it did. -/
def fnExactClampKeyUptoRow : OpenClaim := { program := "ytjhglbdknjoeeaa", sum := "03e0527e1289ba36a0b8a260e70bbeed5e4ea9010c2b9c5a0213d0d1fa1b19e9", func := "loop.example/g00466/laws.FnExactClampKey", spec := "fnExactClampKey", apart := false, narrowed := true }
def FnExactClampKeyUptoSaid : Prop := fnExactClampKeyUptoRow.holds Try.pinned (OpenSpec.upto fnExactClampKeySpec)

end Rows
end Go.Proofs.Ytjhglbdknjoeeaa
