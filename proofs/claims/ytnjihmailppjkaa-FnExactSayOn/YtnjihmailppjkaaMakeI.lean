/- The contracts of chapter 4's asItIs, node, isMadeOfAny, Atom and Make, the program's, and of the library's Clone over nodes. -/
import Derived.Test.YtnjihmailppjkaaMakeIs
import Derived.Test.YtnjihmailppjkaaImplPut
import Derived.Test.YtnjihmailppjkaaLawClip
import Derived.WalkKit
import Derived.WalkLawsBesides
import Derived.WalkSpells
import Derived.Laws.OwnMore
import Derived.Laws.AppendOwnNone
import Derived.Laws.Rows
import Derived.Laws.ResultCell
import Derived.Test.YtnjihmailppjkaaAppStr
import Derived.Lib.Bytealg
namespace Go.Proofs.Ytnjihmailppjkaa
open Go.RowKit
set_option linter.unusedVariables false

set_option maxHeartbeats 400000 in
set_option maxRecDepth 20000 in
/-- slices.Clone over nodes. -/
theorem clone_any (a : Option Addr) (cap : Nat) (ns : List Nd) (w : World) (hl : ns.length ≤ 1048576) (ha : AddrN a cap) (hr : RowN w.heap.size w a ns) :
    Calls Try.prog 81 #[.slice a ns.length cap] w fun e w' => ∃ v, e = .returned v ∧ OwnN w.heap.size w' v ns ∧ Below w.heap.size w w' := by
  obtain ⟨i0, hi, hz0, hz1, hz2⟩ := info_parts infoNode
  have HR : Hid (RowN w.heap.size w a ns) := hr
  clear hr
  have HB0 : Hid (Below w.heap.size w (w.alloc (.cells #[] 87))) := (Below.refl _ _).alloc (Nat.le_refl _) _
  have HO : Hid (OwnN w.heap.size (w.alloc (.cells #[] 87)) (.slice (some ⟨w.heap.size, 0, none⟩) 0 0) []) := own_new (base := w.heap.size) w (Nat.le_refl _)
  rcases ha with ⟨rfl, rfl⟩ | ⟨b, off, rfl⟩
  · rcases HR.out with h0 | ⟨_, _, e, _⟩
    · subst h0
      have hq := Lib.run_eql_slice_nil (P := Try.prog) w 37 _ none 0 0 0 0 Try.underlying37
      go_enter Try.func81, Try.ntmps81
      go_wp2
      go_ret
      exact ⟨_, rfl, ⟨rfl, .inl ⟨rfl, rfl⟩⟩, Below.refl _ _⟩
    · cases e
  · have hq := Lib.run_eql_slice_nil (P := Try.prog) w 37 _ (some ⟨b, off, none⟩) ns.length cap 0 0 Try.underlying37
    go_enter Try.func81, Try.ntmps81
    go_wp2_with (at_builtin; refine wpList_append_own _ rfl _ _ 37 rfl w.heap.size 87 i0 _ 4 32 Try.underlying37 hi hz0 hz1 hz2 rfl (by decide) _ 0 _ rfl HO.out ⟨b, off, none⟩ ns.length cap (cellsN ns) rfl (cellsN_len ns) ?c1 (cells_one ns) ?c3 ?c4 ?c5 ?_)
    case c1 => exact (HR.out.later HB0.out).cells
    case c3 => unfold maxLen; omega
    case c4 => omega
    case c5 => simp
    · intro v' w2 hown' hgrow _
      have HO2 : Hid (OwnN w.heap.size w2 v' ns) := by
        show OwnN w.heap.size w2 v' ns
        have e : cellsN [] ++ cellsN ns = cellsN ns := rfl
        rw [e] at hown'; unfold OwnN; simpa using hown'
      have HB2 : Hid (Below w.heap.size w w2) := HB0.out.grown hgrow (by simp) (fun k hk => by simp [Value.ownBlock] at hk; omega)
      clear hown' hgrow
      obtain ⟨a2, cap2, rfl, _, _⟩ := HO2.out.row
      go_wp2
      go_ret
      exact ⟨_, rfl, HO2.out, HB2.out⟩

theorem hasOne_any (kind : Int) (w : World) : Calls Try.prog 102 #[.int .i64 kind] w fun e w' => e = .returned (.bool (oneK kind)) ∧ w = w' := by
  by_cases h3 : kind = 3
  · have e : oneK kind = true := by unfold oneK; simp [h3]
    have h3' : (kind == 3) = true := by simp [h3]
    rw [e]
    clear e h3
    go_enter Try.func102, Try.ntmps102
    go_wp2
    go_ret
    exact ⟨rfl, rfl⟩
  · have h3' : (kind == 3) = false := by simp [h3]
    have e : oneK kind = (kind == 6) := by unfold oneK; rw [decide_eq_false h3]; exact Bool.eq_iff_iff.2 (by simp)
    rw [e]
    clear e h3
    go_enter Try.func102, Try.ntmps102
    go_wp2
    go_ret
    exact ⟨rfl, rfl⟩
/-- A kind that is made of any two. -/
def anyK (kind : Int) : Bool := decide (kind ≠ 1) && decide (kind ≠ 7)
theorem nodeSize' : (Try.prog.info? 87).map (·.size) = some 4 := by kernel_rfl
set_option maxHeartbeats 400000 in
theorem nodeOf_any (kind x y : Int) (w : World) : Calls Try.prog 95 #[.int .i64 kind, .int .i64 x, .int .i64 y] w fun e w' => e = .returned (.agg #[.int .i64 (mkNd kind x y).k, .int .i64 (mkNd kind x y).n, .int .i64 (mkNd kind x y).a, .int .i64 (mkNd kind x y).b]) ∧ Below w.heap.size w w' := by
  have hb0 : Below w.heap.size w (w.alloc (.cells #[.int .i64 0, .int .i64 0, .int .i64 0, .int .i64 0] 87)) := (Below.refl _ _).alloc (Nat.le_refl _) _
  have hN1 := heap_alloc_new w (.cells #[.int .i64 0, .int .i64 0, .int .i64 0, .int .i64 0] 87)
  cases ho : oneK kind with
  | true =>
    have em : mkNd kind x y = ⟨kind, 0, x, 0⟩ := by unfold mkNd; rw [if_pos ho]
    rw [em]
    have HO : Hid (oneK kind = true) := ho
    clear ho em
    go_enter Try.func95, Try.ntmps95
    go_wp2_with fail
    generalize w.alloc (.cells #[.int .i64 0, .int .i64 0, .int .i64 0, .int .i64 0] 87) = w1 at hb0 hN1 ⊢
    refine (hasOne_any kind _).mono ?_
    rintro e w2 ⟨rfl, rfl⟩
    rw [HO.out]
    have n0 : w1.cell? ⟨w.heap.size, 0, none⟩ = some (.int .i64 0) := (cell_of_row w1 _ 0 _ _ _ hN1).trans rfl
    have n1 : w1.cell? ⟨w.heap.size, 1, none⟩ = some (.int .i64 0) := (cell_of_row w1 _ 1 _ _ _ hN1).trans rfl
    have n2 : w1.cell? ⟨w.heap.size, 2, none⟩ = some (.int .i64 0) := (cell_of_row w1 _ 2 _ _ _ hN1).trans rfl
    have n3 : w1.cell? ⟨w.heap.size, 3, none⟩ = some (.int .i64 0) := (cell_of_row w1 _ 3 _ _ _ hN1).trans rfl
    have m0 : w1.frozen? ⟨w.heap.size, 0, none⟩ = false := frozen_of_row w1 _ 0 _ _ hN1
    have m1 : w1.frozen? ⟨w.heap.size, 1, none⟩ = false := frozen_of_row w1 _ 1 _ _ hN1
    have m2 : w1.frozen? ⟨w.heap.size, 2, none⟩ = false := frozen_of_row w1 _ 2 _ _ hN1
    have m3 : w1.frozen? ⟨w.heap.size, 3, none⟩ = false := frozen_of_row w1 _ 3 _ _ hN1
    have HBL : Hid _ := store4 hN1 (.int .i64 kind) (.int .i64 0) (.int .i64 x) (.int .i64 0)
    have HB : Hid _ := below4 (g := w.heap.size) hb0 (Nat.le_refl _) (.int .i64 kind) (.int .i64 0) (.int .i64 x) (.int .i64 0)
    clear hb0 hN1 HO
    go_wp2
    refine bodyPost_ret (results_cell_row rfl _ _ w.heap.size 87 #[.int .i64 kind, .int .i64 0, .int .i64 x, .int .i64 0] (0, 0) _ rfl ?_ Try.underlying87 rfl nodeSize') rfl ?_
    · exact HBL.out
    · exact ⟨rfl, HB.out⟩
  | false =>
    have em : mkNd kind x y = ⟨kind, 0, x, y⟩ := by unfold mkNd; rw [if_neg (by simp [ho])]
    rw [em]
    have HO : Hid (oneK kind = false) := ho
    clear ho em
    go_enter Try.func95, Try.ntmps95
    go_wp2_with fail
    generalize w.alloc (.cells #[.int .i64 0, .int .i64 0, .int .i64 0, .int .i64 0] 87) = w1 at hb0 hN1 ⊢
    refine (hasOne_any kind _).mono ?_
    rintro e w2 ⟨rfl, rfl⟩
    rw [HO.out]
    have n0 : w1.cell? ⟨w.heap.size, 0, none⟩ = some (.int .i64 0) := (cell_of_row w1 _ 0 _ _ _ hN1).trans rfl
    have n1 : w1.cell? ⟨w.heap.size, 1, none⟩ = some (.int .i64 0) := (cell_of_row w1 _ 1 _ _ _ hN1).trans rfl
    have n2 : w1.cell? ⟨w.heap.size, 2, none⟩ = some (.int .i64 0) := (cell_of_row w1 _ 2 _ _ _ hN1).trans rfl
    have n3 : w1.cell? ⟨w.heap.size, 3, none⟩ = some (.int .i64 0) := (cell_of_row w1 _ 3 _ _ _ hN1).trans rfl
    have m0 : w1.frozen? ⟨w.heap.size, 0, none⟩ = false := frozen_of_row w1 _ 0 _ _ hN1
    have m1 : w1.frozen? ⟨w.heap.size, 1, none⟩ = false := frozen_of_row w1 _ 1 _ _ hN1
    have m2 : w1.frozen? ⟨w.heap.size, 2, none⟩ = false := frozen_of_row w1 _ 2 _ _ hN1
    have m3 : w1.frozen? ⟨w.heap.size, 3, none⟩ = false := frozen_of_row w1 _ 3 _ _ hN1
    have HBL : Hid _ := store4 hN1 (.int .i64 kind) (.int .i64 0) (.int .i64 x) (.int .i64 y)
    have HB : Hid _ := below4 (g := w.heap.size) hb0 (Nat.le_refl _) (.int .i64 kind) (.int .i64 0) (.int .i64 x) (.int .i64 y)
    clear hb0 hN1 HO
    go_wp2
    refine bodyPost_ret (results_cell_row rfl _ _ w.heap.size 87 #[.int .i64 kind, .int .i64 0, .int .i64 x, .int .i64 y] (0, 0) _ rfl ?_ Try.underlying87 rfl nodeSize') rfl ?_
    · exact HBL.out
    · exact ⟨rfl, HB.out⟩

theorem makeA_len {ns : List Nd} {kind x y : Int} (h : ns.length ≤ 1048576) : (makeA ns kind x y).length ≤ 1048577 := by
  unfold makeA
  split
  · omega
  · exact putA_len h
end Go.Proofs.Ytnjihmailppjkaa

namespace Go.Proofs.Ytnjihmailppjkaa
open Go.RowKit Go.PlainAid
set_option linter.unusedVariables false

/-- TermText. -/
def txB (ns : List Nd) (k : Int) : Bool := inB (sizeN ns k) 1 2000
def txS (ns : List Nd) (k : Int) : ByteArray := if txB ns k = true then strOfNums (tx ns k.toNat) else ByteArray.empty
/-- Bytes in their order. -/
theorem cmpB_range : ∀ a b : List UInt8, Lib.compareBytes a b = -1 ∨ Lib.compareBytes a b = 0 ∨ Lib.compareBytes a b = 1
  | [], [] => .inr (.inl rfl)
  | [], _ :: _ => .inl rfl
  | _ :: _, [] => .inr (.inr rfl)
  | x :: a, y :: b => by
    rw [Lib.compareBytes]
    split
    · exact .inl rfl
    · split
      · exact .inr (.inr rfl)
      · exact cmpB_range a b
theorem cmpB_zero : ∀ a b : List UInt8, Lib.compareBytes a b = 0 ↔ a = b
  | [], [] => by simp [Lib.compareBytes]
  | [], _ :: _ => by simp [Lib.compareBytes]
  | _ :: _, [] => by simp [Lib.compareBytes]
  | x :: a, y :: b => by
    rw [Lib.compareBytes]
    by_cases h1 : x < y
    · rw [if_pos h1]
      constructor
      · intro h; omega
      · intro h; simp only [List.cons.injEq] at h; rw [h.1] at h1; exact absurd h1 (UInt8.lt_irrefl y)
    · rw [if_neg h1]
      by_cases h2 : y < x
      · rw [if_pos h2]
        constructor
        · intro h; omega
        · intro h; simp only [List.cons.injEq] at h; rw [h.1] at h2; exact absurd h2 (UInt8.lt_irrefl y)
      · rw [if_neg h2, cmpB_zero a b, List.cons.injEq]
        have hxy : x = y := UInt8.le_antisymm (UInt8.not_lt.1 h2) (UInt8.not_lt.1 h1)
        exact ⟨fun h => ⟨hxy, h⟩, fun h => h.2⟩
theorem cmpB_less : ∀ a b : List UInt8, Op.bytesLess a b = decide (Lib.compareBytes a b = -1)
  | [], [] => rfl
  | [], _ :: _ => rfl
  | _ :: _, [] => rfl
  | x :: a, y :: b => by
    rw [Lib.compareBytes, Op.bytesLess]
    by_cases h1 : x < y
    · simp [h1]
    · rw [if_neg h1]
      by_cases h2 : y < x
      · have hne : (x == y) = false := by
          rw [beq_eq_false_iff_ne]; intro e; rw [e] at h2; exact UInt8.lt_irrefl y h2
        simp [h1, h2, hne]
      · have hxy : x = y := UInt8.le_antisymm (UInt8.not_lt.1 h2) (UInt8.not_lt.1 h1)
        rw [if_neg h2, cmpB_less a b]
        simp [hxy]
/-- How two texts compare. -/
def cmpS (s t : ByteArray) : Int := Lib.compareBytes s.data.toList t.data.toList
theorem cmpS_range (s t : ByteArray) : cmpS s t = -1 ∨ cmpS s t = 0 ∨ cmpS s t = 1 := cmpB_range _ _
theorem cmpS_eq (s t : ByteArray) : (s.toList == t.toList) = decide (cmpS s t = 0) := by
  unfold cmpS
  rw [ByteArray.toList_eq, ByteArray.toList_eq, Bool.eq_iff_iff, beq_iff_eq, decide_eq_true_iff]
  exact (cmpB_zero _ _).symm
theorem cmpS_gt (s t : ByteArray) : (!(Op.bytesLess s.toList t.toList || s.toList == t.toList)) = decide (cmpS s t = 1) := by
  rw [cmpS_eq, ByteArray.toList_eq, ByteArray.toList_eq, cmpB_less]
  have := cmpS_range s t
  unfold cmpS at this ⊢
  rcases this with h | h | h <;> rw [h] <;> rfl
theorem cmpS_less (s t : ByteArray) : Op.bytesLess s.toList t.toList = decide (cmpS s t = -1) := by
  rw [ByteArray.toList_eq, ByteArray.toList_eq, cmpB_less]; rfl
/-- Are the two to change places? -/
def swapB (ns : List Nd) (x y : Int) : Bool := decide (cmpS (txS ns x) (txS ns y) = 1) || (decide (cmpS (txS ns x) (txS ns y) = 0) && decide (y < x))

/-- How two integers compare. -/
def cmpI (x y : Int) : Int := if x < y then -1 else if y < x then 1 else 0
end Go.Proofs.Ytnjihmailppjkaa

namespace Go.Proofs.Ytnjihmailppjkaa
open Go.RowKit Go.PlainAid
set_option linter.unusedVariables false
theorem swap_is (ns : List Nd) (x y : Int) : decide (0 < (if cmpS (txS ns x) (txS ns y) = 0 then cmpI x y else cmpS (txS ns x) (txS ns y))) = swapB ns x y := by
  unfold swapB cmpI
  rcases cmpS_range (txS ns x) (txS ns y) with h | h | h <;> rw [h]
  · rfl
  · by_cases h1 : x < y
    · simp [h1]; omega
    · by_cases h2 : y < x
      · simp [h1, h2]
      · simp [h1, h2]
  · rfl
/-- DhOf. -/
def dhB (ns : List Nd) (x pub : Int) : Bool := isK ns pub 6 && okAt ns x
def dhN (ns : List Nd) (x pub : Int) : Nd := ⟨7, 0, if swapB ns x (ndAt ns pub).a = true then (ndAt ns pub).a else x, if swapB ns x (ndAt ns pub).a = true then x else (ndAt ns pub).a⟩
def dhA (ns : List Nd) (x pub : Int) : List Nd := if dhB ns x pub = true then putA ns (dhN ns x pub) else ns
def dhK (ns : List Nd) (x pub : Int) : Int := if dhB ns x pub = true then putK ns (dhN ns x pub) else -1
theorem dhK_neg {ns : List Nd} {x pub : Int} (h : dhK ns x pub < 0) : dhK ns x pub = -1 := by
  unfold dhK at h ⊢
  split
  · rename_i h1; rw [if_pos h1] at h; exact putK_neg h
  · rfl
theorem dhA_neg {ns : List Nd} {x pub : Int} (h : dhK ns x pub < 0) : dhA ns x pub = ns := by
  unfold dhK at h
  unfold dhA
  split
  · rename_i h1; rw [if_pos h1] at h; exact putA_neg h
  · rfl
theorem dhA_len {ns : List Nd} {x pub : Int} (h : ns.length ≤ 1048576) : (dhA ns x pub).length ≤ 1048577 := by
  unfold dhA
  split
  · exact putA_len h
  · omega
end Go.Proofs.Ytnjihmailppjkaa

namespace Go.Proofs.Ytnjihmailppjkaa
open Go.RowKit Go.PlainAid
set_option linter.unusedVariables false
end Go.Proofs.Ytnjihmailppjkaa
