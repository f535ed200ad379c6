/- The contracts of chapter 3's l03Text and TermText, the specification's. -/
import Derived.Test.YtlecpjgeaigjkaaSpecSize
import Derived.WalkKit
import Derived.WalkLawsBesides
import Derived.WalkSpells
import Derived.Test.YtlecpjgeaigjkaaMakeIs
import Derived.Lib.Bytealg
import Derived.Laws.Rows
namespace Go.Proofs.Ytlecpjgeaigjkaa
open Go.RowKit
set_option linter.unusedVariables false

theorem strOf_app (xs ys : List Int) : strOfNums (xs ++ ys) = strOfNums xs ++ strOfNums ys := by
  have h : (strOfNums (xs ++ ys)).data.toList = (strOfNums xs ++ strOfNums ys).data.toList := by
    rw [strOfNums_data, List.map_append]
    have : ∀ a b : ByteArray, (a ++ b).data.toList = a.data.toList ++ b.data.toList := fun a b => by
      rw [ByteArray.data_append]; simp
    rw [this, strOfNums_data, strOfNums_data]
  exact ByteArray.ext (Array.ext' h)
theorem good_szS {ns : List Nd} {i : Nat} (h : ∀ j, j ≤ i → nodeB (ns.getD j Nd.zero) (j : Int) = true) : szv ns i = if 100000 < szSum ns (ns.getD i Nd.zero) then 100000 else szSum ns (ns.getD i Nd.zero) :=
  szv_good (h i (Nat.le_refl _)) (fun h0 => by have := szv_range ns (i - 1) (fun j hj => h j (by omega)); omega)
theorem szv_kidsS {ns : List Nd} {k : Nat} (h : Good ns k) (hz : szv ns k ≤ 2000) : szv ns k = szSum ns (ns.getD k Nd.zero) := by
  have e := good_szS h.2
  rw [e] at hz ⊢
  split at hz
  · omega
  · rw [if_neg (by assumption)]
/-- What a walk holds behind its first two boxes. -/
theorem two_boxes (w : World) (v : Value) (k n a b : Int) : ∃ w0, w0 = (w.alloc (.cells #[v] 30)).alloc (.cells #[.int .i64 k, .int .i64 n, .int .i64 a, .int .i64 b] 110) ∧ w0.heap.size = w.heap.size + 2 ∧ Below w.heap.size w w0 ∧ w0.cell? ⟨w.heap.size, 0, none⟩ = some v ∧ w0.cell? ⟨w.heap.size + 1, 0, none⟩ = some (.int .i64 k) ∧ w0.cell? ⟨w.heap.size + 1, 1, none⟩ = some (.int .i64 n) ∧ w0.cell? ⟨w.heap.size + 1, 2, none⟩ = some (.int .i64 a) ∧ w0.cell? ⟨w.heap.size + 1, 3, none⟩ = some (.int .i64 b) := by
  have hn := heap_alloc_new (w.alloc (.cells #[v] 30)) (.cells #[.int .i64 k, .int .i64 n, .int .i64 a, .int .i64 b] 110)
  have hs : (w.alloc (.cells #[v] 30)).heap.size = w.heap.size + 1 := by simp
  rw [hs] at hn
  have hA : ((w.alloc (.cells #[v] 30)).alloc (.cells #[.int .i64 k, .int .i64 n, .int .i64 a, .int .i64 b] 110)).heap[w.heap.size]? = some (.cells #[v] 30 (0, 0)) := by
    rw [heap_alloc_old _ _ (by simp)]; exact heap_alloc_new w _
  exact ⟨_, rfl, by simp, ((Below.refl _ _).alloc (Nat.le_refl _) _).alloc (by simp) _, (cell_of_row _ _ 0 _ _ _ hA).trans rfl, (cell_of_row _ _ 0 _ _ _ hn).trans rfl, (cell_of_row _ _ 1 _ _ _ hn).trans rfl, (cell_of_row _ _ 2 _ _ _ hn).trans rfl, (cell_of_row _ _ 3 _ _ _ hn).trans rfl⟩
end Go.Proofs.Ytlecpjgeaigjkaa

namespace Go.Proofs.Ytlecpjgeaigjkaa
open Go.RowKit Go.PlainAid
set_option linter.unusedVariables false

/-- TermText. -/
def txB (ns : List Nd) (k : Int) : Bool := inB (sizeN ns k) 1 2000
def txS (ns : List Nd) (k : Int) : ByteArray := if txB ns k = true then strOfNums (tx ns k.toNat) else ByteArray.empty
/-- Bytes in their order. -/
theorem cmpB_range : ∀ a b : List UInt8, Lib.compareBytes a b = -1 ∨ Lib.compareBytes a b = 0 ∨ Lib.compareBytes a b = 1
  | [], [] => .inr (.inl rfl)
  | [], _ :: _ => .inl rfl
  | _ :: _, [] => .inr (.inr rfl)
  | x :: a, y :: b => by
    rw [Lib.compareBytes]
    split
    · exact .inl rfl
    · split
      · exact .inr (.inr rfl)
      · exact cmpB_range a b
theorem cmpB_zero : ∀ a b : List UInt8, Lib.compareBytes a b = 0 ↔ a = b
  | [], [] => by simp [Lib.compareBytes]
  | [], _ :: _ => by simp [Lib.compareBytes]
  | _ :: _, [] => by simp [Lib.compareBytes]
  | x :: a, y :: b => by
    rw [Lib.compareBytes]
    by_cases h1 : x < y
    · rw [if_pos h1]
      constructor
      · intro h; omega
      · intro h; simp only [List.cons.injEq] at h; rw [h.1] at h1; exact absurd h1 (UInt8.lt_irrefl y)
    · rw [if_neg h1]
      by_cases h2 : y < x
      · rw [if_pos h2]
        constructor
        · intro h; omega
        · intro h; simp only [List.cons.injEq] at h; rw [h.1] at h2; exact absurd h2 (UInt8.lt_irrefl y)
      · rw [if_neg h2, cmpB_zero a b, List.cons.injEq]
        have hxy : x = y := UInt8.le_antisymm (UInt8.not_lt.1 h2) (UInt8.not_lt.1 h1)
        exact ⟨fun h => ⟨hxy, h⟩, fun h => h.2⟩
theorem cmpB_less : ∀ a b : List UInt8, Op.bytesLess a b = decide (Lib.compareBytes a b = -1)
  | [], [] => rfl
  | [], _ :: _ => rfl
  | _ :: _, [] => rfl
  | x :: a, y :: b => by
    rw [Lib.compareBytes, Op.bytesLess]
    by_cases h1 : x < y
    · simp [h1]
    · rw [if_neg h1]
      by_cases h2 : y < x
      · have hne : (x == y) = false := by
          rw [beq_eq_false_iff_ne]; intro e; rw [e] at h2; exact UInt8.lt_irrefl y h2
        simp [h1, h2, hne]
      · have hxy : x = y := UInt8.le_antisymm (UInt8.not_lt.1 h2) (UInt8.not_lt.1 h1)
        rw [if_neg h2, cmpB_less a b]
        simp [hxy]
/-- How two texts compare. -/
def cmpS (s t : ByteArray) : Int := Lib.compareBytes s.data.toList t.data.toList
theorem cmpS_range (s t : ByteArray) : cmpS s t = -1 ∨ cmpS s t = 0 ∨ cmpS s t = 1 := cmpB_range _ _
theorem cmpS_eq (s t : ByteArray) : (s.toList == t.toList) = decide (cmpS s t = 0) := by
  unfold cmpS
  rw [ByteArray.toList_eq, ByteArray.toList_eq, Bool.eq_iff_iff, beq_iff_eq, decide_eq_true_iff]
  exact (cmpB_zero _ _).symm
theorem cmpS_gt (s t : ByteArray) : (!(Op.bytesLess s.toList t.toList || s.toList == t.toList)) = decide (cmpS s t = 1) := by
  rw [cmpS_eq, ByteArray.toList_eq, ByteArray.toList_eq, cmpB_less]
  have := cmpS_range s t
  unfold cmpS at this ⊢
  rcases this with h | h | h <;> rw [h] <;> rfl
theorem cmpS_less (s t : ByteArray) : Op.bytesLess s.toList t.toList = decide (cmpS s t = -1) := by
  rw [ByteArray.toList_eq, ByteArray.toList_eq, cmpB_less]; rfl
/-- Are the two to change places? -/
def swapB (ns : List Nd) (x y : Int) : Bool := decide (cmpS (txS ns x) (txS ns y) = 1) || (decide (cmpS (txS ns x) (txS ns y) = 0) && decide (y < x))

/-- How two integers compare. -/
def cmpI (x y : Int) : Int := if x < y then -1 else if y < x then 1 else 0
end Go.Proofs.Ytlecpjgeaigjkaa
