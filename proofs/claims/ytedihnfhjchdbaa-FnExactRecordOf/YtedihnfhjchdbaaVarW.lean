/- The contracts of the two writers of a number's bytes (chapter 1). -/
import Derived.Test.YtedihnfhjchdbaaProg
import Derived.Test.YtedihnfhjchdbaaPlain
import Derived.WalkKit
import Derived.WalkLawsBesides
import Derived.WalkSpells
import Derived.Deep.DeepMust
import Derived.Deep.DeepFit
import Derived.Test.YtedihnfhjchdbaaSpecSize
import Derived.Test.YtedihnfhjchdbaaAppStr
import Derived.OwnWalk
import Derived.Lib.AppendStr
import Derived.Test.YtedihnfhjchdbaaPlainRead
import Derived.Deep.QuietTactic
import Derived.BigQuiet
import Derived.Deep.RegionHeld3
import Derived.Deep.DrawnRows
namespace Go.Proofs.Ytedihnfhjchdbaa
open Go.RowKit
theorem Try.info5 : (Try.prog.info? 5).map (fun i => (i.zero, i.size, i.bytes)) = some (some (.int .u8 0), 1, 1) := by kernel_rfl

theorem l01In_yes (x lo hi : Int) (w : World) (h0 : lo ≤ x) (h1 : x ≤ hi) :
    Calls Try.prog 66 #[.int .i64 x, .int .i64 lo, .int .i64 hi] w fun e w' => e = .returned (.bool true) ∧ w = w' := by
  go_enter Try.func66, Try.ntmps66
  go_wp2
  go_ret
  exact ⟨rfl, rfl⟩
theorem l01In_no (x lo hi : Int) (w : World) (h : x < lo ∨ hi < x) :
    Calls Try.prog 66 #[.int .i64 x, .int .i64 lo, .int .i64 hi] w fun e w' => e = .returned (.bool false) ∧ w = w' := by
  by_cases h0 : lo ≤ x
  · have h1 : decide (x ≤ hi) = false := by simp; omega
    go_enter Try.func66, Try.ntmps66
    go_wp2
    go_ret
    exact ⟨rfl, rfl⟩
  · have h1 : decide (lo ≤ x) = false := by simp; omega
    go_enter Try.func66, Try.ntmps66
    go_wp2
    go_ret
    exact ⟨rfl, rfl⟩

end Go.Proofs.Ytedihnfhjchdbaa

namespace Go.Proofs.Ytedihnfhjchdbaa
open Go.RowKit
set_option linter.unusedVariables false

theorem strCells_nums {xs : List Int} (h : ∀ x ∈ xs, 0 ≤ x ∧ x ≤ 255) : Lib.strCells (strOfNums xs) = xs.map (Value.int .u8) := by
  unfold Lib.strCells
  rw [strOfNums_data, List.map_map]
  apply List.map_congr_left
  intro x hx
  have := h x hx
  simp only [Function.comp, UInt8.toNat_ofNat']
  congr 1
  omega
theorem right_kind {x : Nd} {k : Int} (h : nodeB x k = true) : 1 ≤ x.k ∧ x.k ≤ 9 := by
  rcases nodeB_true h with h | h | h <;> omega
theorem szv_kids {ns : List Nd} {k : Nat} (h : Good ns k) (hz : szv ns k ≤ 2000) : szv ns k = szSum ns (ns.getD k Nd.zero) := by
  have e := good_sz h.2
  rw [e] at hz ⊢
  split at hz
  · omega
  · rw [if_neg (by assumption)]
end Go.Proofs.Ytedihnfhjchdbaa

namespace Go.Proofs.Ytedihnfhjchdbaa
open Go.RowKit
set_option linter.unusedVariables false

end Go.Proofs.Ytedihnfhjchdbaa

namespace Go.Proofs.Ytedihnfhjchdbaa
open Go.RowKit Go.PlainAid
attribute [local go_sem ↓] Go.wp_at_zero Go.wp_at_succ

/-- What ReadVar hands back. -/
def rvVal : Option (Int × Nat) → Value
  | none => .tuple #[.int .i64 0, .int .i64 0, .bool false]
  | some (n, k) => .tuple #[.int .i64 n, .int .i64 k, .bool true]

/-- ReadVar at whatever place. -/
def RV (s : ByteArray) (a : Int) : Option (Int × Nat) := if 0 ≤ a ∧ a ≤ (s.size : Int) then rvOut s a.toNat else none

/-- What is read lies within the limits. -/
theorem rvGo_bd (s : ByteArray) (a : Nat) : ∀ (f k : Nat) (acc : Int) (n : Int) (j : Nat), 0 ≤ acc → rvGo s a f k acc = some (n, j) → 0 ≤ n ∧ n ≤ 1000000000 ∧ j ≤ s.size
  | 0, _, _, _, _, _, h => by simp [rvGo] at h
  | f + 1, k, acc, n, j, h0, h => by
    have hp := pw_pos k
    have hm := mul_bd (x := bt s (a + k) % 128) (p := pw k) (by omega) (by omega) (by omega)
    rw [rvGo] at h
    split at h
    · split at h
      · split at h
        · simp at h
        · simp at h; omega
      · exact rvGo_bd s a f (k + 1) _ n j (by omega) h
    · simp at h
theorem RV_bd {s : ByteArray} {a n : Int} {k : Nat} (h : RV s a = some (n, k)) : 0 ≤ n ∧ n ≤ 1000000000 ∧ k ≤ s.size := by
  unfold RV at h
  split at h
  · exact rvGo_bd s _ 5 0 0 n k (by omega) h
  · simp at h
end Go.Proofs.Ytedihnfhjchdbaa

namespace Go.Proofs.Ytedihnfhjchdbaa
open Go.RowKit
set_option linter.unusedVariables false

theorem strOf_app (xs ys : List Int) : strOfNums (xs ++ ys) = strOfNums xs ++ strOfNums ys := by
  have h : (strOfNums (xs ++ ys)).data.toList = (strOfNums xs ++ strOfNums ys).data.toList := by
    rw [strOfNums_data, List.map_append]
    have : ∀ a b : ByteArray, (a ++ b).data.toList = a.data.toList ++ b.data.toList := fun a b => by
      rw [ByteArray.data_append]; simp
    rw [this, strOfNums_data, strOfNums_data]
  exact ByteArray.ext (Array.ext' h)
theorem good_szS {ns : List Nd} {i : Nat} (h : ∀ j, j ≤ i → nodeB (ns.getD j Nd.zero) (j : Int) = true) : szv ns i = if 100000 < szSum ns (ns.getD i Nd.zero) then 100000 else szSum ns (ns.getD i Nd.zero) :=
  szv_good (h i (Nat.le_refl _)) (fun h0 => by have := szv_range ns (i - 1) (fun j hj => h j (by omega)); omega)
theorem szv_kidsS {ns : List Nd} {k : Nat} (h : Good ns k) (hz : szv ns k ≤ 2000) : szv ns k = szSum ns (ns.getD k Nd.zero) := by
  have e := good_szS h.2
  rw [e] at hz ⊢
  split at hz
  · omega
  · rw [if_neg (by assumption)]
/-- What a walk holds behind its first two boxes. -/
theorem two_boxes (w : World) (v : Value) (k n a b : Int) : ∃ w0, w0 = (w.alloc (.cells #[v] 26)).alloc (.cells #[.int .i64 k, .int .i64 n, .int .i64 a, .int .i64 b] 70) ∧ w0.heap.size = w.heap.size + 2 ∧ Below w.heap.size w w0 ∧ w0.cell? ⟨w.heap.size, 0, none⟩ = some v ∧ w0.cell? ⟨w.heap.size + 1, 0, none⟩ = some (.int .i64 k) ∧ w0.cell? ⟨w.heap.size + 1, 1, none⟩ = some (.int .i64 n) ∧ w0.cell? ⟨w.heap.size + 1, 2, none⟩ = some (.int .i64 a) ∧ w0.cell? ⟨w.heap.size + 1, 3, none⟩ = some (.int .i64 b) := by
  have hn := heap_alloc_new (w.alloc (.cells #[v] 26)) (.cells #[.int .i64 k, .int .i64 n, .int .i64 a, .int .i64 b] 70)
  have hs : (w.alloc (.cells #[v] 26)).heap.size = w.heap.size + 1 := by simp
  rw [hs] at hn
  have hA : ((w.alloc (.cells #[v] 26)).alloc (.cells #[.int .i64 k, .int .i64 n, .int .i64 a, .int .i64 b] 70)).heap[w.heap.size]? = some (.cells #[v] 26 (0, 0)) := by
    rw [heap_alloc_old _ _ (by simp)]; exact heap_alloc_new w _
  exact ⟨_, rfl, by simp, ((Below.refl _ _).alloc (Nat.le_refl _) _).alloc (by simp) _, (cell_of_row _ _ 0 _ _ _ hA).trans rfl, (cell_of_row _ _ 0 _ _ _ hn).trans rfl, (cell_of_row _ _ 1 _ _ _ hn).trans rfl, (cell_of_row _ _ 2 _ _ _ hn).trans rfl, (cell_of_row _ _ 3 _ _ _ hn).trans rfl⟩
end Go.Proofs.Ytedihnfhjchdbaa
