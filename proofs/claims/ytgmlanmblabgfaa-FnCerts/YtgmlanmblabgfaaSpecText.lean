/- The contracts of chapter 3's l03Text and TermText, the specification's. -/
import Derived.Test.YtgmlanmblabgfaaImplOk
import Derived.Test.YtgmlanmblabgfaaVarW
import Derived.WalkKit
import Derived.WalkLawsBesides
import Derived.WalkSpells
namespace Go.Proofs.Ytgmlanmblabgfaa
open Go.RowKit
set_option linter.unusedVariables false

theorem strOf_app (xs ys : List Int) : strOfNums (xs ++ ys) = strOfNums xs ++ strOfNums ys := by
  have h : (strOfNums (xs ++ ys)).data.toList = (strOfNums xs ++ strOfNums ys).data.toList := by
    rw [strOfNums_data, List.map_append]
    have : ∀ a b : ByteArray, (a ++ b).data.toList = a.data.toList ++ b.data.toList := fun a b => by
      rw [ByteArray.data_append]; simp
    rw [this, strOfNums_data, strOfNums_data]
  exact ByteArray.ext (Array.ext' h)
theorem good_szS {ns : List Nd} {i : Nat} (h : ∀ j, j ≤ i → nodeB (ns.getD j Nd.zero) (j : Int) = true) : szv ns i = if 100000 < szSum ns (ns.getD i Nd.zero) then 100000 else szSum ns (ns.getD i Nd.zero) :=
  szv_good (h i (Nat.le_refl _)) (fun h0 => by have := szv_range ns (i - 1) (fun j hj => h j (by omega)); omega)
theorem szv_kidsS {ns : List Nd} {k : Nat} (h : Good ns k) (hz : szv ns k ≤ 2000) : szv ns k = szSum ns (ns.getD k Nd.zero) := by
  have e := good_szS h.2
  rw [e] at hz ⊢
  split at hz
  · omega
  · rw [if_neg (by assumption)]
/-- What a walk holds behind its first two boxes. -/
theorem two_boxes (w : World) (v : Value) (k n a b : Int) : ∃ w0, w0 = (w.alloc (.cells #[v] 26)).alloc (.cells #[.int .i64 k, .int .i64 n, .int .i64 a, .int .i64 b] 66) ∧ w0.heap.size = w.heap.size + 2 ∧ Below w.heap.size w w0 ∧ w0.cell? ⟨w.heap.size, 0, none⟩ = some v ∧ w0.cell? ⟨w.heap.size + 1, 0, none⟩ = some (.int .i64 k) ∧ w0.cell? ⟨w.heap.size + 1, 1, none⟩ = some (.int .i64 n) ∧ w0.cell? ⟨w.heap.size + 1, 2, none⟩ = some (.int .i64 a) ∧ w0.cell? ⟨w.heap.size + 1, 3, none⟩ = some (.int .i64 b) := by
  have hn := heap_alloc_new (w.alloc (.cells #[v] 26)) (.cells #[.int .i64 k, .int .i64 n, .int .i64 a, .int .i64 b] 66)
  have hs : (w.alloc (.cells #[v] 26)).heap.size = w.heap.size + 1 := by simp
  rw [hs] at hn
  have hA : ((w.alloc (.cells #[v] 26)).alloc (.cells #[.int .i64 k, .int .i64 n, .int .i64 a, .int .i64 b] 66)).heap[w.heap.size]? = some (.cells #[v] 26 (0, 0)) := by
    rw [heap_alloc_old _ _ (by simp)]; exact heap_alloc_new w _
  exact ⟨_, rfl, by simp, ((Below.refl _ _).alloc (Nat.le_refl _) _).alloc (by simp) _, (cell_of_row _ _ 0 _ _ _ hA).trans rfl, (cell_of_row _ _ 0 _ _ _ hn).trans rfl, (cell_of_row _ _ 1 _ _ _ hn).trans rfl, (cell_of_row _ _ 2 _ _ _ hn).trans rfl, (cell_of_row _ _ 3 _ _ _ hn).trans rfl⟩
end Go.Proofs.Ytgmlanmblabgfaa
