/- The contracts of chapter 3's l03Sizes and SizeOf, the specification's. -/
import Derived.Test.YtlecpjgeaigjkaaHeldQ
import Derived.Test.YtlecpjgeaigjkaaPlainText
import Derived.Test.YtlecpjgeaigjkaaPlain
import Derived.WalkKit
import Derived.WalkLawsBesides
import Derived.WalkSpells
import Derived.OwnWalk
import Derived.Laws.OwnMore
import Derived.Test.YtlecpjgeaigjkaaImplOk
import Derived.Deep.QuietTactic
import Derived.BigQuiet
import Derived.Test.YtlecpjgeaigjkaaProg
import Derived.Deep.DeepMust
import Derived.Deep.DeepFit
import Derived.Test.YtlecpjgeaigjkaaAppStr
import Derived.Lib.AppendStr
import Derived.Test.YtlecpjgeaigjkaaPlainRead
import Derived.Deep.RegionHeld3
import Derived.Deep.DrawnRows
namespace Go.Proofs.Ytlecpjgeaigjkaa
open Go.RowKit
set_option linter.unusedVariables false

theorem sizes_next (ns : List Nd) (k : Nat) {s : Int} (h : szv ns k = s) : (sizesN ns (k + 1)).map (Value.int .i64) = (sizesN ns k).map (Value.int .i64) ++ [.int .i64 s] := by
  rw [sizesN, ← szv_eq, h]; simp
theorem sizes_range (ns : List Nd) (m : Nat) : ∀ j, 0 ≤ (sizesN ns m).getD j 0 ∧ (sizesN ns m).getD j 0 ≤ 100000 := fun j => by
  by_cases h : j < m
  · rw [szv_at ns m j h]; exact szv_le ns j
  · rw [List.getD_eq_getElem?_getD, List.getElem?_eq_none (by rw [sizesN_len]; omega)]; simp
theorem szOne_right {out : List Int} {i : Nat} {x : Nd} (h : nodeB x i = true) (hp : 0 < i → out.getD (i - 1) 0 ≠ 0) : szOne out i x = if 100000 < (if x.k = 1 then (1 : Int) else if oneK x.k = true then 1 + out.getD x.a.toNat 0 else 1 + out.getD x.a.toNat 0 + out.getD x.b.toNat 0) then 100000 else (if x.k = 1 then (1 : Int) else if oneK x.k = true then 1 + out.getD x.a.toNat 0 else 1 + out.getD x.a.toNat 0 + out.getD x.b.toNat 0) := by
  rw [szOne, if_neg]
  rintro (e | ⟨e1, e2⟩)
  · rw [h] at e; simp at e
  · exact hp e1 e2
end Go.Proofs.Ytlecpjgeaigjkaa

namespace Go.Proofs.Ytlecpjgeaigjkaa
open Go.RowKit
set_option linter.unusedVariables false

end Go.Proofs.Ytlecpjgeaigjkaa

namespace Go.Proofs.Ytlecpjgeaigjkaa
open Go.RowKit
set_option linter.unusedVariables false

/-- What a row of sizes holds up to i. -/
theorem sizes_cells {ns : List Nd} {w : World} {base g n i : Nat} {xs : List Value} (h : w.ownsRow base 3 1 (.slice (some ⟨g, 0, none⟩) n n) n xs) (ht : xs.take i = (sizesN ns i).map (Value.int .i64)) (hi : i ≤ n) : ∀ j, j < i → w.cell? ⟨g, j, none⟩ = some (.int .i64 (szv ns j)) := by
  intro j hj
  rw [h.cellAt j (by omega)]
  have : xs[j]? = (xs.take i)[j]? := by rw [List.getElem?_take, if_pos hj]
  rw [this, ht, List.getElem?_map]
  have e := szv_at ns i j hj
  rw [List.getD_eq_getElem?_getD, List.getElem?_eq_getElem (by rw [sizesN_len]; exact hj)] at e
  rw [List.getElem?_eq_getElem (by rw [sizesN_len]; exact hj)]
  simp only [Option.getD_some] at e
  rw [e]; rfl
theorem sizes_set {ns : List Nd} {xs : List Value} {i : Nat} (ht : xs.take i = (sizesN ns i).map (Value.int .i64)) (hi : i < xs.length) : (xs.set i (.int .i64 (szv ns i))).take (i + 1) = (sizesN ns (i + 1)).map (Value.int .i64) := by
  rw [sizes_next ns i rfl, ← ht]
  apply List.ext_getElem?
  intro j
  rw [List.getElem?_take]
  by_cases h1 : j < i
  · rw [if_pos (by omega), List.getElem?_append_left (by simp; omega), List.getElem?_set, if_neg (by omega), List.getElem?_take, if_pos h1]
  · by_cases h2 : j = i
    · subst h2
      rw [if_pos (by omega), List.getElem?_append_right (by simp; omega), List.getElem?_set, List.length_take, Nat.min_eq_left (by omega), Nat.sub_self]
      simp [hi]
    · rw [if_neg (by omega), List.getElem?_eq_none (by simp; omega)]
theorem cell_set_other {w : World} {p q : Addr} {u : Value} (h : w.cell? p = some u) (hne : p.block ≠ q.block) (v : Value) : (w.setCell q v).cell? p = some u := by
  rw [World.cell?_of_block (w := w) (Below.heap_setCell _ _ _ _ hne)]; exact h
theorem good_sz {ns : List Nd} {i : Nat} (h : ∀ j, j ≤ i → nodeB (ns.getD j Nd.zero) (j : Int) = true) : szv ns i = if 100000 < szSum ns (ns.getD i Nd.zero) then 100000 else szSum ns (ns.getD i Nd.zero) :=
  szv_good (h i (Nat.le_refl _)) (fun h0 => by have := szv_range ns (i - 1) (fun j hj => h j (by omega)); omega)

end Go.Proofs.Ytlecpjgeaigjkaa

namespace Go.Proofs.Ytlecpjgeaigjkaa
open Go.RowKit
theorem Try.info5 : (Try.prog.info? 5).map (fun i => (i.zero, i.size, i.bytes)) = some (some (.int .u8 0), 1, 1) := by kernel_rfl

theorem l01In_yes (x lo hi : Int) (w : World) (h0 : lo ≤ x) (h1 : x ≤ hi) :
    Calls Try.prog 65 #[.int .i64 x, .int .i64 lo, .int .i64 hi] w fun e w' => e = .returned (.bool true) ∧ w = w' := by
  go_enter Try.func65, Try.ntmps65
  go_wp2
  go_ret
  exact ⟨rfl, rfl⟩
theorem l01In_no (x lo hi : Int) (w : World) (h : x < lo ∨ hi < x) :
    Calls Try.prog 65 #[.int .i64 x, .int .i64 lo, .int .i64 hi] w fun e w' => e = .returned (.bool false) ∧ w = w' := by
  by_cases h0 : lo ≤ x
  · have h1 : decide (x ≤ hi) = false := by simp; omega
    go_enter Try.func65, Try.ntmps65
    go_wp2
    go_ret
    exact ⟨rfl, rfl⟩
  · have h1 : decide (lo ≤ x) = false := by simp; omega
    go_enter Try.func65, Try.ntmps65
    go_wp2
    go_ret
    exact ⟨rfl, rfl⟩

end Go.Proofs.Ytlecpjgeaigjkaa

namespace Go.Proofs.Ytlecpjgeaigjkaa
open Go.RowKit
set_option linter.unusedVariables false

theorem strCells_nums {xs : List Int} (h : ∀ x ∈ xs, 0 ≤ x ∧ x ≤ 255) : Lib.strCells (strOfNums xs) = xs.map (Value.int .u8) := by
  unfold Lib.strCells
  rw [strOfNums_data, List.map_map]
  apply List.map_congr_left
  intro x hx
  have := h x hx
  simp only [Function.comp, UInt8.toNat_ofNat']
  congr 1
  omega
theorem right_kind {x : Nd} {k : Int} (h : nodeB x k = true) : 1 ≤ x.k ∧ x.k ≤ 9 := by
  rcases nodeB_true h with h | h | h <;> omega
theorem szv_kids {ns : List Nd} {k : Nat} (h : Good ns k) (hz : szv ns k ≤ 2000) : szv ns k = szSum ns (ns.getD k Nd.zero) := by
  have e := good_sz h.2
  rw [e] at hz ⊢
  split at hz
  · omega
  · rw [if_neg (by assumption)]
end Go.Proofs.Ytlecpjgeaigjkaa

namespace Go.Proofs.Ytlecpjgeaigjkaa
open Go.RowKit
set_option linter.unusedVariables false

end Go.Proofs.Ytlecpjgeaigjkaa

namespace Go.Proofs.Ytlecpjgeaigjkaa
open Go.RowKit Go.PlainAid
attribute [local go_sem ↓] Go.wp_at_zero Go.wp_at_succ

/-- What ReadVar hands back. -/
def rvVal : Option (Int × Nat) → Value
  | none => .tuple #[.int .i64 0, .int .i64 0, .bool false]
  | some (n, k) => .tuple #[.int .i64 n, .int .i64 k, .bool true]

/-- ReadVar at whatever place. -/
def RV (s : ByteArray) (a : Int) : Option (Int × Nat) := if 0 ≤ a ∧ a ≤ (s.size : Int) then rvOut s a.toNat else none

/-- What is read lies within the limits. -/
theorem rvGo_bd (s : ByteArray) (a : Nat) : ∀ (f k : Nat) (acc : Int) (n : Int) (j : Nat), 0 ≤ acc → rvGo s a f k acc = some (n, j) → 0 ≤ n ∧ n ≤ 1000000000 ∧ j ≤ s.size
  | 0, _, _, _, _, _, h => by simp [rvGo] at h
  | f + 1, k, acc, n, j, h0, h => by
    have hp := pw_pos k
    have hm := mul_bd (x := bt s (a + k) % 128) (p := pw k) (by omega) (by omega) (by omega)
    rw [rvGo] at h
    split at h
    · split at h
      · split at h
        · simp at h
        · simp at h; omega
      · exact rvGo_bd s a f (k + 1) _ n j (by omega) h
    · simp at h
theorem RV_bd {s : ByteArray} {a n : Int} {k : Nat} (h : RV s a = some (n, k)) : 0 ≤ n ∧ n ≤ 1000000000 ∧ k ≤ s.size := by
  unfold RV at h
  split at h
  · exact rvGo_bd s _ 5 0 0 n k (by omega) h
  · simp at h
end Go.Proofs.Ytlecpjgeaigjkaa
