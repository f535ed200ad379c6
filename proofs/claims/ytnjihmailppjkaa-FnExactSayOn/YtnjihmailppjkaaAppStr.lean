/- Appending a text's bytes to a row of the call's own, with the place where the new row lies. -/
import Derived.Test.YtnjihmailppjkaaPlain
import Derived.WalkKit
import Derived.WalkLawsBesides
import Derived.OwnWalk
import Derived.Lib.AppendStr
import Derived.Test.YtnjihmailppjkaaProg
import Derived.WalkSpells
import Derived.Deep.DeepMust
import Derived.Deep.DeepFit
import Derived.Test.YtnjihmailppjkaaImplOk
import Derived.Deep.QuietTactic
import Derived.BigQuiet
import Derived.Deep.RegionHeld3
import Derived.Deep.DrawnRows
namespace Go.Proofs.Ytnjihmailppjkaa
open Go.RowKit

/-- The new value lies in the old one's own block, or in a new one. -/
def Lies (w : World) (v v' : Value) : Prop := ∀ g, v'.ownBlock = some g → v.ownBlock = some g ∨ w.heap.size ≤ g
theorem append_string_at {P : Program} (w : World) (base : Nat) (t u ty e : TypeId) (i : TypeInfo) (ht : P.underlying t = some (.slice e)) (hu : P.underlying u = some .string) (hi : P.info? e = some i) (hz : i.zero = some (.int .u8 0)) (hsize : i.size = 1) (hby : i.bytes = 1)
    (v : Value) (n : Nat) (xs : List Value) (hown : w.ownsRow base e 1 v n xs) (s : ByteArray) (h63 : n + s.size ≤ maxLen) (hbytes : n + s.size ≤ 140737488355328) (hbase : base ≤ w.heap.size) :
    ∃ v' w', (Builtin.append_ #[t, u] ty #[v, .string s]).run P w = .ok v' w' ∧ w'.ownsRow base e 1 v' (n + s.size) (xs ++ Lib.strCells s) ∧ w.grownBy w' v.ownBlock ∧ Lies w v v' := by
  obtain ⟨v', w', hr, h1, h2, h3⟩ := Lib.run_append_own_string (P := P) w base t u ty e i ht hu hi hz hsize hby v n xs hown s h63 hbytes hbase
  refine ⟨v', w', hr, h1, h2, fun g hg => ?_⟩
  have hsmall : n + s.size ≤ 9223372036854775807 := by simp only [maxLen] at h63; omega
  have hxl : xs.length = n := by simpa using hown.1
  rcases hown.2 with ⟨rfl, rfl⟩ | ⟨g0, cap, cur, rfl, hbg, hgc, hnc, hcm, hcs, htake⟩
  · by_cases hm : s.size = 0
    · rw [h3.2 ⟨rfl, hm⟩] at hg; cases hg
    · have hr2 := run_append_nil_string (P := P) w t u ty e i (.int .u8 0) ht hu hi hz s (by omega) (by omega) (by rw [hby]; omega)
      rw [hr] at hr2
      simp only [Result.ok.injEq] at hr2
      rw [hr2.1] at hg
      simp [Value.ownBlock] at hg
      exact .inr (by omega)
  · by_cases hroom : n + s.size ≤ cap
    · have hr2 := Lib.run_append_room_string (P := P) w t u ty e i ht hu hi hsize g0 n cap cur hgc s hroom (by simp at hcs; omega)
      rw [hr] at hr2
      simp only [Result.ok.injEq] at hr2
      rw [hr2.1] at hg
      exact .inl hg
    · have hr2 := Lib.run_append_grow_string (P := P) w t u ty e i (.int .u8 0) ht hu hi hz ⟨g0, 0, none⟩ n cap xs (by rw [hsize]; simpa using hxl) (hown.cells (g := g0) rfl) s (by omega) (by omega) (by rw [hby]; exact growslice_fits (by omega) (by omega))
      rw [hr] at hr2
      simp only [Result.ok.injEq] at hr2
      rw [hr2.1] at hg
      simp [Value.ownBlock] at hg
      exact .inr (by omega)
theorem wpList_append_string_at {P : Program} {ops : Array Oper} {rest : List Oper} {o : Oper} {a : Act} {Q : Exit → Act → World → Prop} {w : World} (hgd : o.guard = none) (sl x : Operand) (t u : TypeId)
    (ho : o.op = .call { callee := .builtin .append, args := #[sl, x], argTypes := #[t, u] })
    (base : Nat) (e : TypeId) (i : TypeInfo) (ht : P.underlying t = some (.slice e)) (hu : P.underlying u = some .string) (hi : P.info? e = some i) (hz : i.zero = some (.int .u8 0)) (hsize : i.size = 1) (hby : i.bytes = 1)
    (v : Value) (n : Nat) (xs : List Value) (hs : a.eval sl = v) (hown : w.ownsRow base e 1 v n xs) (s : ByteArray) (hx : a.eval x = .string s) (h63 : n + s.size ≤ maxLen) (hbytes : n + s.size ≤ 140737488355328) (hbase : base ≤ w.heap.size)
    (h : ∀ v' w', w'.ownsRow base e 1 v' (n + s.size) (xs ++ Lib.strCells s) → w.grownBy w' v.ownBlock → Lies w v v' → wpList P ops Q rest (a.put o.dst v') w') : wpList P ops Q (o :: rest) a w := by
  refine wpList_plain hgd fun K hK => ?_
  obtain ⟨v', w', hr, h2, h3, h4⟩ := append_string_at (P := P) w base t u o.type e i ht hu hi hz hsize hby v n xs hown s h63 hbytes hbase
  unfold Oper.wp
  simp [execOp, ho, resolve, invoke, builtin, hs, hx, hr, Result.andThen]
  exact hK _ _ (h v' w' h2 h3 h4)
/-- Steps that each write into the row at hand alone, one behind the other. -/
theorem gb_then {w w1 w2 : World} {v v1 : Value} (h1 : w.grownBy w1 v.ownBlock) (hl : Lies w v v1) (h2 : w1.grownBy w2 v1.ownBlock) : w.grownBy w2 v.ownBlock := by
  refine ⟨h2.os.trans h1.os, h2.tape.trans h1.tape, h2.output.trans h1.output, Nat.le_trans h1.size h2.size, fun k hk hne => ?_⟩
  rw [h2.block k (Nat.lt_of_lt_of_le hk h1.size) (fun e => ?_), h1.block k hk hne]
  rcases hl k e.symm with h | h
  · exact hne h.symm
  · omega
theorem gb_more {w w1 w2 : World} {r : Option Nat} (h1 : w.grownBy w1 r) (h2 : Below w1.heap.size w1 w2) : w.grownBy w2 r :=
  ⟨h2.os.trans h1.os, h2.tape.trans h1.tape, h2.output.trans h1.output, Nat.le_trans h1.size h2.size, fun k hk hne => (h2.block k (Nat.lt_of_lt_of_le hk h1.size)).trans (h1.block k hk hne)⟩
theorem gb_of {w w1 : World} (h : Below w.heap.size w w1) (r : Option Nat) : w.grownBy w1 r := ⟨h.os, h.tape, h.output, h.size, fun k hk _ => h.block k hk⟩
theorem Lies.next {w w1 : World} {v v1 v2 : Value} (h1 : Lies w v v1) (hs : w.heap.size ≤ w1.heap.size) (h2 : Lies w1 v1 v2) : Lies w v v2 := fun g hg => by
  rcases h2 g hg with h | h
  · exact h1 g h
  · exact .inr (Nat.le_trans hs h)
theorem Lies.back {w w1 : World} {v v1 : Value} (h : Lies w1 v v1) (hs : w.heap.size ≤ w1.heap.size) : Lies w v v1 := fun g hg => (h g hg).imp id (fun h => Nat.le_trans hs h)
theorem cell_gb {w w' : World} {r : Option Nat} {b j : Nat} {u : Value} (hg : w.grownBy w' r) (hb : b < w.heap.size) (hne : r ≠ some b) (h : w.cell? ⟨b, j, none⟩ = some u) : w'.cell? ⟨b, j, none⟩ = some u := by
  rw [World.cell?_of_block (w := w) (hg.block b hb (fun e => hne e.symm))]; exact h
end Go.Proofs.Ytnjihmailppjkaa

namespace Go.Proofs.Ytnjihmailppjkaa
open Go.RowKit
theorem Try.info5 : (Try.prog.info? 5).map (fun i => (i.zero, i.size, i.bytes)) = some (some (.int .u8 0), 1, 1) := by kernel_rfl

theorem l01In_yes (x lo hi : Int) (w : World) (h0 : lo ≤ x) (h1 : x ≤ hi) :
    Calls Try.prog 30 #[.int .i64 x, .int .i64 lo, .int .i64 hi] w fun e w' => e = .returned (.bool true) ∧ w = w' := by
  go_enter Try.func30, Try.ntmps30
  go_wp2
  go_ret
  exact ⟨rfl, rfl⟩
theorem l01In_no (x lo hi : Int) (w : World) (h : x < lo ∨ hi < x) :
    Calls Try.prog 30 #[.int .i64 x, .int .i64 lo, .int .i64 hi] w fun e w' => e = .returned (.bool false) ∧ w = w' := by
  by_cases h0 : lo ≤ x
  · have h1 : decide (x ≤ hi) = false := by simp; omega
    go_enter Try.func30, Try.ntmps30
    go_wp2
    go_ret
    exact ⟨rfl, rfl⟩
  · have h1 : decide (lo ≤ x) = false := by simp; omega
    go_enter Try.func30, Try.ntmps30
    go_wp2
    go_ret
    exact ⟨rfl, rfl⟩

end Go.Proofs.Ytnjihmailppjkaa

namespace Go.Proofs.Ytnjihmailppjkaa
open Go.RowKit
set_option linter.unusedVariables false

theorem strCells_nums {xs : List Int} (h : ∀ x ∈ xs, 0 ≤ x ∧ x ≤ 255) : Lib.strCells (strOfNums xs) = xs.map (Value.int .u8) := by
  unfold Lib.strCells
  rw [strOfNums_data, List.map_map]
  apply List.map_congr_left
  intro x hx
  have := h x hx
  simp only [Function.comp, UInt8.toNat_ofNat']
  congr 1
  omega
theorem right_kind {x : Nd} {k : Int} (h : nodeB x k = true) : 1 ≤ x.k ∧ x.k ≤ 9 := by
  rcases nodeB_true h with h | h | h <;> omega
theorem szv_kids {ns : List Nd} {k : Nat} (h : Good ns k) (hz : szv ns k ≤ 2000) : szv ns k = szSum ns (ns.getD k Nd.zero) := by
  have e := good_sz h.2
  rw [e] at hz ⊢
  split at hz
  · omega
  · rw [if_neg (by assumption)]
end Go.Proofs.Ytnjihmailppjkaa

namespace Go.Proofs.Ytnjihmailppjkaa
open Go.RowKit
set_option linter.unusedVariables false

end Go.Proofs.Ytnjihmailppjkaa

namespace Go.Proofs.Ytnjihmailppjkaa
open Go.RowKit Go.PlainAid
attribute [local go_sem ↓] Go.wp_at_zero Go.wp_at_succ

/-- What ReadVar hands back. -/
def rvVal : Option (Int × Nat) → Value
  | none => .tuple #[.int .i64 0, .int .i64 0, .bool false]
  | some (n, k) => .tuple #[.int .i64 n, .int .i64 k, .bool true]

/-- ReadVar at whatever place. -/
def RV (s : ByteArray) (a : Int) : Option (Int × Nat) := if 0 ≤ a ∧ a ≤ (s.size : Int) then rvOut s a.toNat else none

/-- What is read lies within the limits. -/
theorem rvGo_bd (s : ByteArray) (a : Nat) : ∀ (f k : Nat) (acc : Int) (n : Int) (j : Nat), 0 ≤ acc → rvGo s a f k acc = some (n, j) → 0 ≤ n ∧ n ≤ 1000000000 ∧ j ≤ s.size
  | 0, _, _, _, _, _, h => by simp [rvGo] at h
  | f + 1, k, acc, n, j, h0, h => by
    have hp := pw_pos k
    have hm := mul_bd (x := bt s (a + k) % 128) (p := pw k) (by omega) (by omega) (by omega)
    rw [rvGo] at h
    split at h
    · split at h
      · split at h
        · simp at h
        · simp at h; omega
      · exact rvGo_bd s a f (k + 1) _ n j (by omega) h
    · simp at h
theorem RV_bd {s : ByteArray} {a n : Int} {k : Nat} (h : RV s a = some (n, k)) : 0 ≤ n ∧ n ≤ 1000000000 ∧ k ≤ s.size := by
  unfold RV at h
  split at h
  · exact rvGo_bd s _ 5 0 0 n k (by omega) h
  · simp at h
end Go.Proofs.Ytnjihmailppjkaa

namespace Go.Proofs.Ytnjihmailppjkaa
open Go.RowKit
set_option linter.unusedVariables false

theorem strOf_app (xs ys : List Int) : strOfNums (xs ++ ys) = strOfNums xs ++ strOfNums ys := by
  have h : (strOfNums (xs ++ ys)).data.toList = (strOfNums xs ++ strOfNums ys).data.toList := by
    rw [strOfNums_data, List.map_append]
    have : ∀ a b : ByteArray, (a ++ b).data.toList = a.data.toList ++ b.data.toList := fun a b => by
      rw [ByteArray.data_append]; simp
    rw [this, strOfNums_data, strOfNums_data]
  exact ByteArray.ext (Array.ext' h)
theorem good_szS {ns : List Nd} {i : Nat} (h : ∀ j, j ≤ i → nodeB (ns.getD j Nd.zero) (j : Int) = true) : szv ns i = if 100000 < szSum ns (ns.getD i Nd.zero) then 100000 else szSum ns (ns.getD i Nd.zero) :=
  szv_good (h i (Nat.le_refl _)) (fun h0 => by have := szv_range ns (i - 1) (fun j hj => h j (by omega)); omega)
theorem szv_kidsS {ns : List Nd} {k : Nat} (h : Good ns k) (hz : szv ns k ≤ 2000) : szv ns k = szSum ns (ns.getD k Nd.zero) := by
  have e := good_szS h.2
  rw [e] at hz ⊢
  split at hz
  · omega
  · rw [if_neg (by assumption)]
/-- What a walk holds behind its first two boxes. -/
theorem two_boxes (w : World) (v : Value) (k n a b : Int) : ∃ w0, w0 = (w.alloc (.cells #[v] 39)).alloc (.cells #[.int .i64 k, .int .i64 n, .int .i64 a, .int .i64 b] 87) ∧ w0.heap.size = w.heap.size + 2 ∧ Below w.heap.size w w0 ∧ w0.cell? ⟨w.heap.size, 0, none⟩ = some v ∧ w0.cell? ⟨w.heap.size + 1, 0, none⟩ = some (.int .i64 k) ∧ w0.cell? ⟨w.heap.size + 1, 1, none⟩ = some (.int .i64 n) ∧ w0.cell? ⟨w.heap.size + 1, 2, none⟩ = some (.int .i64 a) ∧ w0.cell? ⟨w.heap.size + 1, 3, none⟩ = some (.int .i64 b) := by
  have hn := heap_alloc_new (w.alloc (.cells #[v] 39)) (.cells #[.int .i64 k, .int .i64 n, .int .i64 a, .int .i64 b] 87)
  have hs : (w.alloc (.cells #[v] 39)).heap.size = w.heap.size + 1 := by simp
  rw [hs] at hn
  have hA : ((w.alloc (.cells #[v] 39)).alloc (.cells #[.int .i64 k, .int .i64 n, .int .i64 a, .int .i64 b] 87)).heap[w.heap.size]? = some (.cells #[v] 39 (0, 0)) := by
    rw [heap_alloc_old _ _ (by simp)]; exact heap_alloc_new w _
  exact ⟨_, rfl, by simp, ((Below.refl _ _).alloc (Nat.le_refl _) _).alloc (by simp) _, (cell_of_row _ _ 0 _ _ _ hA).trans rfl, (cell_of_row _ _ 0 _ _ _ hn).trans rfl, (cell_of_row _ _ 1 _ _ _ hn).trans rfl, (cell_of_row _ _ 2 _ _ _ hn).trans rfl, (cell_of_row _ _ 3 _ _ _ hn).trans rfl⟩
end Go.Proofs.Ytnjihmailppjkaa
