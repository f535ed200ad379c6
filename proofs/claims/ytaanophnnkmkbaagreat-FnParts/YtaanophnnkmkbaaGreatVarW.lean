/- The contracts of the two writers of a number's bytes (chapter 1). -/
import Derived.Test.YtaanophnnkmkbaaGreatProg
import Derived.Test.YtaanophnnkmkbaaGreatPlain
import Derived.WalkKit
import Derived.WalkLawsBesides
import Derived.WalkSpells
import Derived.Deep.DeepMust
import Derived.Deep.DeepFit
import Derived.Deep.QuietTactic
import Derived.BigQuiet
import Derived.Deep.RegionHeld3
import Derived.Deep.DrawnRows
import Derived.OwnWalk
import Derived.Lib.AppendStr
import Derived.Test.YtaanophnnkmkbaaGreatImplSize
import Derived.Test.YtaanophnnkmkbaaGreatPlainTerm
import Derived.Test.YtaanophnnkmkbaaGreatPlainText
namespace Go.Proofs.YtaanophnnkmkbaaGreat
open Go.RowKit
theorem Tryz.info5 : (Tryz.prog.info? 5).map (fun i => (i.zero, i.size, i.bytes)) = some (some (.int .u8 0), 1, 1) := by kernel_rfl

set_option maxHeartbeats 400000 in
set_option maxRecDepth 20000 in
theorem l01Var_any (n : Nat) (w : World) (hn : n ≤ 9223372036854775807) :
    Calls Tryz.prog 135 #[.int .i64 n] w fun e w' => e = .returned (.string (strOfNums (vb n))) ∧ Below w.heap.size w w' := by
  obtain ⟨i0, hi, hz0, hz1, hz2⟩ := info_parts Tryz.info5
  have hlen := vb_len10 n hn
  go_enter Tryz.func135, Tryz.ntmps135
  go_wp2
  go_loopw [0, 3] (fun i v wr => ∃ (m : Nat) (xs : List Int), i = .int .i64 m ∧ m ≤ n ∧ xs ++ vb m = vb n ∧ wr.ownsRow w.heap.size 5 1 v xs.length (xs.map (Value.int .u8)) ∧ Below w.heap.size w wr)
    (fun i _ _ => (intOf i).toNat)
  case atStart => exact ⟨n, [], rfl, Nat.le_refl _, rfl, World.ownsRow_made _ _ _ (Nat.le_refl _) (by decide) rfl, (Below.refl _ _).alloc (Nat.le_refl _) _⟩
  case round =>
    obtain ⟨m, xs, rfl, hm, hxs, hown, hbel⟩ := hrel
    have hxl : xs.length + (vb m).length ≤ 10 := by rw [← hxs] at hlen; simpa using hlen
    have HX : Hid (xs ++ vb m = vb n) := hxs
    clear hxs
    by_cases hgt : 127 < m
    · go_wp2_with (at_builtin; refine wpList_append_own _ rfl _ _ 22 rfl w.heap.size 5 i0 (.int .u8 0) 1 1 Tryz.underlying22 hi hz0 hz1 hz2 rfl (by decide) _ _ _ rfl (hown.alloc _) ⟨wr.heap.size, 0, none⟩ 1 1 [.int .u8 ((m : Int) % 128 + 128)] rfl rfl ?c1 ?c2 ?c3 ?c4 ?c5 ?_)
      case c1 => exact cell_one_new _ _ _
      case c2 => intro u hu; simp at hu; subst hu; rfl
      case c3 => unfold maxLen; omega
      case c4 => omega
      case c5 => have := hbel.size; simp; omega
      · intro v' w1 hown' hgrow _
        have hB := below_app hown hbel hbel.size hgrow
        have ho := own_snoc (ys := [(m : Int) % 128 + 128]) hown'
        have hx : Hid ((xs ++ [(m : Int) % 128 + 128]) ++ vb (m / 128) = vb n) := by rw [List.append_assoc, List.singleton_append, ← vb_big hgt]; exact HX.out
        clear hown' hgrow hown hbel HX
        go_wp2
        go_roundw
        case rel => exact ⟨m / 128, _, by go_num, by omega, hx.out, ho, hB⟩
        case measure => simp [intOf]; omega
    · have hv := vb_small (show m ≤ 127 by omega)
      rw [hv] at hxl
      have hx : Hid (xs ++ [(m : Int)] = vb n) := by rw [← hv]; exact HX.out
      clear HX hv
      go_wp2_with (at_builtin; refine wpList_append_own _ rfl _ _ 22 rfl w.heap.size 5 i0 (.int .u8 0) 1 1 Tryz.underlying22 hi hz0 hz1 hz2 rfl (by decide) _ _ _ rfl (hown.alloc _) ⟨wr.heap.size, 0, none⟩ 1 1 [.int .u8 (m : Int)] rfl rfl ?d1 ?d2 ?d3 ?d4 ?d5 ?_)
      case d1 => exact cell_one_new _ _ _
      case d2 => intro u hu; simp at hu; subst hu; rfl
      case d3 => unfold maxLen; simp at hxl; omega
      case d4 => simp at hxl; omega
      case d5 => have := hbel.size; simp; omega
      · intro v' w1 hown' hgrow _
        have hB := below_app hown hbel hbel.size hgrow
        have ho := own_snoc (ys := [(m : Int)]) hown'
        have hc := conv_own w1 22 9 5 Tryz.underlying22 Tryz.underlying5 Tryz.underlying9 (P := Tryz.prog) ho
        clear hown' hgrow hown hbel ho
        go_wp2
        go_ret
        exact ⟨by rw [hx.out]; rfl, hB⟩

/-- A refused number. -/
theorem implVar_no (n : Int) (w : World) (h : n < 0 ∨ 1000000000 < n) :
    Calls Tryz.prog 139 #[.int .i64 n] w fun e w' => e = .returned (.tuple #[.string ByteArray.empty, .bool false]) ∧ Below w.heap.size w w' := by
  rcases h with h | h
  · go_enter Tryz.func139, Tryz.ntmps139
    go_wp2
    go_ret2
    exact ⟨rfl, Below.refl _ _⟩
  · have h' : ¬ n < 0 := by omega
    go_enter Tryz.func139, Tryz.ntmps139
    go_wp2
    go_ret2
    exact ⟨rfl, Below.refl _ _⟩

set_option maxHeartbeats 400000 in
set_option maxRecDepth 20000 in
theorem implVar_yes (n : Nat) (w : World) (hn : n ≤ 1000000000) :
    Calls Tryz.prog 139 #[.int .i64 n] w fun e w' => e = .returned (.tuple #[.string (strOfNums (vb n)), .bool true]) ∧ Below w.heap.size w w' := by
  obtain ⟨i0, hi, hz0, hz1, hz2⟩ := info_parts Tryz.info5
  have hlen := vb_len10 n (by omega)
  have h0 : ¬ (n : Int) < 0 := by omega
  have h1 : ¬ (1000000000 : Int) < (n : Int) := by omega
  go_enter Tryz.func139, Tryz.ntmps139
  go_wp2
  clear h0 h1
  go_loopw [0, 4] (fun i v wr => ∃ (m : Nat) (xs : List Int), i = .int .i64 m ∧ m ≤ n ∧ xs ++ vb m = vb n ∧ wr.ownsRow w.heap.size 5 1 v xs.length (xs.map (Value.int .u8)) ∧ Below w.heap.size w wr)
    (fun i _ _ => (intOf i).toNat)
  case atStart => exact ⟨n, [], rfl, Nat.le_refl _, rfl, World.ownsRow_nil _ _ _ _, (Below.refl _ _)⟩
  case round =>
    obtain ⟨m, xs, rfl, hm, hxs, hown, hbel⟩ := hrel
    have hxl : xs.length + (vb m).length ≤ 10 := by rw [← hxs] at hlen; simpa using hlen
    have HX : Hid (xs ++ vb m = vb n) := hxs
    clear hxs
    by_cases hgt : 127 < m
    · go_wp2_with (at_builtin; refine wpList_append_own _ rfl _ _ 22 rfl w.heap.size 5 i0 (.int .u8 0) 1 1 Tryz.underlying22 hi hz0 hz1 hz2 rfl (by decide) _ _ _ rfl (hown.alloc _) ⟨wr.heap.size, 0, none⟩ 1 1 [.int .u8 ((m : Int) % 128 + 128)] rfl rfl ?c1 ?c2 ?c3 ?c4 ?c5 ?_)
      case c1 => exact cell_one_new _ _ _
      case c2 => intro u hu; simp at hu; subst hu; rfl
      case c3 => unfold maxLen; omega
      case c4 => omega
      case c5 => have := hbel.size; simp; omega
      · intro v' w1 hown' hgrow _
        have hB := below_app hown hbel hbel.size hgrow
        have ho := own_snoc (ys := [(m : Int) % 128 + 128]) hown'
        have hx : Hid ((xs ++ [(m : Int) % 128 + 128]) ++ vb (m / 128) = vb n) := by rw [List.append_assoc, List.singleton_append, ← vb_big hgt]; exact HX.out
        clear hown' hgrow hown hbel HX
        go_wp2
        go_roundw
        case rel => exact ⟨m / 128, _, by go_num, by omega, hx.out, ho, hB⟩
        case measure => simp [intOf]; omega
    · have hv := vb_small (show m ≤ 127 by omega)
      rw [hv] at hxl
      have hx : Hid (xs ++ [(m : Int)] = vb n) := by rw [← hv]; exact HX.out
      clear HX hv
      go_wp2_with (at_builtin; refine wpList_append_own _ rfl _ _ 22 rfl w.heap.size 5 i0 (.int .u8 0) 1 1 Tryz.underlying22 hi hz0 hz1 hz2 rfl (by decide) _ _ _ rfl (hown.alloc _) ⟨wr.heap.size, 0, none⟩ 1 1 [.int .u8 (m : Int)] rfl rfl ?d1 ?d2 ?d3 ?d4 ?d5 ?_)
      case d1 => exact cell_one_new _ _ _
      case d2 => intro u hu; simp at hu; subst hu; rfl
      case d3 => unfold maxLen; simp at hxl; omega
      case d4 => simp at hxl; omega
      case d5 => have := hbel.size; simp; omega
      · intro v' w1 hown' hgrow _
        have hB := below_app hown hbel hbel.size hgrow
        have ho := own_snoc (ys := [(m : Int)]) hown'
        have hc := conv_own w1 22 9 5 Tryz.underlying22 Tryz.underlying5 Tryz.underlying9 (P := Tryz.prog) ho
        clear hown' hgrow hown hbel ho
        go_wp2
        go_ret2
        exact ⟨by rw [hx.out]; rfl, hB⟩

theorem l01In_yes (x lo hi : Int) (w : World) (h0 : lo ≤ x) (h1 : x ≤ hi) :
    Calls Tryz.prog 117 #[.int .i64 x, .int .i64 lo, .int .i64 hi] w fun e w' => e = .returned (.bool true) ∧ w = w' := by
  go_enter Tryz.func117, Tryz.ntmps117
  go_wp2
  go_ret
  exact ⟨rfl, rfl⟩
theorem l01In_no (x lo hi : Int) (w : World) (h : x < lo ∨ hi < x) :
    Calls Tryz.prog 117 #[.int .i64 x, .int .i64 lo, .int .i64 hi] w fun e w' => e = .returned (.bool false) ∧ w = w' := by
  by_cases h0 : lo ≤ x
  · have h1 : decide (x ≤ hi) = false := by simp; omega
    go_enter Tryz.func117, Tryz.ntmps117
    go_wp2
    go_ret
    exact ⟨rfl, rfl⟩
  · have h1 : decide (lo ≤ x) = false := by simp; omega
    go_enter Tryz.func117, Tryz.ntmps117
    go_wp2
    go_ret
    exact ⟨rfl, rfl⟩

end Go.Proofs.YtaanophnnkmkbaaGreat

namespace Go.Proofs.YtaanophnnkmkbaaGreat
open Go.RowKit Go.PlainAid
attribute [local go_sem ↓] Go.wp_at_zero Go.wp_at_succ

/-- What ReadVar hands back. -/
def rvVal : Option (Int × Nat) → Value
  | none => .tuple #[.int .i64 0, .int .i64 0, .bool false]
  | some (n, k) => .tuple #[.int .i64 n, .int .i64 k, .bool true]

theorem l01Var_int (x : Int) (w : World) (h0 : 0 ≤ x) (h1 : x ≤ 9223372036854775807) :
    Calls Tryz.prog 135 #[.int .i64 x] w fun e w' => e = .returned (.string (strOfNums (vb x.toNat))) ∧ Below w.heap.size w w' := by
  have := l01Var_any x.toNat w (by omega)
  rwa [show ((x.toNat : Nat) : Int) = x by omega] at this

/-- ReadVar at whatever place. -/
def RV (s : ByteArray) (a : Int) : Option (Int × Nat) := if 0 ≤ a ∧ a ≤ (s.size : Int) then rvOut s a.toNat else none

/-- What is read lies within the limits. -/
theorem rvGo_bd (s : ByteArray) (a : Nat) : ∀ (f k : Nat) (acc : Int) (n : Int) (j : Nat), 0 ≤ acc → rvGo s a f k acc = some (n, j) → 0 ≤ n ∧ n ≤ 1000000000 ∧ j ≤ s.size
  | 0, _, _, _, _, _, h => by simp [rvGo] at h
  | f + 1, k, acc, n, j, h0, h => by
    have hp := pw_pos k
    have hm := mul_bd (x := bt s (a + k) % 128) (p := pw k) (by omega) (by omega) (by omega)
    rw [rvGo] at h
    split at h
    · split at h
      · split at h
        · simp at h
        · simp at h; omega
      · exact rvGo_bd s a f (k + 1) _ n j (by omega) h
    · simp at h
theorem RV_bd {s : ByteArray} {a n : Int} {k : Nat} (h : RV s a = some (n, k)) : 0 ≤ n ∧ n ≤ 1000000000 ∧ k ≤ s.size := by
  unfold RV at h
  split at h
  · exact rvGo_bd s _ 5 0 0 n k (by omega) h
  · simp at h
end Go.Proofs.YtaanophnnkmkbaaGreat

namespace Go.Proofs.YtaanophnnkmkbaaGreat
open Go.RowKit

/-- The new value lies in the old one's own block, or in a new one. -/
def Lies (w : World) (v v' : Value) : Prop := ∀ g, v'.ownBlock = some g → v.ownBlock = some g ∨ w.heap.size ≤ g
theorem append_string_at {P : Program} (w : World) (base : Nat) (t u ty e : TypeId) (i : TypeInfo) (ht : P.underlying t = some (.slice e)) (hu : P.underlying u = some .string) (hi : P.info? e = some i) (hz : i.zero = some (.int .u8 0)) (hsize : i.size = 1) (hby : i.bytes = 1)
    (v : Value) (n : Nat) (xs : List Value) (hown : w.ownsRow base e 1 v n xs) (s : ByteArray) (h63 : n + s.size ≤ maxLen) (hbytes : n + s.size ≤ 140737488355328) (hbase : base ≤ w.heap.size) :
    ∃ v' w', (Builtin.append_ #[t, u] ty #[v, .string s]).run P w = .ok v' w' ∧ w'.ownsRow base e 1 v' (n + s.size) (xs ++ Lib.strCells s) ∧ w.grownBy w' v.ownBlock ∧ Lies w v v' := by
  obtain ⟨v', w', hr, h1, h2, h3⟩ := Lib.run_append_own_string (P := P) w base t u ty e i ht hu hi hz hsize hby v n xs hown s h63 hbytes hbase
  refine ⟨v', w', hr, h1, h2, fun g hg => ?_⟩
  have hsmall : n + s.size ≤ 9223372036854775807 := by simp only [maxLen] at h63; omega
  have hxl : xs.length = n := by simpa using hown.1
  rcases hown.2 with ⟨rfl, rfl⟩ | ⟨g0, cap, cur, rfl, hbg, hgc, hnc, hcm, hcs, htake⟩
  · by_cases hm : s.size = 0
    · rw [h3.2 ⟨rfl, hm⟩] at hg; cases hg
    · have hr2 := run_append_nil_string (P := P) w t u ty e i (.int .u8 0) ht hu hi hz s (by omega) (by omega) (by rw [hby]; omega)
      rw [hr] at hr2
      simp only [Result.ok.injEq] at hr2
      rw [hr2.1] at hg
      simp [Value.ownBlock] at hg
      exact .inr (by omega)
  · by_cases hroom : n + s.size ≤ cap
    · have hr2 := Lib.run_append_room_string (P := P) w t u ty e i ht hu hi hsize g0 n cap cur hgc s hroom (by simp at hcs; omega)
      rw [hr] at hr2
      simp only [Result.ok.injEq] at hr2
      rw [hr2.1] at hg
      exact .inl hg
    · have hr2 := Lib.run_append_grow_string (P := P) w t u ty e i (.int .u8 0) ht hu hi hz ⟨g0, 0, none⟩ n cap xs (by rw [hsize]; simpa using hxl) (hown.cells (g := g0) rfl) s (by omega) (by omega) (by rw [hby]; exact growslice_fits (by omega) (by omega))
      rw [hr] at hr2
      simp only [Result.ok.injEq] at hr2
      rw [hr2.1] at hg
      simp [Value.ownBlock] at hg
      exact .inr (by omega)
theorem wpList_append_string_at {P : Program} {ops : Array Oper} {rest : List Oper} {o : Oper} {a : Act} {Q : Exit → Act → World → Prop} {w : World} (hgd : o.guard = none) (sl x : Operand) (t u : TypeId)
    (ho : o.op = .call { callee := .builtin .append, args := #[sl, x], argTypes := #[t, u] })
    (base : Nat) (e : TypeId) (i : TypeInfo) (ht : P.underlying t = some (.slice e)) (hu : P.underlying u = some .string) (hi : P.info? e = some i) (hz : i.zero = some (.int .u8 0)) (hsize : i.size = 1) (hby : i.bytes = 1)
    (v : Value) (n : Nat) (xs : List Value) (hs : a.eval sl = v) (hown : w.ownsRow base e 1 v n xs) (s : ByteArray) (hx : a.eval x = .string s) (h63 : n + s.size ≤ maxLen) (hbytes : n + s.size ≤ 140737488355328) (hbase : base ≤ w.heap.size)
    (h : ∀ v' w', w'.ownsRow base e 1 v' (n + s.size) (xs ++ Lib.strCells s) → w.grownBy w' v.ownBlock → Lies w v v' → wpList P ops Q rest (a.put o.dst v') w') : wpList P ops Q (o :: rest) a w := by
  refine wpList_plain hgd fun K hK => ?_
  obtain ⟨v', w', hr, h2, h3, h4⟩ := append_string_at (P := P) w base t u o.type e i ht hu hi hz hsize hby v n xs hown s h63 hbytes hbase
  unfold Oper.wp
  simp [execOp, ho, resolve, invoke, builtin, hs, hx, hr, Result.andThen]
  exact hK _ _ (h v' w' h2 h3 h4)
/-- Steps that each write into the row at hand alone, one behind the other. -/
theorem gb_then {w w1 w2 : World} {v v1 : Value} (h1 : w.grownBy w1 v.ownBlock) (hl : Lies w v v1) (h2 : w1.grownBy w2 v1.ownBlock) : w.grownBy w2 v.ownBlock := by
  refine ⟨h2.os.trans h1.os, h2.tape.trans h1.tape, h2.output.trans h1.output, Nat.le_trans h1.size h2.size, fun k hk hne => ?_⟩
  rw [h2.block k (Nat.lt_of_lt_of_le hk h1.size) (fun e => ?_), h1.block k hk hne]
  rcases hl k e.symm with h | h
  · exact hne h.symm
  · omega
theorem gb_more {w w1 w2 : World} {r : Option Nat} (h1 : w.grownBy w1 r) (h2 : Below w1.heap.size w1 w2) : w.grownBy w2 r :=
  ⟨h2.os.trans h1.os, h2.tape.trans h1.tape, h2.output.trans h1.output, Nat.le_trans h1.size h2.size, fun k hk hne => (h2.block k (Nat.lt_of_lt_of_le hk h1.size)).trans (h1.block k hk hne)⟩
theorem gb_of {w w1 : World} (h : Below w.heap.size w w1) (r : Option Nat) : w.grownBy w1 r := ⟨h.os, h.tape, h.output, h.size, fun k hk _ => h.block k hk⟩
theorem Lies.next {w w1 : World} {v v1 v2 : Value} (h1 : Lies w v v1) (hs : w.heap.size ≤ w1.heap.size) (h2 : Lies w1 v1 v2) : Lies w v v2 := fun g hg => by
  rcases h2 g hg with h | h
  · exact h1 g h
  · exact .inr (Nat.le_trans hs h)
theorem Lies.back {w w1 : World} {v v1 : Value} (h : Lies w1 v v1) (hs : w.heap.size ≤ w1.heap.size) : Lies w v v1 := fun g hg => (h g hg).imp id (fun h => Nat.le_trans hs h)
theorem cell_gb {w w' : World} {r : Option Nat} {b j : Nat} {u : Value} (hg : w.grownBy w' r) (hb : b < w.heap.size) (hne : r ≠ some b) (h : w.cell? ⟨b, j, none⟩ = some u) : w'.cell? ⟨b, j, none⟩ = some u := by
  rw [World.cell?_of_block (w := w) (hg.block b hb (fun e => hne e.symm))]; exact h
end Go.Proofs.YtaanophnnkmkbaaGreat

namespace Go.Proofs.YtaanophnnkmkbaaGreat
open Go.RowKit
set_option linter.unusedVariables false

theorem strCells_nums {xs : List Int} (h : ∀ x ∈ xs, 0 ≤ x ∧ x ≤ 255) : Lib.strCells (strOfNums xs) = xs.map (Value.int .u8) := by
  unfold Lib.strCells
  rw [strOfNums_data, List.map_map]
  apply List.map_congr_left
  intro x hx
  have := h x hx
  simp only [Function.comp, UInt8.toNat_ofNat']
  congr 1
  omega
theorem appendVar_any (base : Nat) (v : Value) (xs : List Int) (n : Nat) (w : World) (hn : n ≤ 1000000000) (hx : xs.length ≤ 100000) (hb : base ≤ w.heap.size) (hown : w.ownsRow base 5 1 v xs.length (xs.map (Value.int .u8))) :
    Calls Tryz.prog 137 #[v, .int .i64 (n : Int)] w fun e w' => ∃ v', e = .returned v' ∧ w'.ownsRow base 5 1 v' (xs ++ vb n).length ((xs ++ vb n).map (Value.int .u8)) ∧ w.grownBy w' v.ownBlock ∧ Lies w v v' := by
  obtain ⟨i0, hi, hz0, hz1, hz2⟩ := info_parts Tryz.info5
  have hlen := vb_len10 n (by omega)
  have HR : Hid _ := vb_range n
  have HSZ : Hid ((strOfNums (vb n)).size = (vb n).length) := strOfNums_size _
  go_enter Tryz.func137, Tryz.ntmps137
  go_wp2_with fail
  refine (implVar_yes n _ hn).mono ?_
  rintro e w1 ⟨rfl, hb1⟩
  have ho1 := own_next hown hb1
  have hs1 := hb1.size
  go_wp2_with (at_builtin; refine wpList_append_string_at rfl _ _ 22 9 rfl base 5 i0 Tryz.underlying22 Tryz.underlying9 hi hz0 hz1 hz2 _ _ _ rfl ho1 _ rfl ?c1 ?c2 ?c3 ?_)
  case c1 => unfold maxLen; rw [HSZ.out]; omega
  case c2 => rw [HSZ.out]; omega
  case c3 => omega
  intro v' w2 ho2 hg2 hl2
  rw [strCells_nums HR.out, HSZ.out] at ho2
  have HO : Hid (w2.ownsRow base 5 1 v' (xs ++ vb n).length ((xs ++ vb n).map (Value.int .u8))) := own_snoc ho2
  have HB : Hid (w.grownBy w2 v.ownBlock ∧ Lies w v v') := ⟨gb_then (gb_of hb1 _) (fun g hg => .inl hg) hg2, hl2.back hs1⟩
  clear ho2 hg2 hl2 ho1 hb1 hown
  go_wp2
  go_ret
  exact ⟨_, rfl, HO.out, HB.out.1, HB.out.2⟩

theorem right_kind {x : Nd} {k : Int} (h : nodeB x k = true) : 1 ≤ x.k ∧ x.k ≤ 9 := by
  rcases nodeB_true h with h | h | h <;> omega
theorem szv_kids {ns : List Nd} {k : Nat} (h : Good ns k) (hz : szv ns k ≤ 2000) : szv ns k = szSum ns (ns.getD k Nd.zero) := by
  have e := good_sz h.2
  rw [e] at hz ⊢
  split at hz
  · omega
  · rw [if_neg (by assumption)]
/-- What appendTerm answers. -/
def AppT (ns : List Nd) (k : Nat) : Prop := ∀ (base : Nat) (a : Option Addr) (cap : Nat) (v : Value) (xs : List Int) (w : World), (xs.length : Int) + 4 * szv ns k ≤ 100000 → base ≤ w.heap.size → RowN base w a ns → w.ownsRow base 5 1 v xs.length (xs.map (Value.int .u8)) →
    Calls Tryz.prog 131 #[v, .slice a ns.length cap, .int .i64 (k : Int)] w fun e w' => ∃ v', e = .returned v' ∧ w'.ownsRow base 5 1 v' (xs ++ tx ns k).length ((xs ++ tx ns k).map (Value.int .u8)) ∧ w.grownBy w' v.ownBlock ∧ Lies w v v'
set_option maxHeartbeats 1600000 in
set_option maxRecDepth 20000 in
theorem appendTerm_atom (ns : List Nd) (k : Nat) (hl : ns.length ≤ 1048576) (hg : Good ns k) (hz : szv ns k ≤ 2000) (hk1 : (ns.getD k Nd.zero).k = 1) : AppT ns k := by
  intro base a cap v xs w hb hbw hr hown
  have hkl := hg.1
  have HT : Hid _ := tx_atom hk1
  have hr0 := szv_range ns k hg.2
  rcases nodeB_true (hg.2 k (Nat.le_refl _)) with ⟨_, hn0, hn1, _⟩ | ⟨h, _⟩ | ⟨h, _⟩
  rotate_left
  · omega
  · omega
  obtain ⟨b, off, rfl⟩ := hr.addr hkl
  obtain ⟨hbb, c0, c1, c2, c3⟩ := hr.at (Below.refl _ _) hkl
  have hi0 : (0 : Int) ≤ (k : Int) := by omega
  have hi1 : (k : Int) < (ns.length : Int) := by omega
  generalize ns.getD k Nd.zero = y at c0 c1 c2 c3 HT hk1 hn0 hn1
  obtain ⟨yk, yn, ya, yb⟩ := y
  dsimp only at c0 c1 c2 c3 hk1 hn0 hn1 HT
  subst hk1
  obtain ⟨n, rfl⟩ : ∃ n : Nat, yn = (n : Int) := ⟨yn.toNat, by omega⟩
  have HXL : Hid ((xs ++ vb 1).length = xs.length + 1) := by show _ = _; rw [vb_one]; simp
  have hxl : xs.length ≤ 99996 := by omega
  have hn9 : n ≤ 1000000000 := by omega
  have ha := as_atomTerm_atomTerm
  clear hr hb hr0 hg hz
  go_enter Tryz.func131, Tryz.ntmps131
  go_wp2_with fail
  refine (appendVar_any base v xs 1 _ (by omega) (by omega) hbw hown).mono ?_
  rintro e w1 ⟨v1, rfl, ho1, hg1, hl1⟩
  have hb1 : Below base w w1 := (Below.refl _ _).grown hg1 hbw (fun k hk => (hown.lt k hk).1)
  have d0 := (hb1.cell (p := ⟨b, off + k * 4, none⟩) hbb).trans c0
  have d1 := (hb1.cell (p := ⟨b, off + k * 4 + 1, none⟩) hbb).trans c1
  have d2 := (hb1.cell (p := ⟨b, off + k * 4 + 2, none⟩) hbb).trans c2
  have d3 := (hb1.cell (p := ⟨b, off + k * 4 + 3, none⟩) hbb).trans c3
  have hs1 := hb1.size
  clear c0 c1 c2 c3 hown
  go_wp2_with fail
  refine (termOf_atom 1 n ya yb _ rfl).mono ?_
  rintro e w2 ⟨rfl, hb2⟩
  have ho2 := own_next ho1 hb2
  have HO2 : Hid (World.ownsRow _ _ _ _ _ _ _) := ho2.alloc (.cells #[.int .i64 (n : Int)] 144)
  have hG2 := gb_more hg1 hb2
  have hs2 := hb2.size
  clear ho1 ho2 hb1 hb2 hg1 d0 d1 d2 d3
  go_wp2_with fail
  refine (appendVar_any base v1 (xs ++ vb 1) n _ hn9 (by rw [HXL.out]; omega) (by simp; omega) HO2.out).mono ?_
  rintro e w3 ⟨v3, rfl, ho3, hg3, hl3⟩
  have HO3 : Hid (w3.ownsRow base 5 1 v3 (xs ++ tx ns k).length ((xs ++ tx ns k).map (Value.int .u8))) := by
    show World.ownsRow _ _ _ _ _ _ _
    rw [HT.out, Int.toNat_natCast, ← List.append_assoc]; exact ho3
  have HG3 : Hid (w.grownBy w3 v.ownBlock ∧ Lies w v v3) := ⟨gb_then (gb_more hG2 ((Below.refl _ _).alloc (Nat.le_refl _) _)) hl1 hg3, hl1.next (by simp; omega) hl3⟩
  clear ho3 hg3 hl3 HO2 hG2 hl1
  go_wp2
  go_ret
  exact ⟨_, rfl, HO3.out, HG3.out.1, HG3.out.2⟩
end Go.Proofs.YtaanophnnkmkbaaGreat

namespace Go.Proofs.YtaanophnnkmkbaaGreat
open Go.RowKit Go.PlainAid
set_option linter.unusedVariables false

/-- The bytes of a number that was read are its own. -/
theorem rvGo_bytes (s : ByteArray) (a : Nat) : ∀ (f k : Nat) (acc : Int) (n : Int) (j : Nat), a + k ≤ s.size → acc = val (nums (tk s a k)) → (∀ x ∈ nums (tk s a k), 128 ≤ x ∧ x ≤ 255) → rvGo s a f k acc = some (n, j) → a ≤ j ∧ j ≤ s.size ∧ nums (tk s a (j - a)) = vb n.toNat
  | 0, _, _, _, _, _, _, _, h => by simp [rvGo] at h
  | f + 1, k, acc, n, j, hk, hacc, hall, h => by
    rw [rvGo] at h
    split at h
    case isFalse => simp at h
    case isTrue hlt =>
      split at h
      case isTrue hb =>
        split at h
        case isTrue => simp at h
        case isFalse hx =>
          simp at h
          obtain ⟨rfl, rfl⟩ := h
          have hl : (nums (tk s a k)).length = k := by unfold nums; rw [List.length_map, tk_len s a k (by omega)]
          have hn : nums (tk s a (k + 1)) = nums (tk s a k) ++ [bt s (a + k)] := by
            rw [tk_succ s a k hlt]; unfold nums; rw [List.map_append, List.map_singleton, get_bt]
          have hc := (canon (nums (tk s a k)) (bt s (a + k)) hall (bt_nonneg _ _) hb).2 (by rw [hl]; exact fun h => hx (.inl h))
          rw [val_snoc, hl, ← hacc, ← hn] at hc
          exact ⟨by omega, by omega, by rw [show a + k + 1 - a = k + 1 by omega]; exact hc.symm⟩
      case isFalse hb =>
        exact rvGo_bytes s a f (k + 1) _ n j (by omega) (val_next hlt hacc) (all_snoc hlt (by omega) hall) h
theorem RV_bytes {s : ByteArray} {a : Nat} {n : Int} {j : Nat} (h : RV s a = some (n, j)) : a ≤ j ∧ j ≤ s.size ∧ nums (tk s a (j - a)) = vb n.toNat := by
  unfold RV at h
  split at h
  · rename_i hr
    exact rvGo_bytes s a 5 0 0 n j (by omega) (by simp [tk, nums, val]) (by simp [tk, nums]) h
  · simp at h
theorem tk_add (s : ByteArray) (a b c : Nat) (h1 : a ≤ b) (h2 : b ≤ c) : tk s a (c - a) = tk s a (b - a) ++ tk s b (c - b) := by
  unfold tk
  rw [show c - a = (b - a) + (c - b) by omega, List.take_add, List.drop_drop, show a + (b - a) = b by omega]
theorem nums_add (s : ByteArray) (a b c : Nat) (h1 : a ≤ b) (h2 : b ≤ c) : nums (tk s a (c - a)) = nums (tk s a (b - a)) ++ nums (tk s b (c - b)) := by
  rw [tk_add s a b c h1 h2]; unfold nums; rw [List.map_append]

/-- Put, where it can be. -/
def putR (ns : List Nd) (x : Nd) (e c : Nat) : Option (List Nd × Nat × Nat × Nat) := if putK ns x < 0 then none else some (putA ns x, (putK ns x).toNat, e, c)
/-- The specification's way: f is how much deeper it may go; what is read, its place, where it ends, how many terms it has. -/
def rdS (s : ByteArray) : Nat → List Nd → Nat → Option (List Nd × Nat × Nat × Nat)
  | 0, _, _ => none
  | f + 1, ns, p =>
    match RV s p with
    | none => none
    | some (kind, q) =>
      if inB kind 1 9 = false then none
      else if kind = 1 then
        match RV s q with
        | none => none
        | some (z, e) => putR ns ⟨1, z, 0, 0⟩ e 1
      else
        match rdS s f ns q with
        | none => none
        | some (ns1, x, m, c1) =>
          if oneK kind = true then putR ns1 ⟨kind, 0, x, 0⟩ m (1 + c1)
          else
            match rdS s f ns1 m with
            | none => none
            | some (ns2, y, e, c2) => putR ns2 ⟨kind, 0, x, y⟩ e (1 + c1 + c2)
/-- nextNumber. -/
def numI (s : ByteArray) (p : Nat) : Int × Nat := match RV s p with | none => (-1, p) | some (n, q) => (n, q)
def putI (ns : List Nd) (x : Nd) (e l : Nat) : List Nd × Int × Nat × Nat := (putA ns x, putK ns x, e, l)
/-- The program's way: l terms are left; f is how often it may go on. -/
def rdI (s : ByteArray) : Nat → List Nd → Nat → Nat → List Nd × Int × Nat × Nat
  | 0, ns, p, l => (ns, -1, p, l)
  | f + 1, ns, p, l =>
    if l = 0 then (ns, -1, p, 0)
    else
      let n := numI s p
      if inB n.1 1 9 = false then putI ns ⟨n.1, 0, 0, 0⟩ n.2 (l - 1)
      else if n.1 = 1 then
        let z := numI s n.2
        putI ns ⟨1, z.1, 0, 0⟩ z.2 (l - 1)
      else
        let r := rdI s f ns n.2 (l - 1)
        if oneK n.1 = true then putI r.1 ⟨n.1, 0, r.2.1, 0⟩ r.2.2.1 r.2.2.2
        else if r.2.1 < 0 then putI r.1 ⟨n.1, 0, r.2.1, 0⟩ r.2.2.1 r.2.2.2
        else
          let r2 := rdI s f r.1 r.2.2.1 r.2.2.2
          putI r2.1 ⟨n.1, 0, r.2.1, r2.2.1⟩ r2.2.2.1 r2.2.2.2
theorem putK_bad {ns : List Nd} {x : Nd} (h : nodeB x ns.length = false) : putK ns x = -1 := by unfold putK; rw [if_neg (by simp [h])]
theorem putK_ge (ns : List Nd) (x : Nd) : putK ns x = -1 ∨ 0 ≤ putK ns x := by
  unfold putK
  split
  · split
    · right; omega
    · rcases findN_range ns x with h | h
      · exact .inl h
      · exact .inr h.1
  · exact .inl rfl
theorem nodeB_noKind {x : Nd} {k : Int} (h : inB x.k 1 9 = false) : nodeB x k = false := by unfold nodeB; rw [if_pos h]
theorem nodeB_neg {z k : Int} (h : z < 0) : nodeB ⟨1, z, 0, 0⟩ k = false := by
  cases hb : nodeB ⟨1, z, 0, 0⟩ k with
  | false => rfl
  | true => rcases nodeB_true hb with h1 | h1 | h1 <;> simp at h1 <;> omega
theorem nodeB_negA {kind a b k : Int} (hk : kind ≠ 1) (h : a < 0) : nodeB ⟨kind, 0, a, b⟩ k = false := by
  cases hb : nodeB ⟨kind, 0, a, b⟩ k with
  | false => rfl
  | true => rcases nodeB_true hb with h1 | h1 | h1 <;> simp at h1 <;> omega
theorem nodeB_negB {kind a b k : Int} (hk : kind ≠ 1) (ho : oneK kind = false) (h : b < 0) : nodeB ⟨kind, 0, a, b⟩ k = false := by
  cases hb : nodeB ⟨kind, 0, a, b⟩ k with
  | false => rfl
  | true =>
    rcases nodeB_true hb with h1 | h1 | h1 <;> simp at h1
    · omega
    · rw [ho] at h1; simp at h1
    · omega
/-- Where the program's way answers, the specification's does, at any depth that is as great. -/
theorem rd_A (s : ByteArray) : ∀ (f F : Nat) (ns : List Nd) (p l : Nat) (ns' : List Nd) (k : Int) (e l' : Nat), l ≤ F → rdI s f ns p l = (ns', k, e, l') → 0 ≤ k → ∃ c, rdS s F ns p = some (ns', k.toNat, e, c) ∧ c + l' = l
  | 0, F, ns, p, l, ns', k, e, l', hF, h, hk => by simp [rdI] at h; omega
  | f + 1, F, ns, p, l, ns', k, e, l', hF, h, hk => by
    rw [rdI] at h
    by_cases hl : l = 0
    · rw [if_pos hl] at h; simp at h; omega
    rw [if_neg hl] at h
    obtain ⟨F, rfl⟩ : ∃ F', F = F' + 1 := ⟨F - 1, by omega⟩
    rw [rdS]
    cases hr : RV s p with
    | none =>
      simp only [numI, hr] at h
      rw [if_pos (by rfl)] at h
      have := putK_bad (ns := ns) (x := ⟨-1, 0, 0, 0⟩) (nodeB_noKind rfl)
      simp [putI] at h
      omega
    | some nq =>
      obtain ⟨kind, q⟩ := nq
      simp only [numI, hr] at h ⊢
      cases hi : inB kind 1 9 with
      | false =>
        rw [if_pos hi] at h
        have := putK_bad (ns := ns) (x := ⟨kind, 0, 0, 0⟩) (nodeB_noKind hi)
        simp [putI] at h
        omega
      | true =>
        rw [if_neg (by simp [hi])] at h
        rw [if_neg (by simp)]
        by_cases h1 : kind = 1
        · rw [if_pos h1] at h ⊢
          cases hz : RV s q with
          | none =>
            simp only [hz] at h
            have := putK_bad (ns := ns) (x := ⟨1, -1, 0, 0⟩) (nodeB_neg (by omega))
            simp [putI] at h
            omega
          | some ze =>
            obtain ⟨z, e2⟩ := ze
            simp only [hz, putI, Prod.mk.injEq] at h ⊢
            obtain ⟨rfl, rfl, rfl, rfl⟩ := h
            unfold putR
            rw [if_neg (by omega)]
            exact ⟨1, rfl, by omega⟩
        · rw [if_neg h1] at h ⊢
          obtain ⟨ns1, x, m, l1, hq⟩ : ∃ ns1 x m l1, rdI s f ns q (l - 1) = (ns1, x, m, l1) := ⟨_, _, _, _, rfl⟩
          rw [hq] at h
          simp only at h
          by_cases hx : x < 0
          · have h5 : putK ns1 ⟨kind, 0, x, 0⟩ = -1 := putK_bad (nodeB_negA h1 hx)
            cases ho : oneK kind <;> simp [ho, hx, putI] at h <;> omega
          · obtain ⟨c1, hs1, hc1⟩ := rd_A s f F ns q (l - 1) ns1 x m l1 (by omega) hq (by omega)
            rw [hs1]
            simp only
            cases ho : oneK kind with
            | true =>
              rw [if_pos ho] at h
              rw [if_pos rfl]
              simp only [putI, Prod.mk.injEq] at h
              obtain ⟨rfl, rfl, rfl, rfl⟩ := h
              unfold putR
              rw [show ((x.toNat : Nat) : Int) = x by omega, if_neg (by omega)]
              exact ⟨1 + c1, rfl, by omega⟩
            | false =>
              rw [if_neg (by simp [ho]), if_neg hx] at h
              rw [if_neg (by simp)]
              obtain ⟨ns2, y, e2, l2, hq2⟩ : ∃ ns2 y e2 l2, rdI s f ns1 m l1 = (ns2, y, e2, l2) := ⟨_, _, _, _, rfl⟩
              rw [hq2] at h
              simp only [putI, Prod.mk.injEq] at h
              obtain ⟨rfl, rfl, rfl, rfl⟩ := h
              by_cases hy : y < 0
              · have h5 : putK ns2 ⟨kind, 0, x, y⟩ = -1 := putK_bad (nodeB_negB h1 ho hy)
                omega
              · obtain ⟨c2, hs2, hc2⟩ := rd_A s f F ns1 m l1 ns2 y e2 l2 (by omega) hq2 (by omega)
                rw [hs2]
                simp only
                unfold putR
                rw [show ((x.toNat : Nat) : Int) = x by omega, show ((y.toNat : Nat) : Int) = y by omega, if_neg (by omega)]
                exact ⟨1 + c1 + c2, rfl, by omega⟩
/-- Where the specification's way answers with as many terms as are left, the program's does. -/
theorem rd_B (s : ByteArray) : ∀ (F f : Nat) (ns : List Nd) (p l : Nat) (ns' : List Nd) (k e c : Nat), rdS s F ns p = some (ns', k, e, c) → c ≤ l → l ≤ f → rdI s f ns p l = (ns', (k : Int), e, l - c) ∧ 1 ≤ c
  | 0, f, ns, p, l, ns', k, e, c, h, hc, hf => by simp [rdS] at h
  | F + 1, f, ns, p, l, ns', k, e, c, h, hc, hf => by
    rw [rdS] at h
    cases hr : RV s p with
    | none => simp [hr] at h
    | some nq =>
      obtain ⟨kind, q⟩ := nq
      simp only [hr] at h
      cases hi : inB kind 1 9 with
      | false => simp [hi] at h
      | true =>
        rw [if_neg (by simp [hi])] at h
        by_cases h1 : kind = 1
        · rw [if_pos h1] at h
          cases hz : RV s q with
          | none => simp [hz] at h
          | some ze =>
            obtain ⟨z, e2⟩ := ze
            simp only [hz, putR] at h
            by_cases hp : putK ns ⟨1, z, 0, 0⟩ < 0
            · simp [hp] at h
            · rw [if_neg hp] at h
              simp at h
              obtain ⟨rfl, rfl, rfl, rfl⟩ := h
              obtain ⟨f, rfl⟩ : ∃ f', f = f' + 1 := ⟨f - 1, by omega⟩
              refine ⟨?_, Nat.le_refl _⟩
              rw [rdI, if_neg (by omega)]
              simp only [numI, hr]
              rw [if_neg (by simp [hi]), if_pos h1]
              simp only [hz, putI]
              rw [show (((putK ns ⟨1, z, 0, 0⟩).toNat : Nat) : Int) = putK ns ⟨1, z, 0, 0⟩ by omega]
        · rw [if_neg h1] at h
          cases hs1 : rdS s F ns q with
          | none => simp [hs1] at h
          | some r1 =>
            obtain ⟨ns1, x, m, c1⟩ := r1
            simp only [hs1] at h
            cases ho : oneK kind with
            | true =>
              rw [if_pos ho] at h
              unfold putR at h
              by_cases hp : putK ns1 ⟨kind, 0, (x : Int), 0⟩ < 0
              · rw [if_pos hp] at h; simp at h
              · rw [if_neg hp] at h
                simp at h
                obtain ⟨rfl, rfl, rfl, rfl⟩ := h
                obtain ⟨f, rfl⟩ : ∃ f', f = f' + 1 := ⟨f - 1, by omega⟩
                obtain ⟨hI, hc1⟩ := rd_B s F f ns q (l - 1) ns1 x m c1 hs1 (by omega) (by omega)
                refine ⟨?_, by omega⟩
                rw [rdI, if_neg (by omega)]
                simp only [numI, hr]
                rw [if_neg (by simp [hi]), if_neg h1, hI]
                simp only
                rw [if_pos ho]
                simp only [putI]
                rw [show (((putK ns1 ⟨kind, 0, (x : Int), 0⟩).toNat : Nat) : Int) = putK ns1 ⟨kind, 0, (x : Int), 0⟩ by omega, show l - 1 - c1 = l - (1 + c1) by omega]
            | false =>
              rw [if_neg (by simp [ho])] at h
              cases hs2 : rdS s F ns1 m with
              | none => simp [hs2] at h
              | some r2 =>
                obtain ⟨ns2, y, e2, c2⟩ := r2
                simp only [hs2] at h
                unfold putR at h
                by_cases hp : putK ns2 ⟨kind, 0, (x : Int), (y : Int)⟩ < 0
                · rw [if_pos hp] at h; simp at h
                · rw [if_neg hp] at h
                  simp at h
                  obtain ⟨rfl, rfl, rfl, rfl⟩ := h
                  obtain ⟨f, rfl⟩ : ∃ f', f = f' + 1 := ⟨f - 1, by omega⟩
                  obtain ⟨hI, hc1⟩ := rd_B s F f ns q (l - 1) ns1 x m c1 hs1 (by omega) (by omega)
                  obtain ⟨hI2, hc2⟩ := rd_B s F f ns1 m (l - 1 - c1) ns2 y e2 c2 hs2 (by omega) (by omega)
                  refine ⟨?_, by omega⟩
                  rw [rdI, if_neg (by omega)]
                  simp only [numI, hr]
                  rw [if_neg (by simp [hi]), if_neg h1, hI]
                  simp only
                  rw [if_neg (by simp [ho]), if_neg (by omega), hI2]
                  simp only [putI]
                  rw [show (((putK ns2 ⟨kind, 0, (x : Int), (y : Int)⟩).toNat : Nat) : Int) = putK ns2 ⟨kind, 0, (x : Int), (y : Int)⟩ by omega, show l - 1 - c1 - c2 = l - (1 + c1 + c2) by omega]
end Go.Proofs.YtaanophnnkmkbaaGreat
