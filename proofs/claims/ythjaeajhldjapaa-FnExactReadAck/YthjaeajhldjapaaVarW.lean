/- The contracts of the two writers of a number's bytes (chapter 1). -/
import Derived.Test.YthjaeajhldjapaaProg
import Derived.Test.YthjaeajhldjapaaPlain
import Derived.WalkKit
import Derived.WalkLawsBesides
import Derived.WalkSpells
import Derived.Deep.DeepMust
import Derived.Deep.DeepFit
namespace Go.Proofs.Ythjaeajhldjapaa
open Go.RowKit
theorem Try.info5 : (Try.prog.info? 5).map (fun i => (i.zero, i.size, i.bytes)) = some (some (.int .u8 0), 1, 1) := by kernel_rfl

set_option maxHeartbeats 400000 in
set_option maxRecDepth 20000 in
theorem l01Var_any (n : Nat) (w : World) (hn : n ≤ 9223372036854775807) :
    Calls Try.prog 14 #[.int .i64 n] w fun e w' => e = .returned (.string (strOfNums (vb n))) ∧ Below w.heap.size w w' := by
  obtain ⟨i0, hi, hz0, hz1, hz2⟩ := info_parts Try.info5
  have hlen := vb_len10 n hn
  go_enter Try.func14, Try.ntmps14
  go_wp2
  go_loopw [0, 3] (fun i v wr => ∃ (m : Nat) (xs : List Int), i = .int .i64 m ∧ m ≤ n ∧ xs ++ vb m = vb n ∧ wr.ownsRow w.heap.size 5 1 v xs.length (xs.map (Value.int .u8)) ∧ Below w.heap.size w wr)
    (fun i _ _ => (intOf i).toNat)
  case atStart => exact ⟨n, [], rfl, Nat.le_refl _, rfl, World.ownsRow_made _ _ _ (Nat.le_refl _) (by decide) rfl, (Below.refl _ _).alloc (Nat.le_refl _) _⟩
  case round =>
    obtain ⟨m, xs, rfl, hm, hxs, hown, hbel⟩ := hrel
    have hxl : xs.length + (vb m).length ≤ 10 := by rw [← hxs] at hlen; simpa using hlen
    have HX : Hid (xs ++ vb m = vb n) := hxs
    clear hxs
    by_cases hgt : 127 < m
    · go_wp2_with (at_builtin; refine wpList_append_own _ rfl _ _ 33 rfl w.heap.size 5 i0 (.int .u8 0) 1 1 Try.underlying33 hi hz0 hz1 hz2 rfl (by decide) _ _ _ rfl (hown.alloc _) ⟨wr.heap.size, 0, none⟩ 1 1 [.int .u8 ((m : Int) % 128 + 128)] rfl rfl ?c1 ?c2 ?c3 ?c4 ?c5 ?_)
      case c1 => exact cell_one_new _ _ _
      case c2 => intro u hu; simp at hu; subst hu; rfl
      case c3 => unfold maxLen; omega
      case c4 => omega
      case c5 => have := hbel.size; simp; omega
      · intro v' w1 hown' hgrow _
        have hB := below_app hown hbel hbel.size hgrow
        have ho := own_snoc (ys := [(m : Int) % 128 + 128]) hown'
        have hx : Hid ((xs ++ [(m : Int) % 128 + 128]) ++ vb (m / 128) = vb n) := by rw [List.append_assoc, List.singleton_append, ← vb_big hgt]; exact HX.out
        clear hown' hgrow hown hbel HX
        go_wp2
        go_roundw
        case rel => exact ⟨m / 128, _, by go_num, by omega, hx.out, ho, hB⟩
        case measure => simp [intOf]; omega
    · have hv := vb_small (show m ≤ 127 by omega)
      rw [hv] at hxl
      have hx : Hid (xs ++ [(m : Int)] = vb n) := by rw [← hv]; exact HX.out
      clear HX hv
      go_wp2_with (at_builtin; refine wpList_append_own _ rfl _ _ 33 rfl w.heap.size 5 i0 (.int .u8 0) 1 1 Try.underlying33 hi hz0 hz1 hz2 rfl (by decide) _ _ _ rfl (hown.alloc _) ⟨wr.heap.size, 0, none⟩ 1 1 [.int .u8 (m : Int)] rfl rfl ?d1 ?d2 ?d3 ?d4 ?d5 ?_)
      case d1 => exact cell_one_new _ _ _
      case d2 => intro u hu; simp at hu; subst hu; rfl
      case d3 => unfold maxLen; simp at hxl; omega
      case d4 => simp at hxl; omega
      case d5 => have := hbel.size; simp; omega
      · intro v' w1 hown' hgrow _
        have hB := below_app hown hbel hbel.size hgrow
        have ho := own_snoc (ys := [(m : Int)]) hown'
        have hc := conv_own w1 33 9 5 Try.underlying33 Try.underlying5 Try.underlying9 (P := Try.prog) ho
        clear hown' hgrow hown hbel ho
        go_wp2
        go_ret
        exact ⟨by rw [hx.out]; rfl, hB⟩

/-- A refused number. -/
theorem implVar_no (n : Int) (w : World) (h : n < 0 ∨ 1000000000 < n) :
    Calls Try.prog 24 #[.int .i64 n] w fun e w' => e = .returned (.tuple #[.string ByteArray.empty, .bool false]) ∧ Below w.heap.size w w' := by
  rcases h with h | h
  · go_enter Try.func24, Try.ntmps24
    go_wp2
    go_ret2
    exact ⟨rfl, Below.refl _ _⟩
  · have h' : ¬ n < 0 := by omega
    go_enter Try.func24, Try.ntmps24
    go_wp2
    go_ret2
    exact ⟨rfl, Below.refl _ _⟩

set_option maxHeartbeats 400000 in
set_option maxRecDepth 20000 in
theorem implVar_yes (n : Nat) (w : World) (hn : n ≤ 1000000000) :
    Calls Try.prog 24 #[.int .i64 n] w fun e w' => e = .returned (.tuple #[.string (strOfNums (vb n)), .bool true]) ∧ Below w.heap.size w w' := by
  obtain ⟨i0, hi, hz0, hz1, hz2⟩ := info_parts Try.info5
  have hlen := vb_len10 n (by omega)
  have h0 : ¬ (n : Int) < 0 := by omega
  have h1 : ¬ (1000000000 : Int) < (n : Int) := by omega
  go_enter Try.func24, Try.ntmps24
  go_wp2
  clear h0 h1
  go_loopw [0, 4] (fun i v wr => ∃ (m : Nat) (xs : List Int), i = .int .i64 m ∧ m ≤ n ∧ xs ++ vb m = vb n ∧ wr.ownsRow w.heap.size 5 1 v xs.length (xs.map (Value.int .u8)) ∧ Below w.heap.size w wr)
    (fun i _ _ => (intOf i).toNat)
  case atStart => exact ⟨n, [], rfl, Nat.le_refl _, rfl, World.ownsRow_nil _ _ _ _, (Below.refl _ _)⟩
  case round =>
    obtain ⟨m, xs, rfl, hm, hxs, hown, hbel⟩ := hrel
    have hxl : xs.length + (vb m).length ≤ 10 := by rw [← hxs] at hlen; simpa using hlen
    have HX : Hid (xs ++ vb m = vb n) := hxs
    clear hxs
    by_cases hgt : 127 < m
    · go_wp2_with (at_builtin; refine wpList_append_own _ rfl _ _ 33 rfl w.heap.size 5 i0 (.int .u8 0) 1 1 Try.underlying33 hi hz0 hz1 hz2 rfl (by decide) _ _ _ rfl (hown.alloc _) ⟨wr.heap.size, 0, none⟩ 1 1 [.int .u8 ((m : Int) % 128 + 128)] rfl rfl ?c1 ?c2 ?c3 ?c4 ?c5 ?_)
      case c1 => exact cell_one_new _ _ _
      case c2 => intro u hu; simp at hu; subst hu; rfl
      case c3 => unfold maxLen; omega
      case c4 => omega
      case c5 => have := hbel.size; simp; omega
      · intro v' w1 hown' hgrow _
        have hB := below_app hown hbel hbel.size hgrow
        have ho := own_snoc (ys := [(m : Int) % 128 + 128]) hown'
        have hx : Hid ((xs ++ [(m : Int) % 128 + 128]) ++ vb (m / 128) = vb n) := by rw [List.append_assoc, List.singleton_append, ← vb_big hgt]; exact HX.out
        clear hown' hgrow hown hbel HX
        go_wp2
        go_roundw
        case rel => exact ⟨m / 128, _, by go_num, by omega, hx.out, ho, hB⟩
        case measure => simp [intOf]; omega
    · have hv := vb_small (show m ≤ 127 by omega)
      rw [hv] at hxl
      have hx : Hid (xs ++ [(m : Int)] = vb n) := by rw [← hv]; exact HX.out
      clear HX hv
      go_wp2_with (at_builtin; refine wpList_append_own _ rfl _ _ 33 rfl w.heap.size 5 i0 (.int .u8 0) 1 1 Try.underlying33 hi hz0 hz1 hz2 rfl (by decide) _ _ _ rfl (hown.alloc _) ⟨wr.heap.size, 0, none⟩ 1 1 [.int .u8 (m : Int)] rfl rfl ?d1 ?d2 ?d3 ?d4 ?d5 ?_)
      case d1 => exact cell_one_new _ _ _
      case d2 => intro u hu; simp at hu; subst hu; rfl
      case d3 => unfold maxLen; simp at hxl; omega
      case d4 => simp at hxl; omega
      case d5 => have := hbel.size; simp; omega
      · intro v' w1 hown' hgrow _
        have hB := below_app hown hbel hbel.size hgrow
        have ho := own_snoc (ys := [(m : Int)]) hown'
        have hc := conv_own w1 33 9 5 Try.underlying33 Try.underlying5 Try.underlying9 (P := Try.prog) ho
        clear hown' hgrow hown hbel ho
        go_wp2
        go_ret2
        exact ⟨by rw [hx.out]; rfl, hB⟩

theorem l01In_yes (x lo hi : Int) (w : World) (h0 : lo ≤ x) (h1 : x ≤ hi) :
    Calls Try.prog 20 #[.int .i64 x, .int .i64 lo, .int .i64 hi] w fun e w' => e = .returned (.bool true) ∧ w = w' := by
  go_enter Try.func20, Try.ntmps20
  go_wp2
  go_ret
  exact ⟨rfl, rfl⟩
theorem l01In_no (x lo hi : Int) (w : World) (h : x < lo ∨ hi < x) :
    Calls Try.prog 20 #[.int .i64 x, .int .i64 lo, .int .i64 hi] w fun e w' => e = .returned (.bool false) ∧ w = w' := by
  by_cases h0 : lo ≤ x
  · have h1 : decide (x ≤ hi) = false := by simp; omega
    go_enter Try.func20, Try.ntmps20
    go_wp2
    go_ret
    exact ⟨rfl, rfl⟩
  · have h1 : decide (lo ≤ x) = false := by simp; omega
    go_enter Try.func20, Try.ntmps20
    go_wp2
    go_ret
    exact ⟨rfl, rfl⟩

end Go.Proofs.Ythjaeajhldjapaa
