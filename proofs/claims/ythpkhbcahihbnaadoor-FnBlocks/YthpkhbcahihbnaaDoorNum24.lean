/- The program's numbersOf, chaOf: words as numbers, numbers as words. -/
import Derived.Test.YthpkhbcahihbnaaDoorLawI
import Derived.Test.YthpkhbcahihbnaaDoorRowC
import Derived.Test.YthpkhbcahihbnaaDoorRowTo
import Derived.Test.YthpkhbcahihbnaaDoorCha24
import Derived.WalkKit
import Derived.WalkLawsBesides
import Derived.WalkSpells
import Derived.OwnWalk
import Derived.Laws.OwnMore
namespace Go.Proofs.YthpkhbcahihbnaaDoor
open Go.RowKit Go.PlainAid
set_option maxRecDepth 20000
set_option linter.unusedVariables false
set_option linter.unusedSimpArgs false
set_option maxHeartbeats 1600000 in
theorem numbers_any (g n cap : Nat) (f : Nat → Nat) (w : World) (hf : Words f) (hn : n ≤ 64) (hr : RowC w g .u32 n f) :
    Calls Tryd.prog 19 #[.slice (some ⟨g, 0, none⟩) n cap] w fun e w' => ∃ v, e = .returned v ∧ OwnInt w.heap.size w' v (bytesV n f) ∧ Below w.heap.size w w' := by
  obtain ⟨i0, hi, hz0, hz1, hz2⟩ := info_parts infoIntS
  have HR : Hid (RowC w g .u32 n f) := hr
  have HF : Hid (Words f) := hf
  clear hr hf
  go_enter Tryd.func19, Tryd.ntmps19
  go_wp2_with (at_make; refine wpList_make_own _ rfl _ _ 26 rfl w.heap.size 3 i0 (.int .i64 0) 1 Tryd.underlying26 hi hz0 hz1 .i64 .i64 _ n rfl rfl (by omega) (by rw [hz2]; omega) (by unfold maxLen; omega) (Nat.le_refl _) ?_; intro w0 hown0 hgrow0)
  have hb0 : Below w.heap.size w w0 := (Below.refl _ _).grown hgrow0 (Nat.le_refl _) (by simp)
  clear hgrow0
  go_loopw [3, 11] (fun v i wr => ∃ k : Nat, k ≤ n ∧ i = .int .i64 k ∧ wr.ownsRow w.heap.size 3 1 v k ((bytesV k f).map (Value.int .i64)) ∧ Below w.heap.size w wr)
    (fun _ i _ => n - (intOf i).toNat)
  case atStart => exact ⟨0, Nat.zero_le _, rfl, hown0, hb0⟩
  case round =>
    obtain ⟨k, hk, rfl, hown, hbel⟩ := hrel
    by_cases hlt : k < n
    · have hi0 : (0 : Int) ≤ (k : Int) := by omega
      have hi1 : (k : Int) < (n : Int) := by omega
      have c1 := (HR.out.below hbel HR.out.lt hbel.size).c k hlt
      have b1 := HF.out k
      have hw : IntKind.i64.wrap ((f k : Nat) : Int) = ((f k : Nat) : Int) := by rw [IntKind.wrap_i64]; omega
      have HS : Hid (bytesV (k + 1) f = bytesV k f ++ [((f k : Nat) : Int)]) := bytesV_succ k f
      have HL : Hid ((bytesV k f).length = k) := bytesV_len k f
      have hsz := hbel.size
      generalize ((f k : Nat) : Int) = y at c1 hw HS
      clear b1
      go_wp2_with (at_builtin; refine wpList_append_own _ rfl _ _ 26 rfl w.heap.size 3 i0 (.int .i64 0) 1 8 Tryd.underlying26 hi hz0 hz1 hz2 rfl (by decide) _ _ _ rfl (hown.alloc _) ⟨wr.heap.size, 0, none⟩ 1 1 [.int .i64 y] rfl rfl ?c1 ?c2 ?c3 ?c4 ?c5 ?_)
      case c1 => exact cell_one_new _ _ _
      case c2 => intro u hu; simp at hu; subst hu; rfl
      case c3 => unfold maxLen; omega
      case c4 => omega
      case c5 => simp; omega
      · intro v' w1 hown' hgrow _
        have hB := below_app hown hbel hsz hgrow
        have ho : w1.ownsRow w.heap.size 3 1 v' (k + 1) ((bytesV (k + 1) f).map (Value.int .i64)) := by rw [HS.out, List.map_append]; exact hown'
        clear hown' hgrow hown hbel
        go_wp2
        go_roundw
        case rel => exact ⟨k + 1, by omega, by go_num, ho, hB⟩
        case measure => simp [intOf]; omega
    · obtain rfl : k = n := by omega
      go_wp2
      go_ret
      exact ⟨_, rfl, by unfold OwnInt; rw [bytesV_len]; exact hown, hbel⟩
/-- The words of a list of numbers, 0 behind its end. -/
def wordsOf (xs : List Int) (n : Nat) : Nat → Nat := fun i => if i < n then (xs.getD i 0 % 4294967296).toNat else 0
theorem wordsOf_upd (xs : List Int) (k : Nat) : upd (wordsOf xs k) k (xs.getD k 0 % 4294967296).toNat = wordsOf xs (k + 1) := by
  funext i
  unfold upd wordsOf
  by_cases h : i = k
  · subst h; rw [if_pos rfl, if_pos (by omega)]
  · rw [if_neg h]
    by_cases h2 : i < k
    · rw [if_pos h2, if_pos (by omega)]
    · rw [if_neg h2, if_neg (by omega)]
theorem wordsOf_lt (xs : List Int) (n : Nat) : Words (wordsOf xs n) := by
  intro i; unfold wordsOf; split <;> omega
theorem zeroCha : (#[.int .u32 0, .int .u32 0, .int .u32 0, .int .u32 0, .int .u32 0, .int .u32 0, .int .u32 0, .int .u32 0, .int .u32 0, .int .u32 0, .int .u32 0, .int .u32 0, .int .u32 0, .int .u32 0, .int .u32 0, .int .u32 0] : Array Value) = rowV .u32 16 (fun _ => 0) := rfl
end Go.Proofs.YthpkhbcahihbnaaDoor
