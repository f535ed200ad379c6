/- The contracts of the two writers of a number's bytes (chapter 1). -/
import Derived.Test.YtlecpjgeaigjkaaProg
import Derived.Test.YtlecpjgeaigjkaaPlain
import Derived.WalkKit
import Derived.WalkLawsBesides
import Derived.WalkSpells
import Derived.Deep.DeepMust
import Derived.Deep.DeepFit
import Derived.Test.YtlecpjgeaigjkaaPlainRead
import Derived.Deep.QuietTactic
import Derived.BigQuiet
import Derived.Deep.RegionHeld3
import Derived.Deep.DrawnRows
namespace Go.Proofs.Ytlecpjgeaigjkaa
open Go.RowKit
theorem Try.info5 : (Try.prog.info? 5).map (fun i => (i.zero, i.size, i.bytes)) = some (some (.int .u8 0), 1, 1) := by kernel_rfl

theorem l01In_yes (x lo hi : Int) (w : World) (h0 : lo ≤ x) (h1 : x ≤ hi) :
    Calls Try.prog 65 #[.int .i64 x, .int .i64 lo, .int .i64 hi] w fun e w' => e = .returned (.bool true) ∧ w = w' := by
  go_enter Try.func65, Try.ntmps65
  go_wp2
  go_ret
  exact ⟨rfl, rfl⟩
theorem l01In_no (x lo hi : Int) (w : World) (h : x < lo ∨ hi < x) :
    Calls Try.prog 65 #[.int .i64 x, .int .i64 lo, .int .i64 hi] w fun e w' => e = .returned (.bool false) ∧ w = w' := by
  by_cases h0 : lo ≤ x
  · have h1 : decide (x ≤ hi) = false := by simp; omega
    go_enter Try.func65, Try.ntmps65
    go_wp2
    go_ret
    exact ⟨rfl, rfl⟩
  · have h1 : decide (lo ≤ x) = false := by simp; omega
    go_enter Try.func65, Try.ntmps65
    go_wp2
    go_ret
    exact ⟨rfl, rfl⟩

end Go.Proofs.Ytlecpjgeaigjkaa

namespace Go.Proofs.Ytlecpjgeaigjkaa
open Go.RowKit Go.PlainAid
attribute [local go_sem ↓] Go.wp_at_zero Go.wp_at_succ

/-- What ReadVar hands back. -/
def rvVal : Option (Int × Nat) → Value
  | none => .tuple #[.int .i64 0, .int .i64 0, .bool false]
  | some (n, k) => .tuple #[.int .i64 n, .int .i64 k, .bool true]

/-- ReadVar at whatever place. -/
def RV (s : ByteArray) (a : Int) : Option (Int × Nat) := if 0 ≤ a ∧ a ≤ (s.size : Int) then rvOut s a.toNat else none

/-- What is read lies within the limits. -/
theorem rvGo_bd (s : ByteArray) (a : Nat) : ∀ (f k : Nat) (acc : Int) (n : Int) (j : Nat), 0 ≤ acc → rvGo s a f k acc = some (n, j) → 0 ≤ n ∧ n ≤ 1000000000 ∧ j ≤ s.size
  | 0, _, _, _, _, _, h => by simp [rvGo] at h
  | f + 1, k, acc, n, j, h0, h => by
    have hp := pw_pos k
    have hm := mul_bd (x := bt s (a + k) % 128) (p := pw k) (by omega) (by omega) (by omega)
    rw [rvGo] at h
    split at h
    · split at h
      · split at h
        · simp at h
        · simp at h; omega
      · exact rvGo_bd s a f (k + 1) _ n j (by omega) h
    · simp at h
theorem RV_bd {s : ByteArray} {a n : Int} {k : Nat} (h : RV s a = some (n, k)) : 0 ≤ n ∧ n ≤ 1000000000 ∧ k ≤ s.size := by
  unfold RV at h
  split at h
  · exact rvGo_bd s _ 5 0 0 n k (by omega) h
  · simp at h
end Go.Proofs.Ytlecpjgeaigjkaa
