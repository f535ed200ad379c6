/- A ring of sixteen words (chapter 21), in plain mathematics. -/
import Derived.Test.YthpkhbcahihbnaaDoorSha21
import Derived.Test.YthpkhbcahihbnaaDoorArrW
namespace Go.Proofs.YthpkhbcahihbnaaDoor
open Go.RowKit Go.PlainAid
/-- The words of a block. -/
def wd (ws : List Nat) (i : Nat) : Nat := (sched ws 48).getD i 0
theorem wd_lt {ws : List Nat} (h : ∀ x ∈ ws, x < 4294967296) (i : Nat) : wd ws i < 4294967296 := getD_lt (sched_lt h 48) i
theorem wd_low {ws : List Nat} (h : ws.length = 16) {i : Nat} (hi : i < 16) : wd ws i = ws.getD i 0 := sched_at (m := 48) h 0 i (by omega)
theorem wd_at {ws : List Nat} (h : ws.length = 16) (n : Nat) {i : Nat} (hn : n ≤ 48) (hi : i < 16 + n) : (sched ws n).getD i 0 = wd ws i := by
  have := sched_at (m := 48 - n) h n i hi
  rw [show n + (48 - n) = 48 by omega] at this
  exact this.symm
theorem wd_new {ws : List Nat} (h : ws.length = 16) {r : Nat} (h1 : 16 ≤ r) (h2 : r < 64) :
    wd ws r = (wd ws (r - 16) + mixA (wd ws (r - 15)) + wd ws (r - 7) + mixB (wd ws (r - 2))) % 4294967296 := by
  have e := wd_at h (r - 16 + 1) (i := r) (by omega) (by omega)
  rw [← e]
  have hn := sched_new h (r - 16)
  rw [show 16 + (r - 16) = r by omega] at hn
  rw [hn]
  unfold nextW
  rw [wd_at h (r - 16) (by omega) (by omega), wd_at h (r - 16) (by omega) (by omega), wd_at h (r - 16) (by omega) (by omega), wd_at h (r - 16) (by omega) (by omega)]
/-- The ring ahead of a round. -/
def ringAt (ws : List Nat) (r : Nat) : Nat → Nat := fun j => wd ws (16 * ((max 16 r - 1 - j) / 16) + j)
theorem ring_lt {ws : List Nat} (h : ∀ x ∈ ws, x < 4294967296) (r j : Nat) : ringAt ws r j < 4294967296 := wd_lt h _
theorem ring_read (ws : List Nat) {r b : Nat} (h : 16 ≤ r) (h1 : 1 ≤ b) (h2 : b ≤ 16) : ringAt ws r ((r - b) % 16) = wd ws (r - b) := by
  unfold ringAt
  rw [Nat.max_eq_right h]
  congr 1; omega
theorem ring_own (ws : List Nat) {r : Nat} (h : 16 ≤ r) : ringAt ws r (r % 16) = wd ws (r - 16) := by
  have := ring_read ws (b := 16) h (by omega) (by omega)
  rw [show (r - 16) % 16 = r % 16 by omega] at this
  exact this
theorem ring_low (ws : List Nat) {r : Nat} (h : r < 16) : ringAt ws r (r % 16) = wd ws r := by
  unfold ringAt
  rw [Nat.max_eq_left (by omega)]
  congr 1; omega
theorem ring_same (ws : List Nat) {r : Nat} (h : r < 16) : ringAt ws (r + 1) = ringAt ws r := by
  unfold ringAt
  rw [Nat.max_eq_left (by omega), Nat.max_eq_left (by omega)]
theorem ring_first {ws : List Nat} (h : ws.length = 16) {i : Nat} (hi : i < 16) : ringAt ws 0 i = ws.getD i 0 := by
  rw [← wd_low h hi]
  unfold ringAt
  rw [Nat.max_eq_left (by omega)]
  congr 1; omega
theorem ring_upd (ws : List Nat) {r : Nat} (h : 16 ≤ r) : ∀ i, i < 16 → upd (ringAt ws r) (r % 16) (wd ws r) i = ringAt ws (r + 1) i := by
  intro i hi
  unfold upd ringAt
  rw [Nat.max_eq_right h, Nat.max_eq_right (by omega)]
  by_cases e : i = r % 16
  · rw [if_pos e]; congr 1; omega
  · rw [if_neg e]; congr 1; omega
end Go.Proofs.YthpkhbcahihbnaaDoor
