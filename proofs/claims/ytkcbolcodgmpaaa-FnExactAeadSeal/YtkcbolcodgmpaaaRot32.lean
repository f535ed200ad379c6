/- math/bits.RotateLeft32, and the program's steps of chapter 24. -/
import Derived.Test.YtkcbolcodgmpaaaProg
import Derived.Test.YtkcbolcodgmpaaaCha24
import Derived.WalkKit
import Derived.WalkLawsBesides
import Derived.WalkSpells
import Derived.Laws.ShiftsVar
import Derived.Deep.QuietTactic
import Derived.BigRegion
import Derived.BigQuiet
import Derived.Deep.RegionHeld3
namespace Go.Proofs.Ytkcbolcodgmpaaa
open Go.RowKit
set_option maxRecDepth 20000
theorem shl_run (x n : Nat) (hn : n < 32) (w : World) : (Op.shift .shl .u32 (x : Int) .u64 (n : Int)).run Try.prog w = .ok (.int .u32 ((x * 2 ^ n % 4294967296 : Nat) : Int)) w := by
  have h1 : ¬ ((n : Int) < 0) := by omega
  have h2 : min (n : Int).toNat IntKind.u32.bits = n := by show min (n : Int).toNat 32 = n; omega
  simp only [Op.shift, h1, if_false, h2, Sem.run_pure, IntKind.wrap_u32']
  congr 2
theorem shr_run (x n : Nat) (hn : n < 32) (w : World) : (Op.shift .shr .u32 (x : Int) .u64 (n : Int)).run Try.prog w = .ok (.int .u32 ((x / 2 ^ n : Nat) : Int)) w := by
  have h1 : ¬ ((n : Int) < 0) := by omega
  have h2 : min (n : Int).toNat IntKind.u32.bits = n := by show min (n : Int).toNat 32 = n; omega
  simp only [Op.shift, h1, if_false, h2, Sem.run_pure]
  congr 2
  rw [Int.fdiv_eq_ediv_of_nonneg _ (by exact Int.le_of_lt (Int.pow_pos (by decide)))]
  push_cast
  rfl
theorem rot_at (k K : Int) (x n : Nat) (w : World) (hx : x < 4294967296) (h0 : 0 < n) (hn : n < 32) (hK : IntKind.u64.wrap k = K) (hk : bits .and .u64 K 31 = (n : Int)) :
    Calls Try.prog 72 #[.int .u32 (x : Int), .int .i64 k] w fun e w' => e = .returned (.int .u32 ((rotl x n : Nat) : Int)) ∧ w = w' := by
  have H1 := shl_run x n hn w
  have H2 := shr_run x (32 - n) (by omega) w
  have H3 := u32or (x * 2 ^ n % 4294967296) (x / 2 ^ (32 - n)) (Nat.mod_lt _ (by omega)) (Nat.lt_of_le_of_lt (Nat.div_le_self _ _) hx)
  have H4 : IntKind.u64.wrap (32 - (n : Int)) = ((32 - n : Nat) : Int) := by rw [IntKind.wrap_u64]; omega
  have HE : Hid (((x * 2 ^ n % 4294967296 ||| x / 2 ^ (32 - n) : Nat) : Int) = ((rotl x n : Nat) : Int)) := rfl
  generalize ((32 - n : Nat) : Int) = m at H4 H2
  generalize (n : Int) = N at H1 H4 hk
  generalize x * 2 ^ n % 4294967296 = y at H1 H3 HE
  generalize x / 2 ^ (32 - n) = z at H2 H3 HE
  clear h0 hn hx
  go_enter Try.func72, Try.ntmps72
  go_wp2
  go_ret
  exact ⟨by rw [← HE.out]; rfl, rfl⟩
theorem rot_any (x n : Nat) (w : World) (hx : x < 4294967296) (h0 : 0 < n) (hn : n < 32) :
    Calls Try.prog 72 #[.int .u32 (x : Int), .int .i64 (n : Int)] w fun e w' => e = .returned (.int .u32 ((rotl x n : Nat) : Int)) ∧ w = w' :=
  rot_at n n x n w hx h0 hn (by rw [IntKind.wrap_u64]; omega) (by
    rcases (show n = 1 ∨ n = 2 ∨ n = 3 ∨ n = 4 ∨ n = 5 ∨ n = 6 ∨ n = 7 ∨ n = 8 ∨ n = 9 ∨ n = 10 ∨ n = 11 ∨ n = 12 ∨ n = 13 ∨ n = 14 ∨ n = 15 ∨ n = 16 ∨ n = 17 ∨ n = 18 ∨ n = 19 ∨ n = 20 ∨ n = 21 ∨ n = 22 ∨ n = 23 ∨ n = 24 ∨ n = 25 ∨ n = 26 ∨ n = 27 ∨ n = 28 ∨ n = 29 ∨ n = 30 ∨ n = 31 by omega) with rfl | rfl | rfl | rfl | rfl | rfl | rfl | rfl | rfl | rfl | rfl | rfl | rfl | rfl | rfl | rfl | rfl | rfl | rfl | rfl | rfl | rfl | rfl | rfl | rfl | rfl | rfl | rfl | rfl | rfl | rfl <;> decide)
end Go.Proofs.Ytkcbolcodgmpaaa

namespace Go.Proofs.Ytkcbolcodgmpaaa
open Go.RowKit
set_option maxRecDepth 20000
abbrev ChaT : TypeId := 49
set_option maxHeartbeats 2000000 in
theorem addTurn_any (g : Nat) (f : Nat → Nat) (i j l n : Nat) (w : World) (hf : Words f) (hr : RowAt w g ChaT .u32 16 f) (hi : i < 16) (hj : j < 16) (hl : l < 16) (h0 : 0 < n) (hn : n < 32) :
    Calls Try.prog 67 #[.pointer (some ⟨g, 0, none⟩), .int .i64 (i : Int), .int .i64 (j : Int), .int .i64 (l : Int), .int .i64 (n : Int)] w
      fun e w' => e = .returned (.tuple #[]) ∧ w.grownBy w' (some g) ∧ RowAt w' g ChaT .u32 16 (addTurn f i j l n) := by
  have hiI : (i : Int) < 16 := by omega
  have hjI : (j : Int) < 16 := by omega
  have hlI : (l : Int) < 16 := by omega
  have c1 := hr.cell hi
  have c2 := hr.cell hj
  have z1 := hr.froz i
  have HX : Hid (((f i + f j) % 4294967296 : Nat) < 4294967296) := Nat.mod_lt _ (by omega)
  have HE : Hid ((((f i : Nat) : Int) + ((f j : Nat) : Int)) % 4294967296 = (((f i + f j) % 4294967296 : Nat) : Int)) := by show _ = _; omega
  have HR : Hid (RowAt w g ChaT .u32 16 f) := hr
  go_enter Try.func67, Try.ntmps67
  go_wp2
  go_region
  rw [HE.out]
  have HR1 : RowAt ((w.setCell ⟨g, i, none⟩ (.int .u32 (((f i + f j) % 4294967296 : Nat) : Int))).drew) g ChaT .u32 16 (upd f i ((f i + f j) % 4294967296)) := (HR.out.set hi _).drew
  have HG : Hid (w.grownBy ((w.setCell ⟨g, i, none⟩ (.int .u32 (((f i + f j) % 4294967296 : Nat) : Int))).drew) (some g)) := gb_trans (gb_cell _ _ _ _) (gb_drew _ _)
  have HW1 : Words (upd f i ((f i + f j) % 4294967296)) := hf.upd i HX.out
  have HQ : Hid (addTurn f i j l n = upd (upd f i ((f i + f j) % 4294967296)) l (rotl (upd f i ((f i + f j) % 4294967296) l ^^^ upd f i ((f i + f j) % 4294967296) i) n)) := rfl
  clear HX HE c1 c2 z1 HR hr
  generalize ((w.setCell ⟨g, i, none⟩ (.int .u32 (((f i + f j) % 4294967296 : Nat) : Int))).drew) = w1 at HR1 HG ⊢
  generalize upd f i ((f i + f j) % 4294967296) = f1 at HR1 HW1 HQ
  have c1 := HR1.cell hi
  have c2 := HR1.cell hl
  have z1 := HR1.froz l
  have hx := u32xor (f1 l) (f1 i) (HW1 l) (HW1 i)
  have HX : Hid (f1 l ^^^ f1 i < 4294967296) := xorL (HW1 l) (HW1 i)
  have HR : Hid (RowAt w1 g ChaT .u32 16 f1) := HR1
  clear HR1 HW1 hf
  generalize f1 l ^^^ f1 i = x at hx HX HQ
  have HC : Hid (∀ wz, Calls Try.prog 72 #[.int .u32 (x : Int), .int .i64 (n : Int)] wz fun e w' => e = .returned (.int .u32 ((rotl x n : Nat) : Int)) ∧ wz = w') := fun wz => rot_any x n wz HX.out h0 hn
  clear HX
  go_wp2
  go_region_with (go_at_call 72; refine Calls.mono (HC.out _) ?_; rintro e wq ⟨rfl, rfl⟩)
  all_goals
    go_wp2
    go_end0
    exact ⟨rfl, gb_trans HG.out (gb_trans (gb_cell _ _ _ _) (gb_drew _ _)), by rw [HQ.out]; exact (HR.out.set hl _).drew⟩
end Go.Proofs.Ytkcbolcodgmpaaa
