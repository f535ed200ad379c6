/- The program's steps of chapter 24: a quarter, the turns, a block. -/
import Derived.Test.YtkgbblmdkchemaaRot32
import Derived.WalkKit
import Derived.WalkLawsBesides
import Derived.WalkSpells
import Derived.BigRegion
import Derived.Deep.RegionHeld3
namespace Go.Proofs.Ytkgbblmdkchemaa
open Go.RowKit
set_option maxRecDepth 20000
abbrev ChaT : TypeId := 49
set_option maxHeartbeats 2000000 in
theorem addTurn_any (g : Nat) (f : Nat → Nat) (i j l n : Nat) (w : World) (hf : Words f) (hr : RowAt w g ChaT .u32 16 f) (hi : i < 16) (hj : j < 16) (hl : l < 16) (h0 : 0 < n) (hn : n < 32) :
    Calls Try.prog 41 #[.pointer (some ⟨g, 0, none⟩), .int .i64 (i : Int), .int .i64 (j : Int), .int .i64 (l : Int), .int .i64 (n : Int)] w
      fun e w' => e = .returned (.tuple #[]) ∧ w.grownBy w' (some g) ∧ RowAt w' g ChaT .u32 16 (addTurn f i j l n) := by
  have hiI : (i : Int) < 16 := by omega
  have hjI : (j : Int) < 16 := by omega
  have hlI : (l : Int) < 16 := by omega
  have c1 := hr.cell hi
  have c2 := hr.cell hj
  have z1 := hr.froz i
  have HX : Hid (((f i + f j) % 4294967296 : Nat) < 4294967296) := Nat.mod_lt _ (by omega)
  have HE : Hid ((((f i : Nat) : Int) + ((f j : Nat) : Int)) % 4294967296 = (((f i + f j) % 4294967296 : Nat) : Int)) := by show _ = _; omega
  have HR : Hid (RowAt w g ChaT .u32 16 f) := hr
  go_enter Try.func41, Try.ntmps41
  go_wp2
  go_region
  rw [HE.out]
  have HR1 : RowAt ((w.setCell ⟨g, i, none⟩ (.int .u32 (((f i + f j) % 4294967296 : Nat) : Int))).drew) g ChaT .u32 16 (upd f i ((f i + f j) % 4294967296)) := (HR.out.set hi _).drew
  have HG : Hid (w.grownBy ((w.setCell ⟨g, i, none⟩ (.int .u32 (((f i + f j) % 4294967296 : Nat) : Int))).drew) (some g)) := gb_trans (gb_cell _ _ _ _) (gb_drew _ _)
  have HW1 : Words (upd f i ((f i + f j) % 4294967296)) := hf.upd i HX.out
  have HQ : Hid (addTurn f i j l n = upd (upd f i ((f i + f j) % 4294967296)) l (rotl (upd f i ((f i + f j) % 4294967296) l ^^^ upd f i ((f i + f j) % 4294967296) i) n)) := rfl
  clear HX HE c1 c2 z1 HR hr
  generalize ((w.setCell ⟨g, i, none⟩ (.int .u32 (((f i + f j) % 4294967296 : Nat) : Int))).drew) = w1 at HR1 HG ⊢
  generalize upd f i ((f i + f j) % 4294967296) = f1 at HR1 HW1 HQ
  have c1 := HR1.cell hi
  have c2 := HR1.cell hl
  have z1 := HR1.froz l
  have hx := u32xor (f1 l) (f1 i) (HW1 l) (HW1 i)
  have HX : Hid (f1 l ^^^ f1 i < 4294967296) := xorL (HW1 l) (HW1 i)
  have HR : Hid (RowAt w1 g ChaT .u32 16 f1) := HR1
  clear HR1 HW1 hf
  generalize f1 l ^^^ f1 i = x at hx HX HQ
  have HC : Hid (∀ wz, Calls Try.prog 42 #[.int .u32 (x : Int), .int .i64 (n : Int)] wz fun e w' => e = .returned (.int .u32 ((rotl x n : Nat) : Int)) ∧ wz = w') := fun wz => rot_any x n wz HX.out h0 hn
  clear HX
  go_wp2
  go_region_with (go_at_call 42; refine Calls.mono (HC.out _) ?_; rintro e wq ⟨rfl, rfl⟩)
  all_goals
    go_wp2
    go_end0
    exact ⟨rfl, gb_trans HG.out (gb_trans (gb_cell _ _ _ _) (gb_drew _ _)), by rw [HQ.out]; exact (HR.out.set hl _).drew⟩
end Go.Proofs.Ytkgbblmdkchemaa
