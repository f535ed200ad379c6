/- The contracts of Sealed and Unsealed (chapter 2). -/
import Derived.Test.YtnfjeejchfohgaaDoorProg
import Derived.Test.YtnfjeejchfohgaaDoorPlain
import Derived.Test.YtnfjeejchfohgaaDoorSumW
import Derived.Lib.Strings
import Derived.WalkKit
import Derived.WalkLawsBesides
import Derived.WalkSpells
import Derived.Deep.RegionHeld3
namespace Go.Proofs.YtnfjeejchfohgaaDoor
open Go.RowKit Go.PlainAid

theorem be4_conv (x : Nat) (w : World) : (convert 22 9 (.slice (some ⟨w.heap.size, 0, none⟩) 4 4)).run Tryd.prog (w.alloc (.cells #[.int .u8 ((x : Int) / 16777216), .int .u8 ((x : Int) / 65536 % 256), .int .u8 ((x : Int) / 256 % 256), .int .u8 ((x : Int) % 256)] 5)) =
    .ok (.string (strOfNums (be4 x))) (w.alloc (.cells #[.int .u8 ((x : Int) / 16777216), .int .u8 ((x : Int) / 65536 % 256), .int .u8 ((x : Int) / 256 % 256), .int .u8 ((x : Int) % 256)] 5)) := by
  refine run_convert_bytes_arg _ 22 5 Tryd.underlying22 Tryd.underlying5 w.heap.size 0 4 4 (be4 x) rfl ?_ 9 Tryd.underlying9
  intro i hi
  rw [cell_of_row _ w.heap.size (0 + i) _ _ _ (heap_alloc_new w _)]
  rcases (show i = 0 ∨ i = 1 ∨ i = 2 ∨ i = 3 by omega) with rfl | rfl | rfl | rfl <;> rfl

theorem specFour_any (x : Nat) (w : World) (_hx : x < 4294967296) :
    Calls Tryd.prog 25 #[.int .u32 (x : Int)] w fun e w' => e = .returned (.string (strOfNums (be4 x))) ∧ Below w.heap.size w w' := by
  have hc := be4_conv x w
  go_enter Tryd.func25, Tryd.ntmps25
  go_wp2
  go_ret
  exact ⟨rfl, (Below.refl _ _).alloc (Nat.le_refl _) _⟩
theorem implFour_any (x : Nat) (w : World) (_hx : x < 4294967296) :
    Calls Tryd.prog 23 #[.int .u32 (x : Int)] w fun e w' => e = .returned (.string (strOfNums (be4 x))) ∧ Below w.heap.size w w' := by
  have hc := be4_conv x w
  go_enter Tryd.func23, Tryd.ntmps23
  go_wp2
  go_ret
  exact ⟨rfl, (Below.refl _ _).alloc (Nat.le_refl _) _⟩

theorem be4_size (x : Nat) : (strOfNums (be4 x)).size = 4 := by rw [strOfNums_size]; rfl
/-- A text and its sum. -/
def sealOf (t : ByteArray) : ByteArray := t ++ strOfNums (be4 (sumOf t))

theorem TabHere.below {B : Nat} {w w' : World} (h : TabHere w) (hg : 0 < B) (hb : Below B w w') : TabHere w' :=
  fun r hr => (hb.cell (p := ⟨0, r, none⟩) hg).trans (h r hr)

theorem implSealed_yes (t : ByteArray) (w : World) (hm : t.size ≤ 20000) (ht : TabHere w) :
    Calls Tryd.prog 11 #[.string t] w fun e w' => e = .returned (.tuple #[.string (sealOf t), .bool true]) ∧ Below w.heap.size w w' := by
  have h' : ¬ (20000 : Int) < (t.size : Int) := by omega
  have H : Hid _ := implSum_any t w (by omega) ht
  have hl := sumOf_lt t
  have hz := be4_size (sumOf t)
  clear ht
  go_enter Tryd.func11, Tryd.ntmps11
  go_wp2_with fail
  refine Calls.mono H.out ?_
  rintro e w1 ⟨rfl, rfl⟩
  go_wp2_with fail
  refine (implFour_any _ _ hl).mono ?_
  rintro e w1 ⟨rfl, hb⟩
  go_wp2
  go_ret2
  exact ⟨rfl, hb⟩
theorem implSealed_no (t : ByteArray) (w : World) (hm : t.size ≤ 1048576) (h : 20000 < t.size) :
    Calls Tryd.prog 11 #[.string t] w fun e w' => e = .returned (.tuple #[.string ByteArray.empty, .bool false]) ∧ Below w.heap.size w w' := by
  have h' : (20000 : Int) < (t.size : Int) := by omega
  go_enter Tryd.func11, Tryd.ntmps11
  go_wp2
  go_ret2
  exact ⟨rfl, Below.refl _ _⟩
theorem specSealed_yes (t : ByteArray) (w : World) (hm : t.size ≤ 20000) :
    Calls Tryd.prog 17 #[.string t] w fun e w' => e = .returned (.tuple #[.string (sealOf t), .bool true]) ∧ Below w.heap.size w w' := by
  have h' : ¬ (20000 : Int) < (t.size : Int) := by omega
  have H : Hid _ := specSum_any t w (by omega)
  have hl := sumOf_lt t
  have hz := be4_size (sumOf t)
  go_enter Tryd.func17, Tryd.ntmps17
  go_wp2_with fail
  refine Calls.mono H.out ?_
  rintro e w1 ⟨rfl, rfl⟩
  go_wp2_with fail
  refine (specFour_any _ _ hl).mono ?_
  rintro e w1 ⟨rfl, hb⟩
  go_wp2
  go_ret2
  exact ⟨rfl, hb⟩
theorem specSealed_no (t : ByteArray) (w : World) (hm : t.size ≤ 1048576) (h : 20000 < t.size) :
    Calls Tryd.prog 17 #[.string t] w fun e w' => e = .returned (.tuple #[.string ByteArray.empty, .bool false]) ∧ Below w.heap.size w w' := by
  have h' : (20000 : Int) < (t.size : Int) := by omega
  go_enter Tryd.func17, Tryd.ntmps17
  go_wp2
  go_ret2
  exact ⟨rfl, Below.refl _ _⟩
end Go.Proofs.YtnfjeejchfohgaaDoor
