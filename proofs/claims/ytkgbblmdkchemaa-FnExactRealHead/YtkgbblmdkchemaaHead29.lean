/- What a record of bytes shows in the clear (chapter 29): RealHead of both sides. -/
import Derived.Test.YtkgbblmdkchemaaBytes
import Derived.Test.YtkgbblmdkchemaaIn01
import Derived.WalkKit
import Derived.WalkLawsBesides
import Derived.WalkSpells
namespace Go.Proofs.Ytkgbblmdkchemaa
open Go.RowKit Go.PlainAid
set_option maxRecDepth 20000
set_option linter.unusedVariables false
def hdOk (t : ByteArray) : Bool := decide (20 ≤ t.size ∧ 32 ≤ bt t 0 ∧ bt t 0 ≤ 35)
def hdE (t : ByteArray) : Int := if hdOk t = true then bt t 0 - 32 else 0
def hdC (t : ByteArray) : Int := if hdOk t = true then bt t 1 else 0
theorem hd_no {t : ByteArray} (h : ¬ (20 ≤ t.size ∧ 32 ≤ bt t 0 ∧ bt t 0 ≤ 35)) : hdOk t = false ∧ hdE t = 0 ∧ hdC t = 0 := by
  have h1 : hdOk t = false := decide_eq_false h
  refine ⟨h1, ?_, ?_⟩
  · unfold hdE; rw [h1]; rfl
  · unfold hdC; rw [h1]; rfl
theorem hd_yes {t : ByteArray} (h : 20 ≤ t.size ∧ 32 ≤ bt t 0 ∧ bt t 0 ≤ 35) : hdOk t = true ∧ hdE t = bt t 0 - 32 ∧ hdC t = bt t 1 := by
  have h1 : hdOk t = true := decide_eq_true h
  refine ⟨h1, ?_, ?_⟩
  · unfold hdE; rw [h1]; rfl
  · unfold hdC; rw [h1]; rfl
set_option maxHeartbeats 1000000 in
theorem implHead_any (t : ByteArray) (w : World) :
    Calls Try.prog 11 #[.string t] w fun e w' => e = .returned (.tuple #[.int .i64 (hdE t), .int .i64 (hdC t), .bool (hdOk t)]) ∧ Below w.heap.size w w' := by
  have hg := get_bt t
  have b0 := bt_nonneg t 0
  have b1 := bt_le t 0
  have b2 := bt_nonneg t 1
  have b3 := bt_le t 1
  by_cases h20 : t.size < 20
  · have HE : Hid _ := hd_no (t := t) (by omega)
    have hi : ((t.size : Nat) : Int) < 20 := by omega
    go_enter Try.func11, Try.ntmps11
    go_wp2
    go_ret3
    exact ⟨by rw [HE.out.1, HE.out.2.1, HE.out.2.2]; rfl, Below.refl _ _⟩
  have hi : ¬ ((t.size : Nat) : Int) < 20 := by omega
  have i0 : (0 : Int) < (t.size : Int) := by omega
  have i1 : (1 : Int) < (t.size : Int) := by omega
  by_cases h1 : bt t 0 < 32
  · have HE : Hid _ := hd_no (t := t) (by omega)
    go_enter Try.func11, Try.ntmps11
    go_wp2
    go_ret3
    exact ⟨by rw [HE.out.1, HE.out.2.1, HE.out.2.2]; rfl, Below.refl _ _⟩
  by_cases h2 : bt t 0 < 36
  · have HE : Hid _ := hd_yes (t := t) (by omega)
    have hw : IntKind.u8.wrap (bt t 0 - 32) = bt t 0 - 32 := by rw [IntKind.wrap_u8]; omega
    have hm : (bt t 0 - 32) % 256 = bt t 0 - 32 := by omega
    have h3 : ¬ 36 ≤ bt t 0 := by omega
    go_enter Try.func11, Try.ntmps11
    go_wp2
    go_region
    all_goals
      go_wp2
      go_ret3
      exact ⟨by rw [HE.out.1, HE.out.2.1, HE.out.2.2]; first | rfl | rw [hm] | simp [hm], (Below.refl _ _).drew⟩
  · have HE : Hid _ := hd_no (t := t) (by omega)
    have h3 : 36 ≤ bt t 0 := by omega
    go_enter Try.func11, Try.ntmps11
    go_wp2
    go_ret3
    exact ⟨by rw [HE.out.1, HE.out.2.1, HE.out.2.2]; rfl, Below.refl _ _⟩
set_option maxHeartbeats 1000000 in
theorem specHead_any (t : ByteArray) (w : World) :
    Calls Try.prog 10 #[.string t] w fun e w' => e = .returned (.tuple #[.int .i64 (hdE t), .int .i64 (hdC t), .bool (hdOk t)]) ∧ Below w.heap.size w w' := by
  have hg := get_bt t
  have b0 := bt_nonneg t 0
  have b1 := bt_le t 0
  have b2 := bt_nonneg t 1
  have b3 := bt_le t 1
  by_cases h20 : t.size < 20
  · have HE : Hid _ := hd_no (t := t) (by omega)
    have hi : ((t.size : Nat) : Int) < 20 := by omega
    go_enter Try.func10, Try.ntmps10
    go_wp2
    go_ret3
    exact ⟨by rw [HE.out.1, HE.out.2.1, HE.out.2.2]; rfl, Below.refl _ _⟩
  have hi : ¬ ((t.size : Nat) : Int) < 20 := by omega
  have i0 : (0 : Int) < (t.size : Int) := by omega
  have i1 : (1 : Int) < (t.size : Int) := by omega
  have hw : IntKind.i64.wrap (bt t 0 - 32) = bt t 0 - 32 := by rw [IntKind.wrap_i64]; omega
  by_cases h1 : 32 ≤ bt t 0 ∧ bt t 0 ≤ 35
  · have HE : Hid _ := hd_yes (t := t) (by omega)
    have HC : Hid _ := specInN_yes (bt t 0) 32 35 w h1
    clear h1
    go_enter Try.func10, Try.ntmps10
    go_wp2_with fail
    refine Calls.mono HC.out ?_
    rintro e w1 ⟨rfl, rfl⟩
    go_wp2
    go_region
    all_goals
      go_wp2
      go_ret3
      exact ⟨by rw [HE.out.1, HE.out.2.1, HE.out.2.2]; first | rfl | simp, (Below.refl _ _).drew⟩
  · have HE : Hid _ := hd_no (t := t) (by omega)
    have HC : Hid _ := specInN_no (bt t 0) 32 35 w h1
    clear h1
    go_enter Try.func10, Try.ntmps10
    go_wp2_with fail
    refine Calls.mono HC.out ?_
    rintro e w1 ⟨rfl, rfl⟩
    go_wp2
    go_ret3
    exact ⟨by rw [HE.out.1, HE.out.2.1, HE.out.2.2]; rfl, Below.refl _ _⟩
end Go.Proofs.Ytkgbblmdkchemaa
