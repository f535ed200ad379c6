/- The contracts of Unsealed (chapter 2). -/
import Derived.Test.YtnfjeejchfohgaaDoorProg
import Derived.Test.YtnfjeejchfohgaaDoorSealW
import Derived.Test.YtnfjeejchfohgaaDoorBytes
import Derived.Lib.Strings
import Derived.WalkKit
import Derived.WalkLawsBesides
import Derived.WalkSpells
import Derived.WideShapes
import Derived.Deep.RegionHeld3
import Derived.Deep.QuietTactic
import Derived.BigQuiet
namespace Go.Proofs.YtnfjeejchfohgaaDoor
open Go.RowKit Go.PlainAid

theorem below_drewN {B : Nat} {w w' : World} (h : Below B w w') (n : Nat) : Below B w (w'.drewN n) := ⟨h.os, h.tape, h.output, h.size, h.block⟩
theorem seal_size (t : ByteArray) : (sealOf t).size = t.size + 4 := by unfold sealOf; rw [sz_app, be4_size]
theorem seal_cut (u : ByteArray) : (sealOf u).extract 0 u.size = u := by
  apply Go.WideShapes.bytes_inj
  rw [Lib.extract_data]; unfold sealOf
  rw [dat_app, List.drop_zero, Nat.sub_zero, sz_len, List.take_left]
/-- A text of n + 4 bytes is the seal of its first n: its last four are those of the sum. -/
theorem seal_same {t : ByteArray} {n : Nat} (h : t.size = n + 4) : (sealOf (t.extract 0 n) = t ↔ t.extract n t.size = strOfNums (be4 (sumOf (t.extract 0 n)))) := by
  have hd := cut_all t n (by omega)
  constructor
  · intro e
    apply Go.WideShapes.bytes_inj
    have e2 : (sealOf (t.extract 0 n)).data.toList = t.data.toList := congrArg (fun c => c.data.toList) e
    rw [hd] at e2
    unfold sealOf at e2
    rw [dat_app] at e2
    exact (List.append_cancel_left e2).symm
  · intro e
    apply Go.WideShapes.bytes_inj
    unfold sealOf
    rw [dat_app, ← e, ← hd]

theorem implUn_short (t : ByteArray) (w : World) (h : t.size < 4) :
    Calls Tryd.prog 12 #[.string t] w fun e w' => e = .returned (.tuple #[.string ByteArray.empty, .bool false]) ∧ Below w.heap.size w w' := by
  have h' : (t.size : Int) < 4 := by omega
  go_enter Tryd.func12, Tryd.ntmps12
  go_wp2
  go_ret2
  exact ⟨rfl, Below.refl _ _⟩
theorem specUn_short (t : ByteArray) (w : World) (h : t.size < 4) :
    Calls Tryd.prog 18 #[.string t] w fun e w' => e = .returned (.tuple #[.string ByteArray.empty, .bool false]) ∧ Below w.heap.size w w' := by
  have h' : (t.size : Int) < 4 := by omega
  have hd : decide ((t.size : Int) - 4 < 0) = true := by simp; omega
  go_enter Tryd.func18, Tryd.ntmps18
  go_wp2
  go_quiet (fail)
  go_wp2
  go_ret2
  exact ⟨rfl, below_drewN (Below.refl _ _) _⟩
theorem implUn_long (t : ByteArray) (n : Nat) (w : World) (hm : t.size ≤ 1048576) (hn : t.size = n + 4) (h : 20000 < n) :
    Calls Tryd.prog 12 #[.string t] w fun e w' => e = .returned (.tuple #[.string ByteArray.empty, .bool false]) ∧ Below w.heap.size w w' := by
  have hz := cut_size t n (by omega)
  have hH : Hid _ := implSealed_no (t.extract 0 n) w (by omega) (by omega)
  have h0 : (t.size : Int) = (n : Int) + 4 := by omega
  have h1 : n ≤ t.size := by omega
  go_enter Tryd.func12, Tryd.ntmps12
  go_wp2_with fail
  refine Calls.mono hH.out ?_
  rintro e w1 ⟨rfl, hb⟩
  go_wp2
  go_ret2
  exact ⟨rfl, hb⟩
theorem specUn_long (t : ByteArray) (n : Nat) (w : World) (hm : t.size ≤ 1048576) (hn : t.size = n + 4) (h : 20000 < n) :
    Calls Tryd.prog 18 #[.string t] w fun e w' => e = .returned (.tuple #[.string ByteArray.empty, .bool false]) ∧ Below w.heap.size w w' := by
  have h0 : (t.size : Int) = (n : Int) + 4 := by omega
  have h1 : decide ((n : Int) < 0) = false := by simp
  have h2 : decide ((20000 : Int) < (n : Int)) = true := by simp; omega
  go_enter Tryd.func18, Tryd.ntmps18
  go_wp2
  go_quiet (fail)
  go_wp2
  go_ret2
  exact ⟨rfl, below_drewN (Below.refl _ _) _⟩

theorem implUn_good (t : ByteArray) (n : Nat) (w : World) (hn : t.size = n + 4) (h : n ≤ 20000) (he : sealOf (t.extract 0 n) = t) (ht : TabHere w) :
    Calls Tryd.prog 12 #[.string t] w fun e w' => e = .returned (.tuple #[.string (t.extract 0 n), .bool true]) ∧ Below w.heap.size w w' := by
  have hz := cut_size t n (by omega)
  have hH : Hid _ := implSealed_yes (t.extract 0 n) w (by omega) ht
  rw [he] at hH
  have h0 : (t.size : Int) = (n : Int) + 4 := by omega
  have h1 : n ≤ t.size := by omega
  clear he ht
  go_enter Tryd.func12, Tryd.ntmps12
  go_wp2_with fail
  refine Calls.mono hH.out ?_
  rintro e w1 ⟨rfl, hb⟩
  go_wp2
  go_ret2
  exact ⟨rfl, hb⟩
theorem implUn_bad (t : ByteArray) (n : Nat) (w : World) (hn : t.size = n + 4) (h : n ≤ 20000) (he : sealOf (t.extract 0 n) ≠ t) (ht : TabHere w) :
    Calls Tryd.prog 12 #[.string t] w fun e w' => e = .returned (.tuple #[.string ByteArray.empty, .bool false]) ∧ Below w.heap.size w w' := by
  have hz := cut_size t n (by omega)
  have hH : Hid _ := implSealed_yes (t.extract 0 n) w (by omega) ht
  have hq : ((sealOf (t.extract 0 n)).toList == t.toList) = false := by rw [eq_text, decide_eq_false he]
  have h0 : (t.size : Int) = (n : Int) + 4 := by omega
  have h1 : n ≤ t.size := by omega
  clear he ht
  go_enter Tryd.func12, Tryd.ntmps12
  go_wp2_with fail
  refine Calls.mono hH.out ?_
  rintro e w1 ⟨rfl, hb⟩
  go_wp2
  go_ret2
  exact ⟨rfl, hb⟩
theorem cut_from (t : ByteArray) (n : Nat) (hn : t.size = n + 4) : ∀ wx, (Instr.slice 9 (.string t) (some (.int .i64 (n : Int))) none none).run Tryd.prog wx = .ok (.string (t.extract n (n + 4))) wx := by
  intro wx
  rw [run_slice_string_from_if wx 9 t .i64 (n : Int) Tryd.underlying9, if_pos ⟨by omega, by omega⟩, hn]; rfl
theorem cut_to (t : ByteArray) (n : Nat) (hn : t.size = n + 4) : ∀ wx, (Instr.slice 9 (.string t) none (some (.int .i64 (n : Int))) none).run Tryd.prog wx = .ok (.string (t.extract 0 n)) wx := by
  intro wx
  rw [run_slice_string_to_if wx 9 t .i64 (n : Int) Tryd.underlying9, if_pos ⟨by omega, by omega⟩]; rfl
set_option maxHeartbeats 800000 in
theorem specUn_good (t : ByteArray) (n : Nat) (w : World) (hn : t.size = n + 4) (h : n ≤ 20000) (he : sealOf (t.extract 0 n) = t) :
    Calls Tryd.prog 18 #[.string t] w fun e w' => e = .returned (.tuple #[.string (t.extract 0 n), .bool true]) ∧ Below w.heap.size w w' := by
  have h0 : (t.size : Int) = (n : Int) + 4 := by omega
  have h1 : decide ((n : Int) < 0) = false := by simp
  have h2 : decide ((20000 : Int) < (n : Int)) = false := by simp; omega
  have hz := cut_size t n (by omega)
  have HM : Hid _ := fun wx => specSum_any (t.extract 0 n) wx (by omega)
  have hl := sumOf_lt (t.extract 0 n)
  have hq2 : ((t.extract n (n + 4)).toList == (strOfNums (be4 (sumOf (t.extract 0 n)))).toList) = true := by
    rw [eq_text]
    have := seal_same hn
    rw [hn] at this
    exact decide_eq_true (this.mp he)
  clear he
  have hsl := cut_from t n hn
  have hsr := cut_to t n hn
  go_enter Tryd.func18, Tryd.ntmps18
  go_wp2
  go_region_held3 (fun _ => True) (trivial) (first | (go_at_call 16; refine (HM.out _).mono ?_; rintro e w' ⟨rfl, rfl⟩) | (go_at_call 25; refine (specFour_any _ _ hl).mono ?_; rintro e w' ⟨rfl, hb⟩))
  have hB : Below w.heap.size w w' := (Below.refl w.heap.size w).drew.trans hb
  clear HM hb
  go_wp2
  go_ret2
  exact ⟨rfl, hB⟩
set_option maxHeartbeats 800000 in
theorem specUn_bad (t : ByteArray) (n : Nat) (w : World) (hn : t.size = n + 4) (h : n ≤ 20000) (he : sealOf (t.extract 0 n) ≠ t) :
    Calls Tryd.prog 18 #[.string t] w fun e w' => e = .returned (.tuple #[.string ByteArray.empty, .bool false]) ∧ Below w.heap.size w w' := by
  have h0 : (t.size : Int) = (n : Int) + 4 := by omega
  have h1 : decide ((n : Int) < 0) = false := by simp
  have h2 : decide ((20000 : Int) < (n : Int)) = false := by simp; omega
  have hz := cut_size t n (by omega)
  have HM : Hid _ := fun wx => specSum_any (t.extract 0 n) wx (by omega)
  have hl := sumOf_lt (t.extract 0 n)
  have hq2 : ((t.extract n (n + 4)).toList == (strOfNums (be4 (sumOf (t.extract 0 n)))).toList) = false := by
    rw [eq_text]
    have := seal_same hn
    rw [hn] at this
    exact decide_eq_false (fun h => he (this.mpr h))
  clear he
  have hsl := cut_from t n hn
  have hsr := cut_to t n hn
  go_enter Tryd.func18, Tryd.ntmps18
  go_wp2
  go_region_held3 (fun _ => True) (trivial) (first | (go_at_call 16; refine (HM.out _).mono ?_; rintro e w' ⟨rfl, rfl⟩) | (go_at_call 25; refine (specFour_any _ _ hl).mono ?_; rintro e w' ⟨rfl, hb⟩))
  have hB : Below w.heap.size w w' := (Below.refl w.heap.size w).drew.trans hb
  clear HM hb
  go_wp2
  go_ret2
  exact ⟨rfl, hB⟩
end Go.Proofs.YtnfjeejchfohgaaDoor
