/- The contracts of ShortText and ReadShort (chapter 1), and of strings.Clone. -/
import Derived.Test.YtiojbefgafekaaaReadW
import Derived.Test.YtiojbefgafekaaaShelf
import Derived.WalkKit
import Derived.WalkLawsBesides
import Derived.WalkSpells
namespace Go.Proofs.Ytiojbefgafekaaa
open Go.RowKit Go.PlainAid

/-- The length's bytes, and the text. -/
def shortOf (s : ByteArray) : ByteArray := strOfNums (vb s.size) ++ s

theorem strOfNums_vb_size (n : Nat) (h : n ≤ 9223372036854775807) : (strOfNums (vb n)).size ≤ 10 := by
  rw [strOfNums_size]; exact vb_len10 n h

theorem clone_any (s : ByteArray) (w : World) (hs : s.size ≤ 1048576) :
    Calls Try.prog 34 #[.string s] w fun e w' => e = .returned (.string s) ∧ Below w.heap.size w w' := by
  go_enter Try.func34, Try.ntmps34
  go_wp2_with (go_at_call 47; refine (Try.stringslite_Clone s _ (by omega)).mono ?_; rintro e w' ⟨rfl, hb⟩)
  go_ret
  exact ⟨rfl, hb⟩

/-- ReadShort's answer. -/
def RS (s : ByteArray) (a : Int) : Option (Nat × Nat) :=
  match RV s a with
  | none => none
  | some (n, k) => if n ≤ 20000 ∧ k + n.toNat ≤ s.size then some (k, k + n.toNat) else none

theorem specRS_none (s : ByteArray) (a : Int) (w : World) (hs : s.size ≤ 1048576) (h : RS s a = none) :
    Calls Try.prog 32 #[.string s, .int .i64 a] w fun e w' => e = .returned (.tuple #[.string ByteArray.empty, .int .i64 0, .bool false]) ∧ Below w.heap.size w w' := by
  unfold RS at h
  cases hv : RV s a with
  | none =>
    have HV : Hid (RV s a = none) := hv
    clear hv h
    go_enter Try.func32, Try.ntmps32
    go_wp2_with (go_at_call 31; refine (specRead_none s a _ hs HV.out).mono ?_; rintro e w' ⟨rfl, hb⟩)
    go_ret3
    exact ⟨rfl, hb⟩
  | some x =>
    obtain ⟨n, k⟩ := x
    rw [hv] at h
    have hbd := RV_bd hv
    have h2 : ¬ (n ≤ 20000 ∧ k + n.toNat ≤ s.size) := by
      intro hc; simp [hc] at h
    have HV : Hid (RV s a = some (n, k)) := hv
    clear hv h
    by_cases hn : n ≤ 20000
    · have hn' : ¬ 20000 < n := by omega
      have hl : (s.size : Int) - (k : Int) < n := by omega
      go_enter Try.func32, Try.ntmps32
      go_wp2_with (go_at_call 31; refine (specRead_some s a _ hs n k HV.out).mono ?_; rintro e w' ⟨rfl, hb⟩)
      go_ret3
      exact ⟨rfl, hb⟩
    · have hn' : 20000 < n := by omega
      go_enter Try.func32, Try.ntmps32
      go_wp2_with (go_at_call 31; refine (specRead_some s a _ hs n k HV.out).mono ?_; rintro e w' ⟨rfl, hb⟩)
      go_ret3
      exact ⟨rfl, hb⟩

theorem specRS_some (s : ByteArray) (a : Int) (w : World) (hs : s.size ≤ 1048576) (k j : Nat) (h : RS s a = some (k, j)) :
    Calls Try.prog 32 #[.string s, .int .i64 a] w fun e w' => e = .returned (.tuple #[.string (s.extract k j), .int .i64 j, .bool true]) ∧ Below w.heap.size w w' := by
  unfold RS at h
  cases hv : RV s a with
  | none => rw [hv] at h; simp at h
  | some x =>
    obtain ⟨n, k'⟩ := x
    rw [hv] at h
    have hbd := RV_bd hv
    by_cases hc : n ≤ 20000 ∧ k' + n.toNat ≤ s.size
    · simp only [hc, and_self, if_true, Option.some.injEq, Prod.mk.injEq] at h
      obtain ⟨rfl, rfl⟩ := h
      obtain ⟨m, rfl⟩ : ∃ m : Nat, n = (m : Int) := ⟨n.toNat, by omega⟩
      have HV : Hid (RV s a = some ((m : Int), k')) := hv
      simp only [Int.toNat_natCast] at hc ⊢
      have hn' : ¬ (20000 : Int) < (m : Int) := by omega
      have hl : ¬ ((s.size : Int) - (k' : Int) < (m : Int)) := by omega
      have e1 : ((k' : Int) + (m : Int)).toNat = k' + m := by omega
      clear hv
      go_enter Try.func32, Try.ntmps32
      go_wp2_with (go_at_call 31; refine (specRead_some s a _ hs (m : Int) k' HV.out).mono ?_; rintro e w' ⟨rfl, hb⟩)
      go_ret3
      exact ⟨by rfl, hb⟩
    · simp [hc] at h

theorem implRS_none (s : ByteArray) (a : Int) (w : World) (hs : s.size ≤ 1048576) (h : RS s a = none) :
    Calls Try.prog 46 #[.string s, .int .i64 a] w fun e w' => e = .returned (.tuple #[.string ByteArray.empty, .int .i64 0, .bool false]) ∧ Below w.heap.size w w' := by
  unfold RS at h
  cases hv : RV s a with
  | none =>
    have HV : Hid (RV s a = none) := hv
    clear hv h
    go_enter Try.func46, Try.ntmps46
    go_wp2_with (go_at_call 45; refine (implRead_none s a _ hs HV.out).mono ?_; rintro e w' ⟨rfl, rfl⟩)
    go_ret3
    exact ⟨rfl, Below.refl _ _⟩
  | some x =>
    obtain ⟨n, k⟩ := x
    rw [hv] at h
    have hbd := RV_bd hv
    have h2 : ¬ (n ≤ 20000 ∧ k + n.toNat ≤ s.size) := by
      intro hc; simp [hc] at h
    have HV : Hid (RV s a = some (n, k)) := hv
    clear hv h
    by_cases hn : n ≤ 20000
    · have hn' : ¬ 20000 < n := by omega
      have hl : (s.size : Int) - (k : Int) < n := by omega
      go_enter Try.func46, Try.ntmps46
      go_wp2_with (go_at_call 45; refine (implRead_some s a _ hs n k HV.out).mono ?_; rintro e w' ⟨rfl, rfl⟩)
      go_ret3
      exact ⟨rfl, Below.refl _ _⟩
    · have hn' : 20000 < n := by omega
      go_enter Try.func46, Try.ntmps46
      go_wp2_with (go_at_call 45; refine (implRead_some s a _ hs n k HV.out).mono ?_; rintro e w' ⟨rfl, rfl⟩)
      go_ret3
      exact ⟨rfl, Below.refl _ _⟩

theorem implRS_some (s : ByteArray) (a : Int) (w : World) (hs : s.size ≤ 1048576) (k j : Nat) (h : RS s a = some (k, j)) :
    Calls Try.prog 46 #[.string s, .int .i64 a] w fun e w' => e = .returned (.tuple #[.string (s.extract k j), .int .i64 j, .bool true]) ∧ Below w.heap.size w w' := by
  unfold RS at h
  cases hv : RV s a with
  | none => rw [hv] at h; simp at h
  | some x =>
    obtain ⟨n, k'⟩ := x
    rw [hv] at h
    have hbd := RV_bd hv
    by_cases hc : n ≤ 20000 ∧ k' + n.toNat ≤ s.size
    · simp only [hc, and_self, if_true, Option.some.injEq, Prod.mk.injEq] at h
      obtain ⟨rfl, rfl⟩ := h
      obtain ⟨m, rfl⟩ : ∃ m : Nat, n = (m : Int) := ⟨n.toNat, by omega⟩
      have HV : Hid (RV s a = some ((m : Int), k')) := hv
      simp only [Int.toNat_natCast] at hc ⊢
      have hn' : ¬ (20000 : Int) < (m : Int) := by omega
      have hl : ¬ ((s.size : Int) - (k' : Int) < (m : Int)) := by omega
      have e1 : ((k' : Int) + (m : Int)).toNat = k' + m := by omega
      clear hv
      go_enter Try.func46, Try.ntmps46
      have hx : (s.extract k' (k' + m)).size ≤ 1048576 := by simp; omega
      go_wp2_with (first | (go_at_call 45; refine (implRead_some s a _ hs (m : Int) k' HV.out).mono ?_; rintro e w' ⟨rfl, rfl⟩) | (go_at_call 34; refine (clone_any _ _ hx).mono ?_; rintro e w' ⟨rfl, hb⟩))
      go_ret3
      exact ⟨by rfl, hb⟩
    · simp [hc] at h
end Go.Proofs.Ytiojbefgafekaaa
