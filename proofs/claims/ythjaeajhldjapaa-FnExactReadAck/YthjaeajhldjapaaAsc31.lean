/- The program's isAscending (chapter 31). -/
import Derived.Test.YthjaeajhldjapaaUp31
import Derived.WalkKit
import Derived.WalkLawsBesides
import Derived.WalkSpells
import Derived.Deep.Cut
namespace Go.Proofs.Ythjaeajhldjapaa
open Go.RowKit
set_option maxRecDepth 20000
set_option linter.unusedVariables false
theorem asc_no {xs : List Int} {k : Nat} (hk : k < xs.length) (h0 : 0 < k) (h : ¬ xs.getD (k - 1) 0 < xs.getD k 0) : ascB xs = false := decide_eq_false (fun hh => h (hh k hk h0))
set_option maxHeartbeats 3200000 in
theorem asc_any (a : Option Addr) (cap : Nat) (xs : List Int) (w : World) (hl : xs.length ≤ 1048576) (hr : RowI w.heap.size w a xs) :
    Calls Try.prog 16 #[.slice a xs.length cap] w fun e w' => e = .returned (.bool (ascB xs)) ∧ Below w.heap.size w w' := by
  have HR : Hid (RowI w.heap.size w a xs) := hr
  clear hr
  go_enter Try.func16, Try.ntmps16
  go_wp2
  go_loopw [3] (fun i wr => ∃ m : Nat, m ≤ xs.length ∧ i = .int .i64 ((m : Int) + 1) ∧ Hid (∀ j, j < m + 1 → j < xs.length → 0 < j → xs.getD (j - 1) 0 < xs.getD j 0) ∧ Below w.heap.size w wr)
    (fun i _ => xs.length + 1 - (intOf i).toNat)
  case atStart => exact ⟨0, Nat.zero_le _, rfl, fun j hj _ h0 => absurd hj (by omega), Below.refl _ _⟩
  case round =>
    obtain ⟨m, hk, rfl, HA, hbel⟩ := hrel
    by_cases hlt : m + 1 < xs.length
    · obtain ⟨b, off, rfl⟩ := HR.out.addr hlt
      have hi0 : (0 : Int) ≤ (m : Int) + 1 := by omega
      have hi1 : (m : Int) + 1 < (xs.length : Int) := by omega
      have hm0 : (0 : Int) ≤ (m : Int) := by omega
      have hm1 : (m : Int) < (xs.length : Int) := by omega
      have hw : IntKind.i64.wrap ((m : Int) + 1 - 1) = (m : Int) := by rw [IntKind.wrap_i64]; omega
      have ht : ((m : Int) + 1).toNat = m + 1 := by omega
      obtain ⟨S, hS0, hNE, q0, q2, HK⟩ : ∃ S : World → Prop, S wr.drew ∧ Nonempty (Hw S) ∧ (∀ s : Hw S, s.w.cell? ⟨b, off + (m + 1), none⟩ = some (.int .i64 (xs.getD (m + 1) 0))) ∧ (∀ s : Hw S, s.w.cell? ⟨b, off + m, none⟩ = some (.int .i64 (xs.getD m 0))) ∧ Hid (∀ w', S w' → Below w.heap.size w w') :=
        ⟨fun w' => Below w.heap.size w w', hbel.drew, ⟨⟨_, hbel.drew⟩⟩, fun s => (HR.out.at s.ok hlt).2, fun s => (HR.out.at s.ok (show m < xs.length by omega)).2, fun w' h => h⟩
      have HX : Hid (¬ xs.getD m 0 < xs.getD (m + 1) 0 → ascB xs = false) := fun h => asc_no hlt (by omega) h
      have HN : Hid (xs.getD m 0 < xs.getD (m + 1) 0 → ∀ j, j < m + 1 + 1 → j < xs.length → 0 < j → xs.getD (j - 1) 0 < xs.getD j 0) := fun h j hj hj2 h0 => by
        by_cases e : j = m + 1
        · subst e; exact h
        · exact HA.out j (by omega) hj2 h0
      by_cases hlt2 : xs.getD m 0 < xs.getD (m + 1) 0
      · have HN2 := HN.out hlt2
        generalize xs.getD (m + 1) 0 = y at q0 hlt2
        generalize xs.getD m 0 = p at q2 hlt2
        have hge : ¬ p ≥ y := by omega
        clear HX HN
        go_upto_region 4 with fail
        refine wp_region_held (S := S) (by kernel_rfl) (by kernel_rfl) hS0 ?_
        repeat (go_big_quiet_step (fail))
        refine wpQuiet_nil ?_
        rintro _ ⟨sw, rfl⟩
        have hb2 := HK.out _ sw.ok
        clear HK hS0 q0 q2
        go_wp2
        go_roundw
        case rel => exact ⟨m + 1, by omega, by go_num, HN2, hb2⟩
        case measure => simp [intOf]; omega
      · have HX2 : Hid _ := HX.out hlt2
        generalize xs.getD (m + 1) 0 = y at q0 hlt2
        generalize xs.getD m 0 = p at q2 hlt2
        have hge : p ≥ y := by omega
        clear HX HN
        go_upto_region 4 with fail
        refine wp_region_held (S := S) (by kernel_rfl) (by kernel_rfl) hS0 ?_
        repeat (go_big_quiet_step (fail))
        refine wpQuiet_nil ?_
        rintro _ ⟨sw, rfl⟩
        have hb2 := HK.out _ sw.ok
        clear HK hS0 q0 q2
        go_wp2
        go_ret
        exact ⟨by rw [HX2.out]; rfl, hb2⟩
    · have HE : Hid (ascB xs = true) := decide_eq_true (fun j hj h0 => HA.out j (by omega) hj h0)
      have hi1 : ¬ (m : Int) + 1 < (xs.length : Int) := by omega
      go_wp2
      go_ret
      exact ⟨by rw [HE.out]; rfl, hbel⟩
end Go.Proofs.Ythjaeajhldjapaa
