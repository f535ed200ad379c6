/- Lists of numbers that ascend (chapter 31): l31Up of the specification, areSeqs and isAscending of the program. -/
import Derived.Test.YthjaeajhldjapaaSeq31
import Derived.Test.YthjaeajhldjapaaIn01
import Derived.Test.YthjaeajhldjapaaHeldQ
import Derived.WalkKit
import Derived.WalkLawsBesides
import Derived.WalkSpells
import Derived.Deep.Cut
namespace Go.Proofs.Ythjaeajhldjapaa
open Go.RowKit
set_option maxRecDepth 20000
set_option linter.unusedVariables false
abbrev upAt (xs : List Int) (j : Nat) : Prop := (0 ≤ xs.getD j 0 ∧ xs.getD j 0 ≤ 9999) ∧ (0 < j → xs.getD (j - 1) 0 < xs.getD j 0)
def upB (xs : List Int) : Bool := decide (∀ j, j < xs.length → upAt xs j)
def ackOk (xs : List Int) : Bool := upB xs && decide (xs.length ≤ 100)
def ascB (xs : List Int) : Bool := decide (∀ j, j < xs.length → 0 < j → xs.getD (j - 1) 0 < xs.getD j 0)
theorem upB_two (xs : List Int) : upB xs = (allS xs && ascB xs) := by
  rw [Bool.eq_iff_iff, Bool.and_eq_true, allS_iff]
  unfold upB ascB
  rw [decide_eq_true_iff, decide_eq_true_iff]
  constructor
  · intro h
    exact ⟨fun j hj => (okS_iff _).2 (h j hj).1, fun j hj h0 => (h j hj).2 h0⟩
  · intro ⟨h1, h2⟩ j hj
    exact ⟨(okS_iff _).1 (h1 j hj), fun h0 => h2 j hj h0⟩
theorem up_no {xs : List Int} {k : Nat} (hk : k < xs.length) (h : ¬ upAt xs k) : ackOk xs = false := by
  unfold ackOk upB
  rw [decide_eq_false (fun hh => h (hh k hk))]
  rfl
theorem up_all {xs : List Int} (h : ∀ j, j < xs.length → upAt xs j) : ackOk xs = decide (xs.length ≤ 100) := by
  unfold ackOk upB
  rw [decide_eq_true h]
  rfl
set_option maxHeartbeats 3200000 in
theorem specUp_any (a : Option Addr) (cap : Nat) (xs : List Int) (w : World) (hl : xs.length ≤ 1048576) (hr : RowI w.heap.size w a xs) :
    Calls Try.prog 13 #[.slice a xs.length cap] w fun e w' => e = .returned (.bool (ackOk xs)) ∧ Below w.heap.size w w' := by
  have HR : Hid (RowI w.heap.size w a xs) := hr
  clear hr
  go_enter Try.func13, Try.ntmps13
  go_wp2
  go_loopw [3] (fun i wr => ∃ k : Nat, k ≤ xs.length ∧ i = .int .i64 (k : Int) ∧ Hid (∀ j, j < k → upAt xs j) ∧ Below w.heap.size w wr)
    (fun i _ => xs.length - (intOf i).toNat)
  case atStart => exact ⟨0, Nat.zero_le _, rfl, fun j hj => absurd hj (by omega), Below.refl _ _⟩
  case round =>
    obtain ⟨k, hk, rfl, HA, hbel⟩ := hrel
    by_cases hlt : k < xs.length
    · obtain ⟨b, off, rfl⟩ := HR.out.addr hlt
      have hi0 : (0 : Int) ≤ (k : Int) := by omega
      have hi1 : (k : Int) < (xs.length : Int) := by omega
      have HX : Hid (¬ upAt xs k → ackOk xs = false) := fun h => up_no hlt h
      have HN : Hid (upAt xs k → ∀ j, j < k + 1 → upAt xs j) := fun h j hj => by
        by_cases e : j = k
        · subst e; exact h
        · exact HA.out j (by omega)
      obtain ⟨S, hS0, hNE, q0, q1, HK⟩ : ∃ S : World → Prop, S wr.drew ∧ Nonempty (Hw S) ∧ (∀ s : Hw S, s.w.cell? ⟨b, off + k, none⟩ = some (.int .i64 (xs.getD k 0))) ∧ (∀ s : Hw S, 0 < k → s.w.cell? ⟨b, off + (k - 1), none⟩ = some (.int .i64 (xs.getD (k - 1) 0))) ∧ Hid (∀ w', S w' → Below w.heap.size w w') :=
        ⟨fun w' => Below w.heap.size w w', hbel.drew, ⟨⟨_, hbel.drew⟩⟩, fun s => (HR.out.at s.ok hlt).2, fun s h0 => (HR.out.at s.ok (show k - 1 < xs.length by omega)).2, fun w' h => h⟩
      by_cases hin : 0 ≤ xs.getD k 0 ∧ xs.getD k 0 ≤ 9999
      · have HI : Hid (∀ wz, _) := fun wz => specInN_yes (xs.getD k 0) 0 9999 wz hin
        by_cases h0 : k = 0
        · subst h0
          have HN2 := HN.out ⟨hin, fun h => absurd h (by omega)⟩
          generalize xs.getD 0 0 = y at q0 HI
          rw [Nat.add_zero] at q0
          clear q1 HX HN hin
          go_upto_region 4 with fail
          refine wp_region_held (S := S) (by kernel_rfl) (by kernel_rfl) hS0 ?_
          repeat (go_big_quiet_step (first | (go_at_call 20; with_reducible exact Calls.heldSame (HI.out _)) | fail))
          refine wpQuiet_nil ?_
          rintro _ ⟨sw, rfl⟩
          have hb2 := HK.out _ sw.ok
          clear HK hS0 q0
          go_wp2
          go_roundw
          case rel => exact ⟨1, by omega, by go_num, HN2, hb2⟩
          case measure => simp [intOf]; omega
        · obtain ⟨m, rfl⟩ : ∃ m, k = m + 1 := ⟨k - 1, by omega⟩
          have q2 : ∀ s : Hw S, s.w.cell? ⟨b, off + m, none⟩ = some (.int .i64 (xs.getD m 0)) := fun s => q1 s (by omega)
          have hw : IntKind.i64.wrap ((m : Int) + 1 - 1) = (m : Int) := by rw [IntKind.wrap_i64]; omega
          have hm0 : (0 : Int) ≤ (m : Int) := by omega
          have hm1 : (m : Int) < (xs.length : Int) := by omega
          have hpos : (0 : Int) < (m : Int) + 1 := by omega
          clear q1
          by_cases hlt2 : xs.getD m 0 < xs.getD (m + 1) 0
          · have HN2 := HN.out ⟨hin, fun _ => hlt2⟩
            generalize xs.getD (m + 1) 0 = y at q0 HI hlt2
            generalize xs.getD m 0 = p at q2 hlt2
            have hge : ¬ p ≥ y := by omega
            clear HX HN hin
            go_upto_region 4 with fail
            refine wp_region_held (S := S) (by kernel_rfl) (by kernel_rfl) hS0 ?_
            repeat (go_big_quiet_step (first | (go_at_call 20; with_reducible exact Calls.heldSame (HI.out _)) | fail))
            refine wpQuiet_nil ?_
            rintro _ ⟨sw, rfl⟩
            have hb2 := HK.out _ sw.ok
            clear HK hS0 q0 q2
            go_wp2
            go_roundw
            case rel => exact ⟨m + 1 + 1, by omega, by go_num, HN2, hb2⟩
            case measure => simp [intOf]; omega
          · have hX := HX.out (fun h => hlt2 (h.2 (by omega)))
            have HX2 : Hid _ := hX
            generalize xs.getD (m + 1) 0 = y at q0 HI hlt2
            generalize xs.getD m 0 = p at q2 hlt2
            have hge : p ≥ y := by omega
            clear HX HN hin hX
            go_upto_region 4 with fail
            refine wp_region_held (S := S) (by kernel_rfl) (by kernel_rfl) hS0 ?_
            repeat (go_big_quiet_step (first | (go_at_call 20; with_reducible exact Calls.heldSame (HI.out _)) | fail))
            refine wpQuiet_nil ?_
            rintro _ ⟨sw, rfl⟩
            have hb2 := HK.out _ sw.ok
            clear HK hS0 q0 q2
            go_wp2
            go_ret
            exact ⟨by rw [HX2.out]; rfl, hb2⟩
      · have HI : Hid (∀ wz, _) := fun wz => specInN_no (xs.getD k 0) 0 9999 wz hin
        have HX2 : Hid _ := HX.out (fun h => hin h.1)
        generalize xs.getD k 0 = y at q0 HI
        clear q1 HX HN hin
        go_upto_region 4 with fail
        refine wp_region_held (S := S) (by kernel_rfl) (by kernel_rfl) hS0 ?_
        repeat (go_big_quiet_step (first | (go_at_call 20; with_reducible exact Calls.heldSame (HI.out _)) | fail))
        refine wpQuiet_nil ?_
        rintro _ ⟨sw, rfl⟩
        have hb2 := HK.out _ sw.ok
        clear HK hS0 q0
        go_wp2
        go_ret
        exact ⟨by rw [HX2.out]; rfl, hb2⟩
    · obtain rfl : k = xs.length := by omega
      have HE : Hid (ackOk xs = decide (xs.length ≤ 100)) := up_all HA.out
      by_cases hh : xs.length ≤ 100
      · have hh2 : ((xs.length : Nat) : Int) ≤ 100 := by omega
        go_wp2
        go_ret
        exact ⟨by rw [HE.out, decide_eq_true hh]; first | rfl | (rw [decide_eq_true hh2]; rfl), hbel⟩
      · have hh2 : ¬ ((xs.length : Nat) : Int) ≤ 100 := by omega
        go_wp2
        go_ret
        exact ⟨by rw [HE.out, decide_eq_false hh]; first | rfl | (rw [decide_eq_false hh2]; rfl), hbel⟩
end Go.Proofs.Ythjaeajhldjapaa
