/- A text of what came (chapter 31): AckList of both sides. -/
import Derived.Test.YthjaeajhldjapaaAsc31
import Derived.Test.YthjaeajhldjapaaAppV
import Derived.WalkKit
import Derived.WalkLawsBesides
import Derived.WalkSpells
import Derived.OwnWalk
import Derived.PlainAid
namespace Go.Proofs.Ythjaeajhldjapaa
open Go.RowKit Go.PlainAid
set_option maxRecDepth 20000
set_option linter.unusedVariables false
def ackN (xs : List Int) (k : Nat) : List Int := vb xs.length ++ ((List.range k).map fun j => vb (xs.getD j 0).toNat).flatten
def ackT (xs : List Int) : ByteArray := if ackOk xs = true then strOfNums (ackN xs xs.length) else ByteArray.empty
theorem ackN_zero (xs : List Int) : ackN xs 0 = vb xs.length := by unfold ackN; simp
theorem ackN_succ (xs : List Int) (k : Nat) : ackN xs (k + 1) = ackN xs k ++ vb (xs.getD k 0).toNat := by
  unfold ackN
  rw [List.range_succ, List.map_append, List.flatten_append, ← List.append_assoc]
  simp
theorem ack_true {xs : List Int} (h : ackOk xs = true) : xs.length ≤ 100 ∧ (∀ j, j < xs.length → upAt xs j) ∧ allS xs = true ∧ ascB xs = true := by
  unfold ackOk at h
  rw [Bool.and_eq_true] at h
  have h1 := h.1
  rw [upB_two, Bool.and_eq_true] at h1
  exact ⟨of_decide_eq_true h.2, of_decide_eq_true h.1, h1.1, h1.2⟩
theorem ack_false {xs : List Int} (h : ackOk xs = false) : 100 < xs.length ∨ xs.length ≤ 100 ∧ allS xs = false ∨ xs.length ≤ 100 ∧ allS xs = true ∧ ascB xs = false := by
  unfold ackOk at h
  rw [upB_two] at h
  by_cases hl : xs.length ≤ 100
  · rw [decide_eq_true hl] at h
    cases h1 : allS xs with
    | false => exact .inr (.inl ⟨hl, rfl⟩)
    | true =>
      rw [h1] at h
      exact .inr (.inr ⟨hl, rfl, by simpa using h⟩)
  · exact .inl (by omega)
theorem ackN_len {xs : List Int} (hl : xs.length ≤ 100) (hu : ∀ j, j < xs.length → upAt xs j) : ∀ k, k ≤ xs.length → (ackN xs k).length ≤ 10 + 10 * k
  | 0, _ => by rw [ackN_zero]; have := vb_len10 xs.length (by omega); omega
  | k + 1, h => by
    rw [ackN_succ, List.length_append]
    have h1 := ackN_len hl hu k (by omega)
    have h2 := (hu k (by omega)).1
    have h3 := vb_len10 (xs.getD k 0).toNat (by omega)
    omega
set_option maxHeartbeats 800000 in
theorem specAck_no (a : Option Addr) (cap : Nat) (xs : List Int) (w : World) (hl : xs.length ≤ 1048576) (hr : RowI w.heap.size w a xs) (h : ackOk xs = false) :
    Calls Try.prog 5 #[.slice a xs.length cap] w fun e w' => e = .returned (.tuple #[.string ByteArray.empty, .bool false]) ∧ Below w.heap.size w w' := by
  have H : Hid _ := specUp_any a cap xs w hl hr
  rw [h] at H
  clear h hr
  go_enter Try.func5, Try.ntmps5
  go_wp2_with fail
  refine Calls.mono H.out ?_
  rintro e w1 ⟨rfl, hb⟩
  go_wp2
  go_ret2
  exact ⟨rfl, hb⟩
set_option maxHeartbeats 1600000 in
theorem specAck_yes (a : Option Addr) (cap : Nat) (xs : List Int) (w : World) (hr : RowI w.heap.size w a xs) (h : ackOk xs = true) :
    Calls Try.prog 5 #[.slice a xs.length cap] w fun e w' => e = .returned (.tuple #[.string (strOfNums (ackN xs xs.length)), .bool true]) ∧ Below w.heap.size w w' := by
  obtain ⟨hl, hu, -, -⟩ := ack_true h
  have H : Hid _ := specUp_any a cap xs w (by omega) hr
  rw [h] at H
  have HR : Hid (RowI w.heap.size w a xs) := hr
  have HU : Hid _ := hu
  have HL : Hid _ := ackN_len hl hu
  have HV : Hid (∀ (q : Nat) (wz : World), q ≤ 9223372036854775807 → _) := fun q wz hq => l01Var_any q wz hq
  have HZ : Hid (strOfNums (vb xs.length) = strOfNums (ackN xs 0)) := by show _ = _; rw [ackN_zero]
  clear h hr hu
  go_enter Try.func5, Try.ntmps5
  go_wp2_with fail
  refine Calls.mono H.out ?_
  rintro e w1 ⟨rfl, hb1⟩
  go_wp2_with fail
  refine Calls.mono (HV.out _ _ (by omega)) ?_
  rintro e w2 ⟨rfl, hb2⟩
  rw [HZ.out]
  have hB2 : Below w.heap.size w w2 := hb1.trans (hb2.mono hb1.size)
  clear hb1 hb2 H
  go_wp2
  go_loopw [4, 5] (fun s i wr => ∃ k : Nat, k ≤ xs.length ∧ s = .string (strOfNums (ackN xs k)) ∧ i = .int .i64 (k : Int) ∧ Below w.heap.size w wr)
    (fun _ i _ => xs.length - (intOf i).toNat)
  case atStart => exact ⟨0, Nat.zero_le _, rfl, rfl, hB2⟩
  case round =>
    obtain ⟨k, hk, rfl, rfl, hbel⟩ := hrel
    by_cases hlt : k < xs.length
    · obtain ⟨b, off, rfl⟩ := HR.out.addr hlt
      have c0 := (HR.out.at hbel hlt).2
      have hi0 : (0 : Int) ≤ (k : Int) := by omega
      have hi1 : (k : Int) < (xs.length : Int) := by omega
      have hin := (HU.out k hlt).1
      obtain ⟨q, hq⟩ := Int.eq_ofNat_of_zero_le hin.1
      have HE : Hid (strOfNums (ackN xs (k + 1)) = strOfNums (ackN xs k) ++ strOfNums (vb q)) := by
        show _ = _
        rw [ackN_succ, strApp, hq]; try rfl
      have z1 : (strOfNums (ackN xs k)).size ≤ 10 + 10 * k := by rw [strOfNums_size]; exact HL.out k hk
      have z2 : (strOfNums (vb q)).size ≤ 10 := by rw [strOfNums_size]; exact vb_len10 q (by omega)
      rw [hq] at c0
      have HVQ : Hid _ := fun wz => HV.out q wz (by omega)
      generalize strOfNums (vb q) = s2 at HE z2 HVQ
      generalize strOfNums (ackN xs k) = s1 at HE z1 ⊢
      clear hin hq
      go_wp2_with fail
      refine Calls.mono (HVQ.out _) ?_
      rintro e w3 ⟨rfl, hb3⟩
      have hB3 := hbel.trans (hb3.mono hbel.size)
      clear hb3 hbel c0
      go_wp2
      go_roundw
      case rel => exact ⟨k + 1, by omega, by rw [HE.out] <;> rfl, by go_num, hB3⟩
      case measure => simp [intOf]; omega
    · obtain rfl : k = xs.length := by omega
      go_wp2
      go_ret2
      exact ⟨rfl, hbel⟩
set_option maxHeartbeats 1600000 in
theorem implAck_no (a : Option Addr) (cap : Nat) (xs : List Int) (w : World) (hl : xs.length ≤ 1048576) (hr : RowI w.heap.size w a xs) (h : ackOk xs = false) :
    Calls Try.prog 7 #[.slice a xs.length cap] w fun e w' => e = .returned (.tuple #[.string ByteArray.empty, .bool false]) ∧ Below w.heap.size w w' := by
  have H1 : Hid _ := areSqs_any a cap xs w hl hr
  have H2 : Hid _ := asc_any a cap xs w hl hr
  have HQ := ack_false h
  clear h hr
  generalize allS xs = b1 at H1 HQ
  generalize ascB xs = b2 at H2 HQ
  rcases HQ with h | ⟨h, rfl⟩ | ⟨h, rfl, rfl⟩
  · have hq : (100 : Int) < ((xs.length : Nat) : Int) := by omega
    go_enter Try.func7, Try.ntmps7
    go_wp2
    go_ret2
    exact ⟨rfl, Below.refl _ _⟩
  · have hq : ¬ (100 : Int) < ((xs.length : Nat) : Int) := by omega
    go_enter Try.func7, Try.ntmps7
    go_wp2_with fail
    refine Calls.mono H1.out ?_
    rintro e w1 ⟨rfl, rfl⟩
    go_wp2
    go_ret2
    exact ⟨rfl, Below.refl _ _⟩
  · have hq : ¬ (100 : Int) < ((xs.length : Nat) : Int) := by omega
    go_enter Try.func7, Try.ntmps7
    go_wp2_with fail
    refine Calls.mono H1.out ?_
    rintro e w1 ⟨rfl, rfl⟩
    go_wp2_with fail
    refine Calls.mono H2.out ?_
    rintro e w2 ⟨rfl, hb⟩
    go_wp2
    go_ret2
    exact ⟨rfl, hb⟩
set_option maxHeartbeats 1600000 in
theorem implAck_yes (a : Option Addr) (cap : Nat) (xs : List Int) (w : World) (hr : RowI w.heap.size w a xs) (h : ackOk xs = true) :
    Calls Try.prog 7 #[.slice a xs.length cap] w fun e w' => e = .returned (.tuple #[.string (strOfNums (ackN xs xs.length)), .bool true]) ∧ Below w.heap.size w w' := by
  obtain ⟨hl, hu, hs1, hs2⟩ := ack_true h
  have H1 : Hid _ := areSqs_any a cap xs w (by omega) hr
  have H2 : Hid _ := asc_any a cap xs w (by omega) hr
  rw [hs1] at H1
  rw [hs2] at H2
  have HR : Hid (RowI w.heap.size w a xs) := hr
  have HU : Hid _ := hu
  have HL : Hid _ := ackN_len hl hu
  have hq : ¬ (100 : Int) < ((xs.length : Nat) : Int) := by omega
  clear h hr hu hs1 hs2
  go_enter Try.func7, Try.ntmps7
  go_wp2_with fail
  refine Calls.mono H1.out ?_
  rintro e w0 ⟨rfl, rfl⟩
  go_wp2_with fail
  refine Calls.mono H2.out ?_
  rintro e w1 ⟨rfl, hb1⟩
  have hs := hb1.size
  have HB1 : Hid _ := hb1
  clear H1 H2 hb1
  go_wp2_with fail
  refine Calls.mono (appV_any w1.heap.size (.slice none 0 0) [] xs.length w1 (by omega) (by simp) (Nat.le_refl _) (World.ownsRow_nil _ _ _ _)) ?_
  rintro e w2 ⟨v, rfl, ho, hg, hl2⟩
  rw [List.nil_append, ← ackN_zero] at ho
  have hB2 : Below w1.heap.size w1 w2 := (Below.refl _ _).grown hg (Nat.le_refl _) (by simp [Value.ownBlock])
  clear hg hl2
  go_wp2
  go_loopw [4, 25] (fun v i wr => ∃ k : Nat, k ≤ xs.length ∧ i = .int .i64 (k : Int) ∧ wr.ownsRow w1.heap.size 5 1 v (ackN xs k).length ((ackN xs k).map (Value.int .u8)) ∧ Below w1.heap.size w1 wr)
    (fun _ i _ => xs.length - (intOf i).toNat)
  case atStart => exact ⟨0, Nat.zero_le _, rfl, ho, hB2⟩
  case round =>
    obtain ⟨k, hk, rfl, hown, hbel⟩ := hrel
    have hsz := hbel.size
    have HO : Hid (World.ownsRow _ _ _ _ _ _ _) := hown
    clear hown
    by_cases hlt : k < xs.length
    · obtain ⟨b, off, rfl⟩ := HR.out.addr hlt
      have c0 := (HR.out.at (HB1.out.trans (hbel.mono hs)) hlt).2
      have hi0 : (0 : Int) ≤ (k : Int) := by omega
      have hi1 : (k : Int) < (xs.length : Int) := by omega
      have hin := (HU.out k hlt).1
      obtain ⟨q, hq2⟩ := Int.eq_ofNat_of_zero_le hin.1
      have HE : Hid (ackN xs (k + 1) = ackN xs k ++ vb q) := by
        show _ = _
        rw [ackN_succ, hq2]; try rfl
      have hln := HL.out k hk
      rw [hq2] at c0
      have hq9 : q ≤ 9999 := by omega
      clear hin hq2
      go_wp2_with fail
      refine Calls.mono (appV_any w1.heap.size _ _ q _ (by omega) (by omega) hsz HO.out) ?_
      rintro e w3 ⟨v', rfl, ho3, hg3, hl3⟩
      have hB3 : Below w1.heap.size w1 w3 := hbel.grown hg3 hsz (fun k hk => (HO.out.lt k hk).1)
      rw [← HE.out] at ho3
      clear hg3 hl3 hbel HO c0
      go_wp2
      go_roundw
      case rel => exact ⟨k + 1, by omega, by go_num, ho3, hB3⟩
      case measure => simp [intOf]; omega
    · obtain rfl : k = xs.length := by omega
      have hc := conv_own wr 33 9 5 Try.underlying33 Try.underlying5 Try.underlying9 (P := Try.prog) HO.out
      have HB4 : Hid (Below w.heap.size w wr) := HB1.out.trans (hbel.mono hs)
      clear HO hbel
      go_wp2
      go_ret2
      exact ⟨rfl, HB4.out⟩
theorem specAck_any (a : Option Addr) (cap : Nat) (xs : List Int) (w : World) (hl : xs.length ≤ 1048576) (hr : RowI w.heap.size w a xs) :
    Calls Try.prog 5 #[.slice a xs.length cap] w fun e w' => e = .returned (.tuple #[.string (ackT xs), .bool (ackOk xs)]) ∧ Below w.heap.size w w' := by
  cases h : ackOk xs with
  | false => rw [show ackT xs = ByteArray.empty from by unfold ackT; rw [if_neg (by rw [h]; simp)]]; exact specAck_no a cap xs w hl hr h
  | true => rw [show ackT xs = strOfNums (ackN xs xs.length) from by unfold ackT; rw [if_pos h]]; exact specAck_yes a cap xs w hr h
theorem implAck_any (a : Option Addr) (cap : Nat) (xs : List Int) (w : World) (hl : xs.length ≤ 1048576) (hr : RowI w.heap.size w a xs) :
    Calls Try.prog 7 #[.slice a xs.length cap] w fun e w' => e = .returned (.tuple #[.string (ackT xs), .bool (ackOk xs)]) ∧ Below w.heap.size w w' := by
  cases h : ackOk xs with
  | false => rw [show ackT xs = ByteArray.empty from by unfold ackT; rw [if_neg (by rw [h]; simp)]]; exact implAck_no a cap xs w hl hr h
  | true => rw [show ackT xs = strOfNums (ackN xs xs.length) from by unfold ackT; rw [if_pos h]]; exact implAck_yes a cap xs w hr h
end Go.Proofs.Ythjaeajhldjapaa
