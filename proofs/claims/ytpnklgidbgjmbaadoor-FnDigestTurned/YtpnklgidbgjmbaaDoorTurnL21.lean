/- A drawn text, and one with a byte turned (the laws of chapter 21): DrawTextOf, turned. -/
import Derived.Test.YtpnklgidbgjmbaaDoorCodeW
import Derived.Test.YtpnklgidbgjmbaaDoorCurW
import Derived.Test.YtpnklgidbgjmbaaDoorRowC
import Derived.Test.YtpnklgidbgjmbaaDoorPad21
import Derived.WalkKit
import Derived.WalkLawsBesides
import Derived.WalkSpells
import Derived.BigRegion
namespace Go.Proofs.YtpnklgidbgjmbaaDoor
open Go.RowKit Go.PlainAid
set_option maxRecDepth 20000
set_option linter.unusedVariables false
theorem grownThen21 {w w1 w2 : World} {r : Option Nat} (h : Below w.heap.size w w1) (h2 : w1.grownBy w2 r) : w.grownBy w2 r :=
  ⟨h2.os.trans h.os, h2.tape.trans h.tape, h2.output.trans h.output, Nat.le_trans h.size h2.size, fun k hk hne => (h2.block k (Nat.lt_of_lt_of_le hk h.size) hne).trans (h.block k hk)⟩
theorem grownTwice21 {w w1 w2 : World} {r : Option Nat} (h : w.grownBy w1 r) (h2 : w1.grownBy w2 r) : w.grownBy w2 r :=
  ⟨h2.os.trans h.os, h2.tape.trans h.tape, h2.output.trans h.output, Nat.le_trans h.size h2.size, fun k hk hne => (h2.block k (Nat.lt_of_lt_of_le hk h.size) hne).trans (h.block k hk hne)⟩
set_option maxHeartbeats 800000 in
theorem some21_any (B g : Nat) (w : World) (hc : Cur B w g) :
    Calls Tryd.prog 36 #[.pointer (some ⟨g, 0, none⟩)] w fun e w' => ∃ s : ByteArray, e = .returned (.string s) ∧ s.size ≤ 200 ∧ Cur B w' g ∧ w.grownBy w' (some g) := by
  have hgl : g < w.heap.size := hc.2.1
  have hrow := heap_alloc_new w (.cells #[.int .i64 0, .int .i64 1, .int .i64 3, .int .i64 9, .int .i64 54, .int .i64 55, .int .i64 56, .int .i64 63, .int .i64 64, .int .i64 65, .int .i64 119, .int .i64 120, .int .i64 200] 3)
  have hbA : Below w.heap.size w (w.alloc (.cells #[.int .i64 0, .int .i64 1, .int .i64 3, .int .i64 9, .int .i64 54, .int .i64 55, .int .i64 56, .int .i64 63, .int .i64 64, .int .i64 65, .int .i64 119, .int .i64 120, .int .i64 200] 3)) := (Below.refl _ _).alloc (Nat.le_refl _) _
  have hc2 : Cur B (w.alloc (.cells #[.int .i64 0, .int .i64 1, .int .i64 3, .int .i64 9, .int .i64 54, .int .i64 55, .int .i64 56, .int .i64 63, .int .i64 64, .int .i64 65, .int .i64 119, .int .i64 120, .int .i64 200] 3)) g := hc.grown hbA
  have HCL : Hid (∀ i, i < 13 → (w.alloc (.cells #[.int .i64 0, .int .i64 1, .int .i64 3, .int .i64 9, .int .i64 54, .int .i64 55, .int .i64 56, .int .i64 63, .int .i64 64, .int .i64 65, .int .i64 119, .int .i64 120, .int .i64 200] 3)).cell? ⟨w.heap.size, i, none⟩ = some (.int .i64 (([0, 1, 3, 9, 54, 55, 56, 63, 64, 65, 119, 120, 200] : List Int).getD i 0))) := fun i hi => by
    rw [cell_of_row _ _ i _ _ _ hrow]
    rcases (show i = 0 ∨ i = 1 ∨ i = 2 ∨ i = 3 ∨ i = 4 ∨ i = 5 ∨ i = 6 ∨ i = 7 ∨ i = 8 ∨ i = 9 ∨ i = 10 ∨ i = 11 ∨ i = 12 by omega) with rfl | rfl | rfl | rfl | rfl | rfl | rfl | rfl | rfl | rfl | rfl | rfl | rfl <;> rfl
  clear hrow hc
  go_enter Tryd.func36, Tryd.ntmps36
  go_wp2_with fail
  generalize w.alloc (.cells #[.int .i64 0, .int .i64 1, .int .i64 3, .int .i64 9, .int .i64 54, .int .i64 55, .int .i64 56, .int .i64 63, .int .i64 64, .int .i64 65, .int .i64 119, .int .i64 120, .int .i64 200] 3) = w2 at hc2 hbA HCL ⊢
  refine (pickInt_any B g w.heap.size 13 _ [0, 1, 3, 9, 54, 55, 56, 63, 64, 65, 119, 120, 200] _ (by omega) (by omega) rfl (by omega) HCL.out hc2).mono ?_
  rintro e w3 ⟨z, hz, rfl, hc3, hg3⟩
  have hbz : 0 ≤ z ∧ z ≤ 200 := by simp at hz; omega
  have HG3 : Hid (w.grownBy w3 (some g)) := grownThen21 hbA hg3
  clear hz HCL hc2 hbA hg3
  obtain ⟨k, rfl⟩ : ∃ k : Nat, z = (k : Int) := ⟨z.toNat, by omega⟩
  go_wp2_with fail
  refine (text_any B g k _ (by omega) hc3).mono ?_
  rintro e w4 ⟨s, rfl, hs, hc4, hg4⟩
  have HG4 : Hid (w.grownBy w4 (some g)) := grownTwice21 HG3.out hg4
  clear hg4 hc3
  go_wp2
  go_ret
  exact ⟨s, rfl, by omega, hc4, HG4.out⟩
theorem drawText_any (a : Option Addr) (len cap : Nat) (w : World) (hc : CodeIn w.heap.size w a len) :
    Calls Tryd.prog 14 #[.slice a len cap] w fun e w' => ∃ s : ByteArray, e = .returned (.string s) ∧ s.size ≤ 200 ∧ Below w.heap.size w w' := by
  go_enter Tryd.func14, Tryd.ntmps14
  go_wp2_with fail
  refine (new_any a len cap _ hc).mono ?_
  rintro e w1 ⟨g, rfl, hc1, hb1⟩
  go_wp2_with fail
  refine (some21_any w.heap.size g _ hc1).mono ?_
  rintro e w2 ⟨s, rfl, hs, hc2, hg2⟩
  go_wp2
  go_ret
  exact ⟨s, rfl, hs, hb1.grown hg2 hb1.size (fun k hk => by cases hk; exact hc1.1)⟩
set_option maxHeartbeats 800000 in
theorem turnL_any (t : ByteArray) (gp cp : Nat) (xs : List Nat) (w : World) (h0 : 0 < t.size) (ht : t.size ≤ 100000) (hx0 : xs.getD 0 0 < 10000) (hx1 : xs.getD 1 0 < 10000) (hgp : gp < w.heap.size) (hcell : ∀ i, i < 12 → w.cell? ⟨gp, i, none⟩ = some (.int .i64 ((xs.getD i 0 : Nat) : Int))) :
    Calls Tryd.prog 24 #[.string t, .slice (some ⟨gp, 0, none⟩) 12 cp] w fun e w' => ∃ u : ByteArray, e = .returned (.string u) ∧ u.size = t.size ∧ (∃ i, i < t.size ∧ btN u i ≠ btN t i) ∧ Below w.heap.size w w' := by
  obtain ⟨cap, w1, hcv, hR1, hB1, hs1⟩ := bytes_mk t w
  have p0 := (hB1.cell (p := ⟨gp, 0, none⟩) hgp).trans (hcell 0 (by omega))
  have p1 := (hB1.cell (p := ⟨gp, 1, none⟩) hgp).trans (hcell 1 (by omega))
  clear hcell
  generalize xs.getD 0 0 = a at p0 hx0
  generalize xs.getD 1 0 = b at p1 hx1
  have him : a % t.size < t.size := Nat.mod_lt _ h0
  have hie : ((a : Int) % ((t.size : Nat) : Int)) = ((a % t.size : Nat) : Int) := (Int.natCast_emod _ _).symm
  have hit : ((a : Int).tmod ((t.size : Nat) : Int)) = ((a % t.size : Nat) : Int) := by rw [Int.tmod_eq_emod_of_nonneg (by omega)]; exact hie
  have hzn : ¬ ((t.size : Nat) : Int) = 0 := by omega
  generalize a % t.size = i at him hie hit
  have hi0 : (0 : Int) ≤ (i : Int) := by omega
  have hi1 : (i : Int) < ((t.size : Nat) : Int) := by omega
  have c1 := hR1.c i him
  have z1 := hR1.z i him
  have hm1 : b % 255 < 255 := Nat.mod_lt _ (by omega)
  have q1 : (b : Int).tmod 255 = ((b % 255 : Nat) : Int) := by rw [Int.tmod_eq_emod_of_nonneg (by omega)]; omega
  have q0 : (b : Int) % 255 = ((b % 255 : Nat) : Int) := by omega
  generalize b % 255 = m0 at hm1 q1 q0
  have q2 : IntKind.i64.wrap (1 + (m0 : Int)) = ((1 + m0 : Nat) : Int) := by rw [IntKind.wrap_i64]; omega
  have q3 : IntKind.u8.wrap ((1 + m0 : Nat) : Int) = ((1 + m0 : Nat) : Int) := by rw [IntKind.wrap_u8]; omega
  have hbt := btN_lt t i
  have q4 : bits .xor .u8 ((btN t i : Nat) : Int) ((1 + m0 : Nat) : Int) = ((btN t i ^^^ (1 + m0) : Nat) : Int) := u8_xor_nat (btN t i) (1 + m0) hbt (by omega)
  have hne : btN t i ^^^ (1 + m0) ≠ btN t i := fun e => by
    have h2 : btN t i ^^^ (btN t i ^^^ (1 + m0)) = btN t i ^^^ btN t i := by rw [e]
    rw [← Nat.xor_assoc, Nat.xor_self, Nat.zero_xor] at h2
    omega
  have hlt : btN t i ^^^ (1 + m0) < 256 := Nat.xor_lt_two_pow (n := 8) hbt (by omega)
  have hR2 := hR1.set him (btN t i ^^^ (1 + m0))
  generalize btN t i ^^^ (1 + m0) = x at q4 hne hlt hR2
  generalize 1 + m0 = m at q2 q3 q4
  have HU : Hid ((strOfNums (bytesV t.size (upd (btN t) i x))).size = t.size ∧ ∃ j, j < t.size ∧ btN (strOfNums (bytesV t.size (upd (btN t) i x))) j ≠ btN t j) := by
    refine ⟨strOf_size _ _, i, him, ?_⟩
    rw [strOf_btN (fun j _ => by
      unfold upd
      split
      · exact hlt
      · exact btN_lt t j) him, upd_same]
    exact hne
  have hcv2 := hR2.drew.conv (c := cap)
  have HB2 : Hid (Below w.heap.size w ((w1.setCell ⟨w.heap.size, i, none⟩ (.int .u8 (x : Int))).drew)) := (hB1.setCell (Nat.le_refl _) _).drew
  have hgne : ¬ gp = w.heap.size := by omega
  generalize strOfNums (bytesV t.size (upd (btN t) i x)) = U at HU hcv2
  clear hR1 hR2 hB1 hne hlt hbt hs1
  go_enter Tryd.func24, Tryd.ntmps24
  go_wp2
  go_region
  all_goals
    go_wp2
    go_ret
    exact ⟨U, rfl, HU.out.1, HU.out.2, HB2.out⟩
theorem fill_ne {t u : ByteArray} (hs : u.size = t.size) (h : ∃ i, i < t.size ∧ btN u i ≠ btN t i) : fillT t ≠ fillT u := by
  obtain ⟨i, hi, hne⟩ := h
  intro e
  apply hne
  have h1 : btN (fillT t) i = btN t i := by
    unfold fillT
    unfold btN
    rw [bt_app_left _ _ (by rw [sz_app, sz_app]; omega), bt_app_left _ _ (by rw [sz_app]; omega), bt_app_left _ _ hi]
  have h2 : btN (fillT u) i = btN u i := by
    unfold fillT
    unfold btN
    rw [bt_app_left _ _ (by rw [sz_app, sz_app]; omega), bt_app_left _ _ (by rw [sz_app]; omega), bt_app_left _ _ (by omega)]
  rw [← h1, ← h2, e]
end Go.Proofs.YtpnklgidbgjmbaaDoor
