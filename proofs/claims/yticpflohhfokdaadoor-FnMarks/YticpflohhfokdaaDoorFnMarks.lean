/- For every code, where the program's tables are as its text lays them (the card ties that): the marks of drawn keys and texts are the specification's, two known ones are what the law says, a mark with the key that was filled is the same. -/
import Derived.Test.YticpflohhfokdaaDoorCards
import Derived.Test.YticpflohhfokdaaDoorTie
import Derived.Test.YticpflohhfokdaaDoorDok22
import Derived.Test.YticpflohhfokdaaDoorHexd22
import Derived.Test.YticpflohhfokdaaDoorSeven22
import Derived.Test.YticpflohhfokdaaDoorCodeW
import Derived.WalkKit
import Derived.ProofKit
import Derived.OpenShut
import Derived.ShutString
import Derived.OpenVars
import Derived.BigRegion
import Derived.ChangeOld
import Derived.Deep.DeepHandedRow
import Derived.Deep.DeepWitnessRowRef
namespace Go.Proofs.YticpflohhfokdaaDoor
namespace fnMarks
open Go.ChangeShapes Go.WideShapes Go.ChangeAt Go.RowKit Go.PlainAid
open Go.ChangeMaps (open_string shut_string)
set_option linter.unusedVariables false

theorem table {W : World} (h : laidMetH Tryd.prog Rows.fnMarksRow.laid W) : BothHere W := ⟨firstHere_of h rfl, keysHere_of h rfl⟩
set_option maxRecDepth 100000 in
theorem hex1 : hexedT ⟨#[48, 98, 48, 98, 48, 98, 48, 98, 48, 98, 48, 98, 48, 98, 48, 98, 48, 98, 48, 98, 48, 98, 48, 98, 48, 98, 48, 98, 48, 98, 48, 98, 48, 98, 48, 98, 48, 98, 48, 98]⟩ = ⟨#[11, 11, 11, 11, 11, 11, 11, 11, 11, 11, 11, 11, 11, 11, 11, 11, 11, 11, 11, 11]⟩ := by kernel_rfl
set_option maxRecDepth 100000 in
theorem hex2 : hexedT ⟨#[98, 48, 51, 52, 52, 99, 54, 49, 100, 56, 100, 98, 51, 56, 53, 51, 53, 99, 97, 56, 97, 102, 99, 101, 97, 102, 48, 98, 102, 49, 50, 98, 56, 56, 49, 100, 99, 50, 48, 48, 99, 57, 56, 51, 51, 100, 97, 55, 50, 54, 101, 57, 51, 55, 54, 99, 50, 101, 51, 50, 99, 102, 102, 55]⟩ = ⟨#[176, 52, 76, 97, 216, 219, 56, 83, 92, 168, 175, 206, 175, 11, 241, 43, 136, 29, 194, 0, 201, 131, 61, 167, 38, 233, 55, 108, 46, 50, 207, 247]⟩ := by kernel_rfl
set_option maxRecDepth 100000 in
theorem hex3 : hexedT ⟨#[53, 98, 100, 99, 99, 49, 52, 54, 98, 102, 54, 48, 55, 53, 52, 101, 54, 97, 48, 52, 50, 52, 50, 54, 48, 56, 57, 53, 55, 53, 99, 55, 53, 97, 48, 48, 51, 102, 48, 56, 57, 100, 50, 55, 51, 57, 56, 51, 57, 100, 101, 99, 53, 56, 98, 57, 54, 52, 101, 99, 51, 56, 52, 51]⟩ = ⟨#[91, 220, 193, 70, 191, 96, 117, 78, 106, 4, 36, 38, 8, 149, 117, 199, 90, 0, 63, 8, 157, 39, 57, 131, 157, 236, 88, 185, 100, 236, 56, 67]⟩ := by kernel_rfl
set_option maxRecDepth 100000 in
theorem mark1 : macT ⟨#[11, 11, 11, 11, 11, 11, 11, 11, 11, 11, 11, 11, 11, 11, 11, 11, 11, 11, 11, 11]⟩ ⟨#[72, 105, 32, 84, 104, 101, 114, 101]⟩ = ⟨#[176, 52, 76, 97, 216, 219, 56, 83, 92, 168, 175, 206, 175, 11, 241, 43, 136, 29, 194, 0, 201, 131, 61, 167, 38, 233, 55, 108, 46, 50, 207, 247]⟩ := by kernel_rfl
set_option maxRecDepth 100000 in
theorem mark2 : macT ⟨#[74, 101, 102, 101]⟩ ⟨#[119, 104, 97, 116, 32, 100, 111, 32, 121, 97, 32, 119, 97, 110, 116, 32, 102, 111, 114, 32, 110, 111, 116, 104, 105, 110, 103, 63]⟩ = ⟨#[91, 220, 193, 70, 191, 96, 117, 78, 106, 4, 36, 38, 8, 149, 117, 199, 90, 0, 63, 8, 157, 39, 57, 131, 157, 236, 88, 185, 100, 236, 56, 67]⟩ := by kernel_rfl
theorem zeroT0 : zeroT 0 = ⟨#[]⟩ := by kernel_rfl
theorem macK_again (k : ByteArray) : macK (macK k) = macK k := by
  have h := macK_size k
  show (if 64 < (macK k).size then _ else _) = _
  rw [if_neg (by omega)]
  unfold kp
  rw [h]
  show macK k ++ zeroT 0 = _
  rw [zeroT0]
  exact Go.WideShapes.bytes_inj (by rw [dat_app]; simp)
theorem macT_again (k t : ByteArray) : macT (macK k) t = macT k t := by unfold macT; rw [macK_again]
theorem macEq_own (k t : ByteArray) : macEq k t (macT k t) = true := by unfold macEq; simp
set_option maxHeartbeats 3200000 in
set_option maxRecDepth 20000 in
theorem walk (a0 : Option Addr) (len0 cap0 : Nat) (w : World) (hc : len0 ≤ 1048576 → CodeIn w.heap.size w a0 len0) (ht : BothHere w) :
    Calls Tryd.prog 3 #[.slice a0 len0 cap0] w fun e w' => e = .returned (.bool true) ∧ Below w.heap.size w w' := by
  have HT : Hid (BothHere w) := ht
  clear ht
  by_cases hl : len0 ≤ 1048576
  · have hd : decide ((1048576 : Int) < (len0 : Int)) = false := by simp; omega
    have HC : Hid (CodeIn w.heap.size w a0 len0) := hc hl
    have HL : Hid (len0 ≤ 1048576) := hl
    obtain ⟨i0, hi, hz0, hz1, hz2⟩ := info_parts infoU8
    have HI : Hid (Tryd.prog.info? 5 = some i0 ∧ i0.zero = some (.int .u8 0) ∧ i0.size = 1 ∧ i0.bytes = 1) := ⟨hi, hz0, hz1, hz2⟩
    clear hc hi hz0 hz1 hz2
    have X1 : Hid (∀ wz : World, Calls Tryd.prog 9 #[.string ⟨#[48, 98, 48, 98, 48, 98, 48, 98, 48, 98, 48, 98, 48, 98, 48, 98, 48, 98, 48, 98, 48, 98, 48, 98, 48, 98, 48, 98, 48, 98, 48, 98, 48, 98, 48, 98, 48, 98, 48, 98]⟩] wz fun e w' => e = .returned (.string ⟨#[11, 11, 11, 11, 11, 11, 11, 11, 11, 11, 11, 11, 11, 11, 11, 11, 11, 11, 11, 11]⟩) ∧ Below wz.heap.size wz w') := fun wz => by have := hexed_any ⟨#[48, 98, 48, 98, 48, 98, 48, 98, 48, 98, 48, 98, 48, 98, 48, 98, 48, 98, 48, 98, 48, 98, 48, 98, 48, 98, 48, 98, 48, 98, 48, 98, 48, 98, 48, 98, 48, 98, 48, 98]⟩ wz (by decide); rw [hex1] at this; exact this
    have X2 : Hid (∀ wz : World, Calls Tryd.prog 9 #[.string ⟨#[98, 48, 51, 52, 52, 99, 54, 49, 100, 56, 100, 98, 51, 56, 53, 51, 53, 99, 97, 56, 97, 102, 99, 101, 97, 102, 48, 98, 102, 49, 50, 98, 56, 56, 49, 100, 99, 50, 48, 48, 99, 57, 56, 51, 51, 100, 97, 55, 50, 54, 101, 57, 51, 55, 54, 99, 50, 101, 51, 50, 99, 102, 102, 55]⟩] wz fun e w' => e = .returned (.string ⟨#[176, 52, 76, 97, 216, 219, 56, 83, 92, 168, 175, 206, 175, 11, 241, 43, 136, 29, 194, 0, 201, 131, 61, 167, 38, 233, 55, 108, 46, 50, 207, 247]⟩) ∧ Below wz.heap.size wz w') := fun wz => by have := hexed_any ⟨#[98, 48, 51, 52, 52, 99, 54, 49, 100, 56, 100, 98, 51, 56, 53, 51, 53, 99, 97, 56, 97, 102, 99, 101, 97, 102, 48, 98, 102, 49, 50, 98, 56, 56, 49, 100, 99, 50, 48, 48, 99, 57, 56, 51, 51, 100, 97, 55, 50, 54, 101, 57, 51, 55, 54, 99, 50, 101, 51, 50, 99, 102, 102, 55]⟩ wz (by decide); rw [hex2] at this; exact this
    have X3 : Hid (∀ wz : World, Calls Tryd.prog 9 #[.string ⟨#[53, 98, 100, 99, 99, 49, 52, 54, 98, 102, 54, 48, 55, 53, 52, 101, 54, 97, 48, 52, 50, 52, 50, 54, 48, 56, 57, 53, 55, 53, 99, 55, 53, 97, 48, 48, 51, 102, 48, 56, 57, 100, 50, 55, 51, 57, 56, 51, 57, 100, 101, 99, 53, 56, 98, 57, 54, 52, 101, 99, 51, 56, 52, 51]⟩] wz fun e w' => e = .returned (.string ⟨#[91, 220, 193, 70, 191, 96, 117, 78, 106, 4, 36, 38, 8, 149, 117, 199, 90, 0, 63, 8, 157, 39, 57, 131, 157, 236, 88, 185, 100, 236, 56, 67]⟩) ∧ Below wz.heap.size wz w') := fun wz => by have := hexed_any ⟨#[53, 98, 100, 99, 99, 49, 52, 54, 98, 102, 54, 48, 55, 53, 52, 101, 54, 97, 48, 52, 50, 52, 50, 54, 48, 56, 57, 53, 55, 53, 99, 55, 53, 97, 48, 48, 51, 102, 48, 56, 57, 100, 50, 55, 51, 57, 56, 51, 57, 100, 101, 99, 53, 56, 98, 57, 54, 52, 101, 99, 51, 56, 52, 51]⟩ wz (by decide); rw [hex3] at this; exact this
    have K1 : Hid (∀ wz, BothHere wz → Calls Tryd.prog 8 #[.string ⟨#[11, 11, 11, 11, 11, 11, 11, 11, 11, 11, 11, 11, 11, 11, 11, 11, 11, 11, 11, 11]⟩, .string ⟨#[72, 105, 32, 84, 104, 101, 114, 101]⟩] wz fun e w' => e = .returned (.string ⟨#[176, 52, 76, 97, 216, 219, 56, 83, 92, 168, 175, 206, 175, 11, 241, 43, 136, 29, 194, 0, 201, 131, 61, 167, 38, 233, 55, 108, 46, 50, 207, 247]⟩) ∧ Below wz.heap.size wz w') := fun wz h => by have := implMac_any ⟨#[11, 11, 11, 11, 11, 11, 11, 11, 11, 11, 11, 11, 11, 11, 11, 11, 11, 11, 11, 11]⟩ ⟨#[72, 105, 32, 84, 104, 101, 114, 101]⟩ wz (by decide) (by decide) h; rw [mark1] at this; exact this
    have K2 : Hid (∀ wz, BothHere wz → Calls Tryd.prog 8 #[.string ⟨#[74, 101, 102, 101]⟩, .string ⟨#[119, 104, 97, 116, 32, 100, 111, 32, 121, 97, 32, 119, 97, 110, 116, 32, 102, 111, 114, 32, 110, 111, 116, 104, 105, 110, 103, 63]⟩] wz fun e w' => e = .returned (.string ⟨#[91, 220, 193, 70, 191, 96, 117, 78, 106, 4, 36, 38, 8, 149, 117, 199, 90, 0, 63, 8, 157, 39, 57, 131, 157, 236, 88, 185, 100, 236, 56, 67]⟩) ∧ Below wz.heap.size wz w') := fun wz h => by have := implMac_any ⟨#[74, 101, 102, 101]⟩ ⟨#[119, 104, 97, 116, 32, 100, 111, 32, 121, 97, 32, 119, 97, 110, 116, 32, 102, 111, 114, 32, 110, 111, 116, 104, 105, 110, 103, 63]⟩ wz (by decide) (by decide) h; rw [mark2] at this; exact this
    go_enter Tryd.func3, Tryd.ntmps3
    go_wp2_with fail
    refine (big_any a0 len0 cap0 _).mono ?_
    rintro e w1 ⟨rfl, rfl⟩
    go_wp2_with fail
    refine (places_any a0 len0 cap0 _ HC.out).mono ?_
    rintro e w2 ⟨gp, cp, xs, rfl, hxl, hxr, hgp, hgp1, hcp, hb2⟩
    have HB : Hid (Below w.heap.size w w2) := hb2
    have HP : Hid (w2.cell? ⟨gp, 0, none⟩ = some (.int .i64 ((xs.getD 0 0 : Nat) : Int))) := hcp 0 (by omega)
    have HG : Hid (gp < w2.heap.size) := hgp1
    clear hcp hxr hb2 hxl hgp hgp1
    generalize xs.getD 0 0 = p at HP
    go_wp2_with fail
    refine (drawHmac_any a0 len0 cap0 _ (codeIn_later HC.out HB.out)).mono ?_
    rintro e w3 ⟨ky, tx, rfl, hky, htx, hb⟩
    replace HP : Hid (w3.cell? ⟨gp, 0, none⟩ = some (.int .i64 ((p : Nat) : Int))) := (hb.cell (p := ⟨gp, 0, none⟩) HG.out).trans HP.out
    replace HG : Hid (gp < w3.heap.size) := Nat.lt_of_lt_of_le HG.out hb.size
    replace HB : Hid (Below w.heap.size w w3) := HB.out.trans (hb.mono HB.out.size)
    clear hb
    have HCA : Hid (CodeIn (w3.alloc (.cells #[.int .u8 7] 5)).heap.size (w3.alloc (.cells #[.int .u8 7] 5)) a0 len0) := codeIn_later HC.out (HB.out.alloc HB.out.size _)
    have HOW : Hid ((w3.alloc (.cells #[.int .u8 7] 5)).ownsRow w3.heap.size 5 1 (.slice (some ⟨w3.heap.size, 0, none⟩) 1 1) 1 [.int .u8 7]) := World.ownsRow_lit w3 #[.int .u8 7] 1 (Nat.le_refl _) (by decide) rfl
    have hsz3 := World.size_alloc w3 (.cells #[.int .u8 7] 5)
    go_wp2_with (at_builtin; refine wpList_append_code rfl _ _ rfl i0 HI.out.1 HI.out.2.1 HI.out.2.2.1 HI.out.2.2.2 _ 7 (by decide) w3.heap.size (by omega) rfl HOW.out _ a0 len0 cap0 rfl HCA.out HL.out ?_)
    intro ac' cap' w5 hc5 hg5
    have hb5 : Below w3.heap.size w3 w5 := ((Below.refl w3.heap.size w3).alloc (Nat.le_refl _) _).grown hg5 (by omega) (fun k hk => by cases hk; exact Nat.le_refl _)
    replace HP : Hid (w5.cell? ⟨gp, 0, none⟩ = some (.int .i64 ((p : Nat) : Int))) := (hb5.cell (p := ⟨gp, 0, none⟩) HG.out).trans HP.out
    replace HG : Hid (gp < w5.heap.size) := Nat.lt_of_lt_of_le HG.out hb5.size
    replace HB : Hid (Below w.heap.size w w5) := HB.out.trans (hb5.mono HB.out.size)
    clear hb5 hg5 HOW HCA HI
    go_wp2_with fail
    refine (drawHmac_any ac' (1 + len0) cap' _ hc5).mono ?_
    rintro e w6 ⟨k, t, rfl, hk, ht, hb⟩
    replace HP : Hid (w6.cell? ⟨gp, 0, none⟩ = some (.int .i64 ((p : Nat) : Int))) := (hb.cell (p := ⟨gp, 0, none⟩) HG.out).trans HP.out
    replace HG : Hid (gp < w6.heap.size) := Nat.lt_of_lt_of_le HG.out hb.size
    replace HB : Hid (Below w.heap.size w w6) := HB.out.trans (hb.mono HB.out.size)
    clear hb hc5
    go_wp2_with fail
    refine (drawHmacOk_any a0 len0 cap0 _ (codeIn_later HC.out HB.out)).mono ?_
    rintro e w7 ⟨a, b, tag, rfl, ha, hb1, htag, hb⟩
    have hp := (hb.cell (p := ⟨gp, 0, none⟩) HG.out).trans HP.out
    replace HG : Hid (gp < w7.heap.size) := Nat.lt_of_lt_of_le HG.out hb.size
    replace HB : Hid (Below w.heap.size w w7) := HB.out.trans (hb.mono HB.out.size)
    clear hb HC HL HP
    have M1 : Hid (∀ wz, BothHere wz → _) := fun wz h => implMac_any ky tx wz (by omega) (by omega) h
    have S1 : Hid (∀ wz, _) := fun wz => specMac_any ky tx wz (by omega) (by omega)
    have M2 : Hid (∀ wz, BothHere wz → _) := fun wz h => implMac_any k t wz (by omega) (by omega) h
    have S2 : Hid (∀ wz, _) := fun wz => specMac_any k t wz (by omega) (by omega)
    have O1 : Hid (∀ wz, BothHere wz → Calls Tryd.prog 11 #[.string ky, .string tx, .string (macT ky tx)] wz fun e w' => e = .returned (.bool true) ∧ Below wz.heap.size wz w') := fun wz h => by have := implMacOk_any ky tx (macT ky tx) wz (by omega) (by omega) h; rw [macEq_own] at this; exact this
    have O2 : Hid (∀ wz, BothHere wz → _) := fun wz h => implMacOk_any a b tag wz (by omega) (by omega) h
    have O3 : Hid (∀ wz, _) := fun wz => specMacOk_any a b tag wz (by omega) (by omega)
    have Y1 : Hid (∀ wz, BothHere wz → _) := fun wz h => implKey_any ky wz (by omega) h
    have M3 : Hid (∀ wz, BothHere wz → Calls Tryd.prog 8 #[.string (macK ky), .string tx] wz fun e w' => e = .returned (.string (macT ky tx)) ∧ Below wz.heap.size wz w') := fun wz h => by have := implMac_any (macK ky) tx wz (by rw [macK_size]; decide) (by omega) h; rw [macT_again] at this; exact this
    have Y2 : Hid (∀ wz, BothHere wz → _) := fun wz h => implKey_any k wz (by omega) h
    have Y3 : Hid (∀ wz, _) := fun wz => specKey_any k wz (by omega)
    have hys : (((macK ky).size : Nat) : Int) = 64 := by rw [macK_size]; rfl
    generalize macEq a b tag = Q at O2 O3
    generalize macT ky tx = T1 at M1 S1 O1 M3
    generalize macT k t = T2 at M2 S2
    generalize macK ky = L1 at Y1 M3 hys
    generalize macK k = L2 at Y2 Y3
    clear hky htx hk ht ha hb1 htag
    rcases (show p % 2 = 0 ∨ p % 2 = 1 by omega) with h | h
    · have q1 : (p : Int).tmod 2 = 0 := by rw [Int.tmod_eq_emod_of_nonneg (by omega)]; omega
      have q2 : (p : Int) % 2 = 0 := by omega
      clear h
      go_wp2_with fail
      refine Calls.mono (X1.out _) ?_
      rintro e w8 ⟨rfl, hb⟩
      replace hp := (hb.cell (p := ⟨gp, 0, none⟩) HG.out).trans hp
      replace HG : Hid (gp < w8.heap.size) := Nat.lt_of_lt_of_le HG.out hb.size
      replace HB : Hid (Below w.heap.size w w8) := HB.out.trans (hb.mono HB.out.size)
      clear hb
      go_wp2_with fail
      refine Calls.mono (K1.out _ (HT.out.next HB.out)) ?_
      rintro e w9 ⟨rfl, hb⟩
      replace hp := (hb.cell (p := ⟨gp, 0, none⟩) HG.out).trans hp
      replace HG : Hid (gp < w9.heap.size) := Nat.lt_of_lt_of_le HG.out hb.size
      replace HB : Hid (Below w.heap.size w w9) := HB.out.trans (hb.mono HB.out.size)
      clear hb
      go_wp2_with fail
      refine Calls.mono (X2.out _) ?_
      rintro e w10 ⟨rfl, hb⟩
      replace hp := (hb.cell (p := ⟨gp, 0, none⟩) HG.out).trans hp
      replace HG : Hid (gp < w10.heap.size) := Nat.lt_of_lt_of_le HG.out hb.size
      replace HB : Hid (Below w.heap.size w w10) := HB.out.trans (hb.mono HB.out.size)
      clear hb
      go_wp2_with fail
      refine Calls.mono (M1.out _ (HT.out.next HB.out)) ?_
      rintro e w11 ⟨rfl, hb⟩
      replace HB : Hid (Below w.heap.size w w11) := HB.out.trans (hb.mono HB.out.size)
      clear hb
      go_wp2_with fail
      refine Calls.mono (S1.out _) ?_
      rintro e w12 ⟨rfl, hb⟩
      replace HB : Hid (Below w.heap.size w w12) := HB.out.trans (hb.mono HB.out.size)
      clear hb
      go_wp2_with fail
      refine Calls.mono (M2.out _ (HT.out.next HB.out)) ?_
      rintro e w13 ⟨rfl, hb⟩
      replace HB : Hid (Below w.heap.size w w13) := HB.out.trans (hb.mono HB.out.size)
      clear hb
      go_wp2_with fail
      refine Calls.mono (S2.out _) ?_
      rintro e w14 ⟨rfl, hb⟩
      replace HB : Hid (Below w.heap.size w w14) := HB.out.trans (hb.mono HB.out.size)
      clear hb
      go_wp2_with fail
      refine Calls.mono (S1.out _) ?_
      rintro e w15 ⟨rfl, hb⟩
      replace HB : Hid (Below w.heap.size w w15) := HB.out.trans (hb.mono HB.out.size)
      clear hb
      go_wp2_with fail
      refine Calls.mono (O1.out _ (HT.out.next HB.out)) ?_
      rintro e w16 ⟨rfl, hb⟩
      replace HB : Hid (Below w.heap.size w w16) := HB.out.trans (hb.mono HB.out.size)
      clear hb
      go_wp2_with fail
      refine Calls.mono (O2.out _ (HT.out.next HB.out)) ?_
      rintro e w17 ⟨rfl, hb⟩
      replace HB : Hid (Below w.heap.size w w17) := HB.out.trans (hb.mono HB.out.size)
      clear hb
      go_wp2_with fail
      refine Calls.mono (O3.out _) ?_
      rintro e w18 ⟨rfl, hb⟩
      replace HB : Hid (Below w.heap.size w w18) := HB.out.trans (hb.mono HB.out.size)
      clear hb
      go_wp2_with fail
      refine Calls.mono (Y1.out _ (HT.out.next HB.out)) ?_
      rintro e w19 ⟨rfl, hb⟩
      replace HB : Hid (Below w.heap.size w w19) := HB.out.trans (hb.mono HB.out.size)
      clear hb
      go_wp2_with fail
      refine Calls.mono (M1.out _ (HT.out.next HB.out)) ?_
      rintro e w20 ⟨rfl, hb⟩
      replace HB : Hid (Below w.heap.size w w20) := HB.out.trans (hb.mono HB.out.size)
      clear hb
      go_wp2_with fail
      refine Calls.mono (Y1.out _ (HT.out.next HB.out)) ?_
      rintro e w21 ⟨rfl, hb⟩
      replace HB : Hid (Below w.heap.size w w21) := HB.out.trans (hb.mono HB.out.size)
      clear hb
      go_wp2_with fail
      refine Calls.mono (M3.out _ (HT.out.next HB.out)) ?_
      rintro e w22 ⟨rfl, hb⟩
      replace HB : Hid (Below w.heap.size w w22) := HB.out.trans (hb.mono HB.out.size)
      clear hb
      go_wp2_with fail
      refine Calls.mono (Y2.out _ (HT.out.next HB.out)) ?_
      rintro e w23 ⟨rfl, hb⟩
      replace HB : Hid (Below w.heap.size w w23) := HB.out.trans (hb.mono HB.out.size)
      clear hb
      go_wp2_with fail
      refine Calls.mono (Y3.out _) ?_
      rintro e w24 ⟨rfl, hb⟩
      replace HB : Hid (Below w.heap.size w w24) := HB.out.trans (hb.mono HB.out.size)
      clear hb
      go_wp2
      go_ret
      exact ⟨by first | rfl | (simp; done), HB.out⟩
    · have q1 : (p : Int).tmod 2 = 1 := by rw [Int.tmod_eq_emod_of_nonneg (by omega)]; omega
      have q2 : (p : Int) % 2 = 1 := by omega
      clear h
      go_wp2_with fail
      refine Calls.mono (K2.out _ (HT.out.next HB.out)) ?_
      rintro e w25 ⟨rfl, hb⟩
      replace HB : Hid (Below w.heap.size w w25) := HB.out.trans (hb.mono HB.out.size)
      clear hb
      go_wp2_with fail
      refine Calls.mono (X3.out _) ?_
      rintro e w26 ⟨rfl, hb⟩
      replace HB : Hid (Below w.heap.size w w26) := HB.out.trans (hb.mono HB.out.size)
      clear hb
      go_wp2_with fail
      refine Calls.mono (M1.out _ (HT.out.next HB.out)) ?_
      rintro e w27 ⟨rfl, hb⟩
      replace HB : Hid (Below w.heap.size w w27) := HB.out.trans (hb.mono HB.out.size)
      clear hb
      go_wp2_with fail
      refine Calls.mono (S1.out _) ?_
      rintro e w28 ⟨rfl, hb⟩
      replace HB : Hid (Below w.heap.size w w28) := HB.out.trans (hb.mono HB.out.size)
      clear hb
      go_wp2_with fail
      refine Calls.mono (M2.out _ (HT.out.next HB.out)) ?_
      rintro e w29 ⟨rfl, hb⟩
      replace HB : Hid (Below w.heap.size w w29) := HB.out.trans (hb.mono HB.out.size)
      clear hb
      go_wp2_with fail
      refine Calls.mono (S2.out _) ?_
      rintro e w30 ⟨rfl, hb⟩
      replace HB : Hid (Below w.heap.size w w30) := HB.out.trans (hb.mono HB.out.size)
      clear hb
      go_wp2_with fail
      refine Calls.mono (S1.out _) ?_
      rintro e w31 ⟨rfl, hb⟩
      replace HB : Hid (Below w.heap.size w w31) := HB.out.trans (hb.mono HB.out.size)
      clear hb
      go_wp2_with fail
      refine Calls.mono (O1.out _ (HT.out.next HB.out)) ?_
      rintro e w32 ⟨rfl, hb⟩
      replace HB : Hid (Below w.heap.size w w32) := HB.out.trans (hb.mono HB.out.size)
      clear hb
      go_wp2_with fail
      refine Calls.mono (O2.out _ (HT.out.next HB.out)) ?_
      rintro e w33 ⟨rfl, hb⟩
      replace HB : Hid (Below w.heap.size w w33) := HB.out.trans (hb.mono HB.out.size)
      clear hb
      go_wp2_with fail
      refine Calls.mono (O3.out _) ?_
      rintro e w34 ⟨rfl, hb⟩
      replace HB : Hid (Below w.heap.size w w34) := HB.out.trans (hb.mono HB.out.size)
      clear hb
      go_wp2_with fail
      refine Calls.mono (Y1.out _ (HT.out.next HB.out)) ?_
      rintro e w35 ⟨rfl, hb⟩
      replace HB : Hid (Below w.heap.size w w35) := HB.out.trans (hb.mono HB.out.size)
      clear hb
      go_wp2_with fail
      refine Calls.mono (M1.out _ (HT.out.next HB.out)) ?_
      rintro e w36 ⟨rfl, hb⟩
      replace HB : Hid (Below w.heap.size w w36) := HB.out.trans (hb.mono HB.out.size)
      clear hb
      go_wp2_with fail
      refine Calls.mono (Y1.out _ (HT.out.next HB.out)) ?_
      rintro e w37 ⟨rfl, hb⟩
      replace HB : Hid (Below w.heap.size w w37) := HB.out.trans (hb.mono HB.out.size)
      clear hb
      go_wp2_with fail
      refine Calls.mono (M3.out _ (HT.out.next HB.out)) ?_
      rintro e w38 ⟨rfl, hb⟩
      replace HB : Hid (Below w.heap.size w w38) := HB.out.trans (hb.mono HB.out.size)
      clear hb
      go_wp2_with fail
      refine Calls.mono (Y2.out _ (HT.out.next HB.out)) ?_
      rintro e w39 ⟨rfl, hb⟩
      replace HB : Hid (Below w.heap.size w w39) := HB.out.trans (hb.mono HB.out.size)
      clear hb
      go_wp2_with fail
      refine Calls.mono (Y3.out _) ?_
      rintro e w40 ⟨rfl, hb⟩
      replace HB : Hid (Below w.heap.size w w40) := HB.out.trans (hb.mono HB.out.size)
      clear hb
      go_wp2
      go_ret
      exact ⟨by first | rfl | (simp; done), HB.out⟩
  · have hd : decide ((1048576 : Int) < (len0 : Int)) = true := by simp; omega
    clear hc
    go_enter Tryd.func3, Tryd.ntmps3
    go_wp2_with fail
    refine (big_any a0 len0 cap0 _).mono ?_
    rintro e w1 ⟨rfl, rfl⟩
    go_wp2
    go_ret
    exact ⟨rfl, Below.refl _ _⟩

theorem own : ownKnob Tryd.prog.godebug = none := by kernel_rfl
theorem laidOut : laidOutB Tryd.prog = true := by kernel_rfl
set_option maxRecDepth 100000 in
theorem contract (H : Type) (enc : TypeId × Value → H) (W : World) (base : Nat) (args : Array Value) (ds gs : List (DataW H)) (before : List MemPlace)
    (hval : ∀ (j : Nat) t v, Tryd.f3.params[j]? = some t → args[j]? = some v → Value.okWide Tryd.prog W .any base t v)
    (hW : DataW.Whole enc Tryd.prog Tryd.f3.params.toList Rows.fnMarksSpec.vars false W args.toList ds gs before) (hL : laidMetH Tryd.prog Rows.fnMarksRow.laid W) :
    Calls Tryd.prog 3 args W fun e W' => ∃ v, e = .returned v ∧ Rows.fnMarksSpec.post enc Tryd.prog Tryd.f3 false true false false W args v W' := by
  have hW' := hW
  obtain ⟨p, q, hA0, hV, rfl, hfz, hnd⟩ := hW
  have hA : DataW.TrodAll enc Tryd.prog W 0 (fun _ => true) true Tryd.f3.params.toList args.toList ds p := hA0
  rw [Tryd.params3] at hA hval
  obtain ⟨v0, vs0, d0, ds0, p0, q0, hargs, rfl, rfl, h0, r0⟩ := trodAll_cons hA
  obtain ⟨rfl, rfl, rfl⟩ := trodAll_nil r0
  obtain rfl : args = #[v0] := by cases args; simp_all
  have hV0 : DataW.TrodVars enc Tryd.prog W (fun _ => true) ["loop.example/g00466/impl.startWords", "loop.example/g00466/impl.roundWords"] gs q := hV
  obtain ⟨dv, dv2, rfl⟩ : ∃ x y, gs = [x, y] := by
    cases gs with
    | nil => exact hV0.elim
    | cons x gs => cases gs with
      | nil => obtain ⟨_, _, _, _, _, _, _, _, _, _, h, _⟩ := hV0; exact h.elim
      | cons y gs => obtain ⟨_, _, _, _, _, _, _, _, _, _, h, _⟩ := hV0; obtain ⟨_, _, _, _, _, _, _, _, _, _, h, _⟩ := h; cases gs with
        | nil => exact ⟨x, y, rfl⟩
        | cons z gs => exact h.elim
  obtain ⟨a0, len0, cap0, rfl⟩ := okWide_slice Tryd.underlying22 (hval 0 22 v0 rfl rfl)
  have k0 := h0
  have lt0 : ∀ x ∈ p0, x.block < W.heap.size := by obtain ⟨m, hm⟩ := k0; exact DataW.trod_lt m _ _ _ hm
  have hcode0 := code_of h0
  clear hA0
  refine (walk a0 len0 cap0  W hcode0 (table hL)).mono fun e W' ⟨he, bel⟩ => ?_
  subst he
  exact ⟨_, rfl, _, _, _, [], _, q, hW', trodAll_mk1 (shut_bool Tryd.underlying4 _), (trodAll_cons_mk (Below.trod laidOut (by kernel_rfl) (of_decide_eq_true (by kernel_rfl)) k0 bel lt0) trodAll_mk0), bel.trodVars laidOut (by kernel_rfl) hV, bel.frame _, fun h => by cases h⟩

def relay (cs : Array Value) : Obj → Obj
  | .cells _ t frozen => .cells cs t frozen
  | o => o
noncomputable def laidWorld (os : Os) : World := { World.holding Tryd.prog os ⟨#[], #[], []⟩ with heap := (((World.holding Tryd.prog os ⟨#[], #[], []⟩).heap.modify 1 (relay #[.int .u32 1116352408, .int .u32 1899447441, .int .u32 3049323471, .int .u32 3921009573, .int .u32 961987163, .int .u32 1508970993, .int .u32 2453635748, .int .u32 2870763221, .int .u32 3624381080, .int .u32 310598401, .int .u32 607225278, .int .u32 1426881987, .int .u32 1925078388, .int .u32 2162078206, .int .u32 2614888103, .int .u32 3248222580, .int .u32 3835390401, .int .u32 4022224774, .int .u32 264347078, .int .u32 604807628, .int .u32 770255983, .int .u32 1249150122, .int .u32 1555081692, .int .u32 1996064986, .int .u32 2554220882, .int .u32 2821834349, .int .u32 2952996808, .int .u32 3210313671, .int .u32 3336571891, .int .u32 3584528711, .int .u32 113926993, .int .u32 338241895, .int .u32 666307205, .int .u32 773529912, .int .u32 1294757372, .int .u32 1396182291, .int .u32 1695183700, .int .u32 1986661051, .int .u32 2177026350, .int .u32 2456956037, .int .u32 2730485921, .int .u32 2820302411, .int .u32 3259730800, .int .u32 3345764771, .int .u32 3516065817, .int .u32 3600352804, .int .u32 4094571909, .int .u32 275423344, .int .u32 430227734, .int .u32 506948616, .int .u32 659060556, .int .u32 883997877, .int .u32 958139571, .int .u32 1322822218, .int .u32 1537002063, .int .u32 1747873779, .int .u32 1955562222, .int .u32 2024104815, .int .u32 2227730452, .int .u32 2361852424, .int .u32 2428436474, .int .u32 2756734187, .int .u32 3204031479, .int .u32 3329325298])).modify 0 (relay #[.int .u32 1779033703, .int .u32 3144134277, .int .u32 1013904242, .int .u32 2773480762, .int .u32 1359893119, .int .u32 2600822924, .int .u32 528734635, .int .u32 1541459225])) }
theorem laid_met (os : Os) : laidMet Tryd.prog Rows.fnMarksRow.laid ((laidWorld os).forCall (fun _ _ => 0) ⟨#[], #[Value.slice none 0 0], []⟩).memory := laidMet_of_run' 8 (by kernel_rfl) (by kernel_rfl)
theorem reads (os : Os) {H : Type} (enc : TypeId × Value → H) : ∃ places, DataW.whole enc Tryd.prog ((laidWorld os).forCall (fun _ _ => 0) ⟨#[], #[Value.slice none 0 0], []⟩).memory Tryd.f3.params.toList Rows.fnMarksSpec.vars false #[Value.slice none 0 0].toList 8 = some ([.nil], [Rows.laid_loop_example_g00466_impl_startWords, Rows.laid_loop_example_g00466_impl_roundWords], places) := ⟨MemPlace.row ⟨0, 0, none⟩ 8 ++ MemPlace.row ⟨1, 0, none⟩ 64, by kernel_rfl⟩
set_option maxRecDepth 100000 in
theorem lifted (os : Os) (started : os.Started) (H : Type) (enc : TypeId × Value → H) (F : Stop.Interp) :
    ReturnsInHanded {} Tryd.checked os 3 .any ((OpenSpec.ofChange Rows.fnMarksSpec).preRow enc Tryd.prog Tryd.f3 Rows.fnMarksRow.domain false Rows.fnMarksRow.laid) (((OpenSpec.ofChange Rows.fnMarksSpec).at F).post enc Tryd.prog Tryd.f3 false true false false) := by
  obtain ⟨places, hx⟩ := reads os enc
  refine returnsInHanded_of_row (C := Tryd.checked) (s := OpenSpec.ofChange Rows.fnMarksSpec) own started (by kernel_rfl) Tryd.func3
    (witness_row_at (enc := enc) (C := Tryd.checked) false (laidWorld os) #[Value.slice none 0 0] rfl (by kernel_rfl) (by kernel_rfl) (by kernel_rfl)
      (OpenSpec.preRow_of_cond 8 hx (by kernel_rfl) (fun k hk => by cases hk) (by kernel_rfl) (laid_met os))) ?_
  intro W base args ds gs before hval hW _ _ _ hL _ _
  exact contract H enc W base args ds gs before hval hW hL

theorem said : Rows.FnMarksSaid :=
  OpenClaim.holds_of_cond 3 Tryd.f3 rfl rfl rfl rfl rfl rfl rfl ⟨rfl, rfl, rfl, rfl, rfl⟩ rfl rfl rfl rfl rfl (by kernel_rfl) Tryd.func3 (by kernel_rfl)
    (of_decide_eq_true (by kernel_rfl)) (by unfold Func.isWrapper; first | (rw [if_pos (by decide +kernel)]; kernel_rfl) | (rw [if_neg (by decide +kernel)]; exact ⟨rfl, rfl⟩))
    (fun os started H enc _ F => by rw [OpenClaim.pre_eq_preRow]; exact lifted os started H enc F)
theorem plain (f : FuncId) (fn : Func) (hf : Tryd.pinned.checked.prog.funcNamed "loop.example/g00466/laws.FnMarks" = some f) (hfn : Tryd.pinned.checked.prog.funcs[f]? = some fn) :
    false = Tryd.pinned.checked.prog.looks [] ∧ ∀ (j : Nat) t, fn.params[j]? = some t → Tryd.pinned.checked.prog.wantsStandIn t = false := by
  obtain rfl : f = 3 := Option.some.inj ((show Tryd.prog.funcNamed "loop.example/g00466/laws.FnMarks" = some 3 by kernel_rfl).symm.trans hf) |>.symm
  obtain rfl : fn = Tryd.f3 := (Option.some.inj (Tryd.func3.symm.trans hfn)).symm
  refine ⟨by kernel_rfl, fun j t ht => ?_⟩
  rw [Tryd.params3] at ht
  have hm : t = 22 := by simpa using Array.mem_of_getElem? ht
  rcases hm with rfl
  · exact (show Tryd.prog.wantsStandIn 22 = false by kernel_rfl)
end fnMarks

theorem fnMarks_card : Rows.FnMarksCardSaid :=
  Claim7.holds_tied_plain_at .later [] _ _ _ _ fnMarks.said (fun _ h => by cases h) (by kernel_rfl) (fun _ h => by cases h) fnMarks_row_tie rfl ⟨rfl, rfl⟩ (by kernel_rfl) rfl fnMarks.plain (by kernel_rfl)
#print axioms fnMarks_card
end Go.Proofs.YticpflohhfokdaaDoor
