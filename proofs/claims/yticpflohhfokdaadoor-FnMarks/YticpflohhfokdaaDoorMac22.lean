/- A mark with a key (chapter 22): HmacKey, Hmac, HmacOk of both sides; Extracted (chapter 23). -/
import Derived.Test.YticpflohhfokdaaDoorBoth21
import Derived.Test.YticpflohhfokdaaDoorShelf
import Derived.Test.YticpflohhfokdaaDoorRepW
import Derived.Test.YticpflohhfokdaaDoorLong01
import Derived.Test.YticpflohhfokdaaDoorRowC
import Derived.WalkKit
import Derived.WalkLawsBesides
import Derived.WalkSpells
namespace Go.Proofs.YticpflohhfokdaaDoor
open Go.RowKit Go.PlainAid
set_option maxRecDepth 20000
set_option linter.unusedVariables false
theorem zero_longM (n : Nat) : longT n 0 = zeroT n := by
  apply Go.WideShapes.bytes_inj
  unfold longT zeroT
  rw [strOfNums_data]
  induction n with
  | zero => rfl
  | succ n ih =>
    have h : bytesV (n + 1) (fun _ => 0) = 0 :: bytesV n (fun _ => 0) := by
      unfold bytesV
      rw [List.range_succ_eq_map, List.map_cons, List.map_map]; rfl
    rw [h, List.map_cons, ih]; rfl
theorem zeroM_size (n : Nat) : (zeroT n).size = n := by rw [← zero_longM]; exact longT_size n 0
theorem cloneM_any (s : ByteArray) (w : World) (hs : s.size ≤ 1048576) :
    Calls Tryd.prog 26 #[.string s] w fun e w' => e = .returned (.string s) ∧ Below w.heap.size w w' := by
  go_enter Tryd.func26, Tryd.ntmps26
  go_wp2_with (go_at_call 41; refine (Tryd.stringslite_Clone s _ (by omega)).mono ?_; rintro e w' ⟨rfl, hb⟩)
  go_ret
  exact ⟨rfl, hb⟩
/-- The key that fills a block. -/
def kp (k : ByteArray) : ByteArray := k ++ zeroT (64 - k.size)
def macK (key : ByteArray) : ByteArray := if 64 < key.size then kp (digT key) else kp key
theorem kp_size {k : ByteArray} (h : k.size ≤ 64) : (kp k).size = 64 := by unfold kp; rw [sz_app, zeroM_size]; omega
theorem macK_size (key : ByteArray) : (macK key).size = 64 := by
  unfold macK
  split
  · exact kp_size (by rw [digT_size]; omega)
  · exact kp_size (by omega)
set_option maxHeartbeats 800000 in
theorem implKey_any (key : ByteArray) (w : World) (hs : key.size ≤ 1048576) (h : BothHere w) :
    Calls Tryd.prog 13 #[.string key] w fun e w' => e = .returned (.string (macK key)) ∧ Below w.heap.size w w' := by
  by_cases h64 : 64 < key.size
  · have hi : (64 : Int) < ((key.size : Nat) : Int) := by omega
    have HD : Hid _ := implDig_any key w (by omega) h
    have hz := digT_size key
    have HC : Hid (∀ wz, _) := fun wz => cloneM_any (digT key) wz (by omega)
    have HR : Hid (∀ wz, Calls Tryd.prog 27 #[.string ⟨#[0]⟩, .int .i64 32] wz fun e w' => e = .returned (.string (zeroT 32)) ∧ Below wz.heap.size wz w') := fun wz => rep_zero 32 wz (by omega)
    have HE : Hid (macK key = digT key ++ zeroT 32) := by show _ = _; unfold macK kp; rw [if_pos h64, hz]
    have hzi : (((digT key).size : Nat) : Int) = 32 := by omega
    clear h64 h hz
    have hzz : (zeroT 32).size = 32 := zeroM_size 32
    have hzd : (digT key).size = 32 := digT_size key
    generalize digT key = D at HD HC HE hzi hzd
    generalize zeroT 32 = Z at HR HE hzz
    go_enter Tryd.func13, Tryd.ntmps13
    go_wp2_with fail
    refine Calls.mono HD.out ?_
    rintro e w1 ⟨rfl, hb1⟩
    go_wp2_with fail
    refine Calls.mono (HC.out _) ?_
    rintro e w2 ⟨rfl, hb2⟩
    go_wp2_with fail
    refine Calls.mono (HR.out _) ?_
    rintro e w3 ⟨rfl, hb3⟩
    go_wp2
    go_ret
    exact ⟨by rw [HE.out]; rfl, (hb1.trans (hb2.mono hb1.size)).trans (hb3.mono (Nat.le_trans hb1.size hb2.size))⟩
  · have hi : ¬ (64 : Int) < ((key.size : Nat) : Int) := by omega
    have HC : Hid (∀ wz, _) := fun wz => cloneM_any key wz (by omega)
    have HR : Hid (∀ wz, _) := fun wz => rep_zero (64 - key.size) wz (by omega)
    have HE : Hid (macK key = key ++ zeroT (64 - key.size)) := by show _ = _; unfold macK kp; rw [if_neg h64]
    have hw : IntKind.i64.wrap (64 - ((key.size : Nat) : Int)) = ((64 - key.size : Nat) : Int) := by rw [IntKind.wrap_i64]; omega
    clear h64 h
    have hzz : (zeroT (64 - key.size)).size ≤ 64 := by rw [zeroM_size]; omega
    generalize zeroT (64 - key.size) = Z at HR HE hzz
    generalize ((64 - key.size : Nat) : Int) = n at HR hw
    go_enter Tryd.func13, Tryd.ntmps13
    go_wp2_with fail
    refine Calls.mono (HC.out _) ?_
    rintro e w2 ⟨rfl, hb2⟩
    go_wp2_with fail
    refine Calls.mono (HR.out _) ?_
    rintro e w3 ⟨rfl, hb3⟩
    go_wp2
    go_ret
    exact ⟨by rw [HE.out]; rfl, hb2.trans (hb3.mono hb2.size)⟩
set_option maxHeartbeats 800000 in
theorem specKey_any (key : ByteArray) (w : World) (hs : key.size ≤ 1048576) :
    Calls Tryd.prog 14 #[.string key] w fun e w' => e = .returned (.string (macK key)) ∧ Below w.heap.size w w' := by
  by_cases h64 : 64 < key.size
  · have hi : (64 : Int) < ((key.size : Nat) : Int) := by omega
    have HD : Hid _ := specDigest_any key w (by omega)
    have hz := digT_size key
    have HR : Hid (∀ wz, Calls Tryd.prog 28 #[.int .i64 32, .int .u8 0] wz fun e w' => e = .returned (.string (zeroT 32)) ∧ Below wz.heap.size wz w') := fun wz => by have := long_any 32 0 wz (by omega) (by omega); rw [zero_longM] at this; exact this
    have HE : Hid (macK key = digT key ++ zeroT 32) := by show _ = _; unfold macK kp; rw [if_pos h64, hz]
    have hzi : (((digT key).size : Nat) : Int) = 32 := by omega
    clear h64 hz
    have hzz : (zeroT 32).size = 32 := zeroM_size 32
    have hzd : (digT key).size = 32 := digT_size key
    generalize digT key = D at HD HE hzi hzd
    generalize zeroT 32 = Z at HR HE hzz
    go_enter Tryd.func14, Tryd.ntmps14
    go_wp2_with fail
    refine Calls.mono HD.out ?_
    rintro e w1 ⟨rfl, hb1⟩
    go_wp2_with fail
    refine Calls.mono (HR.out _) ?_
    rintro e w3 ⟨rfl, hb3⟩
    go_wp2
    go_ret
    exact ⟨by rw [HE.out]; rfl, hb1.trans (hb3.mono hb1.size)⟩
  · have hi : ¬ (64 : Int) < ((key.size : Nat) : Int) := by omega
    have HR : Hid (∀ wz, Calls Tryd.prog 28 #[.int .i64 ((64 - key.size : Nat) : Int), .int .u8 0] wz fun e w' => e = .returned (.string (zeroT (64 - key.size))) ∧ Below wz.heap.size wz w') := fun wz => by have := long_any (64 - key.size) 0 wz (by omega) (by omega); rw [zero_longM] at this; exact this
    have HE : Hid (macK key = key ++ zeroT (64 - key.size)) := by show _ = _; unfold macK kp; rw [if_neg h64]
    have hw : IntKind.i64.wrap (64 - ((key.size : Nat) : Int)) = ((64 - key.size : Nat) : Int) := by rw [IntKind.wrap_i64]; omega
    clear h64
    have hzz : (zeroT (64 - key.size)).size ≤ 64 := by rw [zeroM_size]; omega
    generalize zeroT (64 - key.size) = Z at HR HE hzz
    generalize ((64 - key.size : Nat) : Int) = n at HR hw
    go_enter Tryd.func14, Tryd.ntmps14
    go_wp2_with fail
    refine Calls.mono (HR.out _) ?_
    rintro e w3 ⟨rfl, hb3⟩
    go_wp2
    go_ret
    exact ⟨by rw [HE.out]; rfl, hb3⟩
/-- Each byte turned by one. -/
def turnF (t : ByteArray) (b : Nat) : Nat → Nat := fun i => btN t i ^^^ b
def turnT (t : ByteArray) (b : Nat) : ByteArray := strOfNums (bytesV t.size (turnF t b))
theorem turnT_size (t : ByteArray) (b : Nat) : (turnT t b).size = t.size := strOf_size _ _
def turnTo (t : ByteArray) (b k : Nat) : Nat → Nat := fun i => if i < k then turnF t b i else btN t i
theorem turnTo_upd (t : ByteArray) (b k : Nat) : upd (turnTo t b k) k (turnF t b k) = turnTo t b (k + 1) := by
  funext i
  unfold upd turnTo
  by_cases h : i = k
  · subst h; rw [if_pos rfl, if_pos (by omega)]
  · rw [if_neg h]
    by_cases h2 : i < k
    · rw [if_pos h2, if_pos (by omega)]
    · rw [if_neg h2, if_neg (by omega)]
theorem turn_bits (t : ByteArray) (b i : Nat) (hb : b < 256) : bits .xor .u8 (bt t i) (b : Int) = ((turnF t b i : Nat) : Int) := by
  rw [btN_eq]
  exact u8_xor_nat (btN t i) b (btN_lt t i) hb
set_option maxHeartbeats 800000 in
theorem specTurnT_any (t : ByteArray) (b : Nat) (w : World) (ht : t.size = 64) (hb : b < 256) :
    Calls Tryd.prog 24 #[.string t, .int .u8 (b : Int)] w fun e w' => e = .returned (.string (turnT t b)) ∧ Below w.heap.size w w' := by
  obtain ⟨cap, w1, hcv, hR1, hB1, hs1⟩ := bytes_mk t w
  have HR1 : Hid (RowC w1 w.heap.size .u8 t.size (turnTo t b 0)) := RowC.ext hR1 (fun i _ => by unfold turnTo; rw [if_neg (by omega)])
  have HB1 : Hid (Below w.heap.size w w1) := hB1
  have HN : Hid (turnT t b = strOfNums (bytesV t.size (turnF t b))) := rfl
  have hts : t.size ≤ 1000 := by omega
  clear hR1 hB1 hs1 ht
  go_enter Tryd.func24, Tryd.ntmps24
  go_wp2
  go_loopw [6] (fun i wr => ∃ k : Nat, k ≤ t.size ∧ i = .int .i64 (k : Int) ∧ Below w.heap.size w wr ∧ RowC wr w.heap.size .u8 t.size (turnTo t b k))
    (fun i _ => t.size - (intOf i).toNat)
  case atStart => exact ⟨0, Nat.zero_le _, rfl, HB1.out, HR1.out⟩
  case round =>
    obtain ⟨k, hk, rfl, hB, hR⟩ := hrel
    by_cases hkn : k < t.size
    · have hi0 : (0 : Int) ≤ (k : Int) := by omega
      have hi1 : (k : Int) < ((t.size : Nat) : Int) := by omega
      have c1 := hR.c k hkn
      rw [show turnTo t b k k = btN t k from if_neg (by omega), ← btN_eq] at c1
      have z1 := hR.z k hkn
      have hx := turn_bits t b k hb
      have HS : Hid (RowC _ w.heap.size .u8 t.size _) := hR.set hkn (turnF t b k)
      rw [turnTo_upd] at HS
      have HB : Hid (Below w.heap.size w wr) := hB
      generalize turnF t b k = y at hx HS
      clear hR hB hcv
      go_wp2
      go_roundw
      case rel => exact ⟨k + 1, by omega, by go_num, HB.out.setCell (Nat.le_refl _) _, HS.out⟩
      case measure => simp [intOf]; omega
    · obtain rfl : k = t.size := by omega
      have hcv2 := hR.conv (c := cap)
      clear hcv
      go_wp2
      go_ret
      exact ⟨by rw [HN.out, bytesV_ext (g := turnF t b) (fun i hi => by unfold turnTo; rw [if_pos hi])]; rfl, hB⟩
theorem sizeMarker : (Tryd.prog.info? 40).map (·.size) = some 1 := by kernel_rfl
set_option maxHeartbeats 800000 in
theorem implTurnT_any (t : ByteArray) (b : Nat) (w : World) (ht : t.size = 64) (hb : b < 256) :
    Calls Tryd.prog 32 #[.agg #[.string t], .int .u8 (b : Int)] w fun e w' => e = .returned (.string (turnT t b)) ∧ Below w.heap.size w w' := by
  have hc0 : (w.alloc (.cells #[.string t] 40)).cell? ⟨w.heap.size, 0, none⟩ = some (.string t) := by rw [cell_of_row _ w.heap.size 0 _ _ _ (heap_alloc_new w _)]; rfl
  have hb0 : Below w.heap.size w (w.alloc (.cells #[.string t] 40)) := (Below.refl _ _).alloc (Nat.le_refl _) _
  obtain ⟨cap, w1, hcv, hR1, hB1, hs1⟩ := bytes_mk t (w.alloc (.cells #[.string t] 40))
  have hsz : (w.alloc (.cells #[.string t] 40)).heap.size = w.heap.size + 1 := by simp
  have HB1 : Hid (Below w.heap.size w w1) := hb0.trans (hB1.mono hb0.size)
  rw [hsz] at hcv hR1
  have HR1 : Hid (RowC w1 (w.heap.size + 1) .u8 t.size (turnTo t b 0)) := RowC.ext hR1 (fun i _ => by unfold turnTo; rw [if_neg (by omega)])
  have HN : Hid (turnT t b = strOfNums (bytesV t.size (turnF t b))) := rfl
  have hts : t.size ≤ 1000 := by omega
  clear hR1 hB1 hs1 hb0 hsz ht
  go_enter Tryd.func32, Tryd.ntmps32
  go_wp2
  go_loopw [12] (fun i wr => ∃ k : Nat, k ≤ t.size ∧ i = .int .i64 (k : Int) ∧ Below w.heap.size w wr ∧ RowC wr (w.heap.size + 1) .u8 t.size (turnTo t b k))
    (fun i _ => t.size - (intOf i).toNat)
  case atStart => exact ⟨0, Nat.zero_le _, rfl, HB1.out, HR1.out⟩
  case round =>
    obtain ⟨k, hk, rfl, hB, hR⟩ := hrel
    by_cases hkn : k < t.size
    · have hi0 : (0 : Int) ≤ (k : Int) := by omega
      have hi1 : (k : Int) < ((t.size : Nat) : Int) := by omega
      have c1 := hR.c k hkn
      rw [show turnTo t b k k = btN t k from if_neg (by omega), ← btN_eq] at c1
      have z1 := hR.z k hkn
      have hx := turn_bits t b k hb
      have HS : Hid (RowC _ (w.heap.size + 1) .u8 t.size _) := hR.set hkn (turnF t b k)
      rw [turnTo_upd] at HS
      have HB : Hid (Below w.heap.size w wr) := hB
      generalize turnF t b k = y at hx HS
      clear hR hB hcv
      go_wp2
      go_roundw
      case rel => exact ⟨k + 1, by omega, by go_num, HB.out.setCell (show w.heap.size ≤ w.heap.size + 1 by omega) _, HS.out⟩
      case measure => simp [intOf]; omega
    · obtain rfl : k = t.size := by omega
      have hcv2 := hR.conv (c := cap)
      clear hcv
      go_wp2
      go_ret
      exact ⟨by rw [HN.out, bytesV_ext (g := turnF t b) (fun i hi => by unfold turnTo; rw [if_pos hi])]; rfl, hB⟩
/-- A mark. -/
def macT (key text : ByteArray) : ByteArray := digT (turnT (macK key) 92 ++ digT (turnT (macK key) 54 ++ text))
theorem macT_size (key text : ByteArray) : (macT key text).size = 32 := digT_size _
set_option maxHeartbeats 1600000 in
theorem specMac_any (key text : ByteArray) (w : World) (hk : key.size ≤ 1048576) (ht : text.size ≤ 10000000) :
    Calls Tryd.prog 10 #[.string key, .string text] w fun e w' => e = .returned (.string (macT key text)) ∧ Below w.heap.size w w' := by
  have h64 := macK_size key
  have HK : Hid (∀ wz, _) := fun wz => specKey_any key wz hk
  have H92 : Hid (∀ wz, Calls Tryd.prog 24 #[.string (macK key), .int .u8 92] wz fun e w' => e = .returned (.string (turnT (macK key) 92)) ∧ Below wz.heap.size wz w') := fun wz => specTurnT_any (macK key) 92 wz h64 (by omega)
  have H54 : Hid (∀ wz, Calls Tryd.prog 24 #[.string (macK key), .int .u8 54] wz fun e w' => e = .returned (.string (turnT (macK key) 54)) ∧ Below wz.heap.size wz w') := fun wz => specTurnT_any (macK key) 54 wz h64 (by omega)
  have HD : Hid (∀ wz, _) := fun wz => specDigest_any (turnT (macK key) 54 ++ text) wz (by rw [sz_app, turnT_size, h64]; omega)
  have HF : Hid (∀ wz, _) := fun wz => specDigest_any (turnT (macK key) 92 ++ digT (turnT (macK key) 54 ++ text)) wz (by rw [sz_app, turnT_size, h64, digT_size]; omega)
  have HE : Hid (digT (turnT (macK key) 92 ++ digT (turnT (macK key) 54 ++ text)) = macT key text) := rfl
  rw [HE.out] at HF
  generalize macT key text = M at HF ⊢
  have zA : (turnT (macK key) 54).size = 64 := by rw [turnT_size, h64]
  have zB : (turnT (macK key) 92).size = 64 := by rw [turnT_size, h64]
  have zI : (digT (turnT (macK key) 54 ++ text)).size = 32 := digT_size _
  clear h64 HE
  generalize digT (turnT (macK key) 54 ++ text) = I at HD HF zI
  generalize turnT (macK key) 54 = A at H54 HD zA
  generalize turnT (macK key) 92 = B at H92 HF zB
  generalize macK key = K at HK H92 H54
  go_enter Tryd.func10, Tryd.ntmps10
  go_wp2_with fail
  refine Calls.mono (HK.out _) ?_
  rintro e w1 ⟨rfl, hb1⟩
  go_wp2_with fail
  refine Calls.mono (H92.out _) ?_
  rintro e w2 ⟨rfl, hb2⟩
  go_wp2_with fail
  refine Calls.mono (H54.out _) ?_
  rintro e w3 ⟨rfl, hb3⟩
  go_wp2_with fail
  refine Calls.mono (HD.out _) ?_
  rintro e w4 ⟨rfl, hb4⟩
  go_wp2_with fail
  refine Calls.mono (HF.out _) ?_
  rintro e w5 ⟨rfl, hb5⟩
  have b2 := hb1.trans (hb2.mono hb1.size)
  have b3 := b2.trans (hb3.mono b2.size)
  have b4 := b3.trans (hb4.mono b3.size)
  have b5 := b4.trans (hb5.mono b4.size)
  go_wp2
  go_ret
  exact ⟨rfl, b5⟩
set_option maxHeartbeats 1600000 in
theorem markerOf_any (key : ByteArray) (w : World) (hk : key.size ≤ 1048576) (h : BothHere w) :
    Calls Tryd.prog 21 #[.string key] w fun e w' => e = .returned (.agg #[.string (macK key)]) ∧ Below w.heap.size w w' := by
  have hA := heap_alloc_new w (.cells #[.string ⟨#[]⟩] 40)
  have hB : Below w.heap.size w (w.alloc (.cells #[.string ⟨#[]⟩] 40)) := (Below.refl _ _).alloc (Nat.le_refl _) _
  have HK : Hid _ := implKey_any key (w.alloc (.cells #[.string ⟨#[]⟩] 40)) hk (h.next hB)
  go_enter Tryd.func21, Tryd.ntmps21
  go_wp2_with fail
  generalize w.alloc (.cells #[.string ⟨#[]⟩] 40) = w0 at hA hB HK ⊢
  refine Calls.mono HK.out ?_
  rintro e w1 ⟨rfl, hb1⟩
  have hs0 : w.heap.size < w0.heap.size := (Array.getElem?_eq_some_iff.1 hA).1
  have hA1 := (hb1.block _ hs0).trans hA
  have r0 : w1.cell? ⟨w.heap.size, 0, none⟩ = some (.string ⟨#[]⟩) := by rw [cell_of_row w1 _ 0 _ _ _ hA1]; rfl
  have r1 : w1.frozen? ⟨w.heap.size, 0, none⟩ = false := frozen_of_row w1 _ 0 _ _ hA1
  have HB5 : Hid (Below w.heap.size w (w1.setCell ⟨w.heap.size, 0, none⟩ (.string (macK key)))) := (hB.trans (hb1.mono hB.size)).setCell (Nat.le_refl _) _
  have HR5 : Hid ((w1.setCell ⟨w.heap.size, 0, none⟩ (.string (macK key))).heap[w.heap.size]? = some (.cells #[.string (macK key)] 40 (0, 0))) := by show _ = _; rw [heap_setCell_same w1 w.heap.size 0 _ _ _ hA1]; rfl
  clear hb1 hA hB HK hA1
  go_wp2
  refine bodyPost_ret (results_cell_row rfl _ _ w.heap.size 40 #[.string (macK key)] (0, 0) _ rfl ?_ Tryd.underlying40 rfl sizeMarker) rfl ?_
  · exact HR5.out
  · exact ⟨rfl, HB5.out⟩
set_option maxHeartbeats 1600000 in
theorem mark_any (key text : ByteArray) (w : World) (ht : text.size ≤ 10000000) (h : BothHere w) :
    Calls Tryd.prog 22 #[.agg #[.string (macK key)], .string text] w fun e w' => e = .returned (.string (macT key text)) ∧ Below w.heap.size w w' := by
  have h64 := macK_size key
  have H92 : Hid (∀ wz, Calls Tryd.prog 32 #[.agg #[.string (macK key)], .int .u8 92] wz fun e w' => e = .returned (.string (turnT (macK key) 92)) ∧ Below wz.heap.size wz w') := fun wz => implTurnT_any (macK key) 92 wz h64 (by omega)
  have H54 : Hid (∀ wz, Calls Tryd.prog 32 #[.agg #[.string (macK key)], .int .u8 54] wz fun e w' => e = .returned (.string (turnT (macK key) 54)) ∧ Below wz.heap.size wz w') := fun wz => implTurnT_any (macK key) 54 wz h64 (by omega)
  have HD : Hid (∀ wz, BothHere wz → _) := fun wz h => implDig_any (turnT (macK key) 54 ++ text) wz (by rw [sz_app, turnT_size, h64]; omega) h
  have HF : Hid (∀ wz, BothHere wz → _) := fun wz h => implDig_any (turnT (macK key) 92 ++ digT (turnT (macK key) 54 ++ text)) wz (by rw [sz_app, turnT_size, h64, digT_size]; omega) h
  have HE : Hid (digT (turnT (macK key) 92 ++ digT (turnT (macK key) 54 ++ text)) = macT key text) := rfl
  rw [HE.out] at HF
  generalize macT key text = M at HF ⊢
  have zA : (turnT (macK key) 54).size = 64 := by rw [turnT_size, h64]
  have zB : (turnT (macK key) 92).size = 64 := by rw [turnT_size, h64]
  have zI : (digT (turnT (macK key) 54 ++ text)).size = 32 := digT_size _
  clear h64 HE
  generalize digT (turnT (macK key) 54 ++ text) = I at HD HF zI
  generalize turnT (macK key) 54 = A at H54 HD zA
  generalize turnT (macK key) 92 = B at H92 HF zB
  generalize macK key = K at H92 H54 ⊢
  have HT0 : Hid (BothHere w) := h
  have hA0 : (w.alloc (.cells #[.string K] 40)).heap[w.heap.size]? = some (.cells #[.string K] 40 (0, 0)) := heap_alloc_new w _
  have hB0 : Below w.heap.size w (w.alloc (.cells #[.string K] 40)) := (Below.refl _ _).alloc (Nat.le_refl _) _
  clear h
  go_enter Tryd.func22, Tryd.ntmps22
  go_upto_region 1 with fail
  generalize w.alloc (.cells #[.string K] 40) = w0 at hA0 hB0 ⊢
  have hs0 : w.heap.size < w0.heap.size := (Array.getElem?_eq_some_iff.1 hA0).1
  have k0 : w0.cell? ⟨w.heap.size, 0, none⟩ = some (.string K) := by rw [cell_of_row w0 _ 0 _ _ _ hA0]; rfl
  go_wp2_with fail
  refine Calls.mono (H54.out _) ?_
  rintro e w1 ⟨rfl, hb1⟩
  have hA1 := (hb1.block _ hs0).trans hA0
  have hB1 := hB0.trans (hb1.mono hB0.size)
  clear hb1 hA0 hB0 k0 hs0
  go_wp2_with fail
  refine Calls.mono (HD.out _ (HT0.out.next hB1)) ?_
  rintro e w2 ⟨rfl, hb2⟩
  have hA2 := (hb2.block _ (Array.getElem?_eq_some_iff.1 hA1).1).trans hA1
  have hB2 := hB1.trans (hb2.mono hB1.size)
  have k2 : w2.cell? ⟨w.heap.size, 0, none⟩ = some (.string K) := by rw [cell_of_row w2 _ 0 _ _ _ hA2]; rfl
  clear hb2 hA1 hB1
  go_wp2_with fail
  refine Calls.mono (H92.out _) ?_
  rintro e w3 ⟨rfl, hb3⟩
  have hB3 := hB2.trans (hb3.mono hB2.size)
  clear hb3 hA2 hB2 k2
  go_wp2_with fail
  refine Calls.mono (HF.out _ (HT0.out.next hB3)) ?_
  rintro e w4 ⟨rfl, hb4⟩
  have hB4 := hB3.trans (hb4.mono hB3.size)
  go_wp2
  go_ret
  exact ⟨rfl, hB4⟩
set_option maxHeartbeats 1600000 in
theorem implMac_any (key text : ByteArray) (w : World) (hk : key.size ≤ 1048576) (ht : text.size ≤ 10000000) (h : BothHere w) :
    Calls Tryd.prog 8 #[.string key, .string text] w fun e w' => e = .returned (.string (macT key text)) ∧ Below w.heap.size w w' := by
  have HM : Hid _ := markerOf_any key w hk h
  have HX : Hid (∀ wz, BothHere wz → _) := fun wz h => mark_any key text wz ht h
  have HT0 : Hid (BothHere w) := h
  generalize macT key text = M at HX ⊢
  generalize macK key = K at HM HX
  clear h
  go_enter Tryd.func8, Tryd.ntmps8
  go_wp2_with fail
  refine Calls.mono HM.out ?_
  rintro e w1 ⟨rfl, hb1⟩
  go_wp2_with fail
  refine Calls.mono (HX.out _ (HT0.out.next hb1)) ?_
  rintro e w2 ⟨rfl, hb2⟩
  go_wp2
  go_ret
  exact ⟨rfl, hb1.trans (hb2.mono hb1.size)⟩
def macEq (key text tag : ByteArray) : Bool := (macT key text).toList == tag.toList
theorem implMacOk_any (key text tag : ByteArray) (w : World) (hk : key.size ≤ 1048576) (ht : text.size ≤ 10000000) (h : BothHere w) :
    Calls Tryd.prog 11 #[.string key, .string text, .string tag] w fun e w' => e = .returned (.bool (macEq key text tag)) ∧ Below w.heap.size w w' := by
  have HM : Hid _ := implMac_any key text w hk ht h
  have HE : Hid (macEq key text tag = ((macT key text).toList == tag.toList)) := rfl
  generalize macT key text = M at HM HE
  clear h
  go_enter Tryd.func11, Tryd.ntmps11
  go_wp2_with fail
  refine Calls.mono HM.out ?_
  rintro e w1 ⟨rfl, hb1⟩
  go_wp2
  go_ret
  exact ⟨by rw [HE.out]; rfl, hb1⟩
theorem specMacOk_any (key text tag : ByteArray) (w : World) (hk : key.size ≤ 1048576) (ht : text.size ≤ 10000000) :
    Calls Tryd.prog 12 #[.string key, .string text, .string tag] w fun e w' => e = .returned (.bool (macEq key text tag)) ∧ Below w.heap.size w w' := by
  have HM : Hid _ := specMac_any key text w hk ht
  have HE : Hid (macEq key text tag = ((macT key text).toList == tag.toList)) := rfl
  generalize macT key text = M at HM HE
  go_enter Tryd.func12, Tryd.ntmps12
  go_wp2_with fail
  refine Calls.mono HM.out ?_
  rintro e w1 ⟨rfl, hb1⟩
  go_wp2
  go_ret
  exact ⟨by rw [HE.out]; rfl, hb1⟩
end Go.Proofs.YticpflohhfokdaaDoor
