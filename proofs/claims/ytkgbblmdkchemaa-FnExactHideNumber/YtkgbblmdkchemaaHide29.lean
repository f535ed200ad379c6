/- A number hidden (chapter 29): HideNumber of both sides. -/
import Derived.Test.YtkgbblmdkchemaaNonce29
import Derived.Test.YtkgbblmdkchemaaStreamS24
import Derived.Test.YtkgbblmdkchemaaStartS24
import Derived.Test.YtkgbblmdkchemaaOfHi21
import Derived.Test.YtkgbblmdkchemaaSubT
import Derived.WalkKit
import Derived.WalkLawsBesides
import Derived.WalkSpells
import Derived.BigRegion
import Derived.OrdersHeld
import Derived.Deep.RegionHeld
import Derived.Deep.RegionHeld3
import Derived.Laws.Cover3
namespace Go.Proofs.Ytkgbblmdkchemaa
open Go.RowKit Go.PlainAid
set_option maxRecDepth 20000
set_option linter.unusedVariables false
def smp (s : ByteArray) : ByteArray := s.extract 4 16
def cnt (s : ByteArray) : Nat := lowN (btN s) 0 4
theorem cnt_lt (s : ByteArray) : cnt s < 4294967296 := lowN_lt (b := btN s) (btN_lt s) 0 4
theorem smp_size {s : ByteArray} (h : 16 ≤ s.size) : (smp s).size = 12 := by unfold smp; rw [sub_size s 4 16 (by omega) h]
/-- The two bytes that hide. -/
def hidK (hide s : ByteArray) : ByteArray := streamT hide (smp s) ((cnt s : Nat) : Int) 2
theorem hid_ok {hide s : ByteArray} (h16 : 16 ≤ s.size) : streamOk hide (smp s) ((cnt s : Nat) : Int) 2 = decide (hide.size = 32) := by
  have h1 := smp_size h16
  have h2 := cnt_lt s
  have h3 : okW ((cnt s : Nat) : Int) = true := (okW_iff _).2 ⟨by omega, by omega⟩
  unfold streamOk startOk
  rw [h1, h3]
  simp
theorem hidK_size {hide s : ByteArray} (h16 : 16 ≤ s.size) (h32 : hide.size = 32) : (hidK hide s).size = 2 := by
  unfold hidK streamT
  rw [hid_ok h16, decide_eq_true h32, if_pos rfl, cut_size _ _ (by rw [streamB_size]; decide)]
  rfl
def hidOk (hide : ByteArray) (seq : Int) (s : ByteArray) : Bool := decide (hide.size = 32 ∧ 16 ≤ s.size ∧ 0 ≤ seq ∧ seq ≤ 65535)
def hidX (hide : ByteArray) (x : Nat) (s : ByteArray) : Nat := x ^^^ (btN (hidK hide s) 0 * 256 + btN (hidK hide s) 1)
def hidN (hide : ByteArray) (seq : Int) (s : ByteArray) : Int := if hidOk hide seq s = true then ((hidX hide seq.toNat s : Nat) : Int) else 0
theorem hid_no {hide s : ByteArray} {seq : Int} (h : ¬ (hide.size = 32 ∧ 16 ≤ s.size ∧ 0 ≤ seq ∧ seq ≤ 65535)) : hidOk hide seq s = false ∧ hidN hide seq s = 0 := by
  have h1 : hidOk hide seq s = false := decide_eq_false h
  refine ⟨h1, ?_⟩
  unfold hidN; rw [h1]; rfl
theorem hid_yes {hide s : ByteArray} {x : Nat} (h : hide.size = 32 ∧ 16 ≤ s.size ∧ x ≤ 65535) : hidOk hide (x : Int) s = true ∧ hidN hide (x : Int) s = ((hidX hide x s : Nat) : Int) := by
  have h1 : hidOk hide (x : Int) s = true := decide_eq_true ⟨h.1, h.2.1, by omega, by omega⟩
  refine ⟨h1, ?_⟩
  unfold hidN; rw [h1, Int.toNat_natCast]; rfl
theorem xor_two (a b c d : Nat) (hb : b < 256) (hd : d < 256) : (a * 256 + b) ^^^ (c * 256 + d) = (a ^^^ c) * 256 + (b ^^^ d) := by
  have h1 := Nat.xor_div_two_pow (a := a * 256 + b) (b := c * 256 + d) (n := 8)
  have h2 := Nat.xor_mod_two_pow (a := a * 256 + b) (b := c * 256 + d) (n := 8)
  have e : (2 : Nat) ^ 8 = 256 := by decide
  rw [e] at h1 h2
  rw [show (a * 256 + b) / 256 = a by omega, show (c * 256 + d) / 256 = c by omega] at h1
  rw [show (a * 256 + b) % 256 = b by omega, show (c * 256 + d) % 256 = d by omega] at h2
  omega
theorem i64xor (a b : Nat) (ha : a < 2 ^ 62) (hb : b < 2 ^ 62) : bits .xor .i64 (a : Int) (b : Int) = ((a ^^^ b : Nat) : Int) := by
  have hx : a ^^^ b < 2 ^ 62 := Nat.xor_lt_two_pow ha hb
  have h1 : (BitVec.ofInt 64 (a : Int)).toNat = a := by rw [BitVec.toNat_ofInt]; omega
  have h2 : (BitVec.ofInt 64 (b : Int)).toNat = b := by rw [BitVec.toNat_ofInt]; omega
  show IntKind.i64.wrap ((BitVec.ofInt 64 (a : Int) ^^^ BitVec.ofInt 64 (b : Int)).toNat : Int) = _
  rw [BitVec.toNat_xor, h1, h2, IntKind.wrap_i64]
  omega
def numT2 (x : Nat) : ByteArray := strOfNums (bytesV 2 (highB x 2))
theorem numT2_size (x : Nat) : (numT2 x).size = 2 := strOf_size _ _
theorem numT2_at (x : Nat) {i : Nat} (h : i < 2) : btN (numT2 x) i = highB x 2 i := strOf_btN (fun i _ => highB_lt x 2 i) h
theorem hid_hi {hide s : ByteArray} {x : Nat} (h16 : 16 ≤ s.size) (h32 : hide.size = 32) (hx : x ≤ 65535) :
    (xorT (numT2 x) (hidK hide s)).size = 2 ∧ hiN (btN (xorT (numT2 x) (hidK hide s))) 0 (xorT (numT2 x) (hidK hide s)).size = hidX hide x s := by
  have hk := hidK_size h16 h32
  have hs : (xorT (numT2 x) (hidK hide s)).size = 2 := by unfold xorT; rw [strOf_size, numT2_size, hk]; rfl
  refine ⟨hs, ?_⟩
  rw [hs]
  have ha : ∀ i, i < 2 → btN (xorT (numT2 x) (hidK hide s)) i = highB x 2 i ^^^ btN (hidK hide s) i := by
    intro i hi
    unfold xorT
    rw [numT2_size, hk, strOf_btN (fun i _ => xorF_lt _ _ i) (by omega)]
    unfold xorF
    rw [numT2_at x hi]
  rw [hiN, hiN, hiN, ha _ (by omega), ha _ (by omega)]
  have b0 := btN_lt (hidK hide s) 0
  have b1 := btN_lt (hidK hide s) 1
  unfold hidX
  generalize btN (hidK hide s) 0 = p at b0 ⊢
  generalize btN (hidK hide s) 1 = q at b1 ⊢
  have e0 : highB x 2 (0 + 0) = x / 256 := by unfold highB lowB; simp; omega
  have e1 : highB x 2 (0 + 1) = x % 256 := by unfold highB lowB; simp
  rw [e0, e1]
  have hxx : x = x / 256 * 256 + x % 256 := by omega
  conv => rhs; rw [hxx]
  rw [xor_two _ _ _ _ (Nat.mod_lt _ (by omega)) b1]
  omega
theorem number2_any (x : Nat) (w : World) (hx : x ≤ 65535) :
    Calls Try.prog 21 #[.int .i64 (x : Int)] w fun e w' => e = .returned (.string (numT2 x)) ∧ Below w.heap.size w w' := by
  have HH : Hid _ := highest_any x 2 w (by omega) (by omega)
  have hw : IntKind.u64.wrap (x : Int) = (x : Int) := by rw [IntKind.wrap_u64]; omega
  have HN : Hid (strOfNums (bytesV 2 (highB x 2)) = numT2 x) := rfl
  rw [HN.out] at HH
  go_enter Try.func21, Try.ntmps21
  go_wp2_with fail
  refine Calls.mono HH.out ?_
  rintro e w1 ⟨rfl, hb⟩
  go_wp2
  go_ret
  exact ⟨rfl, hb⟩
set_option maxHeartbeats 1600000 in
theorem implHide_any (hide : ByteArray) (seq : Int) (s : ByteArray) (w : World) (hs : s.size ≤ 1048576) :
    Calls Try.prog 9 #[.string hide, .int .i64 seq, .string s] w fun e w' => e = .returned (.tuple #[.int .i64 (hidN hide seq s), .bool (hidOk hide seq s)]) ∧ Below w.heap.size w w' := by
  by_cases hq : 0 ≤ seq ∧ seq ≤ 65535
  · have hq0 : ¬ seq < 0 := by omega
    have hq1 : ¬ 65535 < seq := by omega
    by_cases h16 : 16 ≤ s.size
    · have hi16 : ¬ ((s.size : Nat) : Int) < 16 := by omega
      have hi4 : (4 : Int) ≤ ((s.size : Nat) : Int) := by omega
      have hj16 : (16 : Int) ≤ ((s.size : Nat) : Int) := by omega
      obtain ⟨x, rfl⟩ : ∃ x : Nat, seq = (x : Int) := ⟨seq.toNat, by omega⟩
      have hc4 : (s.extract 0 4).size = 4 := cut_size s 4 (by omega)
      have HO : Hid (∀ wz, Calls Try.prog 18 #[.string (s.extract 0 4)] wz fun e w' => e = .returned (.int .u64 ((cnt s : Nat) : Int)) ∧ wz = w') := fun wz => by
        have h := ofLow_any (s.extract 0 4) wz (by omega)
        rw [hc4] at h
        have e : lowN (fun j => (bt (s.extract 0 4) j).toNat) 0 4 = cnt s := lowN_ext 4 (fun j hj => by rw [Nat.zero_add]; exact cut_btN s (show j < 4 by omega))
        rw [e] at h; exact h
      have hcl := cnt_lt s
      have hw : IntKind.i64.wrap ((cnt s : Nat) : Int) = ((cnt s : Nat) : Int) := by rw [IntKind.wrap_i64]; omega
      have HS : Hid (∀ wz, _) := fun wz => implStream_any hide (smp s) ((cnt s : Nat) : Int) 2 wz
      rw [hid_ok h16] at HS
      have HK : Hid (streamT hide (smp s) ((cnt s : Nat) : Int) 2 = hidK hide s) := rfl
      rw [HK.out] at HS
      have HP : Hid (smp s = s.extract 4 16) := rfl
      rw [HP.out] at HS
      clear hcl HK HP hc4
      by_cases h32 : hide.size = 32
      · have HE : Hid _ := hid_yes (hide := hide) (s := s) (x := x) ⟨h32, h16, by omega⟩
        rw [decide_eq_true h32] at HS
        have HN : Hid (∀ wz, _) := fun wz => number2_any x wz (by omega)
        obtain ⟨z1, z2⟩ := hid_hi (x := x) h16 h32 (by omega)
        have HX : Hid (∀ wz, _) := fun wz => implXor_any (numT2 x) (hidK hide s) wz (by rw [numT2_size]; omega) (by rw [hidK_size h16 h32]; omega)
        have HH : Hid (∀ wz, _) := fun wz => ofHi_any (xorT (numT2 x) (hidK hide s)) wz (by omega)
        rw [z2] at HH
        have hlt : hidX hide x s < 65536 := Nat.xor_lt_two_pow (n := 16) (by omega) (by have := btN_lt (hidK hide s) 0; have := btN_lt (hidK hide s) 1; omega)
        have hwx : IntKind.i64.wrap ((hidX hide x s : Nat) : Int) = ((hidX hide x s : Nat) : Int) := by rw [IntKind.wrap_i64]; omega
        clear z1 z2 hlt
        generalize hidX hide x s = y at HE HH hwx
        generalize hidK hide s = K at HS HX HH
        generalize numT2 x = N at HN HX HH
        generalize xorT N K = T at HX HH
        generalize ((cnt s : Nat) : Int) = c at HO hw HS
        clear h16 h32 hq
        generalize (x : Int) = xi at *
        go_enter Try.func9, Try.ntmps9
        go_wp2_with fail
        refine Calls.mono (HO.out _) ?_
        rintro e w1 ⟨rfl, rfl⟩
        go_wp2_with fail
        refine Calls.mono (HS.out _) ?_
        rintro e w1 ⟨rfl, hb1⟩
        go_wp2_with fail
        refine Calls.mono (HN.out _) ?_
        rintro e w2 ⟨rfl, hb2⟩
        go_wp2_with fail
        refine Calls.mono (HX.out _) ?_
        rintro e w3 ⟨rfl, hb3⟩
        go_wp2_with fail
        refine Calls.mono (HH.out _) ?_
        rintro e w4 ⟨rfl, rfl⟩
        go_wp2
        go_ret2
        exact ⟨by rw [HE.out.1, HE.out.2]; rfl, (hb1.trans (hb2.mono hb1.size)).trans (hb3.mono (Nat.le_trans hb1.size hb2.size))⟩
      · have HE : Hid _ := hid_no (hide := hide) (s := s) (seq := (x : Int)) (by omega)
        rw [decide_eq_false h32] at HS
        generalize ((cnt s : Nat) : Int) = c at HO hw HS
        clear h16 h32 hq
        generalize (x : Int) = xi at *
        go_enter Try.func9, Try.ntmps9
        go_wp2_with fail
        refine Calls.mono (HO.out _) ?_
        rintro e w1 ⟨rfl, rfl⟩
        go_wp2_with fail
        refine Calls.mono (HS.out _) ?_
        rintro e w1 ⟨rfl, hb1⟩
        go_wp2
        go_ret2
        exact ⟨by rw [HE.out.1, HE.out.2]; rfl, hb1⟩
    · have HE : Hid _ := hid_no (hide := hide) (s := s) (seq := seq) (by omega)
      have hi16 : ((s.size : Nat) : Int) < 16 := by omega
      clear hq
      go_enter Try.func9, Try.ntmps9
      go_wp2
      go_ret2
      exact ⟨by rw [HE.out.1, HE.out.2]; rfl, Below.refl _ _⟩
  · have HE : Hid _ := hid_no (hide := hide) (s := s) (seq := seq) (by omega)
    by_cases h0 : seq < 0
    · clear hq
      go_enter Try.func9, Try.ntmps9
      go_wp2
      go_ret2
      exact ⟨by rw [HE.out.1, HE.out.2]; rfl, Below.refl _ _⟩
    · have h1 : 65535 < seq := by omega
      clear hq
      go_enter Try.func9, Try.ntmps9
      go_wp2
      go_ret2
      exact ⟨by rw [HE.out.1, HE.out.2]; rfl, Below.refl _ _⟩
set_option maxHeartbeats 1600000 in
theorem specHide_any (hide : ByteArray) (seq : Int) (s : ByteArray) (w : World) (hs : s.size ≤ 1048576) :
    Calls Try.prog 8 #[.string hide, .int .i64 seq, .string s] w fun e w' => e = .returned (.tuple #[.int .i64 (hidN hide seq s), .bool (hidOk hide seq s)]) ∧ Below w.heap.size w w' := by
  by_cases h32 : hide.size = 32
  · have hi32 : ((hide.size : Nat) : Int) = 32 := by omega
    have hb32 : (((hide.size : Nat) : Int) != 32) = false := by simp; omega
    by_cases h16 : 16 ≤ s.size
    · have hi16 : ¬ ((s.size : Nat) : Int) < 16 := by omega
      have hj16 : (16 : Int) ≤ ((s.size : Nat) : Int) := by omega
      by_cases hq : 0 ≤ seq ∧ seq ≤ 65535
      · obtain ⟨x, rfl⟩ : ∃ x : Nat, seq = (x : Int) := ⟨seq.toNat, by omega⟩
        have HC : Hid (∀ wz, _) := fun wz => specInN_yes (x : Int) 0 65535 wz hq
        have HE : Hid _ := hid_yes (hide := hide) (s := s) (x := x) ⟨h32, h16, by omega⟩
        have HO : Hid (∀ wz, Calls Try.prog 17 #[.string s, .int .i64 0] wz fun e w' => e = .returned (.int .i64 ((cnt s : Nat) : Int)) ∧ wz.drew = w') := fun wz => four_any s 0 wz (by omega) (by omega)
        have HS : Hid (∀ wz, _) := fun wz => specStream_any hide (smp s) ((cnt s : Nat) : Int) 2 wz
        rw [hid_ok h16, decide_eq_true h32] at HS
        have HK : Hid (streamT hide (smp s) ((cnt s : Nat) : Int) 2 = hidK hide s) := rfl
        rw [HK.out] at HS
        have HP : Hid (smp s = s.extract 4 16) := rfl
        rw [HP.out] at HS
        have hz := hidK_size h16 h32
        have hgk := get_bt (hidK hide s)
        have k0 : (0 : Int) < ((hidK hide s).size : Int) := by omega
        have k1 : (1 : Int) < ((hidK hide s).size : Int) := by omega
        have b0 := bt_nonneg (hidK hide s) 0
        have b1 := bt_le (hidK hide s) 0
        have b2 := bt_nonneg (hidK hide s) 1
        have b3 := bt_le (hidK hide s) 1
        have hw1 : IntKind.i64.wrap (bt (hidK hide s) 0 * 256) = bt (hidK hide s) 0 * 256 := by rw [IntKind.wrap_i64]; omega
        have hw2 : IntKind.i64.wrap (bt (hidK hide s) 0 * 256 + bt (hidK hide s) 1) = bt (hidK hide s) 0 * 256 + bt (hidK hide s) 1 := by rw [IntKind.wrap_i64]; omega
        have hx : bits .xor .i64 (x : Int) (bt (hidK hide s) 0 * 256 + bt (hidK hide s) 1) = ((hidX hide x s : Nat) : Int) := by
          have h := i64xor x (btN (hidK hide s) 0 * 256 + btN (hidK hide s) 1) (by omega) (by have := btN_lt (hidK hide s) 0; have := btN_lt (hidK hide s) 1; omega)
          rw [btN_eq, btN_eq]
          have e : ((btN (hidK hide s) 0 * 256 + btN (hidK hide s) 1 : Nat) : Int) = ((btN (hidK hide s) 0 : Nat) : Int) * 256 + ((btN (hidK hide s) 1 : Nat) : Int) := by push_cast; rfl
          rw [← e]; exact h
        clear HK HP hz
        generalize hidX hide x s = y at HE hx
        generalize hidK hide s = K at *
        generalize ((cnt s : Nat) : Int) = c at HO HS
        clear h16 h32 hq
        generalize (x : Int) = xi at *
        go_enter Try.func8, Try.ntmps8
        go_wp2_with fail
        refine Calls.mono (HC.out _) ?_
        rintro e w1 ⟨rfl, rfl⟩
        go_upto_region 3 with fail
        have HBw : Below w.heap.size w w := Below.refl _ _
        go_region_held3 (fun w' => Below w.heap.size w w') (first | assumption | exact HBw.drew | exact HBw.drew.drew | exact HBw.drew.drew.trans (hb7.mono (Nat.le_refl _))) (first | (go_at_call 17; refine (HO.out _).mono ?_; rintro e y6 ⟨rfl, rfl⟩) | (go_at_call 16; refine (HS.out _).mono ?_; rintro e y7 ⟨rfl, hb7⟩))
        have HBy : Hid (Below w.heap.size w y7) := HBw.drew.drew.trans (hb7.mono (Nat.le_refl _))
        clear hb7 HBw
        go_wp2
        go_region
        all_goals
          go_wp2
          go_ret2
          exact ⟨by rw [HE.out.1, HE.out.2]; rfl, HBy.out.drew⟩
      · have HE : Hid _ := hid_no (hide := hide) (s := s) (seq := seq) (by omega)
        have HC : Hid (∀ wz, _) := fun wz => specInN_no seq 0 65535 wz hq
        clear hq
        go_enter Try.func8, Try.ntmps8
        go_wp2_with fail
        refine Calls.mono (HC.out _) ?_
        rintro e w1 ⟨rfl, rfl⟩
        go_wp2
        go_ret2
        exact ⟨by rw [HE.out.1, HE.out.2]; rfl, Below.refl _ _⟩
    · have HE : Hid _ := hid_no (hide := hide) (s := s) (seq := seq) (by omega)
      have hi16 : ((s.size : Nat) : Int) < 16 := by omega
      go_enter Try.func8, Try.ntmps8
      go_wp2
      go_ret2
      exact ⟨by rw [HE.out.1, HE.out.2]; rfl, Below.refl _ _⟩
  · have HE : Hid _ := hid_no (hide := hide) (s := s) (seq := seq) (by omega)
    have hi32 : ¬ ((hide.size : Nat) : Int) = 32 := by omega
    have hb32 : (((hide.size : Nat) : Int) != 32) = true := by simp; omega
    go_enter Try.func8, Try.ntmps8
    go_wp2
    go_ret2
    exact ⟨by rw [HE.out.1, HE.out.2]; rfl, Below.refl _ _⟩
end Go.Proofs.Ytkgbblmdkchemaa
