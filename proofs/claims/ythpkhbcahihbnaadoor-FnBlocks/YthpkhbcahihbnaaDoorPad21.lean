/- PadText (chapter 21): the specification's and the program's. -/
import Derived.Test.YthpkhbcahihbnaaDoorGApp
import Derived.Test.YthpkhbcahihbnaaDoorHigh21
import Derived.Test.YthpkhbcahihbnaaDoorRepW
import Derived.Test.YthpkhbcahihbnaaDoorPlain
import Derived.WalkKit
import Derived.WalkLawsBesides
import Derived.WalkSpells
import Derived.OwnWalk
namespace Go.Proofs.YthpkhbcahihbnaaDoor
open Go.RowKit Go.PlainAid
set_option maxRecDepth 20000
set_option linter.unusedVariables false
set_option linter.unusedSimpArgs false
theorem zeroB (n : Nat) : strOfNums (bytesV n (fun _ => 0)) = zeroT n := by
  apply Go.WideShapes.bytes_inj
  unfold zeroT
  rw [strOfNums_data]
  induction n with
  | zero => rfl
  | succ n ih =>
    have h : bytesV (n + 1) (fun _ => 0) = 0 :: bytesV n (fun _ => 0) := by
      unfold bytesV
      rw [List.range_succ_eq_map, List.map_cons, List.map_map]; rfl
    rw [h, List.map_cons, ih]; rfl
theorem zeroB_size (n : Nat) : (zeroT n).size = n := by rw [← zeroB, strOf_size]
theorem zeroB_snoc (n : Nat) : zeroT (n + 1) = zeroT n ++ oneB 0 := by rw [← zeroB, ← zeroB, snocB]
theorem app_assocT (a b c : ByteArray) : a ++ b ++ c = a ++ (b ++ c) := by
  apply Go.WideShapes.bytes_inj
  simp only [dat_app, List.append_assoc]
theorem app_none (a : ByteArray) : a ++ strOfNums (bytesV 0 fun _ => 0) = a := by
  apply Go.WideShapes.bytes_inj
  rw [dat_app]; simp [strOfNums_data, bytesV]
/-- How many bytes 0 there are. -/
def zc (n : Nat) : Nat := (64 - (n + 9) % 64) % 64
def eightH (x k : Nat) : ByteArray := strOfNums (bytesV k (highB x 8))
theorem eightH_size (x k : Nat) : (eightH x k).size = k := strOf_size _ _
theorem eightH_snoc (x k : Nat) : eightH x (k + 1) = eightH x k ++ oneB (highB x 8 k) := snocB _ _
theorem eightH_none (x : Nat) (a : ByteArray) : a ++ eightH x 0 = a := app_none a
/-- What PadText answers. -/
def fillT (t : ByteArray) : ByteArray := t ++ oneB 128 ++ zeroT (zc t.size) ++ eightH (8 * t.size) 8
theorem fillT_size (t : ByteArray) : (fillT t).size = t.size + 9 + zc t.size := by
  unfold fillT; rw [sz_app, sz_app, sz_app, oneB_size, zeroB_size, eightH_size]; omega
theorem fillT_le (t : ByteArray) : (fillT t).size ≤ t.size + 72 := by rw [fillT_size]; unfold zc; omega
set_option maxHeartbeats 1600000 in
theorem implFill_any (t : ByteArray) (w : World) (ht : t.size ≤ 100000000) :
    Calls Tryd.prog 6 #[.string t] w fun e w' => e = .returned (.string (fillT t)) ∧ Below w.heap.size w w' := by
  have H1 : Hid (∀ wz, Calls Tryd.prog 17 #[.string ⟨#[0]⟩, .int .i64 ((zc t.size : Nat) : Int)] wz fun e w' => e = .returned (.string (zeroT (zc t.size))) ∧ Below wz.heap.size wz w') := fun wz => rep_zero (zc t.size) wz (by unfold zc; omega)
  have H2 : Hid (∀ wz, Calls Tryd.prog 18 #[.int .u64 ((8 * t.size : Nat) : Int), .int .i64 8] wz fun e w' => e = .returned (.string (eightH (8 * t.size) 8)) ∧ Below wz.heap.size wz w') := fun wz => highest_any (8 * t.size) 8 wz (by omega) (by omega)
  have HE : Hid (fillT t = t ++ ⟨#[128]⟩ ++ zeroT (zc t.size) ++ eightH (8 * t.size) 8) := rfl
  have q1 : IntKind.i64.wrap ((t.size : Int) + 1) = (t.size : Int) + 1 := by rw [IntKind.wrap_i64]; omega
  have q2 : IntKind.i64.wrap ((t.size : Int) + 1 + 8) = (t.size : Int) + 9 := by rw [IntKind.wrap_i64]; omega
  have q3 : IntKind.i64.wrap (64 - ((t.size : Int) + 9) % 64) = 64 - ((t.size : Int) + 9) % 64 := by rw [IntKind.wrap_i64]; omega
  have q4 : (64 - ((t.size : Int) + 9) % 64) % 64 = ((zc t.size : Nat) : Int) := by unfold zc; omega
  have q5 : IntKind.u64.wrap ((t.size : Nat) : Int) = ((t.size : Nat) : Int) := by rw [IntKind.wrap_u64]; omega
  have q6 : IntKind.u64.wrap (8 * ((t.size : Nat) : Int)) = ((8 * t.size : Nat) : Int) := by rw [IntKind.wrap_u64]; omega
  have z1 := zeroB_size (zc t.size)
  have z0 : zc t.size < 64 := by unfold zc; omega
  have z2 := eightH_size (8 * t.size) 8
  generalize zeroT (zc t.size) = zz at H1 HE z1
  generalize eightH (8 * t.size) 8 = ee at H2 HE z2
  generalize zc t.size = p at H1 q4 z0 z1
  generalize 8 * t.size = q at H2 q6
  go_enter Tryd.func6, Tryd.ntmps6
  go_wp2_with fail
  refine Calls.mono (H1.out _) ?_
  rintro e w1 ⟨rfl, hb1⟩
  go_wp2_with fail
  refine Calls.mono (H2.out _) ?_
  rintro e w2 ⟨rfl, hb2⟩
  have HB : Hid (Below w.heap.size w w2) := hb1.trans (hb2.mono hb1.size)
  clear hb1 hb2
  go_wp2
  go_ret
  exact ⟨by rw [HE.out]; rfl, HB.out⟩
theorem GOwn.form {w : World} {B : Nat} {v : Value} {T : ByteArray} (h : GOwn w B v T) : ∃ g cap, v = .slice (some ⟨g, 0, none⟩) T.size cap := by
  obtain ⟨g, cap, cur, fz, hv, _⟩ := h
  exact ⟨g, cap, hv⟩
theorem zeroB_none (a : ByteArray) : a ++ zeroT 0 = a := by rw [← zeroB]; exact app_none a
def slen : Value → Nat
  | .slice _ n _ => n
  | _ => 0
set_option maxHeartbeats 1600000 in
theorem specFill_any (t : ByteArray) (w : World) (ht : t.size ≤ 100000000) :
    Calls Tryd.prog 30 #[.string t] w fun e w' => e = .returned (.string (fillT t)) ∧ Below w.heap.size w w' := by
  obtain ⟨v0, wA, hcv, hown0, hb0⟩ := GOwn.make w t (by omega)
  have HO0 : Hid (GOwn wA w.heap.size v0 t) := hown0
  have HB0 : Hid (Below w.heap.size w wA) := hb0
  clear hown0 hb0
  go_enter Tryd.func30, Tryd.ntmps30
  go_wp2_with (at_builtin; refine wpl_app_g rfl _ _ rfl w.heap.size v0 t rfl (HO0.out.alloc _) 128 (by decide) ⟨wA.heap.size, 0, none⟩ 1 rfl (cell_one_new _ _ _) (by omega) (by have := HB0.out.size; simp; omega) ?_)
  intro v1 w1 ho1 hg1
  have HO1 : Hid (GOwn w1 w.heap.size v1 (t ++ oneB 128)) := ho1
  have HB1 : Hid (Below w.heap.size w w1) := (HB0.out.alloc HB0.out.size _).grown hg1 (by have := HB0.out.size; simp; omega) (fun k hk => (HO0.out.lt k hk).1)
  clear ho1 hg1 HO0 HB0 hcv
  have hs1 : (t ++ oneB 128).size = t.size + 1 := by rw [sz_app, oneB_size]
  obtain ⟨p, hp⟩ : ∃ p, zc t.size = p := ⟨_, rfl⟩
  have hpz : p = (64 - (t.size + 9) % 64) % 64 := by rw [← hp]; rfl
  have HE : Hid (fillT t = t ++ oneB 128 ++ zeroT p ++ eightH (8 * t.size) 8) := by rw [← hp]; rfl
  clear hp
  go_wp2
  go_loopw [3] (fun v wr => ∃ (k m g cap : Nat), k ≤ p ∧ m = t.size + 1 + k ∧ v = .slice (some ⟨g, 0, none⟩) m cap ∧ GOwn wr w.heap.size v (t ++ oneB 128 ++ zeroT k) ∧ Below w.heap.size w wr)
    (fun v _ => t.size + 1 + p - slen v)
  case atStart =>
    obtain ⟨g, cap, hv⟩ := HO1.out.form
    exact ⟨0, t.size + 1, g, cap, Nat.zero_le _, rfl, by rw [hv, hs1], by rw [zeroB_none]; exact HO1.out, HB1.out⟩
  case round =>
    obtain ⟨k, m, g, cap, hk, hm, rfl, ho, hb⟩ := hrel
    have HO : Hid (GOwn wr w.heap.size (.slice (some ⟨g, 0, none⟩) m cap) (t ++ oneB 128 ++ zeroT k)) := ho
    have HB : Hid (Below w.heap.size w wr) := hb
    clear ho hb HO1 HB1
    by_cases hlt : k < p
    · have h56 : ¬ ((m : Nat) : Int) % 64 = 56 := by omega
      go_wp2_with (at_builtin; refine wpl_app_g rfl _ _ rfl w.heap.size (.slice (some ⟨g, 0, none⟩) m cap) (t ++ oneB 128 ++ zeroT k) rfl (HO.out.alloc _) 0 (by decide) ⟨wr.heap.size, 0, none⟩ 1 rfl (cell_one_new _ _ _) (by rw [sz_app, hs1, zeroB_size]; omega) (by have := HB.out.size; simp; omega) ?_)
      intro v2 w2 ho2 hg2
      rw [app_assocT, ← zeroB_snoc] at ho2
      have HO2 : Hid (GOwn w2 w.heap.size v2 (t ++ oneB 128 ++ zeroT (k + 1))) := ho2
      have HB2 : Hid (Below w.heap.size w w2) := (HB.out.alloc HB.out.size _).grown hg2 (by have := HB.out.size; simp; omega) (fun k hk => (HO.out.lt k hk).1)
      clear ho2 hg2
      go_wp2
      go_roundw
      case rel =>
        obtain ⟨g2, cap2, hv2⟩ := HO2.out.form
        exact ⟨k + 1, m + 1, g2, cap2, by omega, by omega, by rw [hv2, sz_app, hs1, zeroB_size]; congr 1; omega, HO2.out, HB2.out⟩
      case measure =>
        obtain ⟨g2, cap2, hv2⟩ := HO2.out.form
        rw [sz_app, hs1, zeroB_size] at hv2
        rw [hv2]
        simp only [slen]
        omega
    · obtain rfl : k = p := by omega
      have h56 : ((m : Nat) : Int) % 64 = 56 := by omega
      obtain ⟨x, hx⟩ : ∃ x : Nat, 8 * t.size = x := ⟨_, rfl⟩
      have hx9 : x < 9223372036854775807 := by omega
      have q6 : IntKind.i64.wrap (8 * ((t.size : Nat) : Int)) = ((x : Nat) : Int) := by rw [IntKind.wrap_i64]; omega
      have hT : (t ++ oneB 128 ++ zeroT k).size = m := by rw [sz_app, hs1, zeroB_size]; omega
      have hml : m ≤ 200000000 := by omega
      rw [hx] at HE
      generalize t ++ oneB 128 ++ zeroT k = T at HO HE hT
      generalize zc t.size = zz at HE
      clear hpz hk hlt hs1 hx
      have hb9 : (((t.size : Int) + 1 + (k : Int)) % 64 != 56) = false := by simp; omega
      go_wp2
      try rw [hb9]
      clear q6 hm h56 hb9
      go_loopw [3, 5] (fun v i wr2 => ∃ (k m2 g cap : Nat), k ≤ 8 ∧ i = .int .i64 (7 - (k : Int)) ∧ m2 = m + k ∧ v = .slice (some ⟨g, 0, none⟩) m2 cap ∧ GOwn wr2 w.heap.size v (T ++ eightH x k) ∧ Below w.heap.size w wr2)
        (fun _ i _ => (intOf i + 1).toNat)
      case atStart => exact ⟨0, m, g, cap, by omega, rfl, rfl, rfl, by rw [eightH_none]; exact HO.out, HB.out⟩
      case round =>
        obtain ⟨k, m2, g, cap, hk, rfl, hm2, rfl, ho, hb⟩ := hrel
        have HO3 : Hid (GOwn wr w.heap.size (.slice (some ⟨g, 0, none⟩) m2 cap) (T ++ eightH x k)) := ho
        have HB3 : Hid (Below w.heap.size w wr) := hb
        clear ho hb HO HB
        by_cases hlt : k < 8
        · obtain ⟨j, hj⟩ : ∃ j : Nat, k + j = 7 := ⟨7 - k, by omega⟩
          have hji : (7 - (k : Int)) = ((j : Nat) : Int) := by omega
          have hjl : j ≤ 7 := by omega
          have q1 : IntKind.u64.wrap ((j : Nat) : Int) = ((j : Nat) : Int) := by rw [IntKind.wrap_u64]; omega
          have q2 : IntKind.u64.wrap (8 * ((j : Nat) : Int)) = 8 * ((j : Nat) : Int) := by rw [IntKind.wrap_u64]; omega
          have HL : Hid (((x : Nat) : Int) / 2 ^ (8 * j) % 256 = ((lowB x j : Nat) : Int)) := by show _ = _; unfold lowB; push_cast; rfl
          have HH : Hid (lowB x j = highB x 8 k) := by show _ = _; unfold highB; rw [show 8 - 1 - k = j by omega]
          have hsz2 : (T ++ eightH x k).size = m + k := by rw [sz_app, hT, eightH_size]
          have hlb : lowB x j < 256 := Nat.mod_lt _ (by decide)
          have HO4 : Hid (GOwn wr w.heap.size (.slice (some ⟨g, 0, none⟩) (m + k) cap) (T ++ eightH x k)) := by rw [← hm2]; exact HO3.out
          rw [hji]
          go_wp2_with (at_builtin; refine wpl_app_g rfl _ _ rfl w.heap.size (.slice (some ⟨g, 0, none⟩) m2 cap) (T ++ eightH x k) rfl ?h1 (lowB x j) ?h2 ⟨wr.heap.size, 0, none⟩ 1 rfl ?h3 ?h4 ?h5 ?h6)
          case h1 => exact HO3.out.alloc _
          case h2 => exact hlb
          case h3 => rw [← HL.out]; exact cell_one_new _ _ _
          case h4 => rw [hsz2]; omega
          case h5 => have := HB3.out.size; simp; omega
          case h6 =>
            intro v2 w2 ho2 hg2
            rw [HH.out, app_assocT, ← eightH_snoc] at ho2
            have HO2 : Hid (GOwn w2 w.heap.size v2 (T ++ eightH x (k + 1))) := ho2
            have HB2 : Hid (Below w.heap.size w w2) := (HB3.out.alloc HB3.out.size _).grown hg2 (by have := HB3.out.size; simp; omega) (fun k hk => (HO3.out.lt k hk).1)
            have q3 : IntKind.i64.wrap (((j : Nat) : Int) - 1) = ((j : Nat) : Int) - 1 := by rw [IntKind.wrap_i64]; omega
            clear ho2 hg2
            go_wp2
            go_roundw
            case rel =>
              obtain ⟨g2, cap2, hv2⟩ := HO2.out.form
              exact ⟨k + 1, m + k + 1, g2, cap2, by omega, by congr 1; omega, by omega, by rw [hv2, sz_app, hT, eightH_size]; rfl, HO2.out, HB2.out⟩
            case measure => simp [intOf]
        · obtain rfl : k = 8 := by omega
          have hcv := HO3.out.conv
          rw [← HE.out, hm2] at hcv
          go_wp2
          go_ret
          exact ⟨rfl, HB3.out⟩
end Go.Proofs.YthpkhbcahihbnaaDoor
