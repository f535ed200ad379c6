/- The specification's numbers of a curve (chapter 27): l27Inv. -/
import Derived.Test.YtjhglbdknjoeeaaSmul27
import Derived.Laws.OwnMore
import Derived.Laws.MakeOwn
import Derived.Deep.QuietTactic
import Derived.BigQuiet
import Derived.WalkKit
import Derived.WalkLawsBesides
import Derived.WalkSpells
import Derived.BigRegion
import Derived.Laws.ShiftsVar
import Derived.Lib.Strings
import Derived.Below
import Derived.OwnWalk
import Derived.PlainAid
import Derived.Great.Walk
namespace Go.Proofs.Ytjhglbdknjoeeaa
open Go.RowKit Go.PlainAid
set_option maxRecDepth 20000
set_option linter.unusedVariables false
set_option linter.unusedSimpArgs false
theorem mul_both {a b c d : Int} (h1 : a % fp = b % fp) (h2 : c % fp = d % fp) : (a * c) % fp = (b * d) % fp := by rw [Int.mul_emod, h1, h2, ← Int.mul_emod]
set_option maxHeartbeats 3200000 in
theorem sinv_any (a : Option Addr) (ca : Nat) (l : List Int) (w : World) (hl : l.length = 16) (ra : RowI w.heap.size w a l) (bl : within (-262144) 262144 l) :
    Calls Try.prog 72 #[.slice a 16 ca] w fun e w' => ∃ g cap r, e = .returned (.slice (some ⟨g, 0, none⟩) 16 cap) ∧ RowS w.heap.size w' g 16 cap r ∧ within (-262144) 262144 r ∧ v16 r % fp = ivp (v16 l) 255 % fp ∧ Below w.heap.size w w' := by
  obtain ⟨i0, hi, hz0, hz1, hz2⟩ := info_parts infoIntS
  obtain ⟨b, off, rfl⟩ := ra.addr (show 0 < l.length by omega)
  have HBL : Hid (within (-262144) 262144 l) := bl
  have RA : Hid (RowI w.heap.size w (some ⟨b, off, none⟩) l) := ra
  clear bl ra
  have HBC : Hid (Below w.heap.size w (w.alloc (.cells #[] 3))) := (Below.refl _ _).alloc (Nat.le_refl _) _
  have HOC : Hid (OwnInt w.heap.size (w.alloc (.cells #[] 3)) (.slice (some ⟨w.heap.size, 0, none⟩) 0 0) []) := World.ownsRow_made _ _ _ (Nat.le_refl _) (by decide) rfl
  go_enter Try.func72, Try.ntmps72
  go_wp2_with (at_builtin; refine wpList_append_own _ rfl _ _ 24 rfl w.heap.size 3 i0 (.int .i64 0) 1 8 Try.underlying24 hi hz0 hz1 hz2 rfl (by decide) _ 0 _ rfl HOC.out ⟨b, off, none⟩ 16 ca (l.map (Value.int .i64)) rfl (by simp [hl]) ?c1 ?c2 ?c3 ?c4 ?c5 ?_)
  case c1 => exact RA.out.adds_later HBC.out
  case c2 => intro u hu; obtain ⟨x, _, rfl⟩ := List.mem_map.1 hu; rfl
  case c3 => unfold maxLen; omega
  case c4 => omega
  case c5 => simp
  intro v' w2 hown' hgrow _
  have ho : OwnInt w.heap.size w2 v' l := by unfold OwnInt; rw [hl]; simpa using hown'
  have hb2 : Below w.heap.size w w2 := HBC.out.grown hgrow (by simp) (fun k hk => by simp [Value.ownBlock] at hk; omega)
  obtain ⟨g0, cap0, rfl, hrs⟩ := ho.rowS (by omega)
  rw [hl] at hrs ⊢
  have HR0 : Hid (RowS w.heap.size w2 g0 16 cap0 l) := hrs
  have HB2 : Hid (Below w.heap.size w w2) := hb2
  clear hown' hgrow ho hb2 hrs HOC HBC
  have HV0 : Hid (v16 l % fp = ivp (v16 l) (0 + 1) % fp) := by show _ = _; congr 1; show v16 l = 1 * 1 * v16 l; omega
  go_wp2
  go_loopw [3, 4] (fun v i wr => ∃ (k g cap : Nat) (r : List Int), k ≤ 254 ∧ i = .int .i64 (253 - (k : Int)) ∧ v = .slice (some ⟨g, 0, none⟩) 16 cap ∧ Hid (Below w.heap.size w wr) ∧ Hid (RowS w.heap.size wr g 16 cap r) ∧ Hid (within (-262144) 262144 r) ∧ Hid (v16 r % fp = ivp (v16 l) (k + 1) % fp))
    (fun _ i _ => (intOf i + 1).toNat)
  case atStart => exact ⟨0, g0, cap0, l, Nat.zero_le _, rfl, rfl, HB2, HR0, HBL, HV0⟩
  case round =>
    clear HB2 HR0 HV0
    obtain ⟨k, g, cap, r, hk, rfl, rfl, HB, HR, HW, HV⟩ := hrel
    by_cases hlt : k < 254
    · have HS : Hid (ivp (v16 l) (k + 1 + 1) = ivp (v16 l) (k + 1) * ivp (v16 l) (k + 1) * (if 254 - (k + 1) = 4 ∨ 254 - (k + 1) = 2 then 1 else v16 l)) := rfl
      have hb0 : (0 : Int) ≤ 253 - (k : Int) := by omega
      have hb0' : ¬ (253 - (k : Int)) < 0 := by omega
      generalize hb : 253 - (k : Int) = i at hb0 hb0'
      have hwb : IntKind.i64.wrap (i - 1) = i - 1 := by rw [w64_wrap]; exact w64_id (by omega) (by omega)
      have hnx : (253 : Int) - ((k + 1 : Nat) : Int) = i - 1 := by omega
      have hrl := HR.out.len
      have HC : Hid _ := smul_any (some ⟨g, 0, none⟩) (some ⟨g, 0, none⟩) cap cap r r wr hrl hrl HR.out.row HR.out.row HW.out HW.out
      go_wp2_with fail
      refine Calls.mono HC.out ?_
      rintro e w3 ⟨g3, cap3, r3, rfl, hr3, hw3, hv3, hb3⟩
      have HB3 : Hid (Below w.heap.size w w3) := HB.out.trans (hb3.mono HB.out.size)
      have HR3 : Hid (RowS w.heap.size w3 g3 16 cap3 r3) := hr3.base HB.out.size
      have HW3 : Hid (within (-262144) 262144 r3) := within_mono hw3 (by decide) (by decide)
      have HV3 : Hid (v16 r3 % fp = (ivp (v16 l) (k + 1) * ivp (v16 l) (k + 1)) % fp) := by show _ = _; rw [hv3]; exact mul_both HV.out HV.out
      have hr3l := HR3.out.len
      clear HC hr3 hw3 hv3 hb3 HB HR HW HV
      generalize ivp (v16 l) (k + 1) * ivp (v16 l) (k + 1) = Q at HS HV3
      by_cases h2 : i = 2
      · have HE : Hid (ivp (v16 l) (k + 1 + 1) = Q) := by show _ = _; rw [HS.out, if_pos (by omega), Int.mul_one]
        subst h2
        clear HS
        go_wp2
        go_roundw
        case rel => exact ⟨k + 1, _, _, r3, by omega, by rw [hnx]; rfl, rfl, HB3, HR3, HW3, by show _ = _; rw [HE.out]; exact HV3.out⟩
        case measure => simp [intOf]
      · by_cases h4 : i = 4
        · have HE : Hid (ivp (v16 l) (k + 1 + 1) = Q) := by show _ = _; rw [HS.out, if_pos (by omega), Int.mul_one]
          subst h4
          clear HS
          go_wp2
          go_roundw
          case rel => exact ⟨k + 1, _, _, r3, by omega, by rw [hnx]; rfl, rfl, HB3, HR3, HW3, by show _ = _; rw [HE.out]; exact HV3.out⟩
          case measure => simp [intOf]
        · have HE : Hid (ivp (v16 l) (k + 1 + 1) = Q * v16 l) := by show _ = _; rw [HS.out, if_neg (by omega)]
          clear HS
          have h4b : (i != 4) = true := by simp [h4]
          have h2b : (i != 2) = true := by simp [h2]
          have HC : Hid _ := smul_any (some ⟨g3, 0, none⟩) (some ⟨b, off, none⟩) cap3 ca r3 l w3 hr3l hl HR3.out.row (RA.out.grown HB3.out) HW3.out HBL.out
          go_wp2_with fail
          refine Calls.mono HC.out ?_
          rintro e w4 ⟨g4, cap4, r4, rfl, hr4, hw4, hv4, hb4⟩
          have HB4 : Hid (Below w.heap.size w w4) := HB3.out.trans (hb4.mono HB3.out.size)
          have HR4 : Hid (RowS w.heap.size w4 g4 16 cap4 r4) := hr4.base HB3.out.size
          have HW4 : Hid (within (-262144) 262144 r4) := within_mono hw4 (by decide) (by decide)
          have HV4 : Hid (v16 r4 % fp = ivp (v16 l) (k + 1 + 1) % fp) := by show _ = _; rw [HE.out, hv4]; exact mul_both HV3.out rfl
          clear HC hr4 hw4 hv4 hb4 HB3 HR3 HW3 HV3
          go_wp2
          go_roundw
          case rel => exact ⟨k + 1, _, _, r4, by omega, by rw [hnx], rfl, HB4, HR4, HW4, HV4⟩
          case measure => simp [intOf]; omega
    · obtain rfl : k = 254 := by omega
      rw [show (253 : Int) - ((254 : Nat) : Int) = -1 from rfl]
      go_wp2
      go_ret
      exact ⟨_, _, r, rfl, HR.out, HW.out, HV.out, HB.out⟩
end Go.Proofs.Ytjhglbdknjoeeaa
