/- The specification's ChaStart (chapter 24). -/
import Derived.Test.YtkcbolcodgmpaaaStartB24
import Derived.WalkKit
import Derived.WalkLawsBesides
import Derived.WalkSpells
import Derived.OwnWalk
import Derived.Deep.DrawnRows
import Derived.Deep.AppendLies
namespace Go.Proofs.Ytkcbolcodgmpaaa
open Go.RowKit Go.PlainAid
set_option maxRecDepth 20000
set_option linter.unusedVariables false
theorem lowN4 (b : Nat → Nat) (p : Nat) : lowN b p 4 = b p + b (p + 1) * 256 + b (p + 2) * 65536 + b (p + 3) * 16777216 := by
  have h : lowN b p 4 = (((0 + b (p + 0) * 2 ^ (8 * 0)) + b (p + 1) * 2 ^ (8 * 1)) + b (p + 2) * 2 ^ (8 * 2)) + b (p + 3) * 2 ^ (8 * 3) := rfl
  rw [h, show 2 ^ (8 * 0) = 1 by decide, show 2 ^ (8 * 1) = 256 by decide, show 2 ^ (8 * 2) = 65536 by decide, show 2 ^ (8 * 3) = 16777216 by decide, Nat.add_zero, Nat.mul_one, Nat.zero_add]
set_option maxHeartbeats 800000 in
theorem four_any (t : ByteArray) (p : Nat) (w : World) (hp : p + 4 ≤ t.size) (ht : t.size ≤ 4294967296) :
    Calls Try.prog 21 #[.string t, .int .i64 (p : Int)] w fun e w' => e = .returned (.int .i64 ((lowN (btN t) p 4 : Nat) : Int)) ∧ w.drew = w' := by
  have hg := get_bt t
  have hE : Hid (((lowN (btN t) p 4 : Nat) : Int) = bt t p + bt t (p + 1) * 256 + bt t (p + 2) * 65536 + bt t (p + 3) * 16777216) := by
    show _ = _
    rw [btN_eq t p, btN_eq t (p + 1), btN_eq t (p + 2), btN_eq t (p + 3), lowN4]
    omega
  have b0 := bt_nonneg t p
  have b1 := bt_nonneg t (p + 1)
  have b2 := bt_nonneg t (p + 2)
  have b3 := bt_nonneg t (p + 3)
  have d0 := bt_le t p
  have d1 := bt_le t (p + 1)
  have d2 := bt_le t (p + 2)
  have d3 := bt_le t (p + 3)
  have i0 : (0 : Int) ≤ (p : Int) := by omega
  have i3 : (p : Int) + 3 < (t.size : Int) := by omega
  have i2 : (p : Int) + 2 < (t.size : Int) := by omega
  have i1 : (p : Int) + 1 < (t.size : Int) := by omega
  have iz : (p : Int) < (t.size : Int) := by omega
  go_enter Try.func21, Try.ntmps21
  go_wp2
  go_region
  all_goals
    go_wp2
    go_ret
    exact ⟨by rw [hE.out]; rfl, rfl⟩
theorem btN_left (a b : ByteArray) {i : Nat} (h : i < a.size) : btN (a ++ b) i = btN a i := by unfold btN; rw [bt_app_left a b h]
theorem btN_right (a b : ByteArray) (i : Nat) : btN (a ++ b) (a.size + i) = btN b i := by unfold btN; rw [bt_app_right]
theorem lowN_low (c : Nat) : ∀ k, lowN (lowB c) 0 k = c % 2 ^ (8 * k)
  | 0 => by rw [lowN]; omega
  | k + 1 => by
    rw [lowN, lowN_low c k, Nat.zero_add]
    unfold lowB
    rw [show 8 * (k + 1) = 8 * k + 8 by omega, Nat.pow_add, show 2 ^ 8 = 256 by decide, Nat.mod_mul, Nat.mul_comm (c / 2 ^ (8 * k) % 256)]
def headT (key : ByteArray) : ByteArray := beginT ++ key
theorem headT_size {key : ByteArray} (h : key.size = 32) : (headT key).size = 48 := by unfold headT; rw [sz_app, h]; rfl
theorem start_at {key nonce : ByteArray} {c : Nat} (h1 : key.size = 32) (h2 : nonce.size = 12) (hc : c < 4294967296) :
    (∀ i, i < 12 → wordsT (startT key nonce c) i = lowN (btN (headT key)) (4 * i) 4) ∧ wordsT (startT key nonce c) 12 = c ∧ ∀ i, i < 3 → wordsT (startT key nonce c) (13 + i) = lowN (btN nonce) (4 * i) 4 := by
  have hz := headT_size h1
  have hl : (strOfNums (bytesV 4 (lowB c))).size = 4 := strOf_size _ _
  have hs : (headT key ++ strOfNums (bytesV 4 (lowB c))).size = 52 := by rw [sz_app, hz, hl]
  have hT : startT key nonce c = headT key ++ strOfNums (bytesV 4 (lowB c)) ++ nonce := rfl
  refine ⟨fun i hi => ?_, ?_, fun i hi => ?_⟩
  · unfold wordsT
    exact lowN_ext 4 (fun j hj => by rw [hT, btN_left _ _ (by omega), btN_left _ _ (by omega)])
  · have e : wordsT (startT key nonce c) 12 = lowN (lowB c) 0 4 := by
      unfold wordsT
      exact lowN_ext 4 (fun j hj => by rw [hT, btN_left _ _ (by omega), show 4 * 12 + j = (headT key).size + j by omega, btN_right, strOf_btN (fun i _ => lowB_lt c i) hj, Nat.zero_add])
    rw [e, lowN_low]
    exact Nat.mod_eq_of_lt hc
  · unfold wordsT
    exact lowN_ext 4 (fun j hj => by rw [hT, show 4 * (13 + i) + j = (headT key ++ strOfNums (bytesV 4 (lowB c))).size + (4 * i + j) by omega, btN_right])
set_option maxHeartbeats 3200000 in
theorem specStart_any (key nonce : ByteArray) (c : Int) (w : World) :
    Calls Try.prog 11 #[.string key, .string nonce, .int .i64 c] w fun e w' => ∃ v, e = .returned (.tuple #[v, .bool (startOk key nonce c)]) ∧ OwnInt w.heap.size w' v (startL key nonce c) ∧ Below w.heap.size w w' := by
  obtain ⟨i0, hi, hz0, hz1, hz2⟩ := info_parts infoIntS
  cases hb : startOk key nonce c
  · have HL : Hid (startL key nonce c = []) := by show _ = _; unfold startL; rw [hb, if_neg (by decide)]
    have HN : Hid (OwnInt w.heap.size (w.alloc (.cells #[] 3)) (.slice (some ⟨w.heap.size, 0, none⟩) 0 0) []) := World.ownsRow_made _ _ _ (Nat.le_refl _) (by decide) rfl
    have HB : Hid (Below w.heap.size w (w.alloc (.cells #[] 3))) := (Below.refl _ _).alloc (Nat.le_refl _) _
    rcases startOk_no hb with h1 | ⟨h1, h2⟩ | ⟨h1, h2, h3⟩
    · have hk : ((key.size : Int) != 32) = true := by simp; omega
      clear hb h1
      go_enter Try.func11, Try.ntmps11
      go_wp2
      go_ret2
      exact ⟨_, rfl, by rw [HL.out]; exact HN.out, HB.out⟩
    · have hk : ((key.size : Nat) : Int) = 32 := by omega
      have hn : ((nonce.size : Int) != 12) = true := by simp; omega
      clear hb h1 h2
      go_enter Try.func11, Try.ntmps11
      go_wp2
      go_ret2
      exact ⟨_, rfl, by rw [HL.out]; exact HN.out, HB.out⟩
    · have hk : ((key.size : Nat) : Int) = 32 := by omega
      have hn : ((nonce.size : Nat) : Int) = 12 := by omega
      have HW : Hid _ := specInW c 0 4294967295 w
      rw [show inW c 0 4294967295 = okW c from rfl, h3] at HW
      clear hb h1 h2 h3
      go_enter Try.func11, Try.ntmps11
      go_wp2_with fail
      refine Calls.mono HW.out ?_
      rintro e w1 ⟨rfl, rfl⟩
      go_wp2
      go_ret2
      exact ⟨_, rfl, by rw [HL.out]; exact HN.out, HB.out⟩
  · obtain ⟨h1, h2, h3, h4⟩ := startOk_yes hb
    have hk : ((key.size : Nat) : Int) = 32 := by omega
    have hn : ((nonce.size : Nat) : Int) = 12 := by omega
    have HW : Hid _ := specInW c 0 4294967295 w
    have h5 : inW c 0 4294967295 = true := (okW_iff c).2 ⟨h3, h4⟩
    rw [h5] at HW
    have h6 : c.toNat < 4294967296 := by omega
    have h7 : c = ((c.toNat : Nat) : Int) := by omega
    obtain ⟨F, HF⟩ : ∃ F, Hid (F = wordsT (startT key nonce c.toNat)) := ⟨_, rfl⟩
    have HL : Hid (startL key nonce c = bytesV 16 F) := by show _ = _; unfold startL; rw [hb, if_pos rfl, HF.out]
    obtain ⟨q1, q2, q3⟩ := start_at h1 h2 h6
    rw [← HF.out] at q1 q2 q3
    have HT1 : Hid (∀ i, i < 12 → ∀ wz, Calls Try.prog 21 #[.string (headT key), .int .i64 ((4 * i : Nat) : Int)] wz fun e w' => e = .returned (.int .i64 ((F i : Nat) : Int)) ∧ wz.drew = w') := fun i hi wz => by
      rw [q1 i hi]; exact four_any _ _ wz (by rw [headT_size h1]; omega) (by rw [headT_size h1]; omega)
    have HT2 : Hid (((F 12 : Nat) : Int) = c) := by show _ = _; rw [q2]; exact h7.symm
    have HT3 : Hid (∀ i, i < 3 → ∀ wz, Calls Try.prog 21 #[.string nonce, .int .i64 ((4 * i : Nat) : Int)] wz fun e w' => e = .returned (.int .i64 ((F (13 + i) : Nat) : Int)) ∧ wz.drew = w') := fun i hi wz => by
      rw [q3 i hi]; exact four_any _ _ wz (by omega) (by omega)
    have HH : Hid (headT key = beginT ++ key) := rfl
    generalize headT key = hd at HT1 HH
    clear hb h1 h2 h3 h4 h5 h6 h7 q1 q2 q3 HF
    go_enter Try.func11, Try.ntmps11
    go_wp2_with fail
    refine Calls.mono HW.out ?_
    rintro e w1 ⟨rfl, rfl⟩
    go_upto_region 5 with fail
    have e := HH.out
    unfold beginT at e
    rw [← e]
    clear e HH
    go_wp2
    go_loopw [9, 10] (fun v i wr => ∃ k : Nat, k ≤ 12 ∧ i = .int .i64 (k : Int) ∧ Below w.heap.size w wr ∧ wr.ownsRow w.heap.size 3 1 v k ((bytesV k F).map (Value.int .i64)))
      (fun _ i _ => 12 - (intOf i).toNat)
    case atStart => exact ⟨0, Nat.zero_le _, rfl, (Below.refl _ _).alloc (Nat.le_refl _) _, World.ownsRow_made _ _ _ (Nat.le_refl _) (by decide) rfl⟩
    case round =>
      obtain ⟨k, hk, rfl, hB, hown⟩ := hrel
      by_cases hlt : k < 12
      · have hi1 : (k : Int) < 12 := by omega
        have HC : Hid _ := HT1.out k hlt wr
        have HS : Hid (bytesV (k + 1) F = bytesV (k) F ++ [((F (k) : Nat) : Int)]) := bytesV_succ _ F
        generalize ((F (k) : Nat) : Int) = y at HC HS
        have hsz : w.heap.size ≤ wr.heap.size := hB.size
        have HOW : Hid _ := (hown.alloc (.cells #[.int .i64 y] 3)).drew
        have HNW : Hid (∀ j u, ([.int .i64 y] : List Value)[j]? = some u → ((wr.alloc (.cells #[.int .i64 y] 3)).drew).cell? ((⟨wr.heap.size, 0, none⟩ : Addr).add j) = some u) := World.news_of_block (cs := #[.int .i64 y]) (t := 3) (fr := (0, 0)) (heap_alloc_new wr _)
        have HB : Hid (Below w.heap.size w wr) := hB
        have HOWN : Hid _ := hown
        clear hB hown
        go_wp2_with fail
        refine Calls.mono (by have h := HC.out; push_cast at h; exact h) ?_
        rintro e wq ⟨rfl, rfl⟩
        go_wp2_with (at_builtin; refine wpList_append_own _ rfl _ _ 28 rfl w.heap.size 3 i0 (.int .i64 0) 1 8 Try.underlying28 hi hz0 hz1 hz2 rfl (by decide) _ _ _ rfl HOW.out ⟨wr.heap.size, 0, none⟩ 1 1 [.int .i64 y] rfl rfl HNW.out (by simp [Value.oneCell']) (by unfold maxLen; omega) (by omega) (by simp; omega) ?_)
        intro v' w1 hown' hgrow _
        have hB1 : Below w.heap.size w w1 := below_appB HOWN.out HB.out hsz hgrow
        have ho : w1.ownsRow w.heap.size 3 1 v' (k + 1) ((bytesV (k + 1) F).map (Value.int .i64)) := by rw [HS.out, List.map_append]; exact hown'
        clear hown' hgrow HB HOWN HOW HNW hsz
        go_wp2
        go_roundw
        case rel => exact ⟨k + 1, by omega, by go_num, hB1, ho⟩
        case measure => simp [intOf]; omega
      · obtain rfl : k = 12 := by omega
        rw [show ((12 : Nat) : Int) = 12 from rfl]
        have hsz : w.heap.size ≤ wr.heap.size := hB.size
        have HS : Hid (bytesV 13 F = bytesV 12 F ++ [c]) := by show _ = _; rw [bytesV_succ, HT2.out]
        go_wp2_with (at_builtin; refine wpList_append_own _ rfl _ _ 28 rfl w.heap.size 3 i0 (.int .i64 0) 1 8 Try.underlying28 hi hz0 hz1 hz2 rfl (by decide) _ _ _ rfl (hown.alloc _) ⟨wr.heap.size, 0, none⟩ 1 1 [.int .i64 c] rfl rfl (cell_one_new _ _ _) (by simp [Value.oneCell']) (by unfold maxLen; omega) (by omega) (by simp; omega) ?_)
        intro v' w1 hown' hgrow _
        have hB1 : Below w.heap.size w w1 := below_app hown hB hsz hgrow
        have ho : w1.ownsRow w.heap.size 3 1 v' 13 ((bytesV 13 F).map (Value.int .i64)) := by rw [HS.out, List.map_append]; exact hown'
        clear hown' hgrow hB hown hsz
        go_wp2
        go_loopw [9, 11] (fun v i wr => ∃ k : Nat, k ≤ 3 ∧ i = .int .i64 (k : Int) ∧ Below w.heap.size w wr ∧ wr.ownsRow w.heap.size 3 1 v (13 + k) ((bytesV (13 + k) F).map (Value.int .i64)))
          (fun _ i _ => 3 - (intOf i).toNat)
        case atStart => exact ⟨0, Nat.zero_le _, rfl, hB1, ho⟩
        case round =>
          obtain ⟨k, hk, rfl, hB, hown⟩ := hrel
          by_cases hlt : k < 3
          · have hi1 : (k : Int) < 3 := by omega
            have HC : Hid _ := HT3.out k hlt wr
            have HS : Hid (bytesV (13 + (k + 1)) F = bytesV (13 + k) F ++ [((F (13 + k) : Nat) : Int)]) := bytesV_succ _ F
            generalize ((F (13 + k) : Nat) : Int) = y at HC HS
            have hsz : w.heap.size ≤ wr.heap.size := hB.size
            have HOW : Hid _ := (hown.alloc (.cells #[.int .i64 y] 3)).drew
            have HNW : Hid (∀ j u, ([.int .i64 y] : List Value)[j]? = some u → ((wr.alloc (.cells #[.int .i64 y] 3)).drew).cell? ((⟨wr.heap.size, 0, none⟩ : Addr).add j) = some u) := World.news_of_block (cs := #[.int .i64 y]) (t := 3) (fr := (0, 0)) (heap_alloc_new wr _)
            have HB : Hid (Below w.heap.size w wr) := hB
            have HOWN : Hid _ := hown
            clear hB hown
            go_wp2_with fail
            refine Calls.mono (by have h := HC.out; push_cast at h; exact h) ?_
            rintro e wq ⟨rfl, rfl⟩
            go_wp2_with (at_builtin; refine wpList_append_own _ rfl _ _ 28 rfl w.heap.size 3 i0 (.int .i64 0) 1 8 Try.underlying28 hi hz0 hz1 hz2 rfl (by decide) _ _ _ rfl HOW.out ⟨wr.heap.size, 0, none⟩ 1 1 [.int .i64 y] rfl rfl HNW.out (by simp [Value.oneCell']) (by unfold maxLen; omega) (by omega) (by simp; omega) ?_)
            intro v' w1 hown' hgrow _
            have hB1 : Below w.heap.size w w1 := below_appB HOWN.out HB.out hsz hgrow
            have ho : w1.ownsRow w.heap.size 3 1 v' (13 + (k + 1)) ((bytesV (13 + (k + 1)) F).map (Value.int .i64)) := by rw [HS.out, List.map_append]; exact hown'
            clear hown' hgrow HB HOWN HOW HNW hsz
            go_wp2
            go_roundw
            case rel => exact ⟨k + 1, by omega, by go_num, hB1, ho⟩
            case measure => simp [intOf]; omega
          · obtain rfl : k = 3 := by omega
            rw [show ((3 : Nat) : Int) = 3 from rfl]
            go_wp2
            go_ret2
            exact ⟨_, rfl, by rw [HL.out]; unfold OwnInt; rw [bytesV_len]; exact hown, hB⟩
end Go.Proofs.Ytkcbolcodgmpaaa
