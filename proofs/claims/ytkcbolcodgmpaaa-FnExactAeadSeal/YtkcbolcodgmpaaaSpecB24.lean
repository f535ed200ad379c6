/- The specification's ChaBlock, and both contracts over any list. -/
import Derived.Test.YtkcbolcodgmpaaaSpecQ24
import Derived.Test.YtkcbolcodgmpaaaBlk24
import Derived.Test.YtkcbolcodgmpaaaWd24
import Derived.Test.YtkcbolcodgmpaaaPlain
import Derived.WalkKit
import Derived.WalkLawsBesides
import Derived.WalkSpells
import Derived.BigRegion
import Derived.OwnWalk
import Derived.Deep.DrawnRows
import Derived.Deep.AppendLies
namespace Go.Proofs.Ytkcbolcodgmpaaa
open Go.RowKit Go.PlainAid
set_option maxRecDepth 20000
set_option linter.unusedVariables false
def inW (x lo hi : Int) : Bool := decide (lo ≤ x) && decide (x ≤ hi)
theorem specInW (x lo hi : Int) (w : World) :
    Calls Try.prog 12 #[.int .i64 x, .int .i64 lo, .int .i64 hi] w fun e w' => e = .returned (.bool (inW x lo hi)) ∧ w = w' := by
  unfold inW
  by_cases h1 : lo ≤ x <;> by_cases h2 : x ≤ hi
  all_goals
    go_enter Try.func12, Try.ntmps12
    go_wp2
    go_ret
    exact ⟨by simp [h1, h2], rfl⟩
/-- What ChaBlock answers. -/
def chaB (xs : List Int) : ByteArray := if areB xs 16 = true then blockT (wordsOf xs 16) else ByteArray.empty
theorem wordsOf_of {xs : List Int} (h : allW xs = true) (hl : xs.length = 16) : ∀ i, i < 16 → wordsOf xs 16 i = (xs.getD i 0).toNat ∧ xs.getD i 0 = ((wordsOf xs 16 i : Nat) : Int) := by
  intro i hi
  have h1 := (okW_iff _).1 ((allW_iff xs).1 h i (by omega))
  unfold wordsOf
  rw [if_pos hi]
  omega
theorem leL_ext {f g : Nat → Nat} : ∀ n, (∀ i, i < n → f i = g i) → leL f n = leL g n
  | 0, _ => rfl
  | n + 1, h => by rw [leL, leL, leL_ext n (fun i hi => h i (by omega)), h n (by omega)]
theorem upd_ext {n : Nat} {f f' : Nat → Nat} (h : ∀ i, i < n → f i = f' i) (j x : Nat) : ∀ i, i < n → upd f j x i = upd f' j x i := by
  intro i hi; unfold upd; split
  · rfl
  · exact h i hi
theorem own_rowC {w : World} {B n : Nat} {v : Value} {xs : List Int} {f : Nat → Nat} (h : OwnInt B w v xs) (hn : xs.length = n) (h0 : 0 < n) (hf : ∀ i, i < n → xs.getD i 0 = ((f i : Nat) : Int)) : ∃ g cap, v = .slice (some ⟨g, 0, none⟩) n cap ∧ B ≤ g ∧ RowC w g .i64 n f := by
  subst hn
  obtain ⟨g, cap, rfl, hg, hlt, hc⟩ := own_ints h h0
  exact ⟨g, cap, rfl, hg, hlt, fun i hi => by rw [hc i hi, hf i hi], fun i _ => World.ownsRow.frozenAt h i⟩
theorem four_bytes (x : Nat) : bytesV 4 (lowB x) = [((x % 256 : Nat) : Int), ((x / 256 % 256 : Nat) : Int), ((x / 65536 % 256 : Nat) : Int), ((x / 16777216 % 256 : Nat) : Int)] := by
  simp [bytesV, lowB, List.range_succ]
set_option maxHeartbeats 6400000 in
theorem specBlock_any (a : Option Addr) (cap : Nat) (xs : List Int) (w : World) (hl : xs.length ≤ 1048576) (hr : RowI w.heap.size w a xs) :
    Calls Try.prog 13 #[.slice a xs.length cap] w fun e w' => e = .returned (.string (chaB xs)) ∧ Below w.heap.size w w' := by
  obtain ⟨i0, hi, hz0, hz1, hz2⟩ := info_parts infoIntS
  obtain ⟨j0, hj, jz0, jz1, jz2⟩ := info_parts infoU8
  have HR : Hid (RowI w.heap.size w a xs) := hr
  clear hr
  by_cases h16 : xs.length = 16
  · rw [h16]
    go_enter Try.func13, Try.ntmps13
    go_wp2
    go_loop [3] (fun i => ∃ k : Nat, k ≤ 16 ∧ i = .int .i64 (k : Int) ∧ Hid (∀ j, j < k → okW (xs.getD j 0) = true))
      (fun i => 16 - (intOf i).toNat)
    case atStart => exact ⟨0, Nat.zero_le _, rfl, fun j hj => absurd hj (by omega)⟩
    case round =>
      obtain ⟨k, hk, rfl, HA⟩ := hrel
      by_cases hlt : k < 16
      · obtain ⟨b, off, rfl⟩ := HR.out.addr (show k < xs.length by omega)
        have c0 := (HR.out.at (Below.refl _ _) (show k < xs.length by omega)).2
        have hi0 : (0 : Int) ≤ (k : Int) := by omega
        have hi1 : (k : Int) < 16 := by omega
        have HC : Hid _ := specInW (xs.getD k 0) 0 4294967295 w
        have HO : Hid (inW (xs.getD k 0) 0 4294967295 = okW (xs.getD k 0)) := rfl
        cases hb : inW (xs.getD k 0) 0 4294967295
        · have HE : Hid (chaB xs = ByteArray.empty) := by
            show _ = _
            unfold chaB
            rw [if_neg]
            intro h
            unfold areB at h
            simp only [Bool.and_eq_true] at h
            have := (allW_iff xs).1 h.2 k (by omega)
            rw [← HO.out, hb] at this; cases this
          rw [hb] at HC
          clear hb HO
          generalize xs.getD k 0 = y at c0 HC
          go_wp2_with fail
          refine Calls.mono HC.out ?_
          rintro e w1 ⟨rfl, rfl⟩
          go_wp2
          go_ret
          exact ⟨by rw [HE.out]; rfl, Below.refl _ _⟩
        · have HS : Hid (∀ j, j < k + 1 → okW (xs.getD j 0) = true) := fun j hj => by
            by_cases h : j = k
            · subst h; rw [← HO.out, hb]
            · exact HA.out j (by omega)
          rw [hb] at HC
          clear hb HO
          generalize xs.getD k 0 = y at c0 HC
          go_wp2_with fail
          refine Calls.mono HC.out ?_
          rintro e w1 ⟨rfl, rfl⟩
          go_wp2
          go_round
          case rel => exact ⟨k + 1, by omega, by go_num, HS⟩
          case measure => simp [intOf]; omega
      · obtain rfl : k = 16 := by omega
        have hall : allW xs = true := (allW_iff xs).2 (by rw [h16]; exact HA.out)
        have HE : Hid (chaB xs = blockT (wordsOf xs 16)) := by show _ = _; unfold chaB areB; rw [hall, decide_eq_true h16]; rfl
        have HW : Hid _ := wordsOf_of hall h16
        obtain ⟨b, off, rfl⟩ := HR.out.addr (show 0 < xs.length by omega)
        have HRb : Hid (∀ j, j < 16 → w.cell? ⟨b, off + j, none⟩ = some (.int .i64 (xs.getD j 0))) := fun j hj => (HR.out.at (Below.refl _ _) (show j < xs.length by omega)).2
        have hbw : b < w.heap.size := (HR.out.at (Below.refl _ _) (show 0 < xs.length by omega)).1
        clear HA hall hlt hk
        have hnew : OwnInt w.heap.size (w.alloc (.cells #[] 3)) (.slice (some ⟨w.heap.size, 0, none⟩) 0 0) [] := World.ownsRow_made _ _ _ (Nat.le_refl _) (by decide) rfl
        have hBn : Below w.heap.size w (w.alloc (.cells #[] 3)) := (Below.refl _ _).alloc (Nat.le_refl _) _
        go_wp2_with (at_builtin; refine wpList_append_own _ rfl _ _ 28 rfl w.heap.size 3 i0 (.int .i64 0) 1 8 Try.underlying28 hi hz0 hz1 hz2 rfl (by decide) _ 0 _ rfl hnew ⟨b, off, none⟩ 16 cap (xs.map (Value.int .i64)) rfl (by rw [List.length_map, h16]) ?c1 ?c2 ?c3 ?c4 ?c5 ?_)
        case c1 =>
          intro j v hv
          have hj16 : j < xs.length := by
            rcases Nat.lt_or_ge j xs.length with h | h
            · exact h
            · rw [List.getElem?_eq_none h] at hv; cases hv
          rw [HRb.out j (by omega), List.getD_eq_getElem?_getD, hv]; rfl
        case c2 => intro u hu; rfl
        case c3 => unfold maxLen; omega
        · intro v' w1 hown' hgrow _
          have hB1 : Below w.heap.size w w1 := hBn.grown hgrow (by simp) (fun k hk => by simp [Value.ownBlock] at hk; omega)
          have hown : OwnInt w.heap.size w1 v' xs := by
            unfold OwnInt; rw [h16]; simpa using hown'
          obtain ⟨g, cp, rfl, hg, hrow⟩ := own_rowC (f := wordsOf xs 16) hown h16 (by omega) (fun i hi => (HW.out i hi).2)
          clear hown' hgrow hown hnew hBn
          have HRC : Hid (RowC w1 g .i64 16 (twenty (wordsOf xs 16) 0)) := hrow
          have HB1 : Hid (Below w.heap.size w w1) := hB1
          have HWf : Hid (Words (wordsOf xs 16)) := wordsOf_lt xs 16
          clear hrow hB1 HR
          go_wp2
          go_loopw [5] (fun i wr => ∃ k : Nat, k ≤ 10 ∧ i = .int .i64 (k : Int) ∧ Hid (Below w.heap.size w wr) ∧ Hid (RowC wr g .i64 16 (twenty (wordsOf xs 16) k)))
            (fun i _ => 10 - (intOf i).toNat)
          case atStart => exact ⟨0, Nat.zero_le _, rfl, HB1, HRC⟩
          case round =>
            clear HB1 HRC
            obtain ⟨k, hk, rfl, HB, H⟩ := hrel
            by_cases hlt : k < 10
            · have hi1 : (k : Int) < 10 := by omega
              have HWk : Hid (Words (twenty (wordsOf xs 16) k)) := Words.twenty HWf.out k
              have HN : Hid (aslants (downs (twenty (wordsOf xs 16) k) 4) 4 = twenty (wordsOf xs 16) (k + 1)) := rfl
              generalize hF : twenty (wordsOf xs 16) k = F at H HWk HN
              clear hF
              go_wp2
              go_loopw [6] (fun i wr => ∃ q : Nat, q ≤ 4 ∧ i = .int .i64 (q : Int) ∧ Hid (Below w.heap.size w wr) ∧ Hid (RowC wr g .i64 16 (downs F q)))
                (fun i _ => 4 - (intOf i).toNat)
              case atStart => exact ⟨0, Nat.zero_le _, rfl, HB, H⟩
              case round =>
                clear HB H
                obtain ⟨q, hq, rfl, HB, H⟩ := hrel
                by_cases hlq : q < 4
                · have hi2 : (q : Int) < 4 := by omega
                  have HC0 := specQ_any g 16 cp (downs F q) q (q + 4) (q + 8) (q + 12) wr (Words.downs HWk.out q) H.out (by omega) (by omega) (by omega) (by omega) (by omega) (by omega) (by omega) (by omega)
                  rw [show ((q + 4 : Nat) : Int) = 4 + (q : Int) by omega, show ((q + 8 : Nat) : Int) = 8 + (q : Int) by omega, show ((q + 12 : Nat) : Int) = 12 + (q : Int) by omega] at HC0
                  have HC : Hid _ := HC0
                  clear HC0
                  have HD : Hid (downs F (q + 1) = quarter (downs F q) q (q + 4) (q + 8) (q + 12)) := rfl
                  clear H
                  go_wp2_with fail
                  refine Calls.mono HC.out ?_
                  rintro e w2 ⟨rfl, g1, r1⟩
                  have HB2 : Hid _ := below_gb HB.out HB.out.size g1.gb hg
                  clear HB
                  go_wp2
                  go_roundw
                  case rel => exact ⟨q + 1, by omega, by go_num, HB2, by rw [HD.out]; exact r1⟩
                  case measure => simp [intOf]; omega
                · obtain rfl : q = 4 := by omega
                  rw [show ((4 : Nat) : Int) = 4 from rfl]
                  have HWd : Hid (Words (downs F 4)) := Words.downs HWk.out 4
                  generalize downs F 4 = G at H HN HWd
                  clear HWk
                  go_wp2
                  go_loopw [7] (fun i wr => ∃ q : Nat, q ≤ 4 ∧ i = .int .i64 (q : Int) ∧ Hid (Below w.heap.size w wr) ∧ Hid (RowC wr g .i64 16 (aslants G q)))
                    (fun i _ => 4 - (intOf i).toNat)
                  case atStart => exact ⟨0, Nat.zero_le _, rfl, HB, H⟩
                  case round =>
                    clear HB H
                    obtain ⟨q, hq, rfl, HB, H⟩ := hrel
                    by_cases hlq : q < 4
                    · have hi2 : (q : Int) < 4 := by omega
                      have HC : Hid _ := specQ_any g 16 cp (aslants G q) q (4 + (q + 1) % 4) (8 + (q + 2) % 4) (12 + (q + 3) % 4) wr (Words.aslants HWd.out q) H.out (by omega) (by omega) (by omega) (by omega) (by omega) (by omega) (by omega) (by omega)
                      have HD : Hid (aslants G (q + 1) = quarter (aslants G q) q (4 + (q + 1) % 4) (8 + (q + 2) % 4) (12 + (q + 3) % 4)) := rfl
                      clear H
                      go_wp2_with fail
                      refine Calls.mono (by have h := HC.out; push_cast at h; exact h) ?_
                      rintro e w2 ⟨rfl, g1, r1⟩
                      have HB2 : Hid _ := below_gb HB.out HB.out.size g1.gb hg
                      clear HB
                      go_wp2
                      go_roundw
                      case rel => exact ⟨q + 1, by omega, by go_num, HB2, by rw [HD.out]; exact r1⟩
                      case measure => simp [intOf]; omega
                    · obtain rfl : q = 4 := by omega
                      go_wp2
                      go_roundw
                      case rel => exact ⟨k + 1, by omega, by go_num, HB, by rw [← HN.out]; exact H⟩
                      case measure => simp [intOf]; omega
            · obtain rfl : k = 10 := by omega
              rw [show ((10 : Nat) : Int) = 10 from rfl]
              clear HWf
              go_wp2
              go_loopw [8, 9] (fun v i wr => ∃ k : Nat, k ≤ 16 ∧ i = .int .i64 (k : Int) ∧ Hid (Below w.heap.size w wr) ∧ Hid (RowC wr g .i64 16 (twenty (wordsOf xs 16) 10)) ∧ wr.ownsRow (g + 1) 5 1 v (4 * k) ((leL (blockW (wordsOf xs 16)) k).map (Value.int .u8)))
                (fun _ i _ => 16 - (intOf i).toNat)
              case atStart =>
                have hbn : Below wr.heap.size wr (wr.alloc (.cells #[] 5)) := (Below.refl _ _).alloc (Nat.le_refl _) _
                exact ⟨0, Nat.zero_le _, rfl, HB.out.trans (hbn.mono HB.out.size), H.out.next hbn, World.ownsRow_made _ _ _ (by have := H.out.lt; omega) (by decide) rfl⟩
              case round =>
                clear HB H
                obtain ⟨k, hk, rfl, HB, H, hown⟩ := hrel
                by_cases hlt : k < 16
                · have hi0 : (0 : Int) ≤ (k : Int) := by omega
                  have hi1 : (k : Int) < 16 := by omega
                  have c1 := H.out.c k hlt
                  have c2 : wr.cell? ⟨b, off + k, none⟩ = some (.int .i64 ((wordsOf xs 16 k : Nat) : Int)) := by
                    rw [HB.out.cell (p := ⟨b, off + k, none⟩) hbw, HRb.out k hlt, (HW.out k hlt).2]
                  have b1 : twenty (wordsOf xs 16) 10 k < 4294967296 := (wordsOf_lt xs 16).twenty 10 k
                  have b2 : wordsOf xs 16 k < 4294967296 := wordsOf_lt xs 16 k
                  have HC : Hid (∀ wz, Calls Try.prog 14 #[.int .i64 ((twenty (wordsOf xs 16) 10 k + wordsOf xs 16 k : Nat) : Int)] wz fun e w' => e = .returned (.int .i64 ((blockW (wordsOf xs 16) k : Nat) : Int)) ∧ wz = w') := fun wz => cutN_any _ _ wz rfl
                  have hw : IntKind.i64.wrap (((twenty (wordsOf xs 16) 10 k : Nat) : Int) + ((wordsOf xs 16 k : Nat) : Int)) = ((twenty (wordsOf xs 16) 10 k + wordsOf xs 16 k : Nat) : Int) := by rw [IntKind.wrap_i64]; omega
                  have hy : blockW (wordsOf xs 16) k < 4294967296 := blockW_lt _ k
                  have HL : Hid (leL (blockW (wordsOf xs 16)) (k + 1) = leL (blockW (wordsOf xs 16)) k ++ [((blockW (wordsOf xs 16) k % 256 : Nat) : Int), ((blockW (wordsOf xs 16) k / 256 % 256 : Nat) : Int), ((blockW (wordsOf xs 16) k / 65536 % 256 : Nat) : Int), ((blockW (wordsOf xs 16) k / 16777216 % 256 : Nat) : Int)]) := by
                    show _ = _; rw [leL, four_bytes]
                  generalize twenty (wordsOf xs 16) 10 k + wordsOf xs 16 k = sm at hw HC
                  generalize twenty (wordsOf xs 16) 10 k = y1 at c1 hw b1
                  generalize wordsOf xs 16 k = y2 at c2 hw b2
                  generalize hY : blockW (wordsOf xs 16) k = Y at HC hy HL
                  clear b1 b2 hY
                  go_wp2
                  go_region_with (go_at_call 14; refine Calls.mono (HC.out _) ?_; rintro e wq ⟨rfl, rfl⟩)
                  all_goals
                    have hsz : w.heap.size ≤ wr.heap.size := HB.out.size
                    have hlL : Hid ((leL (blockW (wordsOf xs 16)) k).length = 4 * k) := leL_len _ k
                    have hg1 : g + 1 ≤ wr.heap.size := H.out.lt
                    clear hy
                    have hnw : ∀ j u, ([.int .u8 ((Y : Int) % 256), .int .u8 ((Y : Int) / 256 % 256), .int .u8 ((Y : Int) / 65536 % 256), .int .u8 ((Y : Int) / 16777216 % 256)] : List Value)[j]? = some u → ((wr.alloc (.cells #[.int .u8 ((Y : Int) % 256), .int .u8 ((Y : Int) / 256 % 256), .int .u8 ((Y : Int) / 65536 % 256), .int .u8 ((Y : Int) / 16777216 % 256)] 5)).drew).cell? ((⟨wr.heap.size, 0, none⟩ : Addr).add j) = some u :=
                      World.news_of_block (cs := #[.int .u8 ((Y : Int) % 256), .int .u8 ((Y : Int) / 256 % 256), .int .u8 ((Y : Int) / 65536 % 256), .int .u8 ((Y : Int) / 16777216 % 256)]) (t := 5) (fr := (0, 0)) (heap_alloc_new wr _)
                    have HNW : Hid _ := hnw
                    have HOW : Hid _ := (hown.alloc (.cells #[.int .u8 ((Y : Int) % 256), .int .u8 ((Y : Int) / 256 % 256), .int .u8 ((Y : Int) / 65536 % 256), .int .u8 ((Y : Int) / 16777216 % 256)] 5)).drew
                    clear hnw
                    go_wp2_with (at_builtin; refine wpList_append_own _ rfl _ _ 34 rfl (g + 1) 5 j0 (.int .u8 0) 1 1 Try.underlying34 hj jz0 jz1 jz2 rfl (by decide) _ (4 * k) _ rfl HOW.out ⟨wr.heap.size, 0, none⟩ 4 4 [.int .u8 ((Y : Int) % 256), .int .u8 ((Y : Int) / 256 % 256), .int .u8 ((Y : Int) / 65536 % 256), .int .u8 ((Y : Int) / 16777216 % 256)] rfl rfl HNW.out (by simp [Value.oneCell']) (by unfold maxLen; omega) (by omega) (by simp; omega) ?_)
                    intro v' w1 hown' hgrow _
                    have hbw1 : Below (g + 1) wr w1 := below_appB hown (Below.refl _ _) hg1 hgrow
                    have hB : Below w.heap.size w w1 := HB.out.trans (hbw1.mono (by omega))
                    have HH : Hid (RowC w1 g .i64 16 (twenty (wordsOf xs 16) 10)) := H.out.below hbw1 (by omega) (by have := hgrow.size; simp at this; omega)
                    have ho : w1.ownsRow (g + 1) 5 1 v' (4 * (k + 1)) ((leL (blockW (wordsOf xs 16)) (k + 1)).map (Value.int .u8)) := by
                      rw [HL.out, List.map_append]
                      have := hown'
                      simp only [Int.natCast_emod, Int.natCast_ediv] at *
                      exact this
                    clear hown' hgrow hown H HOW HNW hbw1
                    go_wp2
                    go_roundw
                    case rel => exact ⟨k + 1, by omega, by go_num, hB, HH, ho⟩
                    case measure => simp [intOf]; omega
                · obtain rfl : k = 16 := by omega
                  have hc := conv_own wr 34 9 5 Try.underlying34 Try.underlying5 Try.underlying9 (P := Try.prog) hown
                  have HE2 : Hid (strOfNums (leL (blockW (wordsOf xs 16)) 16) = blockT (wordsOf xs 16)) := rfl
                  go_wp2
                  go_ret
                  exact ⟨by rw [HE.out, ← HE2.out]; rfl, HB.out⟩
  · have hd : ((xs.length : Int) == 16) = false := by simp; omega
    have hq : ((xs.length : Int) != 16) = true := by simp; omega
    have HE : Hid (chaB xs = ByteArray.empty) := by show _ = _; unfold chaB areB; rw [decide_eq_false h16]; rfl
    clear h16
    go_enter Try.func13, Try.ntmps13
    go_wp2
    go_ret
    exact ⟨by rw [HE.out]; rfl, Below.refl _ _⟩
end Go.Proofs.Ytkcbolcodgmpaaa
