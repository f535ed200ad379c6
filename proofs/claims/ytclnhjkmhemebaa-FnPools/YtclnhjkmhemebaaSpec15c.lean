/- The contract of chapter 15's Leased, the specification's. -/
import Derived.Test.YtclnhjkmhemebaaSpec15b
namespace Go.Proofs.Ytclnhjkmhemebaa
open Go.RowKit
set_option linter.unusedVariables false
/-- What is made of the first places. -/
def stepN (ls : List Ls) (c : Int) : Nat → List Ls × Int
  | 0 => ([], 0)
  | n + 1 => lsStep ls c (stepN ls c n) (10 + (n : Int))
theorem stepN_three (ls : List Ls) (c : Int) : stepN ls c 3 = lsMade ls c := rfl
theorem has_next {ls : List Ls} {c : Int} {k : Nat} (h : k < ls.length) : hasL (ls.take (k + 1)) c = (hasL (ls.take k) c || decide ((ls.getD k Ls.zero).c = c)) := by
  unfold hasL; rw [take_next h]; simp
theorem has_hit {ls : List Ls} {c : Int} {k : Nat} (h : k < ls.length) (h0 : hasL (ls.take k) c = false) (e : (ls.getD k Ls.zero).c = c) : hasL ls c = true ∧ placeL ls c = (ls.getD k Ls.zero).p := by
  have hd := drop_cons h
  have e1 : ls = ls.take k ++ (ls.getD k Ls.zero :: ls.drop (k + 1)) := by rw [← hd, List.take_append_drop]
  generalize ls.getD k Ls.zero = y at hd e1 e ⊢
  constructor
  · rw [e1]; unfold hasL; simp [e]
  · have key : ∀ xs : List Ls, hasL xs c = false → ∀ t, placeL (xs ++ (y :: t)) c = y.p := fun xs => by
      induction xs with
      | nil => intro _ t; simp [placeL, e]
      | cons x xs ih =>
        intro hx t
        unfold hasL at hx ih
        simp at hx
        rw [List.cons_append, placeL, if_neg hx.1]
        exact ih (by simpa using hx.2) t
    rw [e1]
    exact key _ h0 _
theorem at_next {ls : List Ls} {p : Int} {k : Nat} (h : k < ls.length) : lsAt (ls.take (k + 1)) p = lsAt (ls.take k) p ++ (if (ls.getD k Ls.zero).p = p then [ls.getD k Ls.zero] else []) := by
  unfold lsAt
  rw [take_next h, List.filter_append]
  congr 1
  generalize ls.getD k Ls.zero = y
  by_cases e : y.p = p <;> simp [e]
theorem at_le (ls : List Ls) (p : Int) : (lsAt ls p).length ≤ ls.length := List.length_filter_le _ _
theorem step_le (ls : List Ls) (c : Int) : ∀ n, (stepN ls c n).1.length ≤ n * (ls.length + 1)
  | 0 => by simp [stepN]
  | n + 1 => by
    have := step_le ls c n
    have := at_le ls (10 + (n : Int))
    rw [stepN]; unfold lsStep
    rw [Nat.add_mul]
    split <;> simp <;> omega
theorem leaseL_le {ls : List Ls} {c : Int} (h : ls.length ≤ 1048576) : (leaseL ls c).length ≤ 2097152 := by
  unfold leaseL
  split
  · rename_i hc
    have h3 := pool_len hc.1
    have := step_le ls c 3
    rw [stepN_three] at this
    omega
  · omega
theorem below_newLs {B : Nat} {w wr w2 : World} {v : Value} {n : Nat} {xs : List Value} (hb : Below B w wr) (hs : B ≤ w.heap.size) (hown : wr.ownsRow B 103 2 v n xs) (hg : wr.grownBy w2 v.ownBlock) : Below B w w2 :=
  hb.grown hg (Nat.le_trans hs hb.size) (fun k hk => (World.ownsRow.lt hown k hk).1)
set_option maxHeartbeats 3200000 in
set_option maxRecDepth 20000 in
theorem specLeasedN_any (b off cap : Nat) (ls : List Ls) (c : Int) (w : World) (hl : ls.length ≤ 1048576) (hr : RowLs w.heap.size w (some ⟨b, off, none⟩) ls) :
    Calls Try.prog 22 #[.slice (some ⟨b, off, none⟩) ls.length cap, .int .i64 c] w fun e w' => ∃ v, e = .returned (.tuple #[v, .int .i64 (leaseP ls c), .bool (leaseB ls c)]) ∧ (∃ g cap, v = .slice (some ⟨g, 0, none⟩) (leaseL ls c).length cap) ∧ OwnLs w.heap.size w' v (leaseL ls c) ∧ Below w.heap.size w w' := by
  obtain ⟨i0, hi, hz0, hz1, hz2⟩ := info_parts infoLs
  have HR : Hid (RowLs w.heap.size w (some ⟨b, off, none⟩) ls) := hr
  clear hr
  have HB0 : Hid (Below w.heap.size w (w.alloc (.cells #[] 103))) := (Below.refl _ _).alloc (Nat.le_refl _) _
  have HO0 : Hid (OwnLs w.heap.size (w.alloc (.cells #[] 103)) (.slice (some ⟨w.heap.size, 0, none⟩) 0 0) []) := own_newLs w (Nat.le_refl _)
  go_enter Try.func22, Try.ntmps22
  go_wp2_with (at_builtin; refine wpList_append_own _ rfl _ _ 24 rfl w.heap.size 103 i0 _ 2 16 Try.underlying24 hi hz0 hz1 hz2 rfl (by decide) _ 0 _ rfl HO0.out ⟨b, off, none⟩ ls.length cap (cellsLs ls) rfl (cellsLs_len ls) ?c1 (cellsLs_one ls) ?c3 ?c4 ?c5 ?_)
  case c1 => exact (HR.out.later HB0.out).cells
  case c3 => unfold maxLen; omega
  case c4 => omega
  case c5 => simp
  intro SAME ws hown' hgrow hnn
  have HSN : Hid (SAME ≠ .slice none 0 0) := hnn
  clear hnn
  have HOs : Hid (OwnLs w.heap.size ws SAME ls) := by
    have e : cellsLs [] ++ cellsLs ls = cellsLs ls := rfl
    rw [e] at hown'; show OwnLs _ _ _ _; unfold OwnLs; simpa using hown'
  have HBs : Hid (Below w.heap.size w ws) := below_newLs HB0.out (Nat.le_refl _) HO0.out hgrow
  clear hown' hgrow HB0 HO0
  obtain ⟨a, haa⟩ : ∃ a : Option Addr, some (⟨b, off, none⟩ : Addr) = a := ⟨_, rfl⟩
  rw [haa] at HR ⊢
  clear haa
  have hBw : Below w.heap.size w ws := HBs.out
  have hws := hBw.size
  clear hBw
  obtain ⟨dP, hdP⟩ : ∃ d, poolB ls = d := ⟨_, rfl⟩
  have HDP : Hid (poolB ls = dP) := hdP
  have HPL : Hid _ := specPool_any a cap ls ws hl (HR.out.grown HBs.out)
  rw [hdP] at HPL
  clear hdP
  go_wp2_with fail
  refine Calls.mono HPL.out ?_
  rintro e w1 ⟨rfl, hb1⟩
  have HB1 : Hid (Below ws.heap.size ws w1) := hb1
  have HO1 : Hid (OwnLs w.heap.size w1 SAME ls) := HOs.out.later hb1
  clear hb1 HPL
  cases dP with
  | false =>
    have HL : Hid (leaseL ls c = ls ∧ leaseP ls c = 0 ∧ leaseB ls c = false) := by
      refine ⟨?_, ?_, ?_⟩
      · unfold leaseL; rw [if_neg (fun h => by rw [HDP.out] at h; cases h.1)]
      · unfold leaseP; rw [if_neg (fun h => by rw [HDP.out] at h; cases h)]
      · unfold leaseB; rw [HDP.out]; rfl
    go_wp2
    go_ret3
    exact ⟨_, by rw [HL.out.2.1, HL.out.2.2]; rfl, by rw [HL.out.1]; exact own_someLs HO1.out HSN.out, by rw [HL.out.1]; exact HO1.out, HBs.out.trans (HB1.out.mono hws)⟩
  | true =>
    go_wp2
    go_loopw [8] (fun i wr => ∃ k : Nat, k ≤ ls.length ∧ i = .int .i64 (k : Int) ∧ Hid (hasL (ls.take k) c = false) ∧ Below ws.heap.size ws wr) (fun i _ => ls.length - (intOf i).toNat)
    case atStart => exact ⟨0, Nat.zero_le _, rfl, rfl, HB1.out⟩
    case round =>
      obtain ⟨k, hk, rfl, HH, hbr⟩ := hrel
      have HBr : Hid (Below w.heap.size w wr) := HBs.out.trans (hbr.mono hws)
      by_cases hlt : k < ls.length
      · obtain ⟨b, off, rfl⟩ := HR.out.addr hlt
        have C1 := HR.out.at HBr.out hlt
        have hi0 : (0 : Int) ≤ (k : Int) := by omega
        have hi1 : (k : Int) < (ls.length : Int) := by omega
        have HN : Hid _ := has_next (c := c) hlt
        have HIT : Hid (∀ e : (ls.getD k Ls.zero).c = c, hasL ls c = true ∧ placeL ls c = (ls.getD k Ls.zero).p) := fun e => has_hit hlt HH.out e
        generalize ls.getD k Ls.zero = y at C1 HN HIT
        obtain ⟨hb, c0, c1⟩ := C1
        by_cases hc : y.c = c
        · have HL : Hid (leaseL ls c = ls ∧ leaseP ls c = y.p ∧ leaseB ls c = true) := by
            obtain ⟨h1, h2⟩ := HIT.out hc
            refine ⟨?_, ?_, ?_⟩
            · unfold leaseL; rw [if_neg (fun h => by rw [h1] at h; cases h.2.1)]
            · unfold leaseP; rw [if_pos HDP.out, if_pos h1, h2]
            · unfold leaseB; rw [HDP.out, h1]; rfl
          have HO2 : Hid (OwnLs w.heap.size wr SAME ls) := HOs.out.later hbr
          have hc' : (y.c == c) = true := by simp [hc]
          clear HIT HN hc hbr
          go_wp2
          go_quiet (fail)
          go_wp2
          go_ret3
          exact ⟨_, by rw [HL.out.2.1, HL.out.2.2]; rfl, by rw [HL.out.1]; exact own_someLs HO2.out HSN.out, by rw [HL.out.1]; exact HO2.out, below_dnB HBr.out _⟩
        · have hc' : (y.c == c) = false := by simp [hc]
          have HE : Hid (hasL (ls.take (k + 1)) c = false) := by show _ = _; rw [HN.out, HH.out, decide_eq_false hc]; rfl
          clear HIT HN hc HH
          go_wp2
          go_roundw
          case rel => exact ⟨k + 1, by omega, by go_num, HE, hbr⟩
          case measure => simp [intOf]; omega
      · obtain rfl : k = ls.length := by omega
        have HNO : Hid (hasL ls c = false) := by have := HH.out; rw [List.take_length] at this; exact this
        have hwr := hbr.size
        clear HH HO1 HB1 hlt hk
        go_wp2
        go_loopw [9, 10, 11] (fun v q p w2 => ∃ (n : Nat) (xs : List Ls) (qz : Int), n ≤ 3 ∧ p = .int .i64 (10 + (n : Int)) ∧ q = .int .i64 qz ∧ OwnLs ws.heap.size w2 v xs ∧ Hid (v ≠ .slice none 0 0) ∧ Hid (stepN ls c n = (xs, qz)) ∧ Below ws.heap.size ws w2) (fun _ _ p _ => 13 - (intOf p).toNat)
        case atStart => exact ⟨0, [], 0, by omega, rfl, rfl, own_newLs wr hwr, (by show _ ≠ _; simp), (by show _ = _; rfl), hbr.alloc hwr _⟩
        case round =>
          obtain ⟨n, xs, qz, hn, rfl, rfl, hown, HNN, HX, hb2⟩ := hrel
          by_cases hn3 : n < 3
          · have hn' : (10 : Int) + (n : Int) < 13 := by omega
            have hxl : xs.length ≤ 3145731 := by have := step_le ls c n; rw [HX.out] at this; simp only at this; have : n * (ls.length + 1) ≤ 3 * (ls.length + 1) := Nat.mul_le_mul_right _ hn; omega
            go_wp2
            go_loopw [9, 12, 13] (fun v h i w3 => ∃ (m : Nat) (ys : List Ls), m ≤ ls.length ∧ i = .int .i64 (m : Int) ∧ h = .bool (!decide (ys = [])) ∧ OwnLs ws.heap.size w3 v (xs ++ ys) ∧ Hid (v ≠ .slice none 0 0) ∧ Hid (lsAt (ls.take m) (10 + (n : Int)) = ys) ∧ Below ws.heap.size ws w3) (fun _ _ i _ => ls.length - (intOf i).toNat)
            case atStart => exact ⟨0, [], Nat.zero_le _, rfl, rfl, by rw [List.append_nil]; exact hown, HNN, (by show _ = _; rfl), hb2⟩
            case round =>
              obtain ⟨m, ys, hm, rfl, rfl, hown3, HNM, HM, hb3⟩ := hrel
              have HB3 : Hid (Below w.heap.size w wr) := HBs.out.trans (hb3.mono hws)
              by_cases hmlt : m < ls.length
              · obtain ⟨b, off, rfl⟩ := HR.out.addr hmlt
                have C1 := HR.out.at HB3.out hmlt
                have hi0 : (0 : Int) ≤ (m : Int) := by omega
                have hi1 : (m : Int) < (ls.length : Int) := by omega
                have HN : Hid _ := at_next (p := 10 + (n : Int)) hmlt
                have hyl : ys.length ≤ 1048576 := by have := at_le (ls.take m) (10 + (n : Int)); rw [HM.out] at this; simp at this; omega
                generalize ls.getD m Ls.zero = y at C1 HN
                obtain ⟨hb, c0, c1⟩ := C1
                by_cases hc : y.p = 10 + (n : Int)
                · have hc' : (y.p == 10 + (n : Int)) = true := by simp [hc]
                  have HE : Hid (lsAt (ls.take (m + 1)) (10 + (n : Int)) = ys ++ [y]) := by show _ = _; rw [HN.out, if_pos hc, HM.out]
                  clear HN HM hc
                  go_wp2_with (at_builtin; refine wpList_append_own _ rfl _ _ 24 rfl ws.heap.size 103 i0 _ 2 16 Try.underlying24 hi hz0 hz1 hz2 rfl (by decide) _ _ _ rfl (World.ownsRow.alloc hown3 _) ⟨wr.heap.size, 0, none⟩ 1 1 y.cells rfl rfl ?c1 ?c2 ?c3 ?c4 ?c5 ?_)
                  case c1 => exact World.news_of_block (cs := #[.int .i64 y.p, .int .i64 y.c]) (t := 103) (fr := (0, 0)) (heap_alloc_new wr _)
                  case c2 => exact cellsLs_one [y]
                  case c3 => unfold maxLen; simp; omega
                  case c4 => simp; omega
                  case c5 => have := hb3.size; simp; omega
                  intro v' w4 hown' hgrow hnn
                  have HN4 : Hid (v' ≠ .slice none 0 0) := hnn
                  clear hnn
                  have HB4 : Hid (Below ws.heap.size ws w4) := below_appLs hb3 (Nat.le_refl _) hown3 hgrow
                  have HO : Hid (OwnLs ws.heap.size w4 v' (xs ++ (ys ++ [y]))) := by show OwnLs _ _ _ _; unfold OwnLs; rw [← List.append_assoc, cellsLs_append, show cellsLs [y] = y.cells by simp [cellsLs]]; simpa [Nat.add_assoc] using hown'
                  clear hown' hgrow hown3 hb3 c0 c1
                  go_wp2
                  go_roundw
                  case rel => exact ⟨m + 1, ys ++ [y], by omega, by go_num, by simp, HO.out, HN4, HE, HB4.out⟩
                  case measure => simp [intOf]; omega
                · have hc' : (y.p == 10 + (n : Int)) = false := by simp [hc]
                  have HE : Hid (lsAt (ls.take (m + 1)) (10 + (n : Int)) = ys) := by show _ = _; rw [HN.out, if_neg hc, HM.out]; simp
                  clear HN HM hc
                  go_wp2
                  go_roundw
                  case rel => exact ⟨m + 1, ys, by omega, by go_num, rfl, hown3, HNM, HE, hb3⟩
                  case measure => simp [intOf]; omega
              · obtain rfl : m = ls.length := by omega
                have HY : Hid (lsAt ls (10 + (n : Int)) = ys) := by have := HM.out; rw [List.take_length] at this; exact this
                have HS : Hid (stepN ls c (n + 1) = if ys = [] ∧ qz = 0 then (xs ++ [⟨10 + (n : Int), c⟩], 10 + (n : Int)) else (xs ++ ys, qz)) := by show _ = _; rw [stepN, HX.out]; unfold lsStep; rw [HY.out]
                clear HM hmlt hm
                by_cases hy : ys = []
                · subst hy
                  by_cases hq : qz = 0
                  · subst hq
                    have HE : Hid (stepN ls c (n + 1) = (xs ++ [⟨10 + (n : Int), c⟩], 10 + (n : Int))) := by show _ = _; rw [HS.out, if_pos ⟨rfl, rfl⟩]
                    rw [List.append_nil] at hown3
                    clear HS
                    go_wp2_with (at_builtin; refine wpList_append_own _ rfl _ _ 24 rfl ws.heap.size 103 i0 _ 2 16 Try.underlying24 hi hz0 hz1 hz2 rfl (by decide) _ _ _ rfl (World.ownsRow.alloc hown3 _) ⟨wr.heap.size, 0, none⟩ 1 1 (⟨10 + (n : Int), c⟩ : Ls).cells rfl rfl ?c1 ?c2 ?c3 ?c4 ?c5 ?_)
                    case c1 => exact World.news_of_block (cs := #[.int .i64 (10 + (n : Int)), .int .i64 c]) (t := 103) (fr := (0, 0)) (heap_alloc_new wr _)
                    case c2 => exact cellsLs_one [⟨10 + (n : Int), c⟩]
                    case c3 => unfold maxLen; omega
                    case c4 => omega
                    case c5 => have := hb3.size; simp; omega
                    intro v' w4 hown' hgrow hnn
                    have HN4 : Hid (v' ≠ .slice none 0 0) := hnn
                    clear hnn
                    have HB4 : Hid (Below ws.heap.size ws w4) := below_appLs hb3 (Nat.le_refl _) hown3 hgrow
                    have HO : Hid (OwnLs ws.heap.size w4 v' (xs ++ [⟨10 + (n : Int), c⟩])) := by show OwnLs _ _ _ _; unfold OwnLs; rw [cellsLs_append, show cellsLs [⟨10 + (n : Int), c⟩] = (⟨10 + (n : Int), c⟩ : Ls).cells by simp [cellsLs]]; simpa using hown'
                    clear hown' hgrow hown3 hb3
                    go_wp2
                    go_roundw
                    case rel => exact ⟨n + 1, _, _, by omega, by go_num, rfl, HO.out, HN4, HE, HB4.out⟩
                    case measure => simp [intOf]; omega
                  · have hq' : (qz == 0) = false := by simp [hq]
                    have HE : Hid (stepN ls c (n + 1) = (xs, qz)) := by show _ = _; rw [HS.out, if_neg (fun h => hq h.2), List.append_nil]
                    rw [List.append_nil] at hown3
                    clear HS hq
                    go_wp2
                    go_roundw
                    case rel => exact ⟨n + 1, xs, qz, by omega, by go_num, rfl, hown3, HNM, HE, hb3⟩
                    case measure => simp [intOf]; omega
                · have hy' : decide (ys = []) = false := decide_eq_false hy
                  have HE : Hid (stepN ls c (n + 1) = (xs ++ ys, qz)) := by show _ = _; rw [HS.out, if_neg (fun h => hy h.1)]
                  clear HS hy
                  go_wp2
                  go_roundw
                  case rel => exact ⟨n + 1, xs ++ ys, qz, by omega, by go_num, rfl, hown3, HNM, HE, hb3⟩
                  case measure => simp [intOf]; omega
          · obtain rfl : n = 3 := by omega
            have HM : Hid (lsMade ls c = (xs, qz)) := by show _ = _; rw [← stepN_three]; exact HX.out
            have HBZ : Hid (Below w.heap.size w wr) := HBs.out.trans (hb2.mono hws)
            clear HX hn hn3
            by_cases hq : qz = 0
            · subst hq
              have HL : Hid (leaseL ls c = ls ∧ leaseP ls c = 0 ∧ leaseB ls c = false) := by
                refine ⟨?_, ?_, ?_⟩
                · unfold leaseL; rw [if_neg (fun h => h.2.2 (by rw [HM.out]))]
                · unfold leaseP; rw [if_pos HDP.out, if_neg (by rw [HNO.out]; simp), HM.out]
                · unfold leaseB; rw [HDP.out, HNO.out, HM.out]; rfl
              have HO2 : Hid (OwnLs w.heap.size wr SAME ls) := HOs.out.later hb2
              clear HM hown hb2
              go_wp2
              go_ret3
              exact ⟨_, by rw [HL.out.2.1, HL.out.2.2]; rfl, by rw [HL.out.1]; exact own_someLs HO2.out HSN.out, by rw [HL.out.1]; exact HO2.out, HBZ.out⟩
            · have hq' : (qz == 0) = false := by simp [hq]
              have HL : Hid (leaseL ls c = xs ∧ leaseP ls c = qz ∧ leaseB ls c = true) := by
                refine ⟨?_, ?_, ?_⟩
                · unfold leaseL; rw [if_pos ⟨HDP.out, HNO.out, by rw [HM.out]; exact hq⟩, HM.out]
                · unfold leaseP; rw [if_pos HDP.out, if_neg (by rw [HNO.out]; simp), HM.out]
                · unfold leaseB; rw [HDP.out, HNO.out, HM.out]; simp [hq]
              have HO2 : Hid (OwnLs w.heap.size wr _ xs) := hown.base hws
              clear HM hown hb2 hq
              go_wp2
              go_ret3
              exact ⟨_, by rw [HL.out.2.1, HL.out.2.2]; rfl, by rw [HL.out.1]; exact own_someLs HO2.out HNN.out, by rw [HL.out.1]; exact HO2.out, HBZ.out⟩
theorem specLeasedS_any (b off cap : Nat) (ls : List Ls) (c : Int) (w : World) (hl : ls.length ≤ 1048576) (hr : RowLs w.heap.size w (some ⟨b, off, none⟩) ls) :
    Calls Try.prog 22 #[.slice (some ⟨b, off, none⟩) ls.length cap, .int .i64 c] w fun e w' => ∃ v, e = .returned (.tuple #[v, .int .i64 (leaseP ls c), .bool (leaseB ls c)]) ∧ OwnLs w.heap.size w' v (leaseL ls c) ∧ Below w.heap.size w w' :=
  (specLeasedN_any b off cap ls c w hl hr).mono fun _ _ ⟨v, h1, _, h3, h4⟩ => ⟨v, h1, h3, h4⟩
end Go.Proofs.Ytclnhjkmhemebaa
