/- The contracts of chapter 3's l03Sizes and SizeOf, the specification's. -/
import Derived.Test.YtffnadnndmmliaaHeldQ
import Derived.Test.YtffnadnndmmliaaPlainRead
import Derived.Test.YtffnadnndmmliaaPlain
import Derived.WalkKit
import Derived.WalkLawsBesides
import Derived.WalkSpells
import Derived.OwnWalk
import Derived.Laws.OwnMore
namespace Go.Proofs.Ytffnadnndmmliaa
open Go.RowKit
set_option linter.unusedVariables false

theorem sizes_next (ns : List Nd) (k : Nat) {s : Int} (h : szv ns k = s) : (sizesN ns (k + 1)).map (Value.int .i64) = (sizesN ns k).map (Value.int .i64) ++ [.int .i64 s] := by
  rw [sizesN, ← szv_eq, h]; simp
theorem sizes_range (ns : List Nd) (m : Nat) : ∀ j, 0 ≤ (sizesN ns m).getD j 0 ∧ (sizesN ns m).getD j 0 ≤ 100000 := fun j => by
  by_cases h : j < m
  · rw [szv_at ns m j h]; exact szv_le ns j
  · rw [List.getD_eq_getElem?_getD, List.getElem?_eq_none (by rw [sizesN_len]; omega)]; simp
theorem szOne_right {out : List Int} {i : Nat} {x : Nd} (h : nodeB x i = true) (hp : 0 < i → out.getD (i - 1) 0 ≠ 0) : szOne out i x = if 100000 < (if x.k = 1 then (1 : Int) else if oneK x.k = true then 1 + out.getD x.a.toNat 0 else 1 + out.getD x.a.toNat 0 + out.getD x.b.toNat 0) then 100000 else (if x.k = 1 then (1 : Int) else if oneK x.k = true then 1 + out.getD x.a.toNat 0 else 1 + out.getD x.a.toNat 0 + out.getD x.b.toNat 0) := by
  rw [szOne, if_neg]
  rintro (e | ⟨e1, e2⟩)
  · rw [h] at e; simp at e
  · exact hp e1 e2
set_option maxHeartbeats 6400000 in
set_option maxRecDepth 20000 in
theorem specSizes_any (a : Option Addr) (cap : Nat) (ns : List Nd) (K : Nat) (w : World) (hl : ns.length ≤ 1048576) (hK : K < ns.length) (hr : RowN w.heap.size w a ns) :
    Calls Try.prog 104 #[.agg #[.slice a ns.length cap], .int .i64 (K : Int)] w fun e w' => ∃ v, e = .returned v ∧ w'.ownsRow w.heap.size 3 1 v (K + 1) ((sizesN ns (K + 1)).map (Value.int .i64)) ∧ Below w.heap.size w w' := by
  obtain ⟨i0, hi, hz0, hz1, hz2⟩ := info_parts infoIntS
  have HR : Hid (RowN w.heap.size w a ns) := hr
  clear hr
  go_enter Try.func104, Try.ntmps104
  go_wp2
  go_loopw [5, 6] (fun v i wr => ∃ k : Nat, k ≤ K + 1 ∧ i = .int .i64 (k : Int) ∧ wr.ownsRow (w.heap.size + 1) 3 1 v k ((sizesN ns k).map (Value.int .i64)) ∧ Below w.heap.size w wr ∧ wr.cell? ⟨w.heap.size, 0, none⟩ = some (.slice a ns.length cap) ∧ w.heap.size < wr.heap.size)
    (fun _ i _ => K + 1 - (intOf i).toNat)
  case atStart => exact ⟨0, Nat.zero_le _, rfl, by have := World.ownsRow_made (w.alloc (.cells #[.slice a ns.length cap] 28)) #[] 0 (base := w.heap.size + 1) (e := 3) (size := 1) (by simp) (by decide) rfl; simpa [sizesN] using this, ((Below.refl _ _).alloc (Nat.le_refl _) _).alloc (by simp) _, by rw [cell_of_row _ w.heap.size 0 _ _ _ ((heap_alloc_old _ _ (by simp)).trans (heap_alloc_new w _))]; rfl, by simp; omega⟩
  case round =>
    obtain ⟨k, hk, rfl, hown, hbel, hcA, hsz⟩ := hrel
    by_cases hlt : k ≤ K
    · have hkl : k < ns.length := by omega
      obtain ⟨b, off, rfl⟩ := HR.out.addr hkl
      obtain ⟨hb, c0, c1, c2, c3⟩ := HR.out.at hbel hkl
      have hi0 : (0 : Int) ≤ (k : Int) := by omega
      have hi1 : (k : Int) < (ns.length : Int) := by omega
      have hi2 : (k : Int) ≤ (K : Int) := by omega
      have hsv : szv ns k = szOne (sizesN ns k) k (ns.getD k Nd.zero) := szv_eq ns k
      generalize ns.getD k Nd.zero = y at c0 c1 c2 c3 hsv
      have HOW : Hid (wr.ownsRow (w.heap.size + 1) 3 1 u5 k ((sizesN ns k).map (Value.int .i64))) := hown
      clear hown
      obtain ⟨yk, yn, ya, yb⟩ := y
      dsimp only at c0 c1 c2 c3
      cases hN : nodeB ⟨yk, yn, ya, yb⟩ k with
      | false =>
        have HV : Hid (szv ns k = 0) := by show _ = _; rw [hsv, szOne, if_pos (.inl hN)]
        clear hsv
        go_wp2_with fail
        refine (specNode_any ⟨yk, yn, ya, yb⟩ k _ (by omega) (by omega)).mono ?_
        rintro e w1 ⟨rfl, hb1⟩
        rw [hN]
        obtain ⟨d0, d1, d2, d3, hB1, hs1⟩ := box_after hb1
        have ho1 := own_next HOW.out hB1
        have hA1 := (hB1.cell (p := ⟨w.heap.size, 0, none⟩) hsz).trans hcA
        have hw1 := hbel.trans (hB1.mono hbel.size)
        clear hb1 hB1 HOW hbel hcA c0 c1 c2 c3
        go_wp2_with (first | (go_at_call 102; refine (specOne_any _ _).mono ?_; rintro e w' ⟨rfl, rfl⟩; rw [hone]) | (at_builtin; refine wpList_append_own _ rfl _ _ 38 rfl (w.heap.size + 1) 3 i0 (.int .i64 0) 1 8 Try.underlying38 hi hz0 hz1 hz2 rfl (by decide) _ _ _ rfl (ho1.alloc _) ⟨w1.heap.size, 0, none⟩ 1 1 [.int .i64 (0)] rfl rfl ?c1 ?c2 ?c3 ?c4 ?c5 ?_))
        case c1 => exact cell_one_new _ _ _
        case c2 => intro u hu; simp at hu; subst hu; rfl
        case c3 => unfold maxLen; omega
        case c4 => omega
        case c5 => simp; omega
        intro v' w2 hown' hgrow _
        obtain ⟨hB2, hA2, hs2⟩ := app_step ho1 hw1 hA1 (Nat.lt_trans hsz hs1) hgrow
        have HO : Hid (w2.ownsRow (w.heap.size + 1) 3 1 v' (k + 1) ((sizesN ns (k + 1)).map (Value.int .i64))) := by show World.ownsRow _ _ _ _ _ _ _; rw [sizes_next ns _ HV.out]; exact hown'
        clear hown' hgrow ho1 d0 d1 d2 d3
        go_wp2
        go_roundw
        case rel => exact ⟨k + 1, by omega, by go_num, HO.out, hB2, hA2, hs2⟩
        case measure => simp [intOf] <;> omega
      | true =>
        have hnt := nodeB_true hN
        dsimp only at hnt
        by_cases hk00 : k = 0
        · obtain rfl : yk = 1 := by rcases hnt with h | h | h <;> omega
          have hsg := szOne_right (out := sizesN ns k) hN (by omega)
          have HV : Hid (szv ns k = 1) := by show _ = _; rw [hsv, hsg]; simp
          clear hsv hnt hsg
          subst hk00
          have hN0 : nodeB ⟨1, yn, ya, yb⟩ 0 = true := hN
          clear hN hi0 hi1 hi2 hk hlt
          have hN := hN0
          clear hN0
          simp only [Nat.zero_mul, Nat.add_zero] at c0 c1 c2 c3
          go_wp2_with fail
          refine (specNode_any ⟨1, yn, ya, yb⟩ 0 _ (by omega) (by omega)).mono ?_
          rintro e w1 ⟨rfl, hb1⟩
          rw [hN]
          obtain ⟨d0, d1, d2, d3, hB1, hs1⟩ := box_after hb1
          have ho1 := own_next HOW.out hB1
          have hA1 := (hB1.cell (p := ⟨w.heap.size, 0, none⟩) hsz).trans hcA
          have hw1 := hbel.trans (hB1.mono hbel.size)
          clear hb1 hB1 HOW hbel hcA c0 c1 c2 c3
          go_wp2_with (first | (go_at_call 102; refine (specOne_any _ _).mono ?_; rintro e w' ⟨rfl, rfl⟩; rw [hone]) | (at_builtin; refine wpList_append_own _ rfl _ _ 38 rfl (w.heap.size + 1) 3 i0 (.int .i64 0) 1 8 Try.underlying38 hi hz0 hz1 hz2 rfl (by decide) _ _ _ rfl (ho1.alloc _) ⟨w1.heap.size, 0, none⟩ 1 1 [.int .i64 (1)] rfl rfl ?c1 ?c2 ?c3 ?c4 ?c5 ?_))
          case c1 => exact cell_one_new _ _ _
          case c2 => intro u hu; simp at hu; subst hu; rfl
          case c3 => unfold maxLen; omega
          case c4 => omega
          case c5 => simp; omega
          intro v' w2 hown' hgrow _
          obtain ⟨hB2, hA2, hs2⟩ := app_step ho1 hw1 hA1 (Nat.lt_trans hsz hs1) hgrow
          have HO : Hid (w2.ownsRow (w.heap.size + 1) 3 1 v' (0 + 1) ((sizesN ns (0 + 1)).map (Value.int .i64))) := by show World.ownsRow _ _ _ _ _ _ _; rw [sizes_next ns _ HV.out]; exact hown'
          clear hown' hgrow ho1 d0 d1 d2 d3
          go_wp2
          go_roundw
          case rel => exact ⟨0 + 1, by omega, by go_num, HO.out, hB2, hA2, hs2⟩
          case measure => simp [intOf] <;> omega
        · have hk1p : 1 ≤ k := by omega
          obtain ⟨gv, cv, rfl, hg0, hgl, hcells⟩ := own_ints HOW.out (by omega)
          have hrg := sizes_range ns k
          have hpos : (0 : Int) < (k : Int) := by omega
          have hpm := hcells (k - 1) (by omega)
          have hpv : (sizesN ns k).getD (k - 1) 0 = szv ns (k - 1) := szv_at ns k (k - 1) (by omega)
          clear hk00
          by_cases hz : szv ns (k - 1) = 0
          · have HV : Hid (szv ns k = 0) := by show _ = _; have := szv_prev hz; rwa [Nat.sub_add_cancel hk1p] at this
            rw [hpv, hz] at hpm
            clear hsv hnt hcells hpv hz hrg
            go_wp2_with fail
            refine (specNode_any ⟨yk, yn, ya, yb⟩ k _ (by omega) (by omega)).mono ?_
            rintro e w1 ⟨rfl, hb1⟩
            rw [hN]
            obtain ⟨d0, d1, d2, d3, hB1, hs1⟩ := box_after hb1
            have ho1 := own_next HOW.out hB1
            have hA1 := (hB1.cell (p := ⟨w.heap.size, 0, none⟩) hsz).trans hcA
            have hw1 := hbel.trans (hB1.mono hbel.size)
            have e0 := (hB1.cell (p := ⟨gv, k - 1, none⟩) hgl).trans hpm
            clear hpm
            clear hb1 hB1 HOW hbel hcA c0 c1 c2 c3
            go_wp2_with (first | (go_at_call 102; refine (specOne_any _ _).mono ?_; rintro e w' ⟨rfl, rfl⟩; rw [hone]) | (at_builtin; refine wpList_append_own _ rfl _ _ 38 rfl (w.heap.size + 1) 3 i0 (.int .i64 0) 1 8 Try.underlying38 hi hz0 hz1 hz2 rfl (by decide) _ _ _ rfl (ho1.alloc _) ⟨w1.heap.size, 0, none⟩ 1 1 [.int .i64 (0)] rfl rfl ?c1 ?c2 ?c3 ?c4 ?c5 ?_))
            case c1 => exact cell_one_new _ _ _
            case c2 => intro u hu; simp at hu; subst hu; rfl
            case c3 => unfold maxLen; omega
            case c4 => omega
            case c5 => simp; omega
            intro v' w2 hown' hgrow _
            obtain ⟨hB2, hA2, hs2⟩ := app_step ho1 hw1 hA1 (Nat.lt_trans hsz hs1) hgrow
            have HO : Hid (w2.ownsRow (w.heap.size + 1) 3 1 v' (k + 1) ((sizesN ns (k + 1)).map (Value.int .i64))) := by show World.ownsRow _ _ _ _ _ _ _; rw [sizes_next ns _ HV.out]; exact hown'
            clear hown' hgrow ho1 d0 d1 d2 d3
            go_wp2
            go_roundw
            case rel => exact ⟨k + 1, by omega, by go_num, HO.out, hB2, hA2, hs2⟩
            case measure => simp [intOf] <;> omega
          · have hz' : (szv ns (k - 1) == 0) = false := by simp [hz]
            rw [hpv] at hpm
            have hsg := szOne_right (out := sizesN ns k) hN (by intro _; rw [hpv]; exact hz)
            rw [hsg] at hsv
            rcases hnt with ⟨rfl, -⟩ | ⟨hk2, hk9, -, ha0, ha1, hone, -⟩ | ⟨hk2, hk9, -, ha0, ha1, hone, hb0, hb1'⟩
            · have HV : Hid (szv ns k = 1) := by show _ = _; rw [hsv]; simp
              clear hsv hsg hcells hpv hz hrg
              go_wp2_with fail
              refine (specNode_any ⟨1, yn, ya, yb⟩ k _ (by omega) (by omega)).mono ?_
              rintro e w1 ⟨rfl, hb1⟩
              rw [hN]
              obtain ⟨d0, d1, d2, d3, hB1, hs1⟩ := box_after hb1
              have ho1 := own_next HOW.out hB1
              have hA1 := (hB1.cell (p := ⟨w.heap.size, 0, none⟩) hsz).trans hcA
              have hw1 := hbel.trans (hB1.mono hbel.size)
              have e0 := (hB1.cell (p := ⟨gv, k - 1, none⟩) hgl).trans hpm
              clear hpm
              clear hb1 hB1 HOW hbel hcA c0 c1 c2 c3
              go_wp2_with (first | (go_at_call 102; refine (specOne_any _ _).mono ?_; rintro e w' ⟨rfl, rfl⟩; rw [hone]) | (at_builtin; refine wpList_append_own _ rfl _ _ 38 rfl (w.heap.size + 1) 3 i0 (.int .i64 0) 1 8 Try.underlying38 hi hz0 hz1 hz2 rfl (by decide) _ _ _ rfl (ho1.alloc _) ⟨w1.heap.size, 0, none⟩ 1 1 [.int .i64 (1)] rfl rfl ?c1 ?c2 ?c3 ?c4 ?c5 ?_))
              case c1 => exact cell_one_new _ _ _
              case c2 => intro u hu; simp at hu; subst hu; rfl
              case c3 => unfold maxLen; omega
              case c4 => omega
              case c5 => simp; omega
              intro v' w2 hown' hgrow _
              obtain ⟨hB2, hA2, hs2⟩ := app_step ho1 hw1 hA1 (Nat.lt_trans hsz hs1) hgrow
              have HO : Hid (w2.ownsRow (w.heap.size + 1) 3 1 v' (k + 1) ((sizesN ns (k + 1)).map (Value.int .i64))) := by show World.ownsRow _ _ _ _ _ _ _; rw [sizes_next ns _ HV.out]; exact hown'
              clear hown' hgrow ho1 d0 d1 d2 d3
              go_wp2
              go_roundw
              case rel => exact ⟨k + 1, by omega, by go_num, HO.out, hB2, hA2, hs2⟩
              case measure => simp [intOf] <;> omega
            · obtain ⟨p, rfl⟩ : ∃ p : Nat, ya = (p : Int) := ⟨ya.toNat, by omega⟩
              have hkn : (yk != 1) = true := by simp; omega
              have hkn' : ¬ yk = 1 := by omega
              dsimp only at hsv
              have hpa := hcells p (by omega)
              have hp0 : (0 : Int) ≤ (p : Int) := by omega
              have hp1 : (p : Int) < (k : Int) := by omega
              have hra := hrg p
              simp only [if_neg hkn', Int.toNat_natCast] at hsv
              generalize (sizesN ns k).getD p 0 = x1 at hpa hra hsv
              rw [if_pos hone] at hsv
              by_cases hcap : 100000 < 1 + x1
              · have HV : Hid (szv ns k = 100000) := by show _ = _; rw [hsv, if_pos hcap]
                clear hsv hsg hcells hpv hz hrg hkn'
                go_wp2_with fail
                refine (specNode_any ⟨yk, yn, p, yb⟩ k _ (by omega) (by omega)).mono ?_
                rintro e w1 ⟨rfl, hb1⟩
                rw [hN]
                obtain ⟨d0, d1, d2, d3, hB1, hs1⟩ := box_after hb1
                have ho1 := own_next HOW.out hB1
                have hA1 := (hB1.cell (p := ⟨w.heap.size, 0, none⟩) hsz).trans hcA
                have hw1 := hbel.trans (hB1.mono hbel.size)
                have e0 := (hB1.cell (p := ⟨gv, k - 1, none⟩) hgl).trans hpm
                have e1 := (hB1.cell (p := ⟨gv, p, none⟩) hgl).trans hpa
                clear hpm hpa
                clear hb1 hB1 HOW hbel hcA c0 c1 c2 c3
                go_wp2_with (first | (go_at_call 102; refine (specOne_any _ _).mono ?_; rintro e w' ⟨rfl, rfl⟩; rw [hone]) | (at_builtin; refine wpList_append_own _ rfl _ _ 38 rfl (w.heap.size + 1) 3 i0 (.int .i64 0) 1 8 Try.underlying38 hi hz0 hz1 hz2 rfl (by decide) _ _ _ rfl (ho1.alloc _) ⟨w1.heap.size, 0, none⟩ 1 1 [.int .i64 (100000)] rfl rfl ?c1 ?c2 ?c3 ?c4 ?c5 ?_))
                case c1 => exact cell_one_new _ _ _
                case c2 => intro u hu; simp at hu; subst hu; rfl
                case c3 => unfold maxLen; omega
                case c4 => omega
                case c5 => simp; omega
                intro v' w2 hown' hgrow _
                obtain ⟨hB2, hA2, hs2⟩ := app_step ho1 hw1 hA1 (Nat.lt_trans hsz hs1) hgrow
                have HO : Hid (w2.ownsRow (w.heap.size + 1) 3 1 v' (k + 1) ((sizesN ns (k + 1)).map (Value.int .i64))) := by show World.ownsRow _ _ _ _ _ _ _; rw [sizes_next ns _ HV.out]; exact hown'
                clear hown' hgrow ho1 d0 d1 d2 d3
                go_wp2
                go_roundw
                case rel => exact ⟨k + 1, by omega, by go_num, HO.out, hB2, hA2, hs2⟩
                case measure => simp [intOf] <;> omega
              · have HV : Hid (szv ns k = 1 + x1) := by show _ = _; rw [hsv, if_neg hcap]
                clear hsv hsg hcells hpv hz hrg hkn'
                go_wp2_with fail
                refine (specNode_any ⟨yk, yn, p, yb⟩ k _ (by omega) (by omega)).mono ?_
                rintro e w1 ⟨rfl, hb1⟩
                rw [hN]
                obtain ⟨d0, d1, d2, d3, hB1, hs1⟩ := box_after hb1
                have ho1 := own_next HOW.out hB1
                have hA1 := (hB1.cell (p := ⟨w.heap.size, 0, none⟩) hsz).trans hcA
                have hw1 := hbel.trans (hB1.mono hbel.size)
                have e0 := (hB1.cell (p := ⟨gv, k - 1, none⟩) hgl).trans hpm
                have e1 := (hB1.cell (p := ⟨gv, p, none⟩) hgl).trans hpa
                clear hpm hpa
                clear hb1 hB1 HOW hbel hcA c0 c1 c2 c3
                go_wp2_with (first | (go_at_call 102; refine (specOne_any _ _).mono ?_; rintro e w' ⟨rfl, rfl⟩; rw [hone]) | (at_builtin; refine wpList_append_own _ rfl _ _ 38 rfl (w.heap.size + 1) 3 i0 (.int .i64 0) 1 8 Try.underlying38 hi hz0 hz1 hz2 rfl (by decide) _ _ _ rfl (ho1.alloc _) ⟨w1.heap.size, 0, none⟩ 1 1 [.int .i64 (1 + x1)] rfl rfl ?c1 ?c2 ?c3 ?c4 ?c5 ?_))
                case c1 => exact cell_one_new _ _ _
                case c2 => intro u hu; simp at hu; subst hu; rfl
                case c3 => unfold maxLen; omega
                case c4 => omega
                case c5 => simp; omega
                intro v' w2 hown' hgrow _
                obtain ⟨hB2, hA2, hs2⟩ := app_step ho1 hw1 hA1 (Nat.lt_trans hsz hs1) hgrow
                have HO : Hid (w2.ownsRow (w.heap.size + 1) 3 1 v' (k + 1) ((sizesN ns (k + 1)).map (Value.int .i64))) := by show World.ownsRow _ _ _ _ _ _ _; rw [sizes_next ns _ HV.out]; exact hown'
                clear hown' hgrow ho1 d0 d1 d2 d3
                go_wp2
                go_roundw
                case rel => exact ⟨k + 1, by omega, by go_num, HO.out, hB2, hA2, hs2⟩
                case measure => simp [intOf] <;> omega
            · obtain ⟨p, rfl⟩ : ∃ p : Nat, ya = (p : Int) := ⟨ya.toNat, by omega⟩
              have hkn : (yk != 1) = true := by simp; omega
              have hkn' : ¬ yk = 1 := by omega
              dsimp only at hsv
              have hpa := hcells p (by omega)
              have hp0 : (0 : Int) ≤ (p : Int) := by omega
              have hp1 : (p : Int) < (k : Int) := by omega
              have hra := hrg p
              simp only [if_neg hkn', Int.toNat_natCast] at hsv
              generalize (sizesN ns k).getD p 0 = x1 at hpa hra hsv
              obtain ⟨q, rfl⟩ : ∃ q : Nat, yb = (q : Int) := ⟨yb.toNat, by omega⟩
              have hqa := hcells q (by omega)
              have hq0 : (0 : Int) ≤ (q : Int) := by omega
              have hq1 : (q : Int) < (k : Int) := by omega
              have hrb := hrg q
              simp only [Int.toNat_natCast] at hsv
              generalize (sizesN ns k).getD q 0 = x2 at hqa hrb hsv
              rw [if_neg (one_no hone)] at hsv
              by_cases hcap : 100000 < 1 + x1 + x2
              · have HV : Hid (szv ns k = 100000) := by show _ = _; rw [hsv, if_pos hcap]
                clear hsv hsg hcells hpv hz hrg hkn'
                go_wp2_with fail
                refine (specNode_any ⟨yk, yn, p, q⟩ k _ (by omega) (by omega)).mono ?_
                rintro e w1 ⟨rfl, hb1⟩
                rw [hN]
                obtain ⟨d0, d1, d2, d3, hB1, hs1⟩ := box_after hb1
                have ho1 := own_next HOW.out hB1
                have hA1 := (hB1.cell (p := ⟨w.heap.size, 0, none⟩) hsz).trans hcA
                have hw1 := hbel.trans (hB1.mono hbel.size)
                have e0 := (hB1.cell (p := ⟨gv, k - 1, none⟩) hgl).trans hpm
                have e1 := (hB1.cell (p := ⟨gv, p, none⟩) hgl).trans hpa
                have e2 := (hB1.cell (p := ⟨gv, q, none⟩) hgl).trans hqa
                clear hpm hpa hqa
                clear hb1 hB1 HOW hbel hcA c0 c1 c2 c3
                go_wp2_with (first | (go_at_call 102; refine (specOne_any _ _).mono ?_; rintro e w' ⟨rfl, rfl⟩; rw [hone]) | (at_builtin; refine wpList_append_own _ rfl _ _ 38 rfl (w.heap.size + 1) 3 i0 (.int .i64 0) 1 8 Try.underlying38 hi hz0 hz1 hz2 rfl (by decide) _ _ _ rfl (ho1.alloc _) ⟨w1.heap.size, 0, none⟩ 1 1 [.int .i64 (100000)] rfl rfl ?c1 ?c2 ?c3 ?c4 ?c5 ?_))
                case c1 => exact cell_one_new _ _ _
                case c2 => intro u hu; simp at hu; subst hu; rfl
                case c3 => unfold maxLen; omega
                case c4 => omega
                case c5 => simp; omega
                intro v' w2 hown' hgrow _
                obtain ⟨hB2, hA2, hs2⟩ := app_step ho1 hw1 hA1 (Nat.lt_trans hsz hs1) hgrow
                have HO : Hid (w2.ownsRow (w.heap.size + 1) 3 1 v' (k + 1) ((sizesN ns (k + 1)).map (Value.int .i64))) := by show World.ownsRow _ _ _ _ _ _ _; rw [sizes_next ns _ HV.out]; exact hown'
                clear hown' hgrow ho1 d0 d1 d2 d3
                go_wp2
                go_roundw
                case rel => exact ⟨k + 1, by omega, by go_num, HO.out, hB2, hA2, hs2⟩
                case measure => simp [intOf] <;> omega
              · have HV : Hid (szv ns k = 1 + x1 + x2) := by show _ = _; rw [hsv, if_neg hcap]
                clear hsv hsg hcells hpv hz hrg hkn'
                go_wp2_with fail
                refine (specNode_any ⟨yk, yn, p, q⟩ k _ (by omega) (by omega)).mono ?_
                rintro e w1 ⟨rfl, hb1⟩
                rw [hN]
                obtain ⟨d0, d1, d2, d3, hB1, hs1⟩ := box_after hb1
                have ho1 := own_next HOW.out hB1
                have hA1 := (hB1.cell (p := ⟨w.heap.size, 0, none⟩) hsz).trans hcA
                have hw1 := hbel.trans (hB1.mono hbel.size)
                have e0 := (hB1.cell (p := ⟨gv, k - 1, none⟩) hgl).trans hpm
                have e1 := (hB1.cell (p := ⟨gv, p, none⟩) hgl).trans hpa
                have e2 := (hB1.cell (p := ⟨gv, q, none⟩) hgl).trans hqa
                clear hpm hpa hqa
                clear hb1 hB1 HOW hbel hcA c0 c1 c2 c3
                go_wp2_with (first | (go_at_call 102; refine (specOne_any _ _).mono ?_; rintro e w' ⟨rfl, rfl⟩; rw [hone]) | (at_builtin; refine wpList_append_own _ rfl _ _ 38 rfl (w.heap.size + 1) 3 i0 (.int .i64 0) 1 8 Try.underlying38 hi hz0 hz1 hz2 rfl (by decide) _ _ _ rfl (ho1.alloc _) ⟨w1.heap.size, 0, none⟩ 1 1 [.int .i64 (1 + x1 + x2)] rfl rfl ?c1 ?c2 ?c3 ?c4 ?c5 ?_))
                case c1 => exact cell_one_new _ _ _
                case c2 => intro u hu; simp at hu; subst hu; rfl
                case c3 => unfold maxLen; omega
                case c4 => omega
                case c5 => simp; omega
                intro v' w2 hown' hgrow _
                obtain ⟨hB2, hA2, hs2⟩ := app_step ho1 hw1 hA1 (Nat.lt_trans hsz hs1) hgrow
                have HO : Hid (w2.ownsRow (w.heap.size + 1) 3 1 v' (k + 1) ((sizesN ns (k + 1)).map (Value.int .i64))) := by show World.ownsRow _ _ _ _ _ _ _; rw [sizes_next ns _ HV.out]; exact hown'
                clear hown' hgrow ho1 d0 d1 d2 d3
                go_wp2
                go_roundw
                case rel => exact ⟨k + 1, by omega, by go_num, HO.out, hB2, hA2, hs2⟩
                case measure => simp [intOf] <;> omega
    · have HE : Hid (k = K + 1) := by show _ = _; omega
      have hi2 : ¬ ((k : Int) ≤ (K : Int)) := by omega
      have HO : Hid _ := hown
      clear hown
      go_wp2
      go_ret
      have ho := HO.out
      rw [HE.out] at ho
      exact ⟨_, rfl, own_base ho (by omega), hbel⟩
end Go.Proofs.Ytffnadnndmmliaa
