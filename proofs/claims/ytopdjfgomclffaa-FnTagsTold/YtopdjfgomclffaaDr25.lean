/- Drawn texts and keys of a tag (chapter 25): l25Text, l24Key, DrawLimbsOf, DrawPoly1305. -/
import Derived.Test.YtopdjfgomclffaaCurW
import Derived.Test.YtopdjfgomclffaaDraw22
import Derived.Test.YtopdjfgomclffaaArrB
import Derived.Test.YtopdjfgomclffaaPlain
import Derived.Laws.OwnMore
import Derived.OwnWalk
import Derived.WalkKit
import Derived.WalkLawsBesides
import Derived.WalkSpells
import Derived.BigRegion
namespace Go.Proofs.Ytopdjfgomclffaa
open Go.RowKit Go.PlainAid
set_option maxRecDepth 20000
set_option linter.unusedVariables false
set_option linter.unusedSimpArgs false
theorem pickLit25 (B g : Nat) (zs : List Int) (w : World) (h0 : 0 < zs.length) (h1 : zs.length ≤ 256) (hc : Cur B w g) :
    Calls Try.prog 47 #[.pointer (some ⟨g, 0, none⟩), .slice (some ⟨w.heap.size, 0, none⟩) zs.length zs.length] (w.alloc (.cells (zs.map (Value.int .i64)).toArray 3)) fun e w' => ∃ z ∈ zs, e = .returned (.int .i64 z) ∧ Cur B w' g ∧ w.grownBy w' (some g) := by
  have hgl := hc.2.1
  have hbn : Below w.heap.size w (w.alloc (.cells (zs.map (Value.int .i64)).toArray 3)) := (Below.refl _ _).alloc (Nat.le_refl _) _
  refine (pickInt_any B g w.heap.size zs.length zs.length zs _ h0 h1 rfl (by omega) (fun i hi => ?_) (hc.grown hbn)).mono ?_
  · rw [cell_of_row _ _ _ _ _ _ (heap_alloc_new w _)]
    simp [List.getElem?_map, List.getD_eq_getElem?_getD, List.getElem?_eq_getElem hi]
  · rintro e w' ⟨z, hz, rfl, h2, h3⟩
    exact ⟨z, hz, rfl, h2, grown_trans (grown_below hbn _) h3⟩
set_option maxHeartbeats 3200000 in
theorem key24_any (B g : Nat) (w : World) (hc : Cur B w g) :
    Calls Try.prog 38 #[.pointer (some ⟨g, 0, none⟩)] w fun e w' => ∃ s : ByteArray, e = .returned (.string s) ∧ s.size ≤ 40 ∧ Cur B w' g ∧ w.grownBy w' (some g) := by
  obtain ⟨i0, hi, hz0, hz1, hz2⟩ := info_parts infoU8
  have HP0 := pickLit25 B g [32, 32, 32, 32, 31, 33] w (by decide) (by decide) hc
  simp only [List.map_cons, List.map_nil, List.length_cons, List.length_nil, Nat.zero_add, Nat.reduceAdd] at HP0
  have HP : Hid _ := HP0
  clear HP0
  go_enter Try.func38, Try.ntmps38
  go_wp2_with fail
  refine Calls.mono HP.out ?_
  rintro e w1 ⟨z, hz, rfl, hc1, hg1⟩
  obtain ⟨n, rfl, hn⟩ : ∃ n : Nat, z = (n : Int) ∧ n ≤ 40 := by
    simp only [List.mem_cons, List.not_mem_nil, or_false] at hz
    exact ⟨z.toNat, by omega, by omega⟩
  clear hz HP hc
  have hbn : Below w1.heap.size w1 (w1.alloc (.cells #[] 5)) := (Below.refl _ _).alloc (Nat.le_refl _) _
  have hc1' := hc1.grown hbn
  have hg1' := grown_trans hg1 (grown_below hbn (some g))
  have hgl := hc1.2.1
  have hown : (w1.alloc (.cells #[] 5)).ownsRow w1.heap.size 5 1 (.slice (some ⟨w1.heap.size, 0, none⟩) 0 0) 0 [] := World.ownsRow_made _ _ _ (Nat.le_refl _) (by decide) rfl
  have hsw : w.heap.size ≤ w1.heap.size := hg1.size
  have hsz2 : w1.heap.size ≤ (w1.alloc (.cells #[] 5)).heap.size := hbn.size
  go_wp2_with fail
  generalize (w1.alloc (.cells #[] 5)) = w2 at hc1' hg1' hown hsz2 ⊢
  generalize w1.heap.size = S at hown hgl hsz2 hsw ⊢
  refine (byte_any B g _ hc1').mono ?_
  rintro e w3 ⟨x, rfl, hx0, hx1, hc3, hg3⟩
  have HO3 : Hid (w3.ownsRow S 5 1 (.slice (some ⟨S, 0, none⟩) 0 0) 0 []) := own_grown hown hg3 hgl
  have HG3 : Hid (w.grownBy w3 (some g)) := grown_trans hg1' hg3
  have hsz3 : S ≤ w3.heap.size := Nat.le_trans hsz2 hg3.size
  have HC3 : Hid (Cur B w3 g) := hc3
  have HGL : Hid (g < S) := hgl
  have HSW : Hid (w.heap.size ≤ S) := hsw
  clear hown hc1' hg1' hbn hc1 hg1 hg3 hsz2 hc3 hgl hsw
  go_wp2
  go_loopw [4, 6] (fun v i wr => ∃ (k : Nat) (xs : List Int), k ≤ n ∧ i = .int .i64 (k : Int) ∧ xs.length = k ∧ Hid (wr.ownsRow S 5 1 v k (xs.map (Value.int .u8))) ∧ Hid (Below S w3 wr))
    (fun _ i _ => n - (intOf i).toNat)
  case atStart => exact ⟨0, [], by omega, rfl, rfl, HO3, Below.refl _ _⟩
  case round =>
    clear HO3
    obtain ⟨k, xs, hk, rfl, hxl, HO, HB⟩ := hrel
    have hsz : S ≤ wr.heap.size := Nat.le_trans hsz3 HB.out.size
    by_cases hlt : k < n
    · have hi1 : (k : Int) < (n : Int) := by omega
      have e1 : IntKind.i64.wrap ((k : Int) * 7) = (k : Int) * 7 := by rw [IntKind.wrap_i64]; omega
      have e2 : IntKind.i64.wrap (x + (k : Int) * 7) = x + (k : Int) * 7 := by rw [IntKind.wrap_i64]; omega
      have e3 : IntKind.u8.wrap (x + (k : Int) * 7) = (x + (k : Int) * 7) % 256 := IntKind.wrap_u8' _
      generalize hY : (x + (k : Int) * 7) % 256 = y at e3
      have HOW : Hid _ := HO.out.alloc (.cells #[.int .u8 y] 5)
      have HXL : Hid (xs.length = k) := hxl
      clear hY hxl
      go_wp2_with (at_builtin; refine wpList_append_own _ rfl _ _ 22 rfl S 5 i0 (.int .u8 0) 1 1 Try.underlying22 hi hz0 hz1 hz2 rfl (by decide) _ _ _ rfl HOW.out ⟨wr.heap.size, 0, none⟩ 1 1 [.int .u8 y] rfl rfl ?c1 ?c2 ?c3 ?c4 ?c5 ?_)
      case c1 => exact cell_one_new _ _ _
      case c2 => first | rfl | (intro u hu; simp at hu; subst hu; rfl)
      case c3 => unfold maxLen; omega
      case c4 => omega
      case c5 => first | omega | (simp; omega)
      intro v' w4 hown' hgrow _
      have hB : Below S wr w4 := below_app HO.out (Below.refl _ _) hsz hgrow
      have HO4 : Hid (w4.ownsRow S 5 1 v' (k + 1) ((xs ++ [y]).map (Value.int .u8))) := by show World.ownsRow _ _ _ _ _ _ _; rw [List.map_append]; exact hown'
      have HB4 : Hid (Below S w3 w4) := HB.out.trans hB
      clear hown' hgrow hB HO HB HOW e1 e2 e3
      go_wp2
      go_roundw
      case rel => exact ⟨k + 1, xs ++ [y], by omega, by go_num, by have := HXL.out; simp; omega, HO4, HB4⟩
      case measure => simp [intOf]; omega
    · obtain rfl : k = n := by omega
      have hc := conv_own wr 22 9 5 Try.underlying22 Try.underlying5 Try.underlying9 (P := Try.prog) HO.out
      have HE : Hid (Cur B wr g ∧ w.grownBy wr (some g)) := ⟨HC3.out.beyond HGL.out HB.out, grown_then HG3.out (HB.out.mono HSW.out)⟩
      clear HO HB
      go_wp2
      go_ret
      exact ⟨_, rfl, by rw [strOfNums_size]; omega, HE.out.1, HE.out.2⟩
set_option maxHeartbeats 3200000 in
theorem text25_any (B g : Nat) (w : World) (hc : Cur B w g) :
    Calls Try.prog 35 #[.pointer (some ⟨g, 0, none⟩)] w fun e w' => ∃ s : ByteArray, e = .returned (.string s) ∧ s.size ≤ 18 ∧ Cur B w' g ∧ w.grownBy w' (some g) := by
  obtain ⟨i0, hi, hz0, hz1, hz2⟩ := info_parts infoU8
  have HP0 := pickLit25 B g [0, 1, 15, 16, 17, 17, 18] w (by decide) (by decide) hc
  have HQ0 := fun wz (hcz : Cur B wz g) => pickLit25 B g [0, 1, 37] wz (by decide) (by decide) hcz
  simp only [List.map_cons, List.map_nil, List.length_cons, List.length_nil, Nat.zero_add, Nat.reduceAdd] at HP0 HQ0
  have HP : Hid _ := HP0
  have HQ : Hid (∀ wz, Cur B wz g → _) := HQ0
  clear HP0 HQ0
  go_enter Try.func35, Try.ntmps35
  go_wp2_with fail
  refine Calls.mono HP.out ?_
  rintro e w1 ⟨z, hz, rfl, hc1, hg1⟩
  obtain ⟨n, rfl, hn⟩ : ∃ n : Nat, z = (n : Int) ∧ n ≤ 18 := by
    simp only [List.mem_cons, List.not_mem_nil, or_false] at hz
    exact ⟨z.toNat, by omega, by omega⟩
  clear hz HP hc
  have hbn : Below w1.heap.size w1 (w1.alloc (.cells #[] 5)) := (Below.refl _ _).alloc (Nat.le_refl _) _
  have hc1' := hc1.grown hbn
  have hg1' := grown_trans hg1 (grown_below hbn (some g))
  have hgl := hc1.2.1
  have hown : (w1.alloc (.cells #[] 5)).ownsRow w1.heap.size 5 1 (.slice (some ⟨w1.heap.size, 0, none⟩) 0 0) 0 [] := World.ownsRow_made _ _ _ (Nat.le_refl _) (by decide) rfl
  have hsw : w.heap.size ≤ w1.heap.size := hg1.size
  have hsz2 : w1.heap.size ≤ (w1.alloc (.cells #[] 5)).heap.size := hbn.size
  go_wp2_with fail
  generalize (w1.alloc (.cells #[] 5)) = w2 at hc1' hg1' hown hsz2 ⊢
  generalize w1.heap.size = S at hown hgl hsz2 hsw ⊢
  refine (byte_any B g _ hc1').mono ?_
  rintro e w3 ⟨xi, rfl, hx0, hx1, hc3, hg3⟩
  obtain ⟨x, rfl⟩ : ∃ x : Nat, xi = (x : Int) := ⟨xi.toNat, by omega⟩
  have hown3 := own_grown hown hg3 hgl
  have hg3' := grown_trans hg1' hg3
  have hsz3 : S ≤ w3.heap.size := Nat.le_trans hsz2 hg3.size
  have HGL : Hid (g < S) := hgl
  have HSW : Hid (w.heap.size ≤ S) := hsw
  clear hown hc1' hg1' hbn hc1 hg1 hg3 hsz2 hsw
  have HQ1 : Hid _ := HQ.out w3 hc3
  clear HQ
  go_wp2_with fail
  refine Calls.mono HQ1.out ?_
  rintro e w4 ⟨zq, hzq, rfl, hc4, hg4⟩
  obtain ⟨q, rfl, hq⟩ : ∃ q : Nat, zq = (q : Int) ∧ q ≤ 37 := by
    simp only [List.mem_cons, List.not_mem_nil, or_false] at hzq
    exact ⟨zq.toNat, by omega, by omega⟩
  have HO3 : Hid (w4.ownsRow S 5 1 (.slice (some ⟨S, 0, none⟩) 0 0) 0 []) := own_grown hown3 hg4 hgl
  have HG3 : Hid (w.grownBy w4 (some g)) := grown_trans hg3' hg4
  have hsz4 : S ≤ w4.heap.size := Nat.le_trans hsz3 hg4.size
  have HC3 : Hid (Cur B w4 g) := hc4
  clear hzq HQ1 hown3 hg3' hg4 hc4 hc3 hgl hsz3
  go_wp2
  go_loopw [4, 7] (fun v i wr => ∃ (k : Nat) (xs : List Int), k ≤ n ∧ i = .int .i64 (k : Int) ∧ xs.length = k ∧ Hid (wr.ownsRow S 5 1 v k (xs.map (Value.int .u8))) ∧ Hid (Below S w4 wr))
    (fun _ i _ => n - (intOf i).toNat)
  case atStart => exact ⟨0, [], by omega, rfl, rfl, HO3, Below.refl _ _⟩
  case round =>
    clear HO3
    obtain ⟨k, xs, hk, rfl, hxl, HO, HB⟩ := hrel
    have hsz : S ≤ wr.heap.size := Nat.le_trans hsz4 HB.out.size
    by_cases hlt : k < n
    · have hi1 : (k : Int) < (n : Int) := by omega
      have hpm : q * k ≤ 37 * 18 := Nat.mul_le_mul hq (by omega)
      obtain ⟨p, hp⟩ : ∃ p, p = q * k := ⟨_, rfl⟩
      rw [← hp] at hpm
      have ec : (q : Int) * (k : Int) = (p : Int) := by rw [hp, Int.natCast_mul]
      have e1 : IntKind.i64.wrap ((q : Int) * (k : Int)) = (p : Int) := by rw [ec, IntKind.wrap_i64]; omega
      have e2 : IntKind.i64.wrap ((x : Int) + (p : Int)) = (x : Int) + (p : Int) := by rw [IntKind.wrap_i64]; omega
      have e3 : IntKind.u8.wrap ((x : Int) + (p : Int)) = ((x : Int) + (p : Int)) % 256 := IntKind.wrap_u8' _
      generalize hY : ((x : Int) + (p : Int)) % 256 = y at e3
      have HOW : Hid _ := HO.out.alloc (.cells #[.int .u8 y] 5)
      have HXL : Hid (xs.length = k) := hxl
      clear hY hxl hp ec
      go_wp2_with (at_builtin; refine wpList_append_own _ rfl _ _ 22 rfl S 5 i0 (.int .u8 0) 1 1 Try.underlying22 hi hz0 hz1 hz2 rfl (by decide) _ _ _ rfl HOW.out ⟨wr.heap.size, 0, none⟩ 1 1 [.int .u8 y] rfl rfl ?c1 ?c2 ?c3 ?c4 ?c5 ?_)
      case c1 => exact cell_one_new _ _ _
      case c2 => first | rfl | (intro u hu; simp at hu; subst hu; rfl)
      case c3 => unfold maxLen; omega
      case c4 => omega
      case c5 => first | omega | (simp; omega)
      intro v' w5 hown' hgrow _
      have hB : Below S wr w5 := below_app HO.out (Below.refl _ _) hsz hgrow
      have HO4 : Hid (w5.ownsRow S 5 1 v' (k + 1) ((xs ++ [y]).map (Value.int .u8))) := by show World.ownsRow _ _ _ _ _ _ _; rw [List.map_append]; exact hown'
      have HB4 : Hid (Below S w4 w5) := HB.out.trans hB
      clear hown' hgrow hB HO HB HOW e1 e2 e3
      go_wp2
      go_roundw
      case rel => exact ⟨k + 1, xs ++ [y], by omega, by go_num, by have := HXL.out; simp; omega, HO4, HB4⟩
      case measure => simp [intOf]; omega
    · obtain rfl : k = n := by omega
      have hcr := HC3.out.beyond HGL.out HB.out
      have hgr := grown_then HG3.out (HB.out.mono HSW.out)
      clear HB
      go_wp2_with fail
      refine (once_any B g 4 _ (by omega) (by omega) hcr).mono ?_
      rintro e w6 ⟨bq, rfl, hc6, hg6⟩
      have ho6 := own_grown HO.out hg6 HGL.out
      have HE : Hid (Cur B w6 g ∧ w.grownBy w6 (some g)) := ⟨hc6, grown_trans hgr hg6⟩
      clear hcr hgr hc6 hg6 HO
      cases bq
      · have hc := conv_own w6 22 9 5 Try.underlying22 Try.underlying5 Try.underlying9 (P := Try.prog) ho6
        clear ho6
        go_wp2
        go_ret
        exact ⟨_, rfl, by rw [strOfNums_size]; omega, HE.out.1, HE.out.2⟩
      · clear ho6
        go_wp2_with fail
        refine (longC_any k _ _ (by omega)).mono ?_
        rintro e w7 ⟨s, rfl, hs, hb7⟩
        have HE7 : Hid (Cur B w7 g ∧ w.grownBy w7 (some g)) := ⟨HE.out.1.grown hb7, grown_trans HE.out.2 (grown_below hb7 _)⟩
        clear hb7
        go_wp2
        go_ret
        exact ⟨s, rfl, by omega, HE7.out.1, HE7.out.2⟩
theorem drawLimbsOf_any (a : Option Addr) (len cap : Nat) (w : World) (hc : CodeIn w.heap.size w a len) :
    Calls Try.prog 14 #[.slice a len cap] w fun e w' => ∃ s : ByteArray, e = .returned (.string s) ∧ s.size ≤ 18 ∧ Below w.heap.size w w' := by
  go_enter Try.func14, Try.ntmps14
  go_wp2_with fail
  refine (new_any a len cap _ hc).mono ?_
  rintro e w1 ⟨g, rfl, hc1, hb1⟩
  have hg := hc1.1
  go_wp2_with fail
  refine (text25_any w.heap.size g _ hc1).mono ?_
  rintro e w2 ⟨s, rfl, hs, hc2, hg2⟩
  go_wp2
  go_ret
  exact ⟨s, rfl, hs, hb1.grown hg2 hb1.size (fun k hk => by cases hk; exact hg)⟩
theorem drawPoly_any (a : Option Addr) (len cap : Nat) (w : World) (hc : CodeIn w.heap.size w a len) :
    Calls Try.prog 17 #[.slice a len cap] w fun e w' => ∃ s t : ByteArray, e = .returned (.tuple #[.string s, .string t]) ∧ s.size ≤ 40 ∧ t.size ≤ 100 ∧ Below w.heap.size w w' := by
  go_enter Try.func17, Try.ntmps17
  go_wp2_with fail
  refine (new_any a len cap _ hc).mono ?_
  rintro e w1 ⟨g, rfl, hc1, hb1⟩
  have hg := hc1.1
  go_wp2_with fail
  refine (key24_any w.heap.size g _ hc1).mono ?_
  rintro e w2 ⟨s, rfl, hs, hc2, hg2⟩
  go_wp2_with fail
  refine (text22_any w.heap.size g _ hc2).mono ?_
  rintro e w3 ⟨t, rfl, ht, hc3, hg3⟩
  go_wp2
  go_ret2
  exact ⟨s, t, rfl, hs, ht, hb1.grown (grown_trans hg2 hg3) hb1.size (fun k hk => by cases hk; exact hg)⟩
end Go.Proofs.Ytopdjfgomclffaa
