/- Drawn numbers of a tag (chapter 25): l25Limbs, l25Any, DrawAddLimbs. -/
import Derived.Test.YtopdjfgomclffaaDr25
import Derived.Test.YtopdjfgomclffaaLof25
import Derived.Test.YtopdjfgomclffaaSubT
import Derived.Laws.OwnMore
import Derived.WalkKit
import Derived.WalkLawsBesides
import Derived.WalkSpells
import Derived.BigRegion
import Derived.OwnWalk
import Derived.PlainAid
import Derived.Deep.RegionWith
namespace Go.Proofs.Ytopdjfgomclffaa
open Go.RowKit Go.PlainAid
set_option maxRecDepth 20000
set_option linter.unusedVariables false
set_option linter.unusedSimpArgs false
theorem rowGb {w w' : World} {g gg : Nat} {l : List Int} (h : RowI w.heap.size w (some ⟨gg, 0, none⟩) l) (hg : w.grownBy w' (some g)) (hne : gg ≠ g) : RowI w'.heap.size w' (some ⟨gg, 0, none⟩) l := by
  rcases h with h | ⟨b, off, e, hb, hc⟩
  · exact .inl h
  · cases e
    exact .inr ⟨gg, 0, rfl, Nat.lt_of_lt_of_le hb hg.size, fun j hj => hg.cell (hc j hj) (by simpa using hne)⟩
/-- Two boxes of numbers, one empty yet, and the drawing one's place. -/
def St (B g R A : Nat) (w wz : World) (v : Value) : Prop :=
  wz.heap[R]? = some (.cells #[.slice none 0 0] 26 (0, 0)) ∧ wz.heap[A]? = some (.cells #[v] 26 (0, 0)) ∧ Cur B wz g ∧ w.grownBy wz (some g) ∧ g < R ∧ R = w.heap.size ∧ R < A
theorem St.lt {B g R A : Nat} {w wz : World} {v : Value} (h : St B g R A w wz v) : A < wz.heap.size := (Array.getElem?_eq_some_iff.1 h.2.1).1
theorem St.next {B g R A : Nat} {w wz w' : World} {v : Value} (h : St B g R A w wz v) (hb : Below wz.heap.size wz w') : St B g R A w w' v := by
  have hl := h.lt
  obtain ⟨h1, h2, h3, h4, h5, h6, h7⟩ := h
  exact ⟨(hb.block R (by omega)).trans h1, (hb.block A hl).trans h2, h3.grown hb, grown_trans h4 (grown_below hb _), h5, h6, h7⟩
theorem St.drawn {B g R A : Nat} {w wz w' : World} {v : Value} (h : St B g R A w wz v) (hc : Cur B w' g) (hb : wz.grownBy w' (some g)) : St B g R A w w' v := by
  have hl := h.lt
  obtain ⟨h1, h2, h3, h4, h5, h6, h7⟩ := h
  exact ⟨(hb.block R (by omega) (by simp; omega)).trans h1, (hb.block A hl (by simp; omega)).trans h2, hc, grown_trans h4 hb, h5, h6, h7⟩
theorem St.over {B g R A b i : Nat} {w wz : World} {v : Value} (h : St B g R A w wz v) (hb : A < b) (u : Value) : St B g R A w (wz.setCell ⟨b, i, none⟩ u) v := by
  obtain ⟨h1, h2, h3, h4, h5, h6, h7⟩ := h
  have hq : Below b wz (wz.setCell ⟨b, i, none⟩ u) := (Below.refl _ _).setCell (show b ≤ b from Nat.le_refl _) u
  have hl : A < wz.heap.size := (Array.getElem?_eq_some_iff.1 h2).1
  exact ⟨(hq.block R (by omega)).trans h1, (hq.block A hb).trans h2, h3.beyond (by omega) hq, grown_then h4 (hq.mono (by omega)), h5, h6, h7⟩
theorem St.set {B g R A : Nat} {w wz : World} {v : Value} (h : St B g R A w wz v) (u : Value) : St B g R A w (wz.setCell ⟨A, 0, none⟩ u) u := by
  obtain ⟨h1, h2, h3, h4, h5, h6, h7⟩ := h
  have hq : Below A wz (wz.setCell ⟨A, 0, none⟩ u) := (Below.refl _ _).setCell (show A ≤ A from Nat.le_refl _) u
  refine ⟨(hq.block R h7).trans h1, ?_, h3.beyond (by omega) hq, grown_then h4 (hq.mono (by omega)), h5, h6, h7⟩
  rw [heap_setCell_same wz A 0 _ _ _ h2]; rfl
theorem St.cell {B g R A : Nat} {w wz : World} {v : Value} (h : St B g R A w wz v) : wz.cell? ⟨A, 0, none⟩ = some v := by rw [cell_of_row wz A 0 _ _ _ h.2.1]; rfl
theorem St.froz {B g R A : Nat} {w wz : World} {v : Value} (h : St B g R A w wz v) : wz.frozen? ⟨A, 0, none⟩ = false := frozen_of_row wz A 0 _ _ h.2.1
theorem St.cellR {B g R A : Nat} {w wz : World} {v : Value} (h : St B g R A w wz v) : wz.cell? ⟨R, 0, none⟩ = some (.slice none 0 0) := by rw [cell_of_row wz R 0 _ _ _ h.1]; rfl
theorem St.frozR {B g R A : Nat} {w wz : World} {v : Value} (h : St B g R A w wz v) : wz.frozen? ⟨R, 0, none⟩ = false := frozen_of_row wz R 0 _ _ h.1
theorem St.out {B g R A : Nat} {w wz : World} {v : Value} (h : St B g R A w wz v) : (wz.setCell ⟨R, 0, none⟩ v).heap[R]? = some (.cells #[v] 26 (0, 0)) ∧ Cur B (wz.setCell ⟨R, 0, none⟩ v) g ∧ w.grownBy (wz.setCell ⟨R, 0, none⟩ v) (some g) := by
  obtain ⟨h1, h2, h3, h4, h5, h6, h7⟩ := h
  have hq : Below R wz (wz.setCell ⟨R, 0, none⟩ v) := (Below.refl _ _).setCell (show R ≤ R from Nat.le_refl _) v
  refine ⟨?_, h3.beyond h5 hq, grown_then h4 (hq.mono (by omega))⟩
  rw [heap_setCell_same wz R 0 _ _ _ h1]; rfl
theorem rowSet {w : World} {R gg : Nat} {l : List Int} (h : RowI w.heap.size w (some ⟨gg, 0, none⟩) l) (hne : gg ≠ R) (u : Value) : RowI (w.setCell ⟨R, 0, none⟩ u).heap.size (w.setCell ⟨R, 0, none⟩ u) (some ⟨gg, 0, none⟩) l := rowGb h (gb_cell _ _ _ _) hne
set_option maxHeartbeats 1600000 in
theorem limbs25_any (B g : Nat) (w : World) (hc : Cur B w g) :
    Calls Try.prog 25 #[.pointer (some ⟨g, 0, none⟩)] w fun e w' => ∃ (v : Value) (xs : List Int), e = .returned (.agg #[v]) ∧ xs.length = 5 ∧ OwnInt w.heap.size w' v xs ∧ Cur B w' g ∧ w.grownBy w' (some g) := by
  have hA := heap_alloc_new w (.cells #[.slice none 0 0] 26)
  have hB : Below w.heap.size w (w.alloc (.cells #[.slice none 0 0] 26)) := (Below.refl _ _).alloc (Nat.le_refl _) _
  have hgl := hc.2.1
  have hc0 := hc.grown hB
  have hg0 := grown_below hB (some g)
  go_enter Try.func25, Try.ntmps25
  go_wp2_with fail
  generalize w.alloc (.cells #[.slice none 0 0] 26) = w0 at hA hB hc0 hg0 ⊢
  have hs0 : w.heap.size < w0.heap.size := (Array.getElem?_eq_some_iff.1 hA).1
  refine (text25_any B g _ hc0).mono ?_
  rintro e w1 ⟨s, rfl, hs, hc1, hg1⟩
  have hA1 : w1.heap[w.heap.size]? = some (.cells #[.slice none 0 0] 26 (0, 0)) := (hg1.block w.heap.size hs0 (by simp; omega)).trans hA
  have hgr1 := grown_trans hg0 hg1
  have hs1 : w.heap.size < w1.heap.size := Nat.lt_of_lt_of_le hs0 hg1.size
  clear hA hB hc0 hg0 hg1 hc
  have HA1 : Hid (w1.heap[w.heap.size]? = some (.cells #[.slice none 0 0] 26 (0, 0))) := hA1
  have HC1 : Hid (Cur B w1 g) := hc1
  have HG1 : Hid (w.grownBy w1 (some g)) := hgr1
  have HGL : Hid (g < w.heap.size) := hgl
  clear hA1 hc1 hgr1 hgl
  by_cases hb : 17 < s.size
  · have hq : (17 : Int) < (s.size : Int) := by omega
    have hq2 : (17 : Int) ≤ (s.size : Int) := by omega
    have hts : (s.extract 0 17).size ≤ 17 := by rw [ByteArray.size_extract]; omega
    have HL : Hid (∀ wz : World, Calls Try.prog 15 #[.string (s.extract 0 17)] wz fun e w' => ∃ v, e = .returned (.tuple #[.agg #[v], .bool (ofOkP (s.extract 0 17))]) ∧ OwnInt wz.heap.size w' v (ofLP (s.extract 0 17)) ∧ Below wz.heap.size wz w') := fun wz => specLimbsOf_any _ wz (by omega)
    have HF : Hid ((ofLP (s.extract 0 17)).length = 5) := by show _ = _; unfold ofLP; rw [if_pos hts]; exact canonP_len _
    generalize ofLP (s.extract 0 17) = xs at HL HF
    go_wp2_with fail
    refine Calls.mono (HL.out _) ?_
    rintro e w2 ⟨v0, rfl, ho, hb2⟩
    obtain ⟨x, y, rfl, -, -⟩ := ho.row
    rw [HF.out] at ho ⊢
    have hA2 : w2.heap[w.heap.size]? = some (.cells #[.slice none 0 0] 26 (0, 0)) := (hb2.block w.heap.size hs1).trans HA1.out
    have hs2 : w.heap.size < w2.heap.size := Nat.lt_of_lt_of_le hs1 hb2.size
    have hB2 : Below w2.heap.size w2 (w2.alloc (.cells #[.slice x 5 y] 26)) := (Below.refl _ _).alloc (Nat.le_refl _) _
    have hst : St B g w.heap.size w2.heap.size w (w2.alloc (.cells #[.slice x 5 y] 26)) (.slice x 5 y) :=
      ⟨(hB2.block _ hs2).trans hA2, heap_alloc_new w2 _, (HC1.out.grown hb2).grown hB2, grown_trans (grown_trans HG1.out (grown_below hb2 (some g))) (grown_below hB2 _), HGL.out, rfl, hs2⟩
    have ho3 : OwnInt w1.heap.size (w2.alloc (.cells #[.slice x 5 y] 26)) (.slice x 5 y) xs := World.ownsRow.alloc ho _
    clear HL HA1 HC1 HG1 hb2 hA2 hB2 ho
    go_upto_region 5 with fail
    generalize w2.alloc (.cells #[.slice x 5 y] 26) = w3 at hst ho3 ⊢
    have a3 := hst.cell
    have b3 := hst.cellR
    have f3 := hst.frozR
    have HE : Hid _ := hst.out
    have HO : Hid (OwnInt w.heap.size (w3.setCell ⟨w.heap.size, 0, none⟩ (.slice x 5 y)) (.slice x 5 y) xs) := OwnInt.base (ownsRow_setCell_below ho3 hs1 _) (Nat.le_of_lt hs1)
    clear hst ho3
    go_wp2
    refine bodyPost_ret (results_cell_row rfl _ _ w.heap.size 26 #[.slice x 5 y] (0, 0) _ rfl HE.out.1 Try.underlying26 rfl (sizeLimbs1 _)) rfl ?_
    exact ⟨_, xs, rfl, HF.out, HO.out, HE.out.2.1, HE.out.2.2⟩
  · have hq : ¬ (17 : Int) < (s.size : Int) := by omega
    have hts : (s).size ≤ 17 := by omega
    have HL : Hid (∀ wz : World, Calls Try.prog 15 #[.string (s)] wz fun e w' => ∃ v, e = .returned (.tuple #[.agg #[v], .bool (ofOkP (s))]) ∧ OwnInt wz.heap.size w' v (ofLP (s)) ∧ Below wz.heap.size wz w') := fun wz => specLimbsOf_any _ wz (by omega)
    have HF : Hid ((ofLP (s)).length = 5) := by show _ = _; unfold ofLP; rw [if_pos hts]; exact canonP_len _
    generalize ofLP (s) = xs at HL HF
    go_wp2_with fail
    refine Calls.mono (HL.out _) ?_
    rintro e w2 ⟨v0, rfl, ho, hb2⟩
    obtain ⟨x, y, rfl, -, -⟩ := ho.row
    rw [HF.out] at ho ⊢
    have hA2 : w2.heap[w.heap.size]? = some (.cells #[.slice none 0 0] 26 (0, 0)) := (hb2.block w.heap.size hs1).trans HA1.out
    have hs2 : w.heap.size < w2.heap.size := Nat.lt_of_lt_of_le hs1 hb2.size
    have hB2 : Below w2.heap.size w2 (w2.alloc (.cells #[.slice x 5 y] 26)) := (Below.refl _ _).alloc (Nat.le_refl _) _
    have hst : St B g w.heap.size w2.heap.size w (w2.alloc (.cells #[.slice x 5 y] 26)) (.slice x 5 y) :=
      ⟨(hB2.block _ hs2).trans hA2, heap_alloc_new w2 _, (HC1.out.grown hb2).grown hB2, grown_trans (grown_trans HG1.out (grown_below hb2 (some g))) (grown_below hB2 _), HGL.out, rfl, hs2⟩
    have ho3 : OwnInt w1.heap.size (w2.alloc (.cells #[.slice x 5 y] 26)) (.slice x 5 y) xs := World.ownsRow.alloc ho _
    clear HL HA1 HC1 HG1 hb2 hA2 hB2 ho
    go_upto_region 5 with fail
    generalize w2.alloc (.cells #[.slice x 5 y] 26) = w3 at hst ho3 ⊢
    have a3 := hst.cell
    have b3 := hst.cellR
    have f3 := hst.frozR
    have HE : Hid _ := hst.out
    have HO : Hid (OwnInt w.heap.size (w3.setCell ⟨w.heap.size, 0, none⟩ (.slice x 5 y)) (.slice x 5 y) xs) := OwnInt.base (ownsRow_setCell_below ho3 hs1 _) (Nat.le_of_lt hs1)
    clear hst ho3
    go_wp2
    refine bodyPost_ret (results_cell_row rfl _ _ w.heap.size 26 #[.slice x 5 y] (0, 0) _ rfl HE.out.1 Try.underlying26 rfl (sizeLimbs1 _)) rfl ?_
    exact ⟨_, xs, rfl, HF.out, HO.out, HE.out.2.1, HE.out.2.2⟩
theorem pickLit25d (B g : Nat) (zs : List Int) (w : World) (h0 : 0 < zs.length) (h1 : zs.length ≤ 256) (hc : Cur B w g) :
    Calls Try.prog 47 #[.pointer (some ⟨g, 0, none⟩), .slice (some ⟨w.heap.size, 0, none⟩) zs.length zs.length] (w.alloc (.cells (zs.map (Value.int .i64)).toArray 3)).drew fun e w' => ∃ z ∈ zs, e = .returned (.int .i64 z) ∧ Cur B w' g ∧ w.grownBy w' (some g) := by
  have hgl := hc.2.1
  have hbn : Below w.heap.size w (w.alloc (.cells (zs.map (Value.int .i64)).toArray 3)).drew := ((Below.refl _ _).alloc (Nat.le_refl _) _).drew
  refine (pickInt_any B g w.heap.size zs.length zs.length zs _ h0 h1 rfl (by omega) (fun i hi => ?_) (hc.grown hbn)).mono ?_
  · rw [cell_of_row _ _ _ _ _ _ (show (w.alloc (.cells (zs.map (Value.int .i64)).toArray 3)).drew.heap[w.heap.size]? = _ from heap_alloc_new w _)]
    simp [List.getElem?_map, List.getD_eq_getElem?_getD, List.getElem?_eq_getElem hi]
  · rintro e w' ⟨z, hz, rfl, h2, h3⟩
    exact ⟨z, hz, rfl, h2, grown_trans (grown_below hbn _) h3⟩
set_option maxHeartbeats 3200000 in
theorem any25_any (B g : Nat) (w : World) (hc : Cur B w g) :
    Calls Try.prog 37 #[.pointer (some ⟨g, 0, none⟩)] w fun e w' => ∃ (gg y : Nat) (xs : List Int), e = .returned (.agg #[.slice (some ⟨gg, 0, none⟩) xs.length y]) ∧ g < gg ∧ xs.length ≤ 5 ∧ RowI w'.heap.size w' (some ⟨gg, 0, none⟩) xs ∧ Cur B w' g ∧ w.grownBy w' (some g) := by
  obtain ⟨i0, hi, hz0, hz1, hz2⟩ := info_parts infoIntS
  have hA := heap_alloc_new w (.cells #[.slice none 0 0] 26)
  have hB : Below w.heap.size w (w.alloc (.cells #[.slice none 0 0] 26)) := (Below.refl _ _).alloc (Nat.le_refl _) _
  have hgl := hc.2.1
  have hc0 := hc.grown hB
  have hg0 := grown_below hB (some g)
  go_enter Try.func37, Try.ntmps37
  go_wp2_with fail
  generalize w.alloc (.cells #[.slice none 0 0] 26) = w0 at hA hB hc0 hg0 ⊢
  have hs0 : w.heap.size < w0.heap.size := (Array.getElem?_eq_some_iff.1 hA).1
  refine (below_any B g 10 _ (by omega) (by omega) hc0).mono ?_
  rintro e w1 ⟨k, rfl, hk, hc1, hg1⟩
  have hA1 : w1.heap[w.heap.size]? = some (.cells #[.slice none 0 0] 26 (0, 0)) := (hg1.block w.heap.size hs0 (by simp; omega)).trans hA
  have hgr1 := grown_trans hg0 hg1
  have hs1 : w.heap.size < w1.heap.size := Nat.lt_of_lt_of_le hs0 hg1.size
  clear hA hB hc0 hg0 hg1 hc
  go_wp2_with fail
  refine (limbs25_any B g _ hc1).mono ?_
  rintro e w2 ⟨v, xs, rfl, hxl, ho, hc2, hg2⟩
  have hA2 : w2.heap[w.heap.size]? = some (.cells #[.slice none 0 0] 26 (0, 0)) := (hg2.block w.heap.size hs1 (by simp; omega)).trans hA1
  have hgr2 := grown_trans hgr1 hg2
  have hs2 : w.heap.size < w2.heap.size := Nat.lt_of_lt_of_le hs1 hg2.size
  obtain ⟨gx, cx, rfl, hx⟩ := ho.rowS (by omega)
  rw [hxl]
  have hB2 : Below w2.heap.size w2 (w2.alloc (.cells #[.slice (some ⟨gx, 0, none⟩) 5 cx] 26)) := (Below.refl _ _).alloc (Nat.le_refl _) _
  have hst : St B g w.heap.size w2.heap.size w (w2.alloc (.cells #[.slice (some ⟨gx, 0, none⟩) 5 cx] 26)) (.slice (some ⟨gx, 0, none⟩) 5 cx) :=
    ⟨(hB2.block _ hs2).trans hA2, heap_alloc_new w2 _, hc2.grown hB2, grown_trans hgr2 (grown_below hB2 _), hgl, rfl, hs2⟩
  have hx3 := hx.row.grown hB2
  have hn3 := heap_alloc_new w2 (.cells #[.slice (some ⟨gx, 0, none⟩) 5 cx] 26)
  clear hA1 hgr1 hc1 hA2 hgr2 hc2 hg2 ho hx hB2
  generalize hw3 : w2.alloc (.cells #[.slice (some ⟨gx, 0, none⟩) 5 cx] 26) = w3 at hst hx3
  have HST : Hid (St B g w.heap.size w2.heap.size w w3 (.slice (some ⟨gx, 0, none⟩) 5 cx)) := hst
  have HX : Hid (RowI w3.heap.size w3 (some ⟨gx, 0, none⟩) xs) := hx3
  clear hx3 hn3
  go_upto_region 3 with fail
  clear hw3
  generalize w2.heap.size = A at hst HST ⊢
  have hAl := hst.lt
  have a3 := hst.cell
  have f3 := hst.froz
  have hbE : Below w3.heap.size w3 (w3.alloc (.cells #[] 3)) := (Below.refl _ _).alloc (Nat.le_refl _) _
  have a4 := (hst.next hbE).cell
  have hown : (w3.alloc (.cells #[] 3)).ownsRow w3.heap.size 3 1 (.slice (some ⟨w3.heap.size, 0, none⟩) 0 0) 0 [] := World.ownsRow_made _ _ _ (Nat.le_refl _) (by decide) rfl
  have HSRC : Hid (∀ j, j < 5 → (w3.alloc (.cells #[] 3)).cell? ⟨gx, 0 + j, none⟩ = some (.int .i64 (xs.getD j 0))) := fun j hj => (HX.out.at hbE (show j < xs.length by omega)).2
  have HOW : Hid _ := hown
  clear hown hst
  go_wp2_with (at_builtin; refine wpList_append_own _ rfl _ _ 24 rfl w3.heap.size 3 i0 (.int .i64 0) 1 8 Try.underlying24 hi hz0 hz1 hz2 rfl (by decide) _ _ _ rfl HOW.out ⟨gx, 0, none⟩ 5 cx (xs.map (Value.int .i64)) rfl (by simp; omega) ?c1 ?c2 ?c3 ?c4 ?c5 ?_)
  case c1 =>
    intro j u hu
    have hj : j < 5 := by have := (List.getElem?_eq_some_iff.1 hu).1; first | omega | (simp at this; omega)
    have hh := HSRC.out j hj
    rw [Nat.zero_add, List.getD_eq_getElem?_getD, hu] at hh
    exact hh
  case c2 => intro u hu; rfl
  case c3 => unfold maxLen; omega
  intro v' w5 hown' hgrow _
  have hbA : Below w3.heap.size w3 w5 := hbE.grown hgrow hbE.size (fun k hk => by cases hk; exact Nat.le_refl _)
  have ho5 : OwnInt w3.heap.size w5 v' xs := by unfold OwnInt; rw [hxl]; exact hown'
  obtain ⟨gg, cg, rfl, hr5⟩ := ho5.rowS (by omega)
  rw [hxl] at hr5 ⊢
  have hst5 := HST.out.next hbA
  have a5 := hst5.cell
  have f5 := hst5.froz
  have hst6 := hst5.set (.slice (some ⟨gg, 0, none⟩) 5 cg)
  have hgg : A < gg := Nat.lt_of_lt_of_le hAl hr5.lt.1
  have hr6 : RowS w3.heap.size (w5.setCell ⟨A, 0, none⟩ (.slice (some ⟨gg, 0, none⟩) 5 cg)) gg 5 cg xs := hr5.other _ (by omega)
  have hcg : 5 ≤ cg := by
    rcases hr5.2 with ⟨_, h⟩ | ⟨g', cap, cur, h, _, _, h2, _⟩
    · omega
    · cases h; exact h2
  clear hown' hgrow ho5 hbA hbE a3 f3 a4 HSRC HOW HST HX hst5 hr5 hi hz0 hz1 hz2 hxl
  go_upto_region 5 with fail
  generalize w5.setCell ⟨A, 0, none⟩ (.slice (some ⟨gg, 0, none⟩) 5 cg) = w6 at hst6 hr6 ⊢
  clear a5 f5
  have hgR := hst6.2.2.2.2.1
  have hRA := hst6.2.2.2.2.2.2
  have hA6 := hst6.lt
  have a6 := hst6.cell
  have f6 := hst6.froz
  have hr6I := hr6.row
  have hggs := hr6.lt.2
  have hl6 := hr6.len
  by_cases h0 : k = 0
  · subst h0
    have hP0 := pickLit25d B g [-1, 67108864] w6 (by decide) (by decide) hst6.2.2.1
    simp only [List.map_cons, List.map_nil, List.length_cons, List.length_nil, Nat.zero_add, Nat.reduceAdd] at hP0
    have HP : Hid _ := hP0
    have HS6 : Hid (St B g w.heap.size A w w6 (.slice (some ⟨gg, 0, none⟩) 5 cg)) := hst6
    have HR6 : Hid (RowS w3.heap.size w6 gg 5 cg xs) := hr6
    have hbN : Below w6.heap.size w6 (w6.alloc (.cells #[.int .i64 (-1), .int .i64 67108864] 3)) := (Below.refl _ _).alloc (Nat.le_refl _) _
    have a6b := (hst6.next hbN.drew).cell
    clear hP0 hst6 hr6 hr6I
    go_upto_region 6 with fail
    go_region_with (first | (go_at_call 47; refine Calls.mono HP.out ?_; rintro e w7 ⟨z, hz, rfl, hc7, hg7⟩; have hst7 := HS6.out.drawn hc7 hg7; have a7 := hst7.cell; have hr7 := HR6.out.grown hg7 (by omega); have c7 := hr7.cell (i := 2) (by omega); have z7 := hr7.froz 2))
    all_goals
      have s1 := hst7.over (i := 2) hgg (.int .i64 z)
      have HRI : Hid (RowI (w7.setCell ⟨gg, 2, none⟩ (.int .i64 z)).heap.size (w7.setCell ⟨gg, 2, none⟩ (.int .i64 z)) (some ⟨gg, 0, none⟩) (xs.set 2 z)) := (hr7.set 2 z).row
      have HTL : Hid ((xs.set 2 z).length = 5) := by show _ = _; rw [List.length_set]; exact hl6
      clear a7 z7 c7 hr7 hst7 hc7 hg7 HP HS6 HR6 a6b hbN hz
      go_upto_region 13 with fail
      generalize w7.setCell ⟨gg, 2, none⟩ (.int .i64 z) = w8 at s1 HRI ⊢
      clear a6 f6
      have a8 := s1.cell
      have b8 := s1.cellR
      have d8 := s1.frozR
      have HE : Hid _ := s1.out
      have HRO := rowSet HRI.out (show gg ≠ w.heap.size by omega) (.slice (some ⟨gg, 0, none⟩) 5 cg)
      clear s1
      go_wp2
      refine bodyPost_ret (results_cell_row rfl _ _ w.heap.size 26 #[.slice (some ⟨gg, 0, none⟩) 5 cg] (0, 0) _ rfl HE.out.1 Try.underlying26 rfl (sizeLimbs1 _)) rfl ?_
      exact ⟨gg, cg, xs.set 2 z, by rw [HTL.out], by omega, by have := HTL.out; omega, HRO, HE.out.2.1, HE.out.2.2⟩
  by_cases h1 : k = 1
  · subst h1
    have s1 := hst6.set (.slice (some ⟨gg, 0, none⟩) 4 cg)
    have HRI : Hid (RowI (w6.setCell ⟨A, 0, none⟩ (.slice (some ⟨gg, 0, none⟩) 4 cg)).heap.size (w6.setCell ⟨A, 0, none⟩ (.slice (some ⟨gg, 0, none⟩) 4 cg)) (some ⟨gg, 0, none⟩) (xs.take 4)) := ((hr6.other _ (by omega)).front (by omega)).row
    have HTL : Hid ((xs.take 4).length = 4) := by show _ = _; rw [List.length_take]; omega
    have q1 : (4 : Int) ≤ (cg : Int) := by omega
    clear hr6 hst6 hr6I
    go_upto_region 13 with fail
    generalize w6.setCell ⟨A, 0, none⟩ (.slice (some ⟨gg, 0, none⟩) 4 cg) = w7 at s1 HRI ⊢
    clear a6 f6
    have a7 := s1.cell
    have b7 := s1.cellR
    have d7 := s1.frozR
    have HE : Hid _ := s1.out
    have HRO := rowSet HRI.out (show gg ≠ w.heap.size by omega) (.slice (some ⟨gg, 0, none⟩) 4 cg)
    clear s1
    go_wp2
    refine bodyPost_ret (results_cell_row rfl _ _ w.heap.size 26 #[.slice (some ⟨gg, 0, none⟩) 4 cg] (0, 0) _ rfl HE.out.1 Try.underlying26 rfl (sizeLimbs1 _)) rfl ?_
    exact ⟨gg, cg, xs.take 4, by rw [HTL.out], by omega, by have := HTL.out; omega, HRO, HE.out.2.1, HE.out.2.2⟩
  by_cases h2 : k = 2
  · subst h2
    have hsw6 : (w6.setCell ⟨A, 0, none⟩ (.slice (some ⟨w6.heap.size, 0, none⟩) 5 5)).heap.size = w6.heap.size := by simp
    have hbN : Below (w6.setCell ⟨A, 0, none⟩ (.slice (some ⟨w6.heap.size, 0, none⟩) 5 5)).heap.size (w6.setCell ⟨A, 0, none⟩ (.slice (some ⟨w6.heap.size, 0, none⟩) 5 5)) ((w6.setCell ⟨A, 0, none⟩ (.slice (some ⟨w6.heap.size, 0, none⟩) 5 5)).alloc (.cells #[.int .i64 67108859, .int .i64 67108863, .int .i64 67108863, .int .i64 67108863, .int .i64 67108863] 3)) := (Below.refl _ _).alloc (Nat.le_refl _) _
    have s1 := (hst6.set (.slice (some ⟨w6.heap.size, 0, none⟩) 5 5)).next hbN
    have a0 := a6
    have f0 := f6
    have hnew := heap_alloc_new (w6.setCell ⟨A, 0, none⟩ (.slice (some ⟨w6.heap.size, 0, none⟩) 5 5)) (.cells #[.int .i64 67108859, .int .i64 67108863, .int .i64 67108863, .int .i64 67108863, .int .i64 67108863] 3)
    have hnz : w6.heap.size < ((w6.setCell ⟨A, 0, none⟩ (.slice (some ⟨w6.heap.size, 0, none⟩) 5 5)).alloc (.cells #[.int .i64 67108859, .int .i64 67108863, .int .i64 67108863, .int .i64 67108863, .int .i64 67108863] 3)).heap.size := by simp
    rw [hsw6] at hnew
    have HRI : Hid (RowI ((w6.setCell ⟨A, 0, none⟩ (.slice (some ⟨w6.heap.size, 0, none⟩) 5 5)).alloc (.cells #[.int .i64 67108859, .int .i64 67108863, .int .i64 67108863, .int .i64 67108863, .int .i64 67108863] 3)).heap.size ((w6.setCell ⟨A, 0, none⟩ (.slice (some ⟨w6.heap.size, 0, none⟩) 5 5)).alloc (.cells #[.int .i64 67108859, .int .i64 67108863, .int .i64 67108863, .int .i64 67108863, .int .i64 67108863] 3)) (some ⟨w6.heap.size, 0, none⟩) ([67108859, 67108863, 67108863, 67108863, 67108863] : List Int)) := .inr ⟨w6.heap.size, 0, rfl, hnz, fun j hj => by
      rw [cell_of_row _ _ _ _ _ _ hnew]
      rcases (show j = 0 ∨ j = 1 ∨ j = 2 ∨ j = 3 ∨ j = 4 by simp at hj; omega) with rfl | rfl | rfl | rfl | rfl <;> rfl⟩
    have HTL : Hid (([67108859, 67108863, 67108863, 67108863, 67108863] : List Int).length = 5) := rfl
    clear hr6 hst6 hr6I hbN hsw6 hnew hnz
    go_upto_region 13 with fail
    generalize (w6.setCell ⟨A, 0, none⟩ (.slice (some ⟨w6.heap.size, 0, none⟩) 5 5)).alloc (.cells #[.int .i64 67108859, .int .i64 67108863, .int .i64 67108863, .int .i64 67108863, .int .i64 67108863] 3) = w7 at s1 HRI ⊢
    clear a0 f0
    generalize w6.heap.size = G at s1 HRI hA6 hggs ⊢
    clear a6 f6
    have a7 := s1.cell
    have b7 := s1.cellR
    have d7 := s1.frozR
    have HE : Hid _ := s1.out
    have HRO := rowSet HRI.out (show G ≠ w.heap.size by omega) (.slice (some ⟨G, 0, none⟩) 5 5)
    clear s1
    go_wp2
    refine bodyPost_ret (results_cell_row rfl _ _ w.heap.size 26 #[.slice (some ⟨G, 0, none⟩) 5 5] (0, 0) _ rfl HE.out.1 Try.underlying26 rfl (sizeLimbs1 _)) rfl ?_
    exact ⟨G, 5, [67108859, 67108863, 67108863, 67108863, 67108863], by rw [HTL.out], by omega, by have := HTL.out; omega, HRO, HE.out.2.1, HE.out.2.2⟩
  by_cases h3 : k = 3
  · subst h3
    have hsw6 : (w6.setCell ⟨A, 0, none⟩ (.slice (some ⟨w6.heap.size, 0, none⟩) 5 5)).heap.size = w6.heap.size := by simp
    have hbN : Below (w6.setCell ⟨A, 0, none⟩ (.slice (some ⟨w6.heap.size, 0, none⟩) 5 5)).heap.size (w6.setCell ⟨A, 0, none⟩ (.slice (some ⟨w6.heap.size, 0, none⟩) 5 5)) ((w6.setCell ⟨A, 0, none⟩ (.slice (some ⟨w6.heap.size, 0, none⟩) 5 5)).alloc (.cells #[.int .i64 67108858, .int .i64 67108863, .int .i64 67108863, .int .i64 67108863, .int .i64 67108863] 3)) := (Below.refl _ _).alloc (Nat.le_refl _) _
    have s1 := (hst6.set (.slice (some ⟨w6.heap.size, 0, none⟩) 5 5)).next hbN
    have a0 := a6
    have f0 := f6
    have hnew := heap_alloc_new (w6.setCell ⟨A, 0, none⟩ (.slice (some ⟨w6.heap.size, 0, none⟩) 5 5)) (.cells #[.int .i64 67108858, .int .i64 67108863, .int .i64 67108863, .int .i64 67108863, .int .i64 67108863] 3)
    have hnz : w6.heap.size < ((w6.setCell ⟨A, 0, none⟩ (.slice (some ⟨w6.heap.size, 0, none⟩) 5 5)).alloc (.cells #[.int .i64 67108858, .int .i64 67108863, .int .i64 67108863, .int .i64 67108863, .int .i64 67108863] 3)).heap.size := by simp
    rw [hsw6] at hnew
    have HRI : Hid (RowI ((w6.setCell ⟨A, 0, none⟩ (.slice (some ⟨w6.heap.size, 0, none⟩) 5 5)).alloc (.cells #[.int .i64 67108858, .int .i64 67108863, .int .i64 67108863, .int .i64 67108863, .int .i64 67108863] 3)).heap.size ((w6.setCell ⟨A, 0, none⟩ (.slice (some ⟨w6.heap.size, 0, none⟩) 5 5)).alloc (.cells #[.int .i64 67108858, .int .i64 67108863, .int .i64 67108863, .int .i64 67108863, .int .i64 67108863] 3)) (some ⟨w6.heap.size, 0, none⟩) ([67108858, 67108863, 67108863, 67108863, 67108863] : List Int)) := .inr ⟨w6.heap.size, 0, rfl, hnz, fun j hj => by
      rw [cell_of_row _ _ _ _ _ _ hnew]
      rcases (show j = 0 ∨ j = 1 ∨ j = 2 ∨ j = 3 ∨ j = 4 by simp at hj; omega) with rfl | rfl | rfl | rfl | rfl <;> rfl⟩
    have HTL : Hid (([67108858, 67108863, 67108863, 67108863, 67108863] : List Int).length = 5) := rfl
    clear hr6 hst6 hr6I hbN hsw6 hnew hnz
    go_upto_region 13 with fail
    generalize (w6.setCell ⟨A, 0, none⟩ (.slice (some ⟨w6.heap.size, 0, none⟩) 5 5)).alloc (.cells #[.int .i64 67108858, .int .i64 67108863, .int .i64 67108863, .int .i64 67108863, .int .i64 67108863] 3) = w7 at s1 HRI ⊢
    clear a0 f0
    generalize w6.heap.size = G at s1 HRI hA6 hggs ⊢
    clear a6 f6
    have a7 := s1.cell
    have b7 := s1.cellR
    have d7 := s1.frozR
    have HE : Hid _ := s1.out
    have HRO := rowSet HRI.out (show G ≠ w.heap.size by omega) (.slice (some ⟨G, 0, none⟩) 5 5)
    clear s1
    go_wp2
    refine bodyPost_ret (results_cell_row rfl _ _ w.heap.size 26 #[.slice (some ⟨G, 0, none⟩) 5 5] (0, 0) _ rfl HE.out.1 Try.underlying26 rfl (sizeLimbs1 _)) rfl ?_
    exact ⟨G, 5, [67108858, 67108863, 67108863, 67108863, 67108863], by rw [HTL.out], by omega, by have := HTL.out; omega, HRO, HE.out.2.1, HE.out.2.2⟩
  have e0 : ¬ (k : Int) = 0 := by omega
  have e1 : ¬ (k : Int) = 1 := by omega
  have e2 : ¬ (k : Int) = 2 := by omega
  have e3 : ¬ (k : Int) = 3 := by omega
  have HRI : Hid (RowI w6.heap.size w6 (some ⟨gg, 0, none⟩) xs) := hr6I
  have HTL : Hid (xs.length = 5) := hl6
  have s1 := hst6
  clear hr6 hst6 hr6I
  go_upto_region 13 with fail
  clear a6 f6
  have a7 := s1.cell
  have b7 := s1.cellR
  have d7 := s1.frozR
  have HE : Hid _ := s1.out
  have HRO := rowSet HRI.out (show gg ≠ w.heap.size by omega) (.slice (some ⟨gg, 0, none⟩) 5 cg)
  clear s1
  go_wp2
  refine bodyPost_ret (results_cell_row rfl _ _ w.heap.size 26 #[.slice (some ⟨gg, 0, none⟩) 5 cg] (0, 0) _ rfl HE.out.1 Try.underlying26 rfl (sizeLimbs1 _)) rfl ?_
  exact ⟨gg, cg, xs, by rw [HTL.out], by omega, by have := HTL.out; omega, HRO, HE.out.2.1, HE.out.2.2⟩
end Go.Proofs.Ytopdjfgomclffaa
