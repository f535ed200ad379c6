/- The drawing functions of chapter 5's laws, the specification's: l05Known, DrawReach, DrawDerives, DrawKnown. -/
import Derived.Test.YtcmmbehnihelcaaDrawTold
import Derived.Test.YtcmmbehnihelcaaLawInts
import Derived.BigRegion
import Derived.WalkKit
import Derived.WalkLawsBesides
import Derived.WalkSpells
import Derived.OwnWalk
import Derived.Laws.Rows
import Derived.Laws.OwnMore
import Derived.Laws.ResultCell
namespace Go.Proofs.Ytcmmbehnihelcaa
open Go.RowKit
set_option linter.unusedVariables false
theorem own_held {B b e size n : Nat} {w w' : World} {v : Value} {xs : List Value} (h : w.ownsRow b e size v n xs) (hb : Below B w w') (hk : ∀ k, v.ownBlock = some k → k < B) : w'.ownsRow b e size v n xs := by
  refine ⟨h.1, ?_⟩
  rcases h.2 with h0 | ⟨g, cap, cur, e1, hg, hh, rest⟩
  · exact .inl h0
  · exact .inr ⟨g, cap, cur, e1, hg, (hb.block g (hk g (by rw [e1]; rfl))).trans hh, rest⟩
set_option maxHeartbeats 3200000 in
set_option maxRecDepth 20000 in
theorem known_any (B g : Nat) (a : Option Addr) (n ca : Nat) (w : World) (hn : n ≤ 14) (hc : Cur B w g) :
    Calls Try.prog 56 #[.pointer (some ⟨g, 0, none⟩), .agg #[.slice a n ca]] w fun e w' => ∃ v, ∃ xs : List Int, e = .returned v ∧ xs.length ≤ 4 ∧ (∀ x ∈ xs, 0 ≤ x ∧ x ≤ (n : Int)) ∧ OwnInt w.heap.size w' v xs ∧ Cur B w' g ∧ w.grownBy w' (some g) := by
  obtain ⟨i0, hi, hz0, hz1, hz2⟩ := info_parts infoIntS
  have hgl := hc.2.1
  have hb2 : Below w.heap.size w ((w.alloc (.cells #[.slice a n ca] 26)).alloc (.cells #[] 3)) := ((Below.refl _ _).alloc (Nat.le_refl _) _).alloc (by simp) _
  have HO : Hid (((w.alloc (.cells #[.slice a n ca] 26)).alloc (.cells #[] 3)).ownsRow (w.heap.size + 1) 3 1 (.slice (some ⟨w.heap.size + 1, 0, none⟩) 0 0) 0 (([] : List Int).map (Value.int .i64))) := by have := World.ownsRow_made (w.alloc (.cells #[.slice a n ca] 26)) #[] 0 (base := w.heap.size + 1) (e := 3) (size := 1) (by simp) (by decide) rfl; show World.ownsRow _ _ _ _ _ _ _; simpa using this
  have HC : Hid (Cur B ((w.alloc (.cells #[.slice a n ca] 26)).alloc (.cells #[] 3)) g) := hc.grown hb2
  have HG : Hid (w.grownBy ((w.alloc (.cells #[.slice a n ca] 26)).alloc (.cells #[] 3)) (some g)) := grown_below hb2 _
  have hA : ((w.alloc (.cells #[.slice a n ca] 26)).alloc (.cells #[] 3)).cell? ⟨w.heap.size, 0, none⟩ = some (.slice a n ca) := by rw [cell_of_row _ w.heap.size 0 _ _ _ ((heap_alloc_old _ _ (by simp)).trans (heap_alloc_new w _))]; rfl
  have hs2 : w.heap.size + 1 ≤ ((w.alloc (.cells #[.slice a n ca] 26)).alloc (.cells #[] 3)).heap.size := by simp
  clear hb2 hc
  go_enter Try.func56, Try.ntmps56
  go_wp2
  go_loopw [5, 6] (fun v i wr => ∃ (m : Nat) (xs : List Int) (av : Option Addr) (cv : Nat), v = .slice av m cv ∧ i = .int .i64 (m : Int) ∧ m ≤ 4 ∧ Hid (xs.length = m ∧ ∀ x ∈ xs, 0 ≤ x ∧ x ≤ (n : Int)) ∧ Hid (wr.ownsRow (w.heap.size + 1) 3 1 v m (xs.map (Value.int .i64))) ∧ Hid (Cur B wr g) ∧ Hid (w.grownBy wr (some g)) ∧ wr.cell? ⟨w.heap.size, 0, none⟩ = some (.slice a n ca) ∧ w.heap.size + 1 ≤ wr.heap.size)
    (fun _ i _ => 4 - (intOf i).toNat)
  case atStart => exact ⟨0, [], _, _, rfl, rfl, by omega, ⟨rfl, by simp⟩, HO, HC, HG, hA, hs2⟩
  case round =>
    clear HO HC HG hA hs2
    obtain ⟨m, xs, av, cv, rfl, rfl, hm, HX, HOW, HC, HG, hA, hsr⟩ := hrel
    have hi0 : (0 : Int) ≤ (m : Int) := by omega
    go_wp2_with fail
    refine (below_any B g 5 _ (by omega) (by omega) HC.out).mono ?_
    rintro e w3 ⟨y, rfl, hy, hc3, hg3⟩
    have ho3 := own_grown HOW.out hg3 (by omega)
    have HG3 : Hid (w.grownBy w3 (some g)) := grown_trans HG.out hg3
    have hA3 := hg3.cell hA (show some w.heap.size ≠ some g by simp; omega)
    have hs3 := hg3.size
    clear HC HG HOW hg3 hA
    by_cases hlt : (m : Int) < (y : Int)
    · have HC3 : Hid _ := hc3
      have HO3 : Hid _ := ho3
      clear hc3 ho3
      go_wp2_with fail
      refine (below_any B g (n + 1) _ (by omega) (by omega) HC3.out).mono ?_
      rintro e w4 ⟨z, rfl, hz, hc4, hg4⟩
      have ho4 := own_grown HO3.out hg4 (by omega)
      have HG4 : Hid (w.grownBy w4 (some g)) := grown_trans HG3.out hg4
      have hA4 := hg4.cell hA3 (show some w.heap.size ≠ some g by simp; omega)
      have hs4 := hg4.size
      have HC4 : Hid (Cur B w4 g) := hc4
      clear HC3 HO3 HG3 hg4 hc4 hA3
      go_wp2_with (at_builtin; refine wpList_append_own _ rfl _ _ 27 rfl (w.heap.size + 1) 3 i0 (.int .i64 0) 1 8 Try.underlying27 hi hz0 hz1 hz2 rfl (by decide) _ _ _ rfl (ho4.alloc _) ⟨w4.heap.size, 0, none⟩ 1 1 [.int .i64 (z : Int)] rfl rfl ?c1 ?c2 ?c3 ?c4 ?c5 ?_)
      case c1 =>
        have := cell_one_new w4 (.int .i64 (z : Int)) 3
        simpa using this
      case c2 => intro u hu; simp at hu; subst hu; rfl
      case c3 => unfold maxLen; omega
      case c4 => omega
      case c5 => simp; omega
      intro v' w5 hown' hgrow _
      have h45 : Below (w.heap.size + 1) w4 w5 := below_app ho4 (Below.refl _ _) (show w.heap.size + 1 ≤ w4.heap.size by omega) hgrow
      have HC5 : Hid (Cur B w5 g) := HC4.out.beyond (show g < w.heap.size + 1 by omega) h45
      have HG5 : Hid (w.grownBy w5 (some g)) := grown_then HG4.out (h45.mono (by omega))
      have hA5 := (h45.cell (p := ⟨w.heap.size, 0, none⟩) (show w.heap.size < w.heap.size + 1 by omega)).trans hA4
      have hs5 := h45.size
      have HO : Hid (w5.ownsRow (w.heap.size + 1) 3 1 v' (m + 1) ((xs ++ [(z : Int)]).map (Value.int .i64))) := by show World.ownsRow _ _ _ _ _ _ _; rw [List.map_append]; exact hown'
      obtain ⟨av', cv', rfl⟩ : ∃ av' cv', v' = .slice av' (m + 1) cv' := by
        rcases HO.out.2 with ⟨rfl, h0⟩ | ⟨g, cap', cur, rfl, _⟩
        · omega
        · exact ⟨_, _, rfl⟩
      have HX5 : Hid ((xs ++ [(z : Int)]).length = m + 1 ∧ ∀ x ∈ xs ++ [(z : Int)], 0 ≤ x ∧ x ≤ (n : Int)) := ⟨by simp [HX.out.1], fun x hx => by rcases List.mem_append.1 hx with h | h; exact HX.out.2 x h; simp at h; omega⟩
      clear hown' hgrow ho4 h45 HX HG4 HC4 hA4
      go_wp2
      go_roundw
      case rel => exact ⟨m + 1, _, av', cv', rfl, by go_num, by omega, HX5, HO, HC5, HG5, hA5, by omega⟩
      case measure => simp [intOf]; omega
    · have HO3 : Hid (OwnInt w.heap.size w3 (.slice av m cv) xs) := by show World.ownsRow _ _ _ _ _ _ _; rw [HX.out.1]; exact own_base ho3 (by omega)
      have HC3 : Hid (Cur B w3 g) := hc3
      clear ho3 hc3
      go_wp2
      go_ret
      exact ⟨_, xs, rfl, by rw [HX.out.1]; omega, HX.out.2, HO3.out, HC3.out, HG3.out⟩
set_option maxHeartbeats 3200000 in
set_option maxRecDepth 20000 in
theorem drawReach_any (a : Option Addr) (len cap : Nat) (w : World) (hc : CodeIn w.heap.size w a len) :
    Calls Try.prog 14 #[.slice a len cap] w fun e w' => ∃ v ns u, ∃ xs : List Int, e = .returned (.tuple #[.agg #[v], u]) ∧ 1 ≤ ns.length ∧ ns.length ≤ 14 ∧ (∀ y ∈ ns, y.Fits) ∧ xs.length ≤ 4 ∧ (∀ x ∈ xs, 0 ≤ x ∧ x ≤ (ns.length : Int)) ∧ OwnN w.heap.size w' v ns ∧ OwnInt w.heap.size w' u xs ∧ Below w.heap.size w w' := by
  have hb0 : Below w.heap.size w (w.alloc (.cells #[.slice none 0 0] 26)) := (Below.refl _ _).alloc (Nat.le_refl _) _
  have hx0 := heap_alloc_new w (.cells #[.slice none 0 0] 26)
  have hc0 := codeIn_later hc hb0
  have hs0 : (w.alloc (.cells #[.slice none 0 0] 26)).heap.size = w.heap.size + 1 := by simp
  clear hc
  go_enter Try.func14, Try.ntmps14
  go_wp2_with fail
  generalize w.alloc (.cells #[.slice none 0 0] 26) = w0 at hb0 hx0 hc0 hs0 ⊢
  refine (new_any _ _ _ _ hc0).mono ?_
  rintro e w1 ⟨g, rfl, hc1, hb1⟩
  have hge := hc1.1
  have hgl1 := hc1.2.1
  have HB1 : Hid (Below w0.heap.size w0 w1) := hb1
  have hs1 := hb1.size
  clear hb1 hc0
  go_wp2_with fail
  refine (anyArena_any w0.heap.size g _ hc1).mono ?_
  rintro e w2 ⟨v3, ns, rfl, hn1, hn2, hfit, ho3, hc2, hg⟩
  have HB2 : Hid (Below w0.heap.size w0 w2) := HB1.out.grown hg HB1.out.size (fun k hk => by cases hk; exact hge)
  have hs2 := hg.size
  clear hc1 hg HB1
  obtain ⟨a3, cap3, rfl, _, _⟩ := ho3.row
  have hb3 : Below w2.heap.size w2 (w2.alloc (.cells #[.slice a3 ns.length cap3] 26)) := (Below.refl _ _).alloc (Nat.le_refl _) _
  have HC3 : Hid (Cur w0.heap.size (w2.alloc (.cells #[.slice a3 ns.length cap3] 26)).drew g) := hc2.grown hb3.drew
  have hA3 : (w2.alloc (.cells #[.slice a3 ns.length cap3] 26)).cell? ⟨w2.heap.size, 0, none⟩ = some (.slice a3 ns.length cap3) := by rw [cell_of_row _ w2.heap.size 0 _ _ _ (heap_alloc_new w2 _)]; rfl
  have HO3 : Hid (OwnN w1.heap.size (w2.alloc (.cells #[.slice a3 ns.length cap3] 26)) (.slice a3 ns.length cap3) ns) := own_next ho3 hb3
  have HB3 : Hid (Below w0.heap.size w0 (w2.alloc (.cells #[.slice a3 ns.length cap3] 26))) := HB2.out.trans (hb3.mono HB2.out.size)
  have hs3 := hb3.size
  have hs3' : w2.heap.size < (w2.alloc (.cells #[.slice a3 ns.length cap3] 26)).heap.size := by simp
  clear hc2 ho3 HB2 hb3
  go_wp2_with fail
  generalize w2.alloc (.cells #[.slice a3 ns.length cap3] 26) = w3 at HC3 hA3 HO3 HB3 hs3 hs3' ⊢
  have hgl3 : g < w2.heap.size := by omega
  have HF : Hid (∀ w4, w3.drew.grownBy w4 (some g) → w4.cell? ⟨w2.heap.size, 0, none⟩ = some (.slice a3 ns.length cap3) ∧ w4.cell? ⟨w.heap.size, 0, none⟩ = some (.slice none 0 0) ∧ w4.frozen? ⟨w.heap.size, 0, none⟩ = false ∧ (w4.setCell ⟨w.heap.size, 0, none⟩ (.slice a3 ns.length cap3)).heap[w.heap.size]? = some (.cells #[.slice a3 ns.length cap3] 26 (0, 0)) ∧ OwnN w.heap.size (w4.setCell ⟨w.heap.size, 0, none⟩ (.slice a3 ns.length cap3)) (.slice a3 ns.length cap3) ns ∧ Below w.heap.size w (w4.setCell ⟨w.heap.size, 0, none⟩ (.slice a3 ns.length cap3))) := fun w4 hgd => by
    have hg : w3.grownBy w4 (some g) := ⟨hgd.os, hgd.tape, hgd.output, hgd.size, hgd.block⟩
    have hgB : Below w0.heap.size w3 w4 := gb_below hg hge HB3.out.size
    have hB4 : Below w0.heap.size w0 w4 := HB3.out.trans hgB
    have hx4 := (hB4.block w.heap.size (by omega)).trans hx0
    refine ⟨hg.cell hA3 (show some w2.heap.size ≠ some g by simp; omega), by rw [cell_of_row _ _ 0 _ _ _ hx4]; rfl, frozen_of_row _ _ 0 _ _ hx4, (heap_setCell_same _ _ 0 _ _ _ hx4).trans rfl, ?_, (hb0.trans (hB4.mono (by omega))).setCell (Nat.le_refl _) _⟩
    exact OwnN.base (ownsRow_setCell_below (own_grown HO3.out hg (show g < w1.heap.size from hgl1)) (show w.heap.size < w1.heap.size by omega) _) (by omega)
  have HFI : Hid (∀ y ∈ ns, y.Fits) := hfit
  clear hb0 hx0 HB3 HO3 hfit
  go_region_with (go_at_call 56; refine (known_any w0.heap.size g a3 ns.length cap3 _ hn2 ?_).mono ?_; exact HC3.out; rintro e w4 ⟨u, xs, rfl, hxl, hxb, hou, hc4, hg4⟩; obtain ⟨hA4, r4, f4, -⟩ := HF.out w4 hg4)
  all_goals
    obtain ⟨-, -, -, hbl, hon, hbe⟩ := HF.out w4 hg4
    have HQ : Hid ((w4.setCell ⟨w.heap.size, 0, none⟩ (.slice a3 ns.length cap3)).heap[w.heap.size]? = some (.cells #[.slice a3 ns.length cap3] 26 (0, 0)) ∧ OwnN w.heap.size (w4.setCell ⟨w.heap.size, 0, none⟩ (.slice a3 ns.length cap3)) (.slice a3 ns.length cap3) ns ∧ Below w.heap.size w (w4.setCell ⟨w.heap.size, 0, none⟩ (.slice a3 ns.length cap3)) ∧ OwnInt w.heap.size (w4.setCell ⟨w.heap.size, 0, none⟩ (.slice a3 ns.length cap3)) u xs) := ⟨hbl, hon, hbe, own_base (ownsRow_setCell_below hou (show w.heap.size < w3.drew.heap.size by show w.heap.size < w3.heap.size; omega) _) (by show w.heap.size ≤ w3.heap.size; omega)⟩
    clear hbl hon hbe HF hou hc4 hg4
    go_wp2
    refine bodyPost_ret (res_cell2 rfl _ _ w.heap.size 26 #[.slice a3 ns.length cap3] (0, 0) _ rfl ?_ Try.underlying26 rfl arenaSize) rfl ?_
    · exact HQ.out.1
    · exact ⟨_, ns, _, xs, rfl, hn1, hn2, HFI.out, hxl, hxb, HQ.out.2.1, HQ.out.2.2.2, HQ.out.2.2.1⟩
set_option maxHeartbeats 3200000 in
set_option maxRecDepth 20000 in
theorem drawDerives_any (a : Option Addr) (len cap : Nat) (w : World) (hc : CodeIn w.heap.size w a len) :
    Calls Try.prog 15 #[.slice a len cap] w fun e w' => ∃ v ns u, ∃ xs : List Int, ∃ k : Int, e = .returned (.tuple #[.agg #[v], u, .int .i64 k]) ∧ 1 ≤ ns.length ∧ ns.length ≤ 14 ∧ (∀ y ∈ ns, y.Fits) ∧ xs.length ≤ 4 ∧ (∀ x ∈ xs, 0 ≤ x ∧ x ≤ (ns.length : Int)) ∧ -1 ≤ k ∧ k ≤ 13 ∧ OwnN w.heap.size w' v ns ∧ OwnInt w.heap.size w' u xs ∧ Below w.heap.size w w' := by
  have hb0 : Below w.heap.size w (w.alloc (.cells #[.slice none 0 0] 26)) := (Below.refl _ _).alloc (Nat.le_refl _) _
  have hx0 := heap_alloc_new w (.cells #[.slice none 0 0] 26)
  have hc0 := codeIn_later hc hb0
  have hs0 : (w.alloc (.cells #[.slice none 0 0] 26)).heap.size = w.heap.size + 1 := by simp
  clear hc
  go_enter Try.func15, Try.ntmps15
  go_wp2_with fail
  generalize w.alloc (.cells #[.slice none 0 0] 26) = w0 at hb0 hx0 hc0 hs0 ⊢
  refine (new_any _ _ _ _ hc0).mono ?_
  rintro e w1 ⟨g, rfl, hc1, hb1⟩
  have hge := hc1.1
  have hgl1 := hc1.2.1
  have HB1 : Hid (Below w0.heap.size w0 w1) := hb1
  have hs1 := hb1.size
  have HCD : Hid (CodeIn w0.heap.size w0 a len) := hc0
  clear hb1 hc0
  go_wp2_with fail
  refine (below_any w0.heap.size g 15 _ (by omega) (by omega) hc1).mono ?_
  rintro e w2 ⟨z, rfl, hz, hc2, hg⟩
  have HB2 : Hid (Below w0.heap.size w0 w2) := HB1.out.grown hg HB1.out.size (fun k hk => by cases hk; exact hge)
  have hs2 := hg.size
  clear hc1 hg HB1
  have HCD2 : Hid (CodeIn w2.heap.size w2 a len) := codeIn_later HCD.out HB2.out
  clear hc2 HCD
  go_wp2_with fail
  refine (drawReach_any a len cap w2 HCD2.out).mono ?_
  rintro e w3 ⟨v3, ns, u, xs, rfl, hn1, hn2, hfit, hxl, hxb, ho3, hou, hb3⟩
  obtain ⟨a3, cap3, rfl, _, _⟩ := ho3.row
  have HB3 : Hid (Below w0.heap.size w0 w3) := HB2.out.trans (hb3.mono HB2.out.size)
  have hs3 := hb3.size
  clear hb3 HB2 HCD2
  have hx3 := (HB3.out.block w.heap.size (by omega)).trans hx0
  have r0 : (w3.alloc (.cells #[.slice a3 ns.length cap3] 26)).cell? ⟨w.heap.size, 0, none⟩ = some (.slice none 0 0) := by rw [cell_of_row _ _ 0 _ _ _ ((heap_alloc_old _ _ (by omega)).trans hx3)]; rfl
  have f0 : (w3.alloc (.cells #[.slice a3 ns.length cap3] 26)).frozen? ⟨w.heap.size, 0, none⟩ = false := frozen_of_row _ _ 0 _ _ ((heap_alloc_old _ _ (by omega)).trans hx3)
  have hbQ : Below w3.heap.size w3 (w3.alloc (.cells #[.slice a3 ns.length cap3] 26)) := (Below.refl _ _).alloc (Nat.le_refl _) _
  have HQ : Hid (((w3.alloc (.cells #[.slice a3 ns.length cap3] 26)).setCell ⟨w.heap.size, 0, none⟩ (.slice a3 ns.length cap3)).heap[w.heap.size]? = some (.cells #[.slice a3 ns.length cap3] 26 (0, 0)) ∧ OwnN w.heap.size ((w3.alloc (.cells #[.slice a3 ns.length cap3] 26)).setCell ⟨w.heap.size, 0, none⟩ (.slice a3 ns.length cap3)) (.slice a3 ns.length cap3) ns ∧ Below w.heap.size w ((w3.alloc (.cells #[.slice a3 ns.length cap3] 26)).setCell ⟨w.heap.size, 0, none⟩ (.slice a3 ns.length cap3)) ∧ OwnInt w.heap.size ((w3.alloc (.cells #[.slice a3 ns.length cap3] 26)).setCell ⟨w.heap.size, 0, none⟩ (.slice a3 ns.length cap3)) u xs) := by
    refine ⟨(heap_setCell_same _ _ 0 _ _ _ ((heap_alloc_old _ _ (by omega)).trans hx3)).trans rfl, ?_, (hb0.trans ((HB3.out.trans (hbQ.mono (by omega))).mono (by omega))).setCell (Nat.le_refl _) _, ?_⟩
    · exact own_base (ownsRow_setCell_below (own_next ho3 hbQ) (show w.heap.size < w2.heap.size by omega) _) (by omega)
    · exact own_base (ownsRow_setCell_below (own_next hou hbQ) (show w.heap.size < w2.heap.size by omega) _) (by omega)
  have HFI : Hid (∀ y ∈ ns, y.Fits) := hfit
  clear ho3 hou hx0 HB3 hfit hbQ hx3 hb0
  go_wp2
  refine bodyPost_ret (res_cell3 rfl _ _ w.heap.size 26 #[.slice a3 ns.length cap3] (0, 0) _ rfl ?_ Try.underlying26 rfl arenaSize) rfl ?_
  · exact HQ.out.1
  · exact ⟨_, ns, _, xs, _, rfl, hn1, hn2, HFI.out, hxl, hxb, by omega, by omega, HQ.out.2.1, HQ.out.2.2.2, HQ.out.2.2.1⟩
set_option maxHeartbeats 3200000 in
set_option maxRecDepth 20000 in
theorem drawKnown_any (a : Option Addr) (len cap : Nat) (w : World) (hc : CodeIn w.heap.size w a len) :
    Calls Try.prog 10 #[.slice a len cap] w fun e w' => ∃ v ns gk ck, ∃ xs : List Int, e = .returned (.tuple #[.agg #[v], .slice (some ⟨gk, 0, none⟩) xs.length ck]) ∧ 1 ≤ ns.length ∧ ns.length ≤ 13 ∧ allFrom ns ns 0 = true ∧ xs.length ≤ 4 ∧ (∀ x ∈ xs, 0 ≤ x ∧ x < (ns.length : Int)) ∧ OwnN w.heap.size w' v ns ∧ OwnInt w.heap.size w' (.slice (some ⟨gk, 0, none⟩) xs.length ck) xs ∧ Below w.heap.size w w' := by
  obtain ⟨i0, hi, hz0, hz1, hz2⟩ := info_parts infoIntS
  have hb0 : Below w.heap.size w (w.alloc (.cells #[.slice none 0 0] 26)) := (Below.refl _ _).alloc (Nat.le_refl _) _
  have hx0 := heap_alloc_new w (.cells #[.slice none 0 0] 26)
  have hc0 := codeIn_later hc hb0
  have hs0 : (w.alloc (.cells #[.slice none 0 0] 26)).heap.size = w.heap.size + 1 := by simp
  clear hc
  go_enter Try.func10, Try.ntmps10
  go_wp2_with fail
  generalize w.alloc (.cells #[.slice none 0 0] 26) = w0 at hb0 hx0 hc0 hs0 ⊢
  refine (new_any _ _ _ _ hc0).mono ?_
  rintro e w1 ⟨g, rfl, hc1, hb1⟩
  have hge := hc1.1
  have hgl1 := hc1.2.1
  have HB1 : Hid (Below w0.heap.size w0 w1) := hb1
  have hs1 := hb1.size
  clear hb1 hc0
  go_wp2_with fail
  refine (arena_any w0.heap.size g _ hc1).mono ?_
  rintro e w2 ⟨v3, ns, rfl, hn1, hn2, hall, ho3, hc2, hg⟩
  have HB2 : Hid (Below w0.heap.size w0 w2) := HB1.out.grown hg HB1.out.size (fun k hk => by cases hk; exact hge)
  have hs2 := hg.size
  clear hc1 hg HB1
  obtain ⟨a3, cap3, rfl, _, _⟩ := ho3.row
  have HAL : Hid (allFrom ns ns 0 = true) := hall
  clear hall
  have hb3 : Below w2.heap.size w2 ((w2.alloc (.cells #[.slice a3 ns.length cap3] 26)).alloc (.cells #[] 3)) := ((Below.refl _ _).alloc (Nat.le_refl _) _).alloc (by simp) _
  have HC3 : Hid (Cur w0.heap.size ((w2.alloc (.cells #[.slice a3 ns.length cap3] 26)).alloc (.cells #[] 3)) g) := hc2.grown hb3
  have hA3 : ((w2.alloc (.cells #[.slice a3 ns.length cap3] 26)).alloc (.cells #[] 3)).cell? ⟨w2.heap.size, 0, none⟩ = some (.slice a3 ns.length cap3) := by rw [cell_of_row _ w2.heap.size 0 _ _ _ ((heap_alloc_old _ _ (by simp)).trans (heap_alloc_new w2 _))]; rfl
  have HO3 : Hid (OwnN w1.heap.size ((w2.alloc (.cells #[.slice a3 ns.length cap3] 26)).alloc (.cells #[] 3)) (.slice a3 ns.length cap3) ns) := own_next ho3 hb3
  have HB3 : Hid (Below w0.heap.size w0 ((w2.alloc (.cells #[.slice a3 ns.length cap3] 26)).alloc (.cells #[] 3))) := HB2.out.trans (hb3.mono HB2.out.size)
  have HI3 : Hid (((w2.alloc (.cells #[.slice a3 ns.length cap3] 26)).alloc (.cells #[] 3)).ownsRow (w2.heap.size + 1) 3 1 (.slice (some ⟨w2.heap.size + 1, 0, none⟩) 0 0) 0 (([] : List Int).map (Value.int .i64))) := by have := World.ownsRow_made (w2.alloc (.cells #[.slice a3 ns.length cap3] 26)) #[] 0 (base := w2.heap.size + 1) (e := 3) (size := 1) (by simp) (by decide) rfl; show World.ownsRow _ _ _ _ _ _ _; simpa using this
  have hs3 : w2.heap.size + 1 ≤ ((w2.alloc (.cells #[.slice a3 ns.length cap3] 26)).alloc (.cells #[] 3)).heap.size := by simp
  have HNL : Hid (∀ k, (Value.slice a3 ns.length cap3).ownBlock = some k → k < w2.heap.size + 1) := fun k hk => Nat.lt_succ_of_lt (World.ownsRow.lt ho3 k hk).2
  clear hc2 ho3 HB2 hb3
  go_wp2
  go_loopw [6, 7] (fun v i wr => ∃ (m : Nat) (xs : List Int) (gv cv : Nat), v = .slice (some ⟨gv, 0, none⟩) m cv ∧ i = .int .i64 (m : Int) ∧ m ≤ 4 ∧ Hid (xs.length = m ∧ ∀ x ∈ xs, 0 ≤ x ∧ x < (ns.length : Int)) ∧ Hid (wr.ownsRow (w2.heap.size + 1) 3 1 v m (xs.map (Value.int .i64))) ∧ Hid (Cur w0.heap.size wr g) ∧ Hid (Below w0.heap.size w0 wr) ∧ Hid (OwnN w1.heap.size wr (.slice a3 ns.length cap3) ns) ∧ wr.cell? ⟨w2.heap.size, 0, none⟩ = some (.slice a3 ns.length cap3) ∧ w2.heap.size + 1 ≤ wr.heap.size)
    (fun _ i _ => 4 - (intOf i).toNat)
  case atStart => exact ⟨0, [], _, _, rfl, rfl, by omega, ⟨rfl, by simp⟩, HI3, HC3, HB3, HO3, hA3, hs3⟩
  case round =>
    clear HI3 HC3 HB3 HO3 hA3 hs3
    obtain ⟨m, xs, gv, cv, rfl, rfl, hm, HX, HOW, HC, HB, HN, hA, hsr⟩ := hrel
    have hi0 : (0 : Int) ≤ (m : Int) := by omega
    go_wp2_with fail
    refine (below_any w0.heap.size g 5 _ (by omega) (by omega) HC.out).mono ?_
    rintro e w3 ⟨y, rfl, hy, hc3, hg3⟩
    have ho3 := own_grown HOW.out hg3 (by omega)
    have HN3 : Hid (OwnN w1.heap.size w3 (.slice a3 ns.length cap3) ns) := own_grown HN.out hg3 hgl1
    have HB3 : Hid (Below w0.heap.size w0 w3) := HB.out.grown hg3 HB.out.size (fun k hk => by cases hk; exact hge)
    have hA3 := hg3.cell hA (show some w2.heap.size ≠ some g by simp; omega)
    have hs3 := hg3.size
    clear HC HB HOW HN hg3 hA
    by_cases hlt : (m : Int) < (y : Int)
    · have HC3 : Hid _ := hc3
      have HO3 : Hid _ := ho3
      clear hc3 ho3
      go_wp2_with fail
      refine (below_any w0.heap.size g ns.length _ (by omega) (by omega) HC3.out).mono ?_
      rintro e w4 ⟨z, rfl, hz, hc4, hg4⟩
      have ho4 := own_grown HO3.out hg4 (by omega)
      have hN4 := own_grown HN3.out hg4 hgl1
      have HB4 : Hid (Below w0.heap.size w0 w4) := HB3.out.grown hg4 HB3.out.size (fun k hk => by cases hk; exact hge)
      have hA4 := hg4.cell hA3 (show some w2.heap.size ≠ some g by simp; omega)
      have hs4 := hg4.size
      have HC4 : Hid (Cur w0.heap.size w4 g) := hc4
      have HN4 : Hid (OwnN w1.heap.size w4 (.slice a3 ns.length cap3) ns) := hN4
      clear HC3 HO3 HB3 hg4 hc4 hA3 HN3 hN4
      go_wp2_with (at_builtin; refine wpList_append_own _ rfl _ _ 27 rfl (w2.heap.size + 1) 3 i0 (.int .i64 0) 1 8 Try.underlying27 hi hz0 hz1 hz2 rfl (by decide) _ _ _ rfl (ho4.alloc _) ⟨w4.heap.size, 0, none⟩ 1 1 [.int .i64 (z : Int)] rfl rfl ?c1 ?c2 ?c3 ?c4 ?c5 ?_)
      case c1 =>
        have := cell_one_new w4 (.int .i64 (z : Int)) 3
        simpa using this
      case c2 => intro u hu; simp at hu; subst hu; rfl
      case c3 => unfold maxLen; omega
      case c4 => omega
      case c5 => simp; omega
      intro v' w5 hown' hgrow _
      have h45 : Below (w2.heap.size + 1) w4 w5 := below_app ho4 (Below.refl _ _) (show w2.heap.size + 1 ≤ w4.heap.size by omega) hgrow
      have HC5 : Hid (Cur w0.heap.size w5 g) := HC4.out.beyond (show g < w2.heap.size + 1 by omega) h45
      have HB5 : Hid (Below w0.heap.size w0 w5) := HB4.out.trans (h45.mono (by omega))
      have HN5 : Hid (OwnN w1.heap.size w5 (.slice a3 ns.length cap3) ns) := own_held HN4.out h45 HNL.out
      have hA5 := (h45.cell (p := ⟨w2.heap.size, 0, none⟩) (show w2.heap.size < w2.heap.size + 1 by omega)).trans hA4
      have hs5 := h45.size
      have HO : Hid (w5.ownsRow (w2.heap.size + 1) 3 1 v' (m + 1) ((xs ++ [(z : Int)]).map (Value.int .i64))) := by show World.ownsRow _ _ _ _ _ _ _; rw [List.map_append]; exact hown'
      obtain ⟨gv', cv', rfl⟩ : ∃ gv' cv', v' = .slice (some ⟨gv', 0, none⟩) (m + 1) cv' := by
        rcases HO.out.2 with ⟨rfl, h0⟩ | ⟨g, cap', cur, rfl, _⟩
        · omega
        · exact ⟨_, _, rfl⟩
      have HX5 : Hid ((xs ++ [(z : Int)]).length = m + 1 ∧ ∀ x ∈ xs ++ [(z : Int)], 0 ≤ x ∧ x < (ns.length : Int)) := ⟨by simp [HX.out.1], fun x hx => by rcases List.mem_append.1 hx with h | h; exact HX.out.2 x h; simp at h; omega⟩
      clear hown' hgrow ho4 h45 HX HB4 HC4 hA4 HN4
      go_wp2
      go_roundw
      case rel => exact ⟨m + 1, _, gv', cv', rfl, by go_num, by omega, HX5, HO, HC5, HB5, HN5, hA5, by omega⟩
      case measure => simp [intOf]; omega
    · have hx3 := (HB3.out.block w.heap.size (by omega)).trans hx0
      have r0 : w3.cell? ⟨w.heap.size, 0, none⟩ = some (.slice none 0 0) := by rw [cell_of_row _ _ 0 _ _ _ hx3]; rfl
      have f0 : w3.frozen? ⟨w.heap.size, 0, none⟩ = false := frozen_of_row _ _ 0 _ _ hx3
      have HQ : Hid ((w3.setCell ⟨w.heap.size, 0, none⟩ (.slice a3 ns.length cap3)).heap[w.heap.size]? = some (.cells #[.slice a3 ns.length cap3] 26 (0, 0)) ∧ OwnN w.heap.size (w3.setCell ⟨w.heap.size, 0, none⟩ (.slice a3 ns.length cap3)) (.slice a3 ns.length cap3) ns ∧ Below w.heap.size w (w3.setCell ⟨w.heap.size, 0, none⟩ (.slice a3 ns.length cap3)) ∧ OwnInt w.heap.size (w3.setCell ⟨w.heap.size, 0, none⟩ (.slice a3 ns.length cap3)) (.slice (some ⟨gv, 0, none⟩) m cv) xs) := by
        refine ⟨(heap_setCell_same _ _ 0 _ _ _ hx3).trans rfl, OwnN.base (ownsRow_setCell_below HN3.out (show w.heap.size < w1.heap.size by omega) _) (by omega), (hb0.trans (HB3.out.mono (by omega))).setCell (Nat.le_refl _) _, ?_⟩
        have h6 : (w3.setCell ⟨w.heap.size, 0, none⟩ (.slice a3 ns.length cap3)).ownsRow (w2.heap.size + 1) 3 1 (.slice (some ⟨gv, 0, none⟩) m cv) m (xs.map (Value.int .i64)) := ownsRow_setCell_below ho3 (show w.heap.size < w2.heap.size + 1 by omega) _
        unfold OwnInt; rw [HX.out.1]; exact own_base h6 (by omega)
      clear ho3 hc3 hx3 HB3 HN3 hb0 hx0 HNL
      go_wp2
      refine bodyPost_ret (res_cell2 rfl _ _ w.heap.size 26 #[.slice a3 ns.length cap3] (0, 0) _ rfl ?_ Try.underlying26 rfl arenaSize) rfl ?_
      · exact HQ.out.1
      · exact ⟨_, ns, gv, cv, xs, by rw [HX.out.1]; rfl, hn1, hn2, HAL.out, by rw [HX.out.1]; omega, HX.out.2, HQ.out.2.1, by rw [HX.out.1]; exact HQ.out.2.2.2, HQ.out.2.2.1⟩
end Go.Proofs.Ytcmmbehnihelcaa
