/- The drawing functions of chapter 4's laws, the specification's: DrawList, DrawParts, DrawDhOf. -/
import Derived.Test.YtodpfdjlhbjlgaaDrawMk
import Derived.Test.YtodpfdjlhbjlgaaLawInts
import Derived.Test.YtodpfdjlhbjlgaaMakeList
import Derived.WalkKit
import Derived.WalkLawsBesides
import Derived.WalkSpells
import Derived.OwnWalk
import Derived.Laws.Rows
import Derived.Laws.OwnMore
import Derived.Laws.ResultCell
namespace Go.Proofs.Ytodpfdjlhbjlgaa
open Go.RowKit
set_option linter.unusedVariables false
set_option maxHeartbeats 3200000 in
set_option maxRecDepth 20000 in
theorem drawList_any (a : Option Addr) (len cap : Nat) (w : World) (hc : CodeIn w.heap.size w a len) :
    Calls Try.prog 51 #[.slice a len cap] w fun e w' => ∃ v ns u, ∃ xs : List Int, e = .returned (.tuple #[.agg #[v], u]) ∧ 1 ≤ ns.length ∧ ns.length ≤ 14 ∧ (∀ y ∈ ns, y.Fits) ∧ xs.length ≤ 3 ∧ (∀ x ∈ xs, 0 ≤ x ∧ x ≤ 6) ∧ OwnN w.heap.size w' v ns ∧ OwnInt w.heap.size w' u xs ∧ Below w.heap.size w w' := by
  obtain ⟨i0, hi, hz0, hz1, hz2⟩ := info_parts infoIntS
  have hb0 : Below w.heap.size w (w.alloc (.cells #[.slice none 0 0] 26)) := (Below.refl _ _).alloc (Nat.le_refl _) _
  have hx0 := heap_alloc_new w (.cells #[.slice none 0 0] 26)
  have hc0 := codeIn_later hc hb0
  have hs0 : (w.alloc (.cells #[.slice none 0 0] 26)).heap.size = w.heap.size + 1 := by simp
  clear hc
  go_enter Try.func51, Try.ntmps51
  go_wp2_with fail
  generalize w.alloc (.cells #[.slice none 0 0] 26) = w0 at hb0 hx0 hc0 hs0 ⊢
  refine (new_any _ _ _ _ hc0).mono ?_
  rintro e w1 ⟨g, rfl, hc1, hb1⟩
  have hge := hc1.1
  have hgl1 := hc1.2.1
  have HB1 : Hid (Below w0.heap.size w0 w1) := hb1
  have hs1 := hb1.size
  clear hb1 hc0
  have hO : Hid ((w1.alloc (.cells #[] 3)).ownsRow w1.heap.size 3 1 (.slice (some ⟨w1.heap.size, 0, none⟩) 0 0) 0 (([] : List Int).map (Value.int .i64))) := ⟨rfl, .inr ⟨w1.heap.size, 0, #[], rfl, by omega, heap_alloc_new w1 _, by simp⟩⟩
  have hb2 : Below w1.heap.size w1 (w1.alloc (.cells #[] 3)) := (Below.refl _ _).alloc (Nat.le_refl _) _
  have HC2 : Hid (Cur w0.heap.size (w1.alloc (.cells #[] 3)) g) := hc1.grown hb2
  have HB2 : Hid (Below w0.heap.size w0 (w1.alloc (.cells #[] 3))) := HB1.out.trans (hb2.mono HB1.out.size)
  have hs2 := hb2.size
  clear hb2 hc1 HB1
  go_wp2
  go_loopw [5, 6] (fun v i wr => ∃ (m : Nat) (xs : List Int) (av : Option Addr) (cv : Nat), v = .slice av m cv ∧ i = .int .i64 (m : Int) ∧ m ≤ 3 ∧ Hid (xs.length = m ∧ ∀ x ∈ xs, 0 ≤ x ∧ x ≤ 6) ∧ Hid (wr.ownsRow w1.heap.size 3 1 v m (xs.map (Value.int .i64))) ∧ Hid (Cur w0.heap.size wr g) ∧ Hid (Below w0.heap.size w0 wr) ∧ w1.heap.size ≤ wr.heap.size)
    (fun _ i _ => 3 - (intOf i).toNat)
  case atStart => exact ⟨0, [], _, _, rfl, rfl, by omega, ⟨rfl, by simp⟩, hO, HC2, HB2, hs2⟩
  case round =>
    obtain ⟨m, xs, av, cv, rfl, rfl, hm, HX, HOW, HC, HB, hsr⟩ := hrel
    have hi0 : (0 : Int) ≤ (m : Int) := by omega
    go_wp2_with fail
    refine (below_any w0.heap.size g 4 _ (by omega) (by omega) HC.out).mono ?_
    rintro e w3 ⟨n, rfl, hn, hc3, hg3⟩
    have ho3 := own_grown HOW.out hg3 (by omega)
    have HB3 : Hid (Below w0.heap.size w0 w3) := HB.out.grown hg3 HB.out.size (fun k hk => by cases hk; exact hge)
    have hs3 := hg3.size
    clear HC HB HOW hg3
    by_cases hlt : (m : Int) < (n : Int)
    · have HC3 : Hid _ := hc3
      have HO3 : Hid _ := ho3
      clear hc3 ho3
      go_wp2_with fail
      refine (below_any w0.heap.size g 7 _ (by omega) (by omega) HC3.out).mono ?_
      rintro e w4 ⟨z, rfl, hz, hc4, hg4⟩
      have ho4 := own_grown HO3.out hg4 (by omega)
      have HB4 : Hid (Below w0.heap.size w0 w4) := HB3.out.grown hg4 HB3.out.size (fun k hk => by cases hk; exact hge)
      have hs4 := hg4.size
      have HC4 : Hid (Cur w0.heap.size w4 g) := hc4
      clear HC3 HO3 HB3 hg4 hc4
      go_wp2_with (at_builtin; refine wpList_append_own _ rfl _ _ 28 rfl w1.heap.size 3 i0 (.int .i64 0) 1 8 Try.underlying28 hi hz0 hz1 hz2 rfl (by decide) _ _ _ rfl (ho4.alloc _) ⟨w4.heap.size, 0, none⟩ 1 1 [.int .i64 (z : Int)] rfl rfl ?c1 ?c2 ?c3 ?c4 ?c5 ?_)
      case c1 =>
        have := cell_one_new w4 (.int .i64 (z : Int)) 3
        simpa using this
      case c2 => intro u hu; simp at hu; subst hu; rfl
      case c3 => unfold maxLen; omega
      case c4 => omega
      case c5 => simp; omega
      intro v' w5 hown' hgrow _
      have h45 : Below w1.heap.size w4 w5 := below_app ho4 (Below.refl _ _) (show w1.heap.size ≤ w4.heap.size by omega) hgrow
      have HC5 : Hid (Cur w0.heap.size w5 g) := HC4.out.beyond (show g < w1.heap.size by omega) h45
      have HB5 : Hid (Below w0.heap.size w0 w5) := HB4.out.trans (h45.mono (by omega))
      have hs5 := h45.size
      have HO : Hid (w5.ownsRow w1.heap.size 3 1 v' (m + 1) ((xs ++ [(z : Int)]).map (Value.int .i64))) := by show World.ownsRow _ _ _ _ _ _ _; rw [List.map_append]; exact hown'
      obtain ⟨av', cv', rfl⟩ : ∃ av' cv', v' = .slice av' (m + 1) cv' := by
        rcases HO.out.2 with ⟨rfl, h0⟩ | ⟨g, cap', cur, rfl, _⟩
        · omega
        · exact ⟨_, _, rfl⟩
      have HX5 : Hid ((xs ++ [(z : Int)]).length = m + 1 ∧ ∀ x ∈ xs ++ [(z : Int)], 0 ≤ x ∧ x ≤ 6) := ⟨by simp [HX.out.1], fun x hx => by rcases List.mem_append.1 hx with h | h; exact HX.out.2 x h; simp at h; omega⟩
      clear hown' hgrow ho4 h45 HX HB4 HC4
      go_wp2
      go_roundw
      case rel => exact ⟨m + 1, _, av', cv', rfl, by go_num, by omega, HX5, HO, HC5, HB5, by omega⟩
      case measure => simp [intOf]; omega
    · have HO3 : Hid _ := ho3
      have HC3 : Hid _ := hc3
      clear ho3 hc3
      go_wp2_with fail
      refine (anyArena_any w0.heap.size g _ HC3.out).mono ?_
      rintro e w4 ⟨v3, ns, rfl, hn1, hn2, hfit, ho4, hc4, hg4⟩
      have HB4 : Hid (Below w0.heap.size w0 w4) := HB3.out.grown hg4 HB3.out.size (fun k hk => by cases hk; exact hge)
      have hs4 := hg4.size
      have ho5 := own_grown HO3.out hg4 (by omega)
      obtain ⟨a3, cap3, rfl, _, _⟩ := ho4.row
      have hx4 := (HB4.out.block w.heap.size (by omega)).trans hx0
      have r0 : w4.cell? ⟨w.heap.size, 0, none⟩ = some (.slice none 0 0) := by rw [cell_of_row _ _ 0 _ _ _ hx4]; rfl
      have f0 : w4.frozen? ⟨w.heap.size, 0, none⟩ = false := frozen_of_row _ _ 0 _ _ hx4
      have HF : Hid ((∀ y ∈ ns, y.Fits) ∧ Below w.heap.size w (w4.setCell ⟨w.heap.size, 0, none⟩ (.slice a3 ns.length cap3))) := ⟨hfit, (hb0.trans (HB4.out.mono (by omega))).setCell (Nat.le_refl _) _⟩
      have HBL : Hid ((w4.setCell ⟨w.heap.size, 0, none⟩ (.slice a3 ns.length cap3)).heap[w.heap.size]? = some (.cells #[.slice a3 ns.length cap3] 26 (0, 0))) := (heap_setCell_same _ _ 0 _ _ _ hx4).trans rfl
      have HO : Hid (OwnN w.heap.size (w4.setCell ⟨w.heap.size, 0, none⟩ (.slice a3 ns.length cap3)) (.slice a3 ns.length cap3) ns) := OwnN.base (ownsRow_setCell_below ho4 (show w.heap.size < w3.heap.size by omega) _) (by omega)
      have HI : Hid (OwnInt w.heap.size (w4.setCell ⟨w.heap.size, 0, none⟩ (.slice a3 ns.length cap3)) (.slice av m cv) xs) := by
        have h6 : (w4.setCell ⟨w.heap.size, 0, none⟩ (.slice a3 ns.length cap3)).ownsRow w1.heap.size 3 1 (.slice av m cv) m (xs.map (Value.int .i64)) := ownsRow_setCell_below ho5 (show w.heap.size < w1.heap.size by omega) _
        unfold OwnInt; rw [HX.out.1]; exact own_base h6 (by omega)
      clear hx4 ho4 ho5 hfit hb0 hx0 HB4 HB3 HC3 HO3 hg4 hc4
      go_wp2
      refine bodyPost_ret (res_cell2 rfl _ _ w.heap.size 26 #[.slice a3 ns.length cap3] (0, 0) _ rfl ?_ Try.underlying26 rfl arenaSize) rfl ?_
      · exact HBL.out
      · exact ⟨_, ns, _, xs, rfl, hn1, hn2, HF.out.1, by rw [HX.out.1]; omega, HX.out.2, HO.out, HI.out, HF.out.2⟩
end Go.Proofs.Ytodpfdjlhbjlgaa
