/- The contract of chapter 4's List, the program's. -/
import Derived.Test.YtodpfdjlhbjlgaaPutList
import Derived.Test.YtodpfdjlhbjlgaaBldWith
namespace Go.Proofs.Ytodpfdjlhbjlgaa
open Go.RowKit Go.Maps
set_option linter.unusedVariables false
set_option maxHeartbeats 3200000 in
set_option maxRecDepth 20000 in
theorem implList_any (a : Option Addr) (cap : Nat) (ns : List Nd) (la : Option Addr) (lc : Nat) (xs : List Int) (w : World) (hl : ns.length ≤ 1048576) (hf : ∀ y ∈ ns, y.Fits) (hxl : xs.length ≤ 1048576) (hxf : ∀ x ∈ xs, -9223372036854775808 ≤ x ∧ x ≤ 9223372036854775807) (hx : RowI w.heap.size w la xs) (ha : AddrN a cap) (hr : RowN w.heap.size w a ns) :
    Calls Try.prog 43 #[.agg #[.slice a ns.length cap], .slice la xs.length lc] w fun e w' => ∃ v, e = .returned (.tuple #[.agg #[v], .int .i64 (listK ns xs)]) ∧ OwnC w.heap.size w' v (listA ns xs) ∧ Below w.heap.size w w' := by
  have hb0 : Below w.heap.size w ((w.alloc (.cells #[.slice a ns.length cap] 26)).alloc (.cells #[.slice none 0 0] 26)) := ((Below.refl _ _).alloc (Nat.le_refl _) _).alloc (by simp) _
  have hs0 : ((w.alloc (.cells #[.slice a ns.length cap] 26)).alloc (.cells #[.slice none 0 0] 26)).heap.size = w.heap.size + 2 := by simp
  have hA0 : ((w.alloc (.cells #[.slice a ns.length cap] 26)).alloc (.cells #[.slice none 0 0] 26)).heap[w.heap.size]? = some (.cells #[.slice a ns.length cap] 26 (0, 0)) := (heap_alloc_old _ _ (by simp)).trans (heap_alloc_new w _)
  have hr0 : ((w.alloc (.cells #[.slice a ns.length cap] 26)).alloc (.cells #[.slice none 0 0] 26)).heap[w.heap.size + 1]? = some (.cells #[.slice none 0 0] 26 (0, 0)) := by
    have := heap_alloc_new (w.alloc (.cells #[.slice a ns.length cap] 26)) (.cells #[.slice none 0 0] 26)
    simpa using this
  have c0 : ((w.alloc (.cells #[.slice a ns.length cap] 26)).alloc (.cells #[.slice none 0 0] 26)).cell? ⟨w.heap.size, 0, none⟩ = some (.slice a ns.length cap) := (cell_of_row _ _ 0 _ _ _ hA0).trans rfl
  have HBO : Hid _ := builderOf_any a cap ns ((w.alloc (.cells #[.slice a ns.length cap] 26)).alloc (.cells #[.slice none 0 0] 26)) hl hf ha (hr.grown hb0)
  have HX : Hid (RowI w.heap.size w la xs) := hx
  have HXF : Hid (∀ x ∈ xs, -9223372036854775808 ≤ x ∧ x ≤ 9223372036854775807) := hxf
  obtain ⟨K, HK, hKe⟩ : ∃ K : Int, Hid (K = listK ns xs) ∧ K = listK ns xs := ⟨_, rfl, rfl⟩
  obtain ⟨A, HA, hAe⟩ : ∃ A : List Nd, Hid (A = listA ns xs) ∧ A = listA ns xs := ⟨_, rfl, rfl⟩
  rw [← hKe, ← hAe]
  clear hKe hAe hr ha hf hx hxf
  go_enter Try.func43, Try.ntmps43
  go_wp2_with fail
  generalize (w.alloc (.cells #[.slice a ns.length cap] 26)).alloc (.cells #[.slice none 0 0] 26) = w0 at hb0 hs0 hA0 hr0 c0 HBO ⊢
  refine Calls.mono HBO.out ?_
  rintro e w1 ⟨gb, gm, v, rfl, hbld, hb1⟩
  have HB0 : Hid (Below w.heap.size w w0) := hb0
  have HR0 : Hid (w0.heap[w.heap.size + 1]? = some (.cells #[.slice none 0 0] 26 (0, 0))) := hr0
  have hs1 := hb1.size
  have HPL : Hid (Calls Try.prog 99 #[.pointer (some ⟨gb, 0, none⟩), .slice la xs.length lc] w1 (PlPost 3000 w0.heap.size gb gm ns.length (listF xs ns) v w1)) := by
    refine putList_any w0.heap.size gb gm ns.length ns v la lc xs w1 hl hxl HXF.out (fun w' u' hk hbe m hm => ?_) hbld
    obtain ⟨b, off, rfl⟩ := HX.out.addr hm
    have hkb : Below w.heap.size w w' := (HB0.out.trans (hb1.mono (by omega))).trans (hbe.mono (by omega))
    exact ⟨b, off, rfl, (HX.out.at hkb hm).2⟩
  have HB1 : Hid (Below w0.heap.size w0 w1) := hb1
  clear hbld hb1 hA0 hr0 c0 HBO hb0 HX HXF
  go_wp2_with fail
  refine Calls.mono HPL.out ?_
  rintro e w2 ⟨rfl, u2, hbl2, -, hb2⟩
  have HBW2 : Hid (Below w0.heap.size w0 w2) := HB1.out.trans hb2
  have HC : Hid (Calls Try.prog 70 #[.pointer (some ⟨gb, 0, none⟩), .int .i64 (listF xs ns).2] w2 fun e w' => ∃ v', e = .returned (.tuple #[.agg #[v'], .int .i64 K]) ∧ OwnC w0.heap.size w' v' A ∧ Below w2.heap.size w2 w') := by
    have hle := listF_le xs hl
    by_cases hn : (listF xs ns).2 < 0
    · have hK : K = -1 := by rw [HK.out]; exact listF_neg xs ns hn
      have hA : A = ns := by rw [HA.out]; unfold listA; rw [if_pos (by omega)]
      have := aWith_no w0.heap.size gb gm _ ns.length _ u2 _ w2 hle (listF_pre xs ns).length_le hn hbl2
      rw [take_preL (listF_pre xs ns)] at this
      rw [hK, hA]; exact this
    · have hK : K = (listF xs ns).2 := HK.out
      have hA : A = (listF xs ns).1 := by rw [HA.out]; unfold listA; rw [if_neg (by omega)]
      have := aWith_yes w0.heap.size gb gm _ ns.length _ u2 _ w2 hle hn hbl2
      rw [hK, hA]; exact this
  have HFIN : Hid (∀ (w5 : World) (a5 : Option Addr) (c5 : Nat), OwnC w0.heap.size w5 (.slice a5 A.length c5) A → Below w2.heap.size w2 w5 →
          w5.cell? ⟨w.heap.size + 1, 0, none⟩ = some (.slice none 0 0) ∧ w5.frozen? ⟨w.heap.size + 1, 0, none⟩ = false ∧ Hid ((w5.setCell ⟨w.heap.size + 1, 0, none⟩ (.slice a5 A.length c5)).heap[w.heap.size + 1]? = some (.cells #[.slice a5 A.length c5] 26 (0, 0)) ∧ OwnC w.heap.size (w5.setCell ⟨w.heap.size + 1, 0, none⟩ (.slice a5 A.length c5)) (.slice a5 A.length c5) A ∧ Below w.heap.size w (w5.setCell ⟨w.heap.size + 1, 0, none⟩ (.slice a5 A.length c5)))) := fun w5 a5 c5 ho hb => by
    have hB5 : Below w0.heap.size w0 w5 := HBW2.out.trans (hb.mono HBW2.out.size)
    have hR := (hB5.block _ (by omega)).trans HR0.out
    refine ⟨(cell_of_row _ _ 0 _ _ _ hR).trans rfl, frozen_of_row _ _ 0 _ _ hR, (heap_setCell_same _ _ 0 _ _ _ hR).trans rfl, ?_, (HB0.out.trans (hB5.mono (by omega))).setCell (show w.heap.size ≤ w.heap.size + 1 by omega) _⟩
    obtain ⟨a6, c6, cp, e, ha6, ho6⟩ := ho
    exact ⟨a6, c6, cp, e, ha6, OwnN.base (ownsRow_setCell_below ho6 (show w.heap.size + 1 < w0.heap.size by omega) _) (by omega)⟩
  clear hbl2 hb2 HPL HB1 HK HA
  go_wp2_with fail
  refine Calls.mono HC.out ?_
  rintro e w5 ⟨v5, rfl, ho5, hb5⟩
  obtain ⟨a5, c5, rfl, -, -⟩ := ho5.row
  obtain ⟨r0, f0, HE⟩ := HFIN.out w5 a5 c5 ho5 hb5
  clear ho5 hb5 HC HFIN
  go_wp2
  refine bodyPost_ret (res_cell2 rfl _ _ (w.heap.size + 1) 26 #[.slice a5 A.length c5] (0, 0) _ rfl ?_ Try.underlying26 rfl arenaSize) rfl ?_
  · exact HE.out.1
  · exact ⟨_, rfl, HE.out.2.1, HE.out.2.2⟩
end Go.Proofs.Ytodpfdjlhbjlgaa
