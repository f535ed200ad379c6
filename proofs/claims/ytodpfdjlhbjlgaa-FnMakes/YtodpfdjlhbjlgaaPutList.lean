/- The program's putList (chapter 4): the loop of List over a builder. -/
import Derived.Test.YtodpfdjlhbjlgaaListF
import Derived.Test.YtodpfdjlhbjlgaaRdAt
import Derived.Test.YtodpfdjlhbjlgaaMakeI
import Derived.WalkKit
import Derived.WalkLawsBesides
import Derived.WalkSpells
import Derived.Laws.Rows
import Derived.Test.YtodpfdjlhbjlgaaBldWith
namespace Go.Proofs.Ytodpfdjlhbjlgaa
open Go.RowKit Go.Maps
set_option linter.unusedVariables false
/-- What putList does: the List of these terms is put from its end on; what the builder is afterwards, and what it keeps. -/
def PlPost (mx B gb gm f : Nat) (r : List Nd × Int) (u : Value) (w : World) (e : Ending) (w' : World) : Prop := e = .returned (.int .i64 r.2) ∧ ∃ u', BldM mx B gb gm r.1.length f r.1 u' w' ∧ Keep gb gm u u' w w' ∧ Below B w w'
set_option maxHeartbeats 3200000 in
set_option maxRecDepth 20000 in
theorem putListM_any (mx B gb gm f : Nat) (ns : List Nd) (u : Value) (la : Option Addr) (lc : Nat) (xs : List Int) (w : World) (hmx : mx ≤ 1048576) (hl : ns.length ≤ 1048576) (hxl : xs.length ≤ 1048577) (hxf : ∀ x ∈ xs, -9223372036854775808 ≤ x ∧ x ≤ 9223372036854775807)
    (hx : ∀ w' u', Keep gb gm u u' w w' → Below B w w' → ∀ m, m < xs.length → ∃ b off, la = some ⟨b, off, none⟩ ∧ w'.cell? ⟨b, off + m, none⟩ = some (.int .i64 (xs.getD m 0))) (hb : BldM mx B gb gm ns.length f ns u w) :
    Calls Try.prog 99 #[.pointer (some ⟨gb, 0, none⟩), .slice la xs.length lc] w (PlPost mx B gb gm f (listFm mx xs ns) u w) := by
  have HX : Hid (∀ w' u', Keep gb gm u u' w w' → Below B w w' → ∀ m, m < xs.length → ∃ b off, la = some ⟨b, off, none⟩ ∧ w'.cell? ⟨b, off + m, none⟩ = some (.int .i64 (xs.getD m 0))) := hx
  have HXF : Hid (∀ x ∈ xs, -9223372036854775808 ≤ x ∧ x ≤ 9223372036854775807) := hxf
  have H1 : Hid _ := bputM_any mx B gb gm f ns ⟨1, 0, 0, 0⟩ u w hl (by unfold Nd.Fits; simp) hb
  have hsz0 := hb.size
  clear hx hxf hb
  go_enter Try.func99, Try.ntmps99
  go_wp2_with fail
  refine Calls.mono H1.out ?_
  rintro e w2 ⟨rfl, v2, hbl2, hk2, hb2⟩
  have HL1 : Hid (listFm mx (xs.drop xs.length) ns = (putAm mx ns ⟨1, 0, 0, 0⟩, putKm mx ns ⟨1, 0, 0, 0⟩)) := by show _ = _; rw [List.drop_length]; rfl
  have HFIN : Hid (∀ (m : Nat) (k : Int) (u' : Value) (wz : World), BldM mx B gb gm (listFm mx (xs.drop m) ns).1.length f (listFm mx (xs.drop m) ns).1 u' wz → k = (listFm mx (xs.drop m) ns).2 → (m = 0 ∨ k < 0) → Keep gb gm u u' w wz → Below B w wz → PlPost mx B gb gm f (listFm mx xs ns) u w (.returned (.int .i64 k)) wz) := fun m k u' wz hb hk hd hke hbe => by
    by_cases hn : k < 0
    · have h1 := listFm_end mx xs ns m (by omega)
      have h2 := listFm_neg (mx := mx) (xs.drop m) ns (by omega)
      rw [h1]; exact ⟨by rw [hk, h2], u', hb, hke, hbe⟩
    · obtain rfl : m = 0 := by rcases hd with h | h; exact h; exact absurd h hn
      rw [List.drop_zero] at hb hk
      exact ⟨by rw [hk], u', hb, hke, hbe⟩
  have HK2 : Hid (Keep gb gm u v2 w w2 ∧ Below B w w2) := ⟨hk2, hb2⟩
  have HB2 : Hid (BldM mx B gb gm (putAm mx ns ⟨1, 0, 0, 0⟩).length f (putAm mx ns ⟨1, 0, 0, 0⟩) v2 w2) := hbl2
  clear hb2 hk2 hbl2 H1
  go_wp2
  go_loopw [5, 6] (fun k i wr => ∃ (m : Nat) (u' : Value), m ≤ xs.length ∧ i = .int .i64 ((m : Int) - 1) ∧ k = .int .i64 (listFm mx (xs.drop m) ns).2 ∧ Hid (BldM mx B gb gm (listFm mx (xs.drop m) ns).1.length f (listFm mx (xs.drop m) ns).1 u' wr ∧ Keep gb gm u u' w wr ∧ Below B w wr))
    (fun _ i _ => (intOf i + 1).toNat)
  case atStart => exact ⟨xs.length, v2, Nat.le_refl _, rfl, by rw [HL1.out], by rw [HL1.out]; exact ⟨HB2.out, HK2.out.1, HK2.out.2⟩⟩
  case round =>
    obtain ⟨m, u', hm, rfl, rfl, HBD⟩ := hrel
    by_cases hd : m = 0 ∨ (listFm mx (xs.drop m) ns).2 < 0
    · have HC : Hid _ := HFIN.out m _ u' wr HBD.out.1 rfl hd HBD.out.2.1 HBD.out.2.2
      generalize (listFm mx (xs.drop m) ns).2 = kk at HC hd
      have hcond : ¬ ((0 : Int) ≤ (m : Int) - 1 ∧ 0 ≤ kk) := by omega
      clear HBD HFIN
      by_cases hm0 : (0 : Int) ≤ (m : Int) - 1
      · have hkk : ¬ 0 ≤ kk := by omega
        clear hd hcond
        go_wp2
        go_ret
        exact HC.out
      · clear hd hcond
        go_wp2
        go_ret
        exact HC.out
    · obtain ⟨m, rfl⟩ : ∃ q, m = q + 1 := ⟨m - 1, by omega⟩
      have e1 : ((m + 1 : Nat) : Int) - 1 = (m : Int) := by omega
      rw [e1]
      have hlt : m < xs.length := by omega
      obtain ⟨b, off, rfl, c0⟩ := HX.out wr u' HBD.out.2.1 HBD.out.2.2 m hlt
      have hi0 : (0 : Int) ≤ (m : Int) := by omega
      have hi1 : (m : Int) < (xs.length : Int) := by omega
      have hk0 : (0 : Int) ≤ (listFm mx (xs.drop (m + 1)) ns).2 := by omega
      have HLD : Hid _ := listFm_drop mx xs ns hlt
      have hle := listFm_le hmx (xs.drop (m + 1)) hl
      have hbd := listFm_bd hmx (xs.drop (m + 1)) ns hl
      have hxr := HXF.out (xs.getD m 0) (by rw [List.getD_eq_getElem?_getD, List.getElem?_eq_getElem hlt]; exact List.getElem_mem _)
      have HNP : Hid (∀ wz, Calls Try.prog 96 #[.int .i64 2, .int .i64 (xs.getD m 0), .int .i64 (listFm mx (xs.drop (m + 1)) ns).2] wz fun e w' => e = .returned (.agg #[.int .i64 2, .int .i64 0, .int .i64 (xs.getD m 0), .int .i64 (listFm mx (xs.drop (m + 1)) ns).2]) ∧ Below wz.heap.size wz w') := fun wz => nodeOf_any 2 _ _ wz
      have HPP : Hid (∀ wz, Below wr.heap.size wr wz → Calls Try.prog 111 #[.pointer (some ⟨gb, 0, none⟩), .agg #[.int .i64 2, .int .i64 0, .int .i64 (xs.getD m 0), .int .i64 (listFm mx (xs.drop (m + 1)) ns).2]] wz fun e w' => e = .returned (.int .i64 (listFm mx (xs.drop m) ns).2) ∧ ∃ u2, BldM mx B gb gm (listFm mx (xs.drop m) ns).1.length f (listFm mx (xs.drop m) ns).1 u2 w' ∧ Keep gb gm u u2 w w' ∧ Below B w w') := fun wz hz => by
        have := bputM_any mx B gb gm f (listFm mx (xs.drop (m + 1)) ns).1 ⟨2, 0, xs.getD m 0, (listFm mx (xs.drop (m + 1)) ns).2⟩ u' wz hle (implList_fits hxr hbd) (HBD.out.1.later hz)
        rw [HLD.out]
        exact this.mono fun e w' ⟨h1, u2, h2, h3, h4⟩ => ⟨h1, u2, h2, (HBD.out.2.1.trans (Keep.below hz)).trans h3, (HBD.out.2.2.trans (hz.mono HBD.out.1.size)).trans h4⟩
      generalize xs.getD m 0 = y at c0 HNP HPP hxr
      generalize (listFm mx (xs.drop (m + 1)) ns).2 = kk at HNP HPP hk0
      clear HBD HLD hle hbd hd e1 hxr
      go_wp2_with fail
      refine (HNP.out wr).mono ?_
      rintro e w3 ⟨rfl, hb3⟩
      have HP3 : Hid _ := HPP.out w3 hb3
      clear HNP HPP hb3 c0
      go_wp2_with fail
      refine Calls.mono HP3.out ?_
      rintro e w4 ⟨rfl, u2, hbl', hk4, hb4⟩
      have HBD4 : Hid (BldM mx B gb gm (listFm mx (xs.drop m) ns).1.length f (listFm mx (xs.drop m) ns).1 u2 w4 ∧ Keep gb gm u u2 w w4 ∧ Below B w w4) := ⟨hbl', hk4, hb4⟩
      clear hbl' hb4 hk4 HP3
      go_wp2
      go_roundw
      case rel => exact ⟨m, u2, by omega, by go_num, rfl, HBD4.out⟩
      case measure => simp [intOf] <;> omega
theorem putList_any (B gb gm f : Nat) (ns : List Nd) (u : Value) (la : Option Addr) (lc : Nat) (xs : List Int) (w : World) (hl : ns.length ≤ 1048576) (hxl : xs.length ≤ 1048576) (hxf : ∀ x ∈ xs, -9223372036854775808 ≤ x ∧ x ≤ 9223372036854775807)
    (hx : ∀ w' u', Keep gb gm u u' w w' → Below B w w' → ∀ m, m < xs.length → ∃ b off, la = some ⟨b, off, none⟩ ∧ w'.cell? ⟨b, off + m, none⟩ = some (.int .i64 (xs.getD m 0))) (hb : BldAt B gb gm ns.length f ns u w) :
    Calls Try.prog 99 #[.pointer (some ⟨gb, 0, none⟩), .slice la xs.length lc] w (PlPost 3000 B gb gm f (listF xs ns) u w) := by
  have := putListM_any 3000 B gb gm f ns u la lc xs w (by omega) hl (by omega) hxf hx hb
  rw [listFm_is] at this
  exact this
end Go.Proofs.Ytodpfdjlhbjlgaa

namespace Go.Proofs.Ytodpfdjlhbjlgaa
open Go.RowKit Go.Maps
set_option linter.unusedVariables false
set_option maxHeartbeats 3200000 in
set_option maxRecDepth 20000 in
theorem implList_any (a : Option Addr) (cap : Nat) (ns : List Nd) (la : Option Addr) (lc : Nat) (xs : List Int) (w : World) (hl : ns.length ≤ 1048576) (hf : ∀ y ∈ ns, y.Fits) (hxl : xs.length ≤ 1048576) (hxf : ∀ x ∈ xs, -9223372036854775808 ≤ x ∧ x ≤ 9223372036854775807) (hx : RowI w.heap.size w la xs) (ha : AddrN a cap) (hr : RowN w.heap.size w a ns) :
    Calls Try.prog 43 #[.agg #[.slice a ns.length cap], .slice la xs.length lc] w fun e w' => ∃ v, e = .returned (.tuple #[.agg #[v], .int .i64 (listK ns xs)]) ∧ OwnC w.heap.size w' v (listA ns xs) ∧ Below w.heap.size w w' := by
  have hb0 : Below w.heap.size w ((w.alloc (.cells #[.slice a ns.length cap] 26)).alloc (.cells #[.slice none 0 0] 26)) := ((Below.refl _ _).alloc (Nat.le_refl _) _).alloc (by simp) _
  have hs0 : ((w.alloc (.cells #[.slice a ns.length cap] 26)).alloc (.cells #[.slice none 0 0] 26)).heap.size = w.heap.size + 2 := by simp
  have hA0 : ((w.alloc (.cells #[.slice a ns.length cap] 26)).alloc (.cells #[.slice none 0 0] 26)).heap[w.heap.size]? = some (.cells #[.slice a ns.length cap] 26 (0, 0)) := (heap_alloc_old _ _ (by simp)).trans (heap_alloc_new w _)
  have hr0 : ((w.alloc (.cells #[.slice a ns.length cap] 26)).alloc (.cells #[.slice none 0 0] 26)).heap[w.heap.size + 1]? = some (.cells #[.slice none 0 0] 26 (0, 0)) := by
    have := heap_alloc_new (w.alloc (.cells #[.slice a ns.length cap] 26)) (.cells #[.slice none 0 0] 26)
    simpa using this
  have c0 : ((w.alloc (.cells #[.slice a ns.length cap] 26)).alloc (.cells #[.slice none 0 0] 26)).cell? ⟨w.heap.size, 0, none⟩ = some (.slice a ns.length cap) := (cell_of_row _ _ 0 _ _ _ hA0).trans rfl
  have HBO : Hid _ := builderOf_any a cap ns ((w.alloc (.cells #[.slice a ns.length cap] 26)).alloc (.cells #[.slice none 0 0] 26)) hl hf ha (hr.grown hb0)
  have HX : Hid (RowI w.heap.size w la xs) := hx
  have HXF : Hid (∀ x ∈ xs, -9223372036854775808 ≤ x ∧ x ≤ 9223372036854775807) := hxf
  obtain ⟨K, HK, hKe⟩ : ∃ K : Int, Hid (K = listK ns xs) ∧ K = listK ns xs := ⟨_, rfl, rfl⟩
  obtain ⟨A, HA, hAe⟩ : ∃ A : List Nd, Hid (A = listA ns xs) ∧ A = listA ns xs := ⟨_, rfl, rfl⟩
  rw [← hKe, ← hAe]
  clear hKe hAe hr ha hf hx hxf
  go_enter Try.func43, Try.ntmps43
  go_wp2_with fail
  generalize (w.alloc (.cells #[.slice a ns.length cap] 26)).alloc (.cells #[.slice none 0 0] 26) = w0 at hb0 hs0 hA0 hr0 c0 HBO ⊢
  refine Calls.mono HBO.out ?_
  rintro e w1 ⟨gb, gm, v, rfl, hbld, hb1⟩
  have HB0 : Hid (Below w.heap.size w w0) := hb0
  have HR0 : Hid (w0.heap[w.heap.size + 1]? = some (.cells #[.slice none 0 0] 26 (0, 0))) := hr0
  have hs1 := hb1.size
  have HPL : Hid (Calls Try.prog 99 #[.pointer (some ⟨gb, 0, none⟩), .slice la xs.length lc] w1 (PlPost 3000 w0.heap.size gb gm ns.length (listF xs ns) v w1)) := by
    refine putList_any w0.heap.size gb gm ns.length ns v la lc xs w1 hl hxl HXF.out (fun w' u' hk hbe m hm => ?_) hbld
    obtain ⟨b, off, rfl⟩ := HX.out.addr hm
    have hkb : Below w.heap.size w w' := (HB0.out.trans (hb1.mono (by omega))).trans (hbe.mono (by omega))
    exact ⟨b, off, rfl, (HX.out.at hkb hm).2⟩
  have HB1 : Hid (Below w0.heap.size w0 w1) := hb1
  clear hbld hb1 hA0 hr0 c0 HBO hb0 HX HXF
  go_wp2_with fail
  refine Calls.mono HPL.out ?_
  rintro e w2 ⟨rfl, u2, hbl2, -, hb2⟩
  have HBW2 : Hid (Below w0.heap.size w0 w2) := HB1.out.trans hb2
  have HC : Hid (Calls Try.prog 70 #[.pointer (some ⟨gb, 0, none⟩), .int .i64 (listF xs ns).2] w2 fun e w' => ∃ v', e = .returned (.tuple #[.agg #[v'], .int .i64 K]) ∧ OwnC w0.heap.size w' v' A ∧ Below w2.heap.size w2 w') := by
    have hle := listF_le xs hl
    by_cases hn : (listF xs ns).2 < 0
    · have hK : K = -1 := by rw [HK.out]; exact listF_neg xs ns hn
      have hA : A = ns := by rw [HA.out]; unfold listA; rw [if_pos (by omega)]
      have := aWith_no w0.heap.size gb gm _ ns.length _ u2 _ w2 hle (listF_pre xs ns).length_le hn hbl2
      rw [take_preL (listF_pre xs ns)] at this
      rw [hK, hA]; exact this
    · have hK : K = (listF xs ns).2 := HK.out
      have hA : A = (listF xs ns).1 := by rw [HA.out]; unfold listA; rw [if_neg (by omega)]
      have := aWith_yes w0.heap.size gb gm _ ns.length _ u2 _ w2 hle hn hbl2
      rw [hK, hA]; exact this
  have HFIN : Hid (∀ (w5 : World) (a5 : Option Addr) (c5 : Nat), OwnC w0.heap.size w5 (.slice a5 A.length c5) A → Below w2.heap.size w2 w5 →
          w5.cell? ⟨w.heap.size + 1, 0, none⟩ = some (.slice none 0 0) ∧ w5.frozen? ⟨w.heap.size + 1, 0, none⟩ = false ∧ Hid ((w5.setCell ⟨w.heap.size + 1, 0, none⟩ (.slice a5 A.length c5)).heap[w.heap.size + 1]? = some (.cells #[.slice a5 A.length c5] 26 (0, 0)) ∧ OwnC w.heap.size (w5.setCell ⟨w.heap.size + 1, 0, none⟩ (.slice a5 A.length c5)) (.slice a5 A.length c5) A ∧ Below w.heap.size w (w5.setCell ⟨w.heap.size + 1, 0, none⟩ (.slice a5 A.length c5)))) := fun w5 a5 c5 ho hb => by
    have hB5 : Below w0.heap.size w0 w5 := HBW2.out.trans (hb.mono HBW2.out.size)
    have hR := (hB5.block _ (by omega)).trans HR0.out
    refine ⟨(cell_of_row _ _ 0 _ _ _ hR).trans rfl, frozen_of_row _ _ 0 _ _ hR, (heap_setCell_same _ _ 0 _ _ _ hR).trans rfl, ?_, (HB0.out.trans (hB5.mono (by omega))).setCell (show w.heap.size ≤ w.heap.size + 1 by omega) _⟩
    obtain ⟨a6, c6, cp, e, ha6, ho6⟩ := ho
    exact ⟨a6, c6, cp, e, ha6, OwnN.base (ownsRow_setCell_below ho6 (show w.heap.size + 1 < w0.heap.size by omega) _) (by omega)⟩
  clear hbl2 hb2 HPL HB1 HK HA
  go_wp2_with fail
  refine Calls.mono HC.out ?_
  rintro e w5 ⟨v5, rfl, ho5, hb5⟩
  obtain ⟨a5, c5, rfl, -, -⟩ := ho5.row
  obtain ⟨r0, f0, HE⟩ := HFIN.out w5 a5 c5 ho5 hb5
  clear ho5 hb5 HC HFIN
  go_wp2
  refine bodyPost_ret (res_cell2 rfl _ _ (w.heap.size + 1) 26 #[.slice a5 A.length c5] (0, 0) _ rfl ?_ Try.underlying26 rfl arenaSize) rfl ?_
  · exact HE.out.1
  · exact ⟨_, rfl, HE.out.2.1, HE.out.2.2⟩
end Go.Proofs.Ytodpfdjlhbjlgaa
