/- The program's putList (chapter 4): the loop of List over a builder. -/
import Derived.Test.YtffnadnndmmliaaMakeList
import Derived.Test.YtffnadnndmmliaaRdAt
import Derived.Test.YtffnadnndmmliaaMakeI
import Derived.WalkKit
import Derived.WalkLawsBesides
import Derived.WalkSpells
import Derived.Laws.Rows
namespace Go.Proofs.Ytffnadnndmmliaa
open Go.RowKit Go.Maps
set_option linter.unusedVariables false
/-- What putList does: the List of these terms is put from its end on; what the builder is afterwards, and what it keeps. -/
def PlPost (mx B gb gm f : Nat) (r : List Nd × Int) (u : Value) (w : World) (e : Ending) (w' : World) : Prop := e = .returned (.int .i64 r.2) ∧ ∃ u', BldM mx B gb gm r.1.length f r.1 u' w' ∧ Keep gb gm u u' w w' ∧ Below B w w'
set_option maxHeartbeats 3200000 in
set_option maxRecDepth 20000 in
theorem putListM_any (mx B gb gm f : Nat) (ns : List Nd) (u : Value) (la : Option Addr) (lc : Nat) (xs : List Int) (w : World) (hmx : mx ≤ 1048576) (hl : ns.length ≤ 1048576) (hxl : xs.length ≤ 1048577) (hxf : ∀ x ∈ xs, -9223372036854775808 ≤ x ∧ x ≤ 9223372036854775807)
    (hx : ∀ w' u', Keep gb gm u u' w w' → Below B w w' → ∀ m, m < xs.length → ∃ b off, la = some ⟨b, off, none⟩ ∧ w'.cell? ⟨b, off + m, none⟩ = some (.int .i64 (xs.getD m 0))) (hb : BldM mx B gb gm ns.length f ns u w) :
    Calls Try.prog 191 #[.pointer (some ⟨gb, 0, none⟩), .slice la xs.length lc] w (PlPost mx B gb gm f (listFm mx xs ns) u w) := by
  have HX : Hid (∀ w' u', Keep gb gm u u' w w' → Below B w w' → ∀ m, m < xs.length → ∃ b off, la = some ⟨b, off, none⟩ ∧ w'.cell? ⟨b, off + m, none⟩ = some (.int .i64 (xs.getD m 0))) := hx
  have HXF : Hid (∀ x ∈ xs, -9223372036854775808 ≤ x ∧ x ≤ 9223372036854775807) := hxf
  have H1 : Hid _ := bputM_any mx B gb gm f ns ⟨1, 0, 0, 0⟩ u w hl (by unfold Nd.Fits; simp) hb
  have hsz0 := hb.size
  clear hx hxf hb
  go_enter Try.func191, Try.ntmps191
  go_wp2_with fail
  refine Calls.mono H1.out ?_
  rintro e w2 ⟨rfl, v2, hbl2, hk2, hb2⟩
  have HL1 : Hid (listFm mx (xs.drop xs.length) ns = (putAm mx ns ⟨1, 0, 0, 0⟩, putKm mx ns ⟨1, 0, 0, 0⟩)) := by show _ = _; rw [List.drop_length]; rfl
  have HFIN : Hid (∀ (m : Nat) (k : Int) (u' : Value) (wz : World), BldM mx B gb gm (listFm mx (xs.drop m) ns).1.length f (listFm mx (xs.drop m) ns).1 u' wz → k = (listFm mx (xs.drop m) ns).2 → (m = 0 ∨ k < 0) → Keep gb gm u u' w wz → Below B w wz → PlPost mx B gb gm f (listFm mx xs ns) u w (.returned (.int .i64 k)) wz) := fun m k u' wz hb hk hd hke hbe => by
    by_cases hn : k < 0
    · have h1 := listFm_end mx xs ns m (by omega)
      have h2 := listFm_neg (mx := mx) (xs.drop m) ns (by omega)
      rw [h1]; exact ⟨by rw [hk, h2], u', hb, hke, hbe⟩
    · obtain rfl : m = 0 := by rcases hd with h | h; exact h; exact absurd h hn
      rw [List.drop_zero] at hb hk
      exact ⟨by rw [hk], u', hb, hke, hbe⟩
  have HK2 : Hid (Keep gb gm u v2 w w2 ∧ Below B w w2) := ⟨hk2, hb2⟩
  have HB2 : Hid (BldM mx B gb gm (putAm mx ns ⟨1, 0, 0, 0⟩).length f (putAm mx ns ⟨1, 0, 0, 0⟩) v2 w2) := hbl2
  clear hb2 hk2 hbl2 H1
  go_wp2
  go_loopw [5, 6] (fun k i wr => ∃ (m : Nat) (u' : Value), m ≤ xs.length ∧ i = .int .i64 ((m : Int) - 1) ∧ k = .int .i64 (listFm mx (xs.drop m) ns).2 ∧ Hid (BldM mx B gb gm (listFm mx (xs.drop m) ns).1.length f (listFm mx (xs.drop m) ns).1 u' wr ∧ Keep gb gm u u' w wr ∧ Below B w wr))
    (fun _ i _ => (intOf i + 1).toNat)
  case atStart => exact ⟨xs.length, v2, Nat.le_refl _, rfl, by rw [HL1.out], by rw [HL1.out]; exact ⟨HB2.out, HK2.out.1, HK2.out.2⟩⟩
  case round =>
    obtain ⟨m, u', hm, rfl, rfl, HBD⟩ := hrel
    by_cases hd : m = 0 ∨ (listFm mx (xs.drop m) ns).2 < 0
    · have HC : Hid _ := HFIN.out m _ u' wr HBD.out.1 rfl hd HBD.out.2.1 HBD.out.2.2
      generalize (listFm mx (xs.drop m) ns).2 = kk at HC hd
      have hcond : ¬ ((0 : Int) ≤ (m : Int) - 1 ∧ 0 ≤ kk) := by omega
      clear HBD HFIN
      by_cases hm0 : (0 : Int) ≤ (m : Int) - 1
      · have hkk : ¬ 0 ≤ kk := by omega
        clear hd hcond
        go_wp2
        go_ret
        exact HC.out
      · clear hd hcond
        go_wp2
        go_ret
        exact HC.out
    · obtain ⟨m, rfl⟩ : ∃ q, m = q + 1 := ⟨m - 1, by omega⟩
      have e1 : ((m + 1 : Nat) : Int) - 1 = (m : Int) := by omega
      rw [e1]
      have hlt : m < xs.length := by omega
      obtain ⟨b, off, rfl, c0⟩ := HX.out wr u' HBD.out.2.1 HBD.out.2.2 m hlt
      have hi0 : (0 : Int) ≤ (m : Int) := by omega
      have hi1 : (m : Int) < (xs.length : Int) := by omega
      have hk0 : (0 : Int) ≤ (listFm mx (xs.drop (m + 1)) ns).2 := by omega
      have HLD : Hid _ := listFm_drop mx xs ns hlt
      have hle := listFm_le hmx (xs.drop (m + 1)) hl
      have hbd := listFm_bd hmx (xs.drop (m + 1)) ns hl
      have hxr := HXF.out (xs.getD m 0) (by rw [List.getD_eq_getElem?_getD, List.getElem?_eq_getElem hlt]; exact List.getElem_mem _)
      have HNP : Hid (∀ wz, Calls Try.prog 185 #[.int .i64 2, .int .i64 (xs.getD m 0), .int .i64 (listFm mx (xs.drop (m + 1)) ns).2] wz fun e w' => e = .returned (.agg #[.int .i64 2, .int .i64 0, .int .i64 (xs.getD m 0), .int .i64 (listFm mx (xs.drop (m + 1)) ns).2]) ∧ Below wz.heap.size wz w') := fun wz => nodeOf_any 2 _ _ wz
      have HPP : Hid (∀ wz, Below wr.heap.size wr wz → Calls Try.prog 152 #[.pointer (some ⟨gb, 0, none⟩), .agg #[.int .i64 2, .int .i64 0, .int .i64 (xs.getD m 0), .int .i64 (listFm mx (xs.drop (m + 1)) ns).2]] wz fun e w' => e = .returned (.int .i64 (listFm mx (xs.drop m) ns).2) ∧ ∃ u2, BldM mx B gb gm (listFm mx (xs.drop m) ns).1.length f (listFm mx (xs.drop m) ns).1 u2 w' ∧ Keep gb gm u u2 w w' ∧ Below B w w') := fun wz hz => by
        have := bputM_any mx B gb gm f (listFm mx (xs.drop (m + 1)) ns).1 ⟨2, 0, xs.getD m 0, (listFm mx (xs.drop (m + 1)) ns).2⟩ u' wz hle (implList_fits hxr hbd) (HBD.out.1.later hz)
        rw [HLD.out]
        exact this.mono fun e w' ⟨h1, u2, h2, h3, h4⟩ => ⟨h1, u2, h2, (HBD.out.2.1.trans (Keep.below hz)).trans h3, (HBD.out.2.2.trans (hz.mono HBD.out.1.size)).trans h4⟩
      generalize xs.getD m 0 = y at c0 HNP HPP hxr
      generalize (listFm mx (xs.drop (m + 1)) ns).2 = kk at HNP HPP hk0
      clear HBD HLD hle hbd hd e1 hxr
      go_wp2_with fail
      refine (HNP.out wr).mono ?_
      rintro e w3 ⟨rfl, hb3⟩
      have HP3 : Hid _ := HPP.out w3 hb3
      clear HNP HPP hb3 c0
      go_wp2_with fail
      refine Calls.mono HP3.out ?_
      rintro e w4 ⟨rfl, u2, hbl', hk4, hb4⟩
      have HBD4 : Hid (BldM mx B gb gm (listFm mx (xs.drop m) ns).1.length f (listFm mx (xs.drop m) ns).1 u2 w4 ∧ Keep gb gm u u2 w w4 ∧ Below B w w4) := ⟨hbl', hk4, hb4⟩
      clear hbl' hb4 hk4 HP3
      go_wp2
      go_roundw
      case rel => exact ⟨m, u2, by omega, by go_num, rfl, HBD4.out⟩
      case measure => simp [intOf] <;> omega
theorem putList_any (B gb gm f : Nat) (ns : List Nd) (u : Value) (la : Option Addr) (lc : Nat) (xs : List Int) (w : World) (hl : ns.length ≤ 1048576) (hxl : xs.length ≤ 1048576) (hxf : ∀ x ∈ xs, -9223372036854775808 ≤ x ∧ x ≤ 9223372036854775807)
    (hx : ∀ w' u', Keep gb gm u u' w w' → Below B w w' → ∀ m, m < xs.length → ∃ b off, la = some ⟨b, off, none⟩ ∧ w'.cell? ⟨b, off + m, none⟩ = some (.int .i64 (xs.getD m 0))) (hb : BldAt B gb gm ns.length f ns u w) :
    Calls Try.prog 191 #[.pointer (some ⟨gb, 0, none⟩), .slice la xs.length lc] w (PlPost 3000 B gb gm f (listF xs ns) u w) := by
  have := putListM_any 3000 B gb gm f ns u la lc xs w (by omega) hl (by omega) hxf hx hb
  rw [listFm_is] at this
  exact this
end Go.Proofs.Ytffnadnndmmliaa
