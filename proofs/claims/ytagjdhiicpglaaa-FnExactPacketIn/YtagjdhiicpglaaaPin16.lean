/- The contract of chapter 16's PacketIn, the specification's, and what it reads in plain words. -/
import Derived.Test.YtagjdhiicpglaaaSpec16
import Derived.Test.YtagjdhiicpglaaaMakeParts
import Derived.Test.YtagjdhiicpglaaaHead8
import Derived.Test.YtagjdhiicpglaaaRegionC
import Derived.Test.YtagjdhiicpglaaaTermPut
import Derived.Test.YtagjdhiicpglaaaKeptS
namespace Go.Proofs.Ytagjdhiicpglaaa
open Go.RowKit
set_option linter.unusedVariables false
set_option linter.unusedSimpArgs false
def pinV (ns : List Nd) (k : Int) : List Int := (partsV ns k 6).map (numV ns)
def pinA (ns : List Nd) (k : Int) : Bool := (partsV ns k 6).all (fun x => isK ns x 1)
def pinN (ns : List Nd) (k : Int) (i : Nat) : Int := (pinV ns k).getD i 0
def pinP (ns : List Nd) (k : Int) : Nd := ⟨pinN ns k 1, pinN ns k 2, pinN ns k 3, pinN ns k 4⟩
def pinB (ns : List Nd) (k : Int) : Bool := (partsB ns k 6 && pinA ns k) && (decide (pinN ns k 0 = 90) && (pkOk (pinP ns k) && decide (pinN ns k 5 = pkS (pinP ns k))))
def pinR (ns : List Nd) (k : Int) : Nd := if pinB ns k = true then pinP ns k else Nd.zero
theorem parts6 {ns : List Nd} {k : Int} (h : partsB ns k 6 = true) : (partsV ns k 6).length = 6 := by
  unfold partsB at h
  unfold partsV
  cases e : partsR ns k 6 with
  | none => rw [e] at h; cases h
  | some xs =>
    unfold partsR at e
    rw [if_neg (by omega)] at e
    have := (partsN_len ns _ k xs e).1
    simpa using this
theorem numV_le {ns : List Nd} {x : Int} (h : isK ns x 1 = true) : 0 ≤ numV ns x ∧ numV ns x ≤ 999999 := by
  unfold numV
  rw [if_pos h]
  obtain ⟨h1, h2⟩ := isK_ok h
  unfold okAt at h1
  rw [Bool.and_eq_true] at h1
  have h3 : nodeB (ndAt ns x) x = true := h1.2
  unfold nodeB inB at h3
  revert h3
  repeat' split
  all_goals simp_all
theorem pinN_le {ns : List Nd} {k : Int} (h : pinA ns k = true) (i : Nat) : 0 ≤ pinN ns k i ∧ pinN ns k i ≤ 999999 := by
  unfold pinN pinV
  rw [List.getD_eq_getElem?_getD, List.getElem?_map]
  cases e : (partsV ns k 6)[i]? with
  | none => simp
  | some x =>
    simp only [Option.map_some, Option.getD_some]
    exact numV_le (List.all_eq_true.1 h x (List.mem_of_getElem? e))
theorem take_nextI {xs : List Int} {i : Nat} (h : i < xs.length) : xs.take (i + 1) = xs.take i ++ [xs.getD i 0] := by
  rw [List.take_succ_eq_append_getElem h, List.getD_eq_getElem?_getD, List.getElem?_eq_getElem h]; rfl
theorem store4p {w : World} {g : Nat} {u0 u1 u2 u3 : Value} (h : w.heap[g]? = some (.cells #[u0, u1, u2, u3] 27 (0, 0))) (v0 v1 v2 v3 : Value) :
    ((((w.setCell ⟨g, 0, none⟩ v0).setCell ⟨g, 1, none⟩ v1).setCell ⟨g, 2, none⟩ v2).setCell ⟨g, 3, none⟩ v3).heap[g]? = some (.cells #[v0, v1, v2, v3] 27 (0, 0)) := by
  have h0 := heap_setCell_same w g 0 _ _ v0 h
  have h1 := heap_setCell_same _ g 1 _ _ v1 h0
  have h2 := heap_setCell_same _ g 2 _ _ v2 h1
  have h3 := heap_setCell_same _ g 3 _ _ v3 h2
  exact h3.trans (by rfl)
theorem below4p {B g : Nat} {w w' : World} (h : Below B w w') (hg : B ≤ g) (v0 v1 v2 v3 : Value) : Below B w ((((w'.setCell ⟨g, 0, none⟩ v0).setCell ⟨g, 1, none⟩ v1).setCell ⟨g, 2, none⟩ v2).setCell ⟨g, 3, none⟩ v3) :=
  (((h.setCell (show B ≤ g from hg) _).setCell (show B ≤ g from hg) _).setCell (show B ≤ g from hg) _).setCell (show B ≤ g from hg) _
theorem packetSizeS : (Try.prog.info? 27).map (·.size) = some 4 := by kernel_rfl
theorem packetZero : (Try.prog.info? 27).bind (·.zero) = some (.agg #[.int .i64 0, .int .i64 0, .int .i64 0, .int .i64 0]) := by kernel_rfl
set_option maxHeartbeats 6400000 in
set_option maxRecDepth 20000 in
theorem specPin_any (a : Option Addr) (cap : Nat) (ns : List Nd) (k : Int) (w : World) (hl : ns.length ≤ 1048576) (hr : RowN w.heap.size w a ns) :
    Calls Try.prog 5 #[.agg #[.slice a ns.length cap], .int .i64 k] w fun e w' => e = .returned (.tuple #[.agg #[.int .i64 (pinR ns k).k, .int .i64 (pinR ns k).n, .int .i64 (pinR ns k).a, .int .i64 (pinR ns k).b], .bool (pinB ns k)]) ∧ Below w.heap.size w w' := by
  have hb0 : Below w.heap.size w ((w.alloc (.cells #[.slice a ns.length cap] 32)).alloc (.cells #[.int .i64 0, .int .i64 0, .int .i64 0, .int .i64 0] 27)) := ((Below.refl _ _).alloc (Nat.le_refl _) _).alloc (by simp) _
  have hA0 : ((w.alloc (.cells #[.slice a ns.length cap] 32)).alloc (.cells #[.int .i64 0, .int .i64 0, .int .i64 0, .int .i64 0] 27)).heap[w.heap.size]? = some (.cells #[.slice a ns.length cap] 32 (0, 0)) := (heap_alloc_old _ _ (by simp)).trans (heap_alloc_new w _)
  have hN0 : ((w.alloc (.cells #[.slice a ns.length cap] 32)).alloc (.cells #[.int .i64 0, .int .i64 0, .int .i64 0, .int .i64 0] 27)).heap[w.heap.size + 1]? = some (.cells #[.int .i64 0, .int .i64 0, .int .i64 0, .int .i64 0] 27 (0, 0)) := by
    have := heap_alloc_new (w.alloc (.cells #[.slice a ns.length cap] 32)) (.cells #[.int .i64 0, .int .i64 0, .int .i64 0, .int .i64 0] 27)
    simpa using this
  have hs0 : ((w.alloc (.cells #[.slice a ns.length cap] 32)).alloc (.cells #[.int .i64 0, .int .i64 0, .int .i64 0, .int .i64 0] 27)).heap.size = w.heap.size + 2 := by simp
  have HR : Hid (RowN w.heap.size w a ns) := hr
  have HP : Hid _ := specParts_any a cap ns k 6 _ hl (hr.grown hb0)
  clear hr
  obtain ⟨G, HG⟩ : ∃ G, Hid (pinR ns k = G) := ⟨_, rfl⟩
  obtain ⟨E, HE⟩ : ∃ E, Hid (pinB ns k = E) := ⟨_, rfl⟩
  rw [HG.out, HE.out]
  obtain ⟨i0, hi, hz0, hz1, hz2⟩ := info_parts infoIntS
  obtain ⟨ps, HPS⟩ : ∃ ps, Hid (partsV ns k 6 = ps) := ⟨_, rfl⟩
  obtain ⟨q, HQ⟩ : ∃ q, Hid (partsB ns k 6 = q) := ⟨_, rfl⟩
  rw [HPS.out, HQ.out] at HP
  have hpl : ps.length ≤ 1048576 := by rw [← HPS.out]; exact Nat.le_trans (partsV_len ns k 6) hl
  go_enter Try.func5, Try.ntmps5
  go_wp2_with fail
  generalize (w.alloc (.cells #[.slice a ns.length cap] 32)).alloc (.cells #[.int .i64 0, .int .i64 0, .int .i64 0, .int .i64 0] 27) = w0 at hb0 hA0 hN0 hs0 HP ⊢
  refine Calls.mono HP.out ?_
  rintro e w1 ⟨v6, rfl, hown6, hb1⟩
  have HB1 : Hid (Below w.heap.size w w1) := hb0.trans (hb1.mono (by omega))
  have HA1 : Hid _ := (hb1.block w.heap.size (by omega)).trans hA0
  have HN1 : Hid _ := (hb1.block (w.heap.size + 1) (by omega)).trans hN0
  have hs1 : w.heap.size + 1 < w1.heap.size := by have := hb1.size; omega
  obtain ⟨a6, c6, rfl, -, hr6⟩ := hown6.row
  have HR6 : Hid (RowI w1.heap.size w1 a6 ps) := hr6
  clear hb0 hA0 hN0 hb1 hown6 hr6 HP
  go_wp2
  go_loopw [7, 8, 9] (fun ok v i wr => ∃ (m : Nat) (b : Bool) (xs : List Int), m ≤ ps.length ∧ i = .int .i64 (m : Int) ∧ ok = .bool b ∧ Hid (b = (q && (ps.take m).all (fun x => isK ns x 1))) ∧ wr.ownsRow w1.heap.size 3 1 v m (xs.map (Value.int .i64)) ∧ Hid ((ps.take m).map (numV ns) = xs) ∧ Hid (Below w1.heap.size w1 wr)) (fun _ _ i _ => ps.length - (intOf i).toNat)
  case atStart => exact ⟨0, q, [], Nat.zero_le _, rfl, rfl, (by show _ = _; simp), by have := World.ownsRow_made w1 #[] 0 (base := w1.heap.size) (e := 3) (size := 1) (Nat.le_refl _) (by decide) rfl; simpa using this, (by show _ = _; rfl), (Below.refl _ _).alloc (Nat.le_refl _) _⟩
  case round =>
    obtain ⟨m, b, xs, hm, rfl, rfl, HBB, hown, HXS, HBR⟩ := hrel
    by_cases hlt : m < ps.length
    · obtain ⟨gb, off, rfl⟩ := HR6.out.addr hlt
      have hi0 : (0 : Int) ≤ (m : Int) := by omega
      have hi1 : (m : Int) < (ps.length : Int) := by omega
      obtain ⟨S, hS0, hNE, HK⟩ := read_class wr
      have hwr := HBR.out.size
      have k0 := HK.out.1 ⟨w.heap.size, 0, none⟩ _ (show w.heap.size < wr.heap.size by omega) ((cell_of_row _ _ 0 _ _ _ ((HBR.out.block _ (by omega)).trans HA1.out)).trans rfl)
      have hL := HR6.out.at HBR.out hlt
      have HTN : Hid _ := take_nextI hlt
      obtain ⟨x, HX⟩ : ∃ x, Hid (ps.getD m 0 = x) := ⟨_, rfl⟩
      rw [HX.out] at hL HTN
      have k1 := HK.out.1 _ _ (show gb < wr.heap.size by omega) hL.2
      clear hL
      obtain ⟨r, HRR⟩ : ∃ r, Hid (isK ns x 1 = r) := ⟨_, rfl⟩
      obtain ⟨z, HZZ⟩ : ∃ z, Hid (numV ns x = z) := ⟨_, rfl⟩
      have HCN : Hid (∀ s : Hw S, Calls Try.prog 12 #[.agg #[.slice a ns.length cap], .int .i64 x] s.w fun e w' => e = .returned (.tuple #[.int .i64 z, .bool r]) ∧ Below s.w.heap.size s.w w') := fun s => by
        have := specNum_any a cap ns x s.w hl (HR.out.grown (HB1.out.trans ((HBR.out.trans ((HK.out.2.2.2 s).mono HBR.out.size)).mono HB1.out.size)))
        rw [HRR.out, HZZ.out] at this
        exact this
      have HBN : Hid ((b && r) = (q && (ps.take (m + 1)).all (fun x => isK ns x 1))) := by show _ = _; rw [HTN.out, HBB.out]; simp [HRR.out, Bool.and_assoc]
      have HXN : Hid ((ps.take (m + 1)).map (numV ns) = xs ++ [z]) := by show _ = _; rw [HTN.out, ← HXS.out]; simp [HZZ.out]
      have hkk : ∀ (s : Hw S) w', Below s.w.heap.size s.w w' → S w' := HK.out.2.1
      cases b <;> cases r
      all_goals
        go_wp2
        refine wp_region_held (S := S) (by kernel_rfl) (by kernel_rfl) hS0 ?_
        repeat (go_big_quiet_step ((go_at_call 12; exact Calls.held (HCN.out _) (hkk _))))
        refine wpQuiet_nil ?_
        rintro _ ⟨sw, rfl⟩
        have hb2 := HK.out.2.2.2 sw
        have ho2 := own_next hown hb2
        have HB2 : Hid (Below w1.heap.size w1 sw.w) := HBR.out.trans (hb2.mono hwr)
        obtain ⟨w2, hw2⟩ : ∃ w2, sw.w = w2 := ⟨_, rfl⟩
        rw [hw2] at ho2 HB2 ⊢
        clear hb2 hown hw2 HCN HK hkk k0 k1 hS0 hNE HBB HTN
        have hs2 := HB2.out.size
        go_wp2_with (at_builtin; refine wpList_append_own _ rfl _ _ 38 rfl w1.heap.size 3 i0 (.int .i64 0) 1 8 Try.underlying38 hi hz0 hz1 hz2 rfl (by decide) _ _ _ rfl (ho2.alloc _) ⟨w2.heap.size, 0, none⟩ 1 1 [.int .i64 z] rfl rfl ?c1 ?c2 ?c3 ?c4 ?c5 ?_)
        case c1 => exact cell_one_new _ _ _
        case c2 => intro u hu; simp at hu; subst hu; rfl
        case c3 => unfold maxLen; omega
        case c4 => omega
        case c5 => simp; omega
        intro v' w3 hown' hgrow _
        have HB3 : Hid (Below w1.heap.size w1 w3) := below_app ho2 HB2.out (by omega) hgrow
        have HO3 : Hid (w3.ownsRow w1.heap.size 3 1 v' (m + 1) ((xs ++ [z]).map (Value.int .i64))) := by show World.ownsRow _ _ _ _ _ _ _; rw [List.map_append]; exact hown'
        clear hown' hgrow ho2 HB2 HXS
        go_wp2
        go_roundw
        case rel => exact ⟨m + 1, _, xs ++ [z], by omega, by go_num, rfl, HBN, HO3.out, HXN, HB3⟩
        case measure => simp [intOf]; omega
    · obtain rfl : m = ps.length := by omega
      have HXF : Hid (ps.map (numV ns) = xs) := by have := HXS.out; rw [List.take_length] at this; exact this
      clear HXS
      have HBF : Hid (b = (q && pinA ns k)) := by have := HBB.out; rw [List.take_length] at this; show _ = _; rw [this]; unfold pinA; rw [HPS.out]
      have HNW : Hid _ := (HBR.out.block (w.heap.size + 1) (by omega)).trans HN1.out
      have HWW : Hid (Below w.heap.size w wr) := HB1.out.trans (HBR.out.mono HB1.out.size)
      have hwr := HBR.out.size
      have hgw : w.heap.size + 1 < wr.heap.size := by omega
      have HZR : Hid (pinB ns k = false → G = Nd.zero ∧ E = false) := fun h => ⟨by rw [← HG.out]; unfold pinR; rw [if_neg (by rw [h]; simp)], by rw [← HE.out]; exact h⟩
      clear HBB hlt hm
      cases b with
      | false =>
        have HQ0 : Hid (G = Nd.zero ∧ E = false) := HZR.out (by unfold pinB; rw [HQ.out, ← HBF.out]; rfl)
        have n0 : wr.cell? ⟨w.heap.size + 1, 0, none⟩ = some (.int .i64 0) := (cell_of_row _ _ 0 _ _ _ HNW.out).trans rfl
        have n1 : wr.cell? ⟨w.heap.size + 1, 1, none⟩ = some (.int .i64 0) := (cell_of_row _ _ 1 _ _ _ HNW.out).trans rfl
        have n2 : wr.cell? ⟨w.heap.size + 1, 2, none⟩ = some (.int .i64 0) := (cell_of_row _ _ 2 _ _ _ HNW.out).trans rfl
        have n3 : wr.cell? ⟨w.heap.size + 1, 3, none⟩ = some (.int .i64 0) := (cell_of_row _ _ 3 _ _ _ HNW.out).trans rfl
        have fz0 : wr.frozen? ⟨w.heap.size + 1, 0, none⟩ = false := frozen_of_row _ _ 0 _ _ HNW.out
        have fz1 : wr.frozen? ⟨w.heap.size + 1, 1, none⟩ = false := frozen_of_row _ _ 1 _ _ HNW.out
        have fz2 : wr.frozen? ⟨w.heap.size + 1, 2, none⟩ = false := frozen_of_row _ _ 2 _ _ HNW.out
        have fz3 : wr.frozen? ⟨w.heap.size + 1, 3, none⟩ = false := frozen_of_row _ _ 3 _ _ HNW.out
        have HBL : Hid _ := store4p HNW.out (.int .i64 0) (.int .i64 0) (.int .i64 0) (.int .i64 0)
        have HE2 : Hid _ := below4p (g := w.heap.size + 1) HWW.out (by omega) (.int .i64 0) (.int .i64 0) (.int .i64 0) (.int .i64 0)
        go_wp2
        refine bodyPost_ret (res_cell2 rfl _ _ (w.heap.size + 1) 27 #[.int .i64 0, .int .i64 0, .int .i64 0, .int .i64 0] (0, 0) _ rfl ?_ Try.underlying27 rfl packetSizeS) rfl ?_
        · exact HBL.out
        · exact ⟨by rw [HQ0.out.1, HQ0.out.2]; rfl, HE2.out⟩
      | true =>
        have hq : q = true ∧ pinA ns k = true := by have := HBF.out; revert this; cases q <;> cases pinA ns k <;> simp
        have hp6 : ps.length = 6 := by rw [← HPS.out]; exact parts6 (by rw [HQ.out]; exact hq.1)
        have hown' := hown
        rw [hp6] at hown'
        obtain ⟨gn, cn, hv8, hgn0, hgn, hcl⟩ := own_ints hown' (by omega)
        subst hv8
        have HPV : Hid (pinV ns k = xs) := by show _ = _; unfold pinV; rw [HPS.out]; exact HXF.out
        have HBD : Hid (∀ i, 0 ≤ pinN ns k i ∧ pinN ns k i ≤ 999999) := fun i => pinN_le hq.2 i
        have e0 := hcl 0 (by omega)
        rw [show xs.getD 0 0 = pinN ns k 0 by unfold pinN; rw [HPV.out]] at e0
        have e1 := hcl 1 (by omega)
        rw [show xs.getD 1 0 = pinN ns k 1 by unfold pinN; rw [HPV.out]] at e1
        have e2 := hcl 2 (by omega)
        rw [show xs.getD 2 0 = pinN ns k 2 by unfold pinN; rw [HPV.out]] at e2
        have e3 := hcl 3 (by omega)
        rw [show xs.getD 3 0 = pinN ns k 3 by unfold pinN; rw [HPV.out]] at e3
        have e4 := hcl 4 (by omega)
        rw [show xs.getD 4 0 = pinN ns k 4 by unfold pinN; rw [HPV.out]] at e4
        have e5 := hcl 5 (by omega)
        rw [show xs.getD 5 0 = pinN ns k 5 by unfold pinN; rw [HPV.out]] at e5
        have HPE : Hid (pinB ns k = (decide (pinN ns k 0 = 90) && (pkOk ⟨pinN ns k 1, pinN ns k 2, pinN ns k 3, pinN ns k 4⟩ && decide (pinN ns k 5 = pinN ns k 1 + pinN ns k 2 + pinN ns k 3 + pinN ns k 4)))) := by show _ = _; unfold pinB; rw [HQ.out, hq.1, hq.2]; rfl
        have HPY : Hid (pinB ns k = true → G = ⟨pinN ns k 1, pinN ns k 2, pinN ns k 3, pinN ns k 4⟩ ∧ E = true) := fun h => ⟨by rw [← HG.out]; unfold pinR; rw [if_pos h]; rfl, by rw [← HE.out]; exact h⟩
        have B1 := HBD.out 1
        have B2 := HBD.out 2
        have B3 := HBD.out 3
        have B4 := HBD.out 4
        generalize pinN ns k 0 = x0 at *
        generalize pinN ns k 1 = x1 at *
        generalize pinN ns k 2 = x2 at *
        generalize pinN ns k 3 = x3 at *
        generalize pinN ns k 4 = x4 at *
        generalize pinN ns k 5 = x5 at *
        clear hcl hown hown' hq HBF HPV HBD hp6 HXF
        have hxN := heap_alloc_new wr.drew (.cells #[.int .i64 0, .int .i64 0, .int .i64 0, .int .i64 0] 27)
        have b0 : (wr.drew.alloc (.cells #[.int .i64 0, .int .i64 0, .int .i64 0, .int .i64 0] 27)).cell? ⟨wr.heap.size, 0, none⟩ = some (.int .i64 0) := (cell_of_row _ _ 0 _ _ _ hxN).trans rfl
        have b1 : (wr.drew.alloc (.cells #[.int .i64 0, .int .i64 0, .int .i64 0, .int .i64 0] 27)).cell? ⟨wr.heap.size, 1, none⟩ = some (.int .i64 0) := (cell_of_row _ _ 1 _ _ _ hxN).trans rfl
        have b2 : (wr.drew.alloc (.cells #[.int .i64 0, .int .i64 0, .int .i64 0, .int .i64 0] 27)).cell? ⟨wr.heap.size, 2, none⟩ = some (.int .i64 0) := (cell_of_row _ _ 2 _ _ _ hxN).trans rfl
        have b3 : (wr.drew.alloc (.cells #[.int .i64 0, .int .i64 0, .int .i64 0, .int .i64 0] 27)).cell? ⟨wr.heap.size, 3, none⟩ = some (.int .i64 0) := (cell_of_row _ _ 3 _ _ _ hxN).trans rfl
        have y0 : (wr.drew.alloc (.cells #[.int .i64 0, .int .i64 0, .int .i64 0, .int .i64 0] 27)).frozen? ⟨wr.heap.size, 0, none⟩ = false := frozen_of_row _ _ 0 _ _ hxN
        have y1 : (wr.drew.alloc (.cells #[.int .i64 0, .int .i64 0, .int .i64 0, .int .i64 0] 27)).frozen? ⟨wr.heap.size, 1, none⟩ = false := frozen_of_row _ _ 1 _ _ hxN
        have y2 : (wr.drew.alloc (.cells #[.int .i64 0, .int .i64 0, .int .i64 0, .int .i64 0] 27)).frozen? ⟨wr.heap.size, 2, none⟩ = false := frozen_of_row _ _ 2 _ _ hxN
        have y3 : (wr.drew.alloc (.cells #[.int .i64 0, .int .i64 0, .int .i64 0, .int .i64 0] 27)).frozen? ⟨wr.heap.size, 3, none⟩ = false := frozen_of_row _ _ 3 _ _ hxN
        have HCELL : Hid (∀ q ∈ ([fun _ wz => wz = wr.drew, fun _ wz => wz = (wr.drew.alloc (.cells #[.int .i64 0, .int .i64 0, .int .i64 0, .int .i64 0] 27)), fun _ wz => wz = (((((wr.drew.alloc (.cells #[.int .i64 0, .int .i64 0, .int .i64 0, .int .i64 0] 27)).setCell ⟨wr.heap.size, 0, none⟩ (.int .i64 x1)).setCell ⟨wr.heap.size, 1, none⟩ (.int .i64 x2)).setCell ⟨wr.heap.size, 2, none⟩ (.int .i64 x3)).setCell ⟨wr.heap.size, 3, none⟩ (.int .i64 x4))] : List (Act → World → Prop)), ∀ a wz, q a wz → wz.cell? ⟨gn, 1, none⟩ = some (.int .i64 x1) ∧ wz.cell? ⟨gn, 2, none⟩ = some (.int .i64 x2) ∧ wz.cell? ⟨gn, 3, none⟩ = some (.int .i64 x3) ∧ wz.cell? ⟨gn, 4, none⟩ = some (.int .i64 x4)) := fun q hq a wz h => by
          have hbz : Below wr.heap.size wr wz := by
            simp only [List.mem_cons, List.not_mem_nil, or_false] at hq
            rcases hq with rfl | rfl | rfl
            · rw [show wz = _ from h]; exact (Below.refl _ _).drew
            · rw [show wz = _ from h]; exact ((Below.refl _ _).drew).alloc (Nat.le_refl _) _
            · rw [show wz = _ from h]; exact below4p (((Below.refl _ _).drew).alloc (Nat.le_refl _) _) (Nat.le_refl _) _ _ _ _
          exact ⟨(hbz.cell (p := ⟨gn, 1, none⟩) hgn).trans e1, (hbz.cell (p := ⟨gn, 2, none⟩) hgn).trans e2, (hbz.cell (p := ⟨gn, 3, none⟩) hgn).trans e3, (hbz.cell (p := ⟨gn, 4, none⟩) hgn).trans e4⟩
        have HSTB : Hid (∀ (d : Nat) (v : Value) (a : Act) (wz : World), ∀ q ∈ ([fun _ wz => wz = wr.drew, fun _ wz => wz = (wr.drew.alloc (.cells #[.int .i64 0, .int .i64 0, .int .i64 0, .int .i64 0] 27)), fun _ wz => wz = (((((wr.drew.alloc (.cells #[.int .i64 0, .int .i64 0, .int .i64 0, .int .i64 0] 27)).setCell ⟨wr.heap.size, 0, none⟩ (.int .i64 x1)).setCell ⟨wr.heap.size, 1, none⟩ (.int .i64 x2)).setCell ⟨wr.heap.size, 2, none⟩ (.int .i64 x3)).setCell ⟨wr.heap.size, 3, none⟩ (.int .i64 x4))] : List (Act → World → Prop)), q a wz → q (a.put (some d) v) wz) := fun d v a wz q hq h => by
          simp only [List.mem_cons, List.not_mem_nil, or_false] at hq
          rcases hq with rfl | rfl | rfl <;> exact h
        go_wp2_with fail
        refine wp_region_stagedL (I := Stg [fun _ wz => wz = wr.drew, fun _ wz => wz = (wr.drew.alloc (.cells #[.int .i64 0, .int .i64 0, .int .i64 0, .int .i64 0] 27)), fun _ wz => wz = (((((wr.drew.alloc (.cells #[.int .i64 0, .int .i64 0, .int .i64 0, .int .i64 0] 27)).setCell ⟨wr.heap.size, 0, none⟩ (.int .i64 x1)).setCell ⟨wr.heap.size, 1, none⟩ (.int .i64 x2)).setCell ⟨wr.heap.size, 2, none⟩ (.int .i64 x3)).setCell ⟨wr.heap.size, 3, none⟩ (.int .i64 x4))] [13, 14])
          (fs := #[⟨[46], fun vs _ => vs = [.slice (some ⟨gn, 0, none⟩) 6 cn]⟩, ⟨[47], fun vs _ => vs = [.pointer (some ⟨gn, 1, none⟩)]⟩, ⟨[48], fun vs _ => vs = [.int .i64 x1]⟩, ⟨[49], fun vs _ => vs = [.slice (some ⟨gn, 0, none⟩) 6 cn]⟩, ⟨[50], fun vs _ => vs = [.pointer (some ⟨gn, 2, none⟩)]⟩, ⟨[51], fun vs _ => vs = [.int .i64 x2]⟩, ⟨[52], fun vs _ => vs = [.slice (some ⟨gn, 0, none⟩) 6 cn]⟩, ⟨[53], fun vs _ => vs = [.pointer (some ⟨gn, 3, none⟩)]⟩, ⟨[54], fun vs _ => vs = [.int .i64 x3]⟩, ⟨[55], fun vs _ => vs = [.slice (some ⟨gn, 0, none⟩) 6 cn]⟩, ⟨[56], fun vs _ => vs = [.pointer (some ⟨gn, 4, none⟩)]⟩, ⟨[57], fun vs _ => vs = [.int .i64 x4]⟩, ⟨[58], fun vs _ => vs = [.agg #[.int .i64 x1, .int .i64 x2, .int .i64 x3, .int .i64 x4]]⟩, ⟨[12], fun vs _ => vs = [.pointer (some ⟨wr.heap.size, 0, none⟩)]⟩, ⟨[], fun _ _ => True⟩])
          (by kernel_rfl) 87 rfl (by kernel_rfl) ?stab ?start ?exec ?fin
        case stab =>
          intro k f hf
          have hk : k < 15 := (Array.getElem?_eq_some_iff.1 hf).1
          rcases (show k = 0 ∨ k = 1 ∨ k = 2 ∨ k = 3 ∨ k = 4 ∨ k = 5 ∨ k = 6 ∨ k = 7 ∨ k = 8 ∨ k = 9 ∨ k = 10 ∨ k = 11 ∨ k = 12 ∨ k = 13 ∨ k = 14 by omega) with rfl | rfl | rfl | rfl | rfl | rfl | rfl | rfl | rfl | rfl | rfl | rfl | rfl | rfl | rfl
          all_goals
            simp only [List.getElem?_toArray, List.getElem?_cons_succ, List.getElem?_cons_zero, Option.some.injEq] at hf
            subst hf
            exact fun _ _ _ h => h
        case start => exact Stg.mk' cnt_none rfl (rfl)
        case exec =>
          intro j o f hio hf ls act wq hls hsz hI hun hcl hold hpre
          have hj : j < 15 := (Array.getElem?_eq_some_iff.1 hio).1
          rcases (show j = 0 ∨ j = 1 ∨ j = 2 ∨ j = 3 ∨ j = 4 ∨ j = 5 ∨ j = 6 ∨ j = 7 ∨ j = 8 ∨ j = 9 ∨ j = 10 ∨ j = 11 ∨ j = 12 ∨ j = 13 ∨ j = 14 by omega) with rfl | rfl | rfl | rfl | rfl | rfl | rfl | rfl | rfl | rfl | rfl | rfl | rfl | rfl | rfl
          all_goals
            simp only [List.getElem?_toArray, List.getElem?_cons_succ, List.getElem?_cons_zero, Option.some.injEq] at hio hf
            subst hio hf
            refine ⟨rfl, ?_⟩
          · have g8 : act.tmps.getD 8 undef = .slice (some ⟨gn, 0, none⟩) 6 cn := hold 8 (free_spec (by kernel_rfl))
            refine exec_same (v := .slice (some ⟨gn, 0, none⟩) 6 cn) ?_ ⟨_, rfl, hI.read (by decide) (HSTB.out 46 _ _ _), at_one (by omega) rfl⟩
            simp [go_sem, Act.eval, g8]
          · have g46 : act.tmps.getD 46 undef = .slice (some ⟨gn, 0, none⟩) 6 cn := by have := of_one ((hpre ⟨0, .data⟩ (by simp) rfl).2 _ rfl); simpa using this
            refine exec_same (v := .pointer (some ⟨gn, 1, none⟩)) ?_ ⟨_, rfl, hI.read (by decide) (HSTB.out 47 _ _ _), at_one (by omega) rfl⟩
            simp [go_sem, Act.eval, g46]
          · have g47 : act.tmps.getD 47 undef = .pointer (some ⟨gn, 1, none⟩) := by have := of_one ((hpre ⟨1, .data⟩ (by simp) rfl).2 _ rfl); simpa using this
            obtain ⟨e1, e2, e3, e4⟩ := hI.every HCELL.out
            refine exec_same (v := .int .i64 x1) ?_ ⟨_, rfl, hI.read (by decide) (HSTB.out 48 _ _ _), at_one (by omega) rfl⟩
            simp [go_sem, Act.eval, g47, e1]
          · have g8 : act.tmps.getD 8 undef = .slice (some ⟨gn, 0, none⟩) 6 cn := hold 8 (free_spec (by kernel_rfl))
            refine exec_same (v := .slice (some ⟨gn, 0, none⟩) 6 cn) ?_ ⟨_, rfl, hI.read (by decide) (HSTB.out 49 _ _ _), at_one (by omega) rfl⟩
            simp [go_sem, Act.eval, g8]
          · have g49 : act.tmps.getD 49 undef = .slice (some ⟨gn, 0, none⟩) 6 cn := by have := of_one ((hpre ⟨3, .data⟩ (by simp) rfl).2 _ rfl); simpa using this
            refine exec_same (v := .pointer (some ⟨gn, 2, none⟩)) ?_ ⟨_, rfl, hI.read (by decide) (HSTB.out 50 _ _ _), at_one (by omega) rfl⟩
            simp [go_sem, Act.eval, g49]
          · have g50 : act.tmps.getD 50 undef = .pointer (some ⟨gn, 2, none⟩) := by have := of_one ((hpre ⟨4, .data⟩ (by simp) rfl).2 _ rfl); simpa using this
            obtain ⟨e1, e2, e3, e4⟩ := hI.every HCELL.out
            refine exec_same (v := .int .i64 x2) ?_ ⟨_, rfl, hI.read (by decide) (HSTB.out 51 _ _ _), at_one (by omega) rfl⟩
            simp [go_sem, Act.eval, g50, e2]
          · have g8 : act.tmps.getD 8 undef = .slice (some ⟨gn, 0, none⟩) 6 cn := hold 8 (free_spec (by kernel_rfl))
            refine exec_same (v := .slice (some ⟨gn, 0, none⟩) 6 cn) ?_ ⟨_, rfl, hI.read (by decide) (HSTB.out 52 _ _ _), at_one (by omega) rfl⟩
            simp [go_sem, Act.eval, g8]
          · have g52 : act.tmps.getD 52 undef = .slice (some ⟨gn, 0, none⟩) 6 cn := by have := of_one ((hpre ⟨6, .data⟩ (by simp) rfl).2 _ rfl); simpa using this
            refine exec_same (v := .pointer (some ⟨gn, 3, none⟩)) ?_ ⟨_, rfl, hI.read (by decide) (HSTB.out 53 _ _ _), at_one (by omega) rfl⟩
            simp [go_sem, Act.eval, g52]
          · have g53 : act.tmps.getD 53 undef = .pointer (some ⟨gn, 3, none⟩) := by have := of_one ((hpre ⟨7, .data⟩ (by simp) rfl).2 _ rfl); simpa using this
            obtain ⟨e1, e2, e3, e4⟩ := hI.every HCELL.out
            refine exec_same (v := .int .i64 x3) ?_ ⟨_, rfl, hI.read (by decide) (HSTB.out 54 _ _ _), at_one (by omega) rfl⟩
            simp [go_sem, Act.eval, g53, e3]
          · have g8 : act.tmps.getD 8 undef = .slice (some ⟨gn, 0, none⟩) 6 cn := hold 8 (free_spec (by kernel_rfl))
            refine exec_same (v := .slice (some ⟨gn, 0, none⟩) 6 cn) ?_ ⟨_, rfl, hI.read (by decide) (HSTB.out 55 _ _ _), at_one (by omega) rfl⟩
            simp [go_sem, Act.eval, g8]
          · have g55 : act.tmps.getD 55 undef = .slice (some ⟨gn, 0, none⟩) 6 cn := by have := of_one ((hpre ⟨9, .data⟩ (by simp) rfl).2 _ rfl); simpa using this
            refine exec_same (v := .pointer (some ⟨gn, 4, none⟩)) ?_ ⟨_, rfl, hI.read (by decide) (HSTB.out 56 _ _ _), at_one (by omega) rfl⟩
            simp [go_sem, Act.eval, g55]
          · have g56 : act.tmps.getD 56 undef = .pointer (some ⟨gn, 4, none⟩) := by have := of_one ((hpre ⟨10, .data⟩ (by simp) rfl).2 _ rfl); simpa using this
            obtain ⟨e1, e2, e3, e4⟩ := hI.every HCELL.out
            refine exec_same (v := .int .i64 x4) ?_ ⟨_, rfl, hI.read (by decide) (HSTB.out 57 _ _ _), at_one (by omega) rfl⟩
            simp [go_sem, Act.eval, g56, e4]
          · have g48 : act.tmps.getD 48 undef = .int .i64 x1 := by have := of_one ((hpre ⟨2, .data⟩ (by simp) rfl).2 _ rfl); simpa using this
            have g51 : act.tmps.getD 51 undef = .int .i64 x2 := by have := of_one ((hpre ⟨5, .data⟩ (by simp) rfl).2 _ rfl); simpa using this
            have g54 : act.tmps.getD 54 undef = .int .i64 x3 := by have := of_one ((hpre ⟨8, .data⟩ (by simp) rfl).2 _ rfl); simpa using this
            have g57 : act.tmps.getD 57 undef = .int .i64 x4 := by have := of_one ((hpre ⟨11, .data⟩ (by simp) rfl).2 _ rfl); simpa using this
            have g48' : act.tmps[48]?.getD undef = _ := (by simpa using g48)
            have g51' : act.tmps[51]?.getD undef = _ := (by simpa using g51)
            have g54' : act.tmps[54]?.getD undef = _ := (by simpa using g54)
            have g57' : act.tmps[57]?.getD undef = _ := (by simpa using g57)
            refine exec_same (v := .agg #[.int .i64 x1, .int .i64 x2, .int .i64 x3, .int .i64 x4]) ?_ ⟨_, rfl, hI.read (by decide) (HSTB.out 58 _ _ _), at_one (by omega) rfl⟩
            simp [go_sem, Act.eval, g48', g51', g54', g57']
          · have hcn := cnt_at (n := 2) hcl [13, 14] 0 13 (by kernel_rfl) (by decide) rfl hun (by rw [hls]; simp) (fun i d e hd => by cases e)
            have hW := hI.here hcn.1 rfl
            subst hW
            refine exec_made (v := .pointer (some ⟨wr.heap.size, 0, none⟩)) (w' := (wr.drew.alloc (.cells #[.int .i64 0, .int .i64 0, .int .i64 0, .int .i64 0] 27))) ?_ ⟨_, rfl, Stg.mk' hcn.2 rfl rfl, at_one (by omega) rfl⟩
            simp [go_sem, Act.eval, packetZero]
          · have g12 : act.tmps.getD 12 undef = .pointer (some ⟨wr.heap.size, 0, none⟩) := by have := of_one ((hpre ⟨13, .data⟩ (by simp) rfl).2 _ rfl); simpa using this
            have g58 : act.tmps.getD 58 undef = .agg #[.int .i64 x1, .int .i64 x2, .int .i64 x3, .int .i64 x4] := by have := of_one ((hpre ⟨12, .data⟩ (by simp) rfl).2 _ rfl); simpa using this
            have hcn := cnt_at (n := 2) hcl [13, 14] 1 14 (by kernel_rfl) (by decide) rfl hun (by rw [hls]; simp) (fun i d e hd => by (obtain rfl : i = 0 := (by omega)); (simp only [List.getElem?_cons_succ, List.getElem?_cons_zero, Option.some.injEq] at hd); (subst hd); exact pre_done (fun e he hb => (hpre e he hb).1) (by kernel_rfl))
            have hW := hI.here hcn.1 rfl
            subst hW
            refine exec_skip (w' := (((((wr.drew.alloc (.cells #[.int .i64 0, .int .i64 0, .int .i64 0, .int .i64 0] 27)).setCell ⟨wr.heap.size, 0, none⟩ (.int .i64 x1)).setCell ⟨wr.heap.size, 1, none⟩ (.int .i64 x2)).setCell ⟨wr.heap.size, 2, none⟩ (.int .i64 x3)).setCell ⟨wr.heap.size, 3, none⟩ (.int .i64 x4))) ?_ ⟨_, rfl, Stg.mk' hcn.2 rfl rfl, trivial⟩
            simp [go_sem, Act.eval, g12, g58, b0, b1, b2, b3, y0, y1, y2, y3]
        case fin =>
          intro zs ls wE hzl hall hI hF
          have hE := hI.here (cnt_all (fun c hc => hall c (by simp only [List.mem_cons, List.not_mem_nil, or_false] at hc; simp; omega))) rfl
          have h12 := of_one (hF 13 _ rfl)
          obtain ⟨t0, t1, t2, t3, t4, t5, t6, t7, t8, t9, t10, t11, t12, t13, t14, rfl⟩ := list15 zs hzl
          simp only [putAll, Act.put, List.setIfInBounds_toArray, List.set_cons_succ, List.set_cons_zero] at h12 ⊢
          have h12' : t13 = .pointer (some ⟨wr.heap.size, 0, none⟩) := by simpa using h12
          subst h12'
          have HBE : Hid (Below wr.heap.size wr wE) := by show Below _ _ _; rw [show wE = _ from hE]; exact below4p (((Below.refl _ _).drew).alloc (Nat.le_refl _) _) (Nat.le_refl _) _ _ _ _
          have HPX : Hid (wE.heap[wr.heap.size]? = some (.cells #[.int .i64 x1, .int .i64 x2, .int .i64 x3, .int .i64 x4] 27 (0, 0))) := by show _ = _; rw [show wE = _ from hE]; exact store4p hxN _ _ _ _
          clear hF hI hE hall h12 hzl HCELL HSTB hxN b0 b1 b2 b3 y0 y1 y2 y3
          have hgE : wr.heap.size < wE.heap.size := (Array.getElem?_eq_some_iff.1 HPX.out).1
          obtain ⟨S, hS0, hNE, HK⟩ := read_class wE
          have hkk : ∀ (s : Hw S) w', Below s.w.heap.size s.w w' → S w' := HK.out.2.1
          have l0 := HK.out.1 ⟨gn, 0, none⟩ _ (show gn < wE.heap.size by omega) ((HBE.out.cell (p := ⟨gn, 0, none⟩) hgn).trans e0)
          have l5 := HK.out.1 ⟨gn, 5, none⟩ _ (show gn < wE.heap.size by omega) ((HBE.out.cell (p := ⟨gn, 5, none⟩) hgn).trans e5)
          have m0 := HK.out.1 ⟨wr.heap.size, 0, none⟩ _ hgE ((cell_of_row _ _ 0 _ _ _ HPX.out).trans rfl)
          have m1 := HK.out.1 ⟨wr.heap.size, 1, none⟩ _ hgE ((cell_of_row _ _ 1 _ _ _ HPX.out).trans rfl)
          have m2 := HK.out.1 ⟨wr.heap.size, 2, none⟩ _ hgE ((cell_of_row _ _ 2 _ _ _ HPX.out).trans rfl)
          have m3 := HK.out.1 ⟨wr.heap.size, 3, none⟩ _ hgE ((cell_of_row _ _ 3 _ _ _ HPX.out).trans rfl)
          have HNE : Hid (∀ s : Hw S, s.w.heap[w.heap.size + 1]? = some (.cells #[.int .i64 0, .int .i64 0, .int .i64 0, .int .i64 0] 27 (0, 0))) := fun s => ((HK.out.2.2.2 s).block _ (by omega)).trans ((HBE.out.block _ hgw).trans HNW.out)
          have HWE : Hid (∀ s : Hw S, Below w.heap.size w s.w) := fun s => HWW.out.trans ((HBE.out.trans ((HK.out.2.2.2 s).mono HBE.out.size)).mono (by omega))
          have HPB : Hid (∀ s : Hw S, s.w.heap[wr.heap.size]? = some (.cells #[.int .i64 x1, .int .i64 x2, .int .i64 x3, .int .i64 x4] 27 (0, 0))) := fun s => ((HK.out.2.2.2 s).block _ hgE).trans HPX.out
          obtain ⟨B1a, B1b⟩ := B1
          obtain ⟨B2a, B2b⟩ := B2
          obtain ⟨B3a, B3b⟩ := B3
          obtain ⟨B4a, B4b⟩ := B4
          obtain ⟨dP, hdP⟩ : ∃ d, pkOk ⟨x1, x2, x3, x4⟩ = d := ⟨_, rfl⟩
          have HPK : Hid (∀ s : Hw S, Calls Try.prog 13 #[.agg #[.int .i64 x1, .int .i64 x2, .int .i64 x3, .int .i64 x4]] s.w fun e w' => e = .returned (.bool dP) ∧ Below s.w.heap.size s.w w') := fun s => by have := specPkOk_any ⟨x1, x2, x3, x4⟩ s.w; rw [hdP] at this; exact this
          rw [hdP] at HPE
          clear hdP
          by_cases h90 : x0 = 90
          · have hb90 : (x0 != 90) = false := by simp [h90]
            have HX0 : Hid (decide (x0 = 90) = true) := decide_eq_true h90
            clear h90
            cases dP
            · have HQ0 : Hid (G = Nd.zero ∧ E = false) := HZR.out (by rw [HPE.out, HX0.out]; rfl)
              go_wp2_with fail
              refine wp_region_held (S := S) (by kernel_rfl) (by kernel_rfl) hS0 ?_
              try simp only [List.append_eq, List.cons_append, List.nil_append]
              repeat (go_big_quiet_step ((go_at_call 13; exact Calls.held (HPK.out _) (hkk _))))
              refine wpQuiet_nil ?_
              rintro _ ⟨sw, rfl⟩
              have hN := HNE.out sw
              have hBW := HWE.out sw
              have hPB := HPB.out sw
              have p0 := 0
              clear p0 HK HNE HWE HPB HPK l0 l5 m0 m1 m2 m3 hPB
              have n0 : sw.w.cell? ⟨w.heap.size + 1, 0, none⟩ = some (.int .i64 0) := (cell_of_row _ _ 0 _ _ _ hN).trans rfl
              have n1 : sw.w.cell? ⟨w.heap.size + 1, 1, none⟩ = some (.int .i64 0) := (cell_of_row _ _ 1 _ _ _ hN).trans rfl
              have n2 : sw.w.cell? ⟨w.heap.size + 1, 2, none⟩ = some (.int .i64 0) := (cell_of_row _ _ 2 _ _ _ hN).trans rfl
              have n3 : sw.w.cell? ⟨w.heap.size + 1, 3, none⟩ = some (.int .i64 0) := (cell_of_row _ _ 3 _ _ _ hN).trans rfl
              have fz0 : sw.w.frozen? ⟨w.heap.size + 1, 0, none⟩ = false := frozen_of_row _ _ 0 _ _ hN
              have fz1 : sw.w.frozen? ⟨w.heap.size + 1, 1, none⟩ = false := frozen_of_row _ _ 1 _ _ hN
              have fz2 : sw.w.frozen? ⟨w.heap.size + 1, 2, none⟩ = false := frozen_of_row _ _ 2 _ _ hN
              have fz3 : sw.w.frozen? ⟨w.heap.size + 1, 3, none⟩ = false := frozen_of_row _ _ 3 _ _ hN
              have HBL : Hid _ := store4p hN (.int .i64 0) (.int .i64 0) (.int .i64 0) (.int .i64 0)
              have HE2 : Hid _ := below4p (g := w.heap.size + 1) hBW (by omega) (.int .i64 0) (.int .i64 0) (.int .i64 0) (.int .i64 0)
              go_wp2
              refine bodyPost_ret (res_cell2 rfl _ _ (w.heap.size + 1) 27 #[.int .i64 0, .int .i64 0, .int .i64 0, .int .i64 0] (0, 0) _ rfl ?_ Try.underlying27 rfl packetSizeS) rfl ?_
              · exact HBL.out
              · exact ⟨by rw [HQ0.out.1, HQ0.out.2]; rfl, HE2.out⟩
            · by_cases hsm : x5 = x1 + x2 + x3 + x4
              · have hbs : (x5 != x1 + x2 + x3 + x4) = false := by simp [hsm]
                have HQ0 : Hid (G = ⟨x1, x2, x3, x4⟩ ∧ E = true) := HPY.out (by rw [HPE.out, HX0.out, decide_eq_true hsm]; rfl)
                clear hsm
                go_wp2_with fail
                refine wp_region_held (S := S) (by kernel_rfl) (by kernel_rfl) hS0 ?_
                try simp only [List.append_eq, List.cons_append, List.nil_append]
                repeat (go_big_quiet_step ((go_at_call 13; exact Calls.held (HPK.out _) (hkk _))))
                refine wpQuiet_nil ?_
                rintro _ ⟨sw, rfl⟩
                have hN := HNE.out sw
                have hBW := HWE.out sw
                have hPB := HPB.out sw
                have p0 : sw.w.cell? ⟨wr.heap.size, 0, none⟩ = some (.int .i64 x1) := (cell_of_row _ _ 0 _ _ _ hPB).trans rfl
                have p1 : sw.w.cell? ⟨wr.heap.size, 1, none⟩ = some (.int .i64 x2) := (cell_of_row _ _ 1 _ _ _ hPB).trans rfl
                have p2 : sw.w.cell? ⟨wr.heap.size, 2, none⟩ = some (.int .i64 x3) := (cell_of_row _ _ 2 _ _ _ hPB).trans rfl
                have p3 : sw.w.cell? ⟨wr.heap.size, 3, none⟩ = some (.int .i64 x4) := (cell_of_row _ _ 3 _ _ _ hPB).trans rfl
                have n0 : sw.w.cell? ⟨w.heap.size + 1, 0, none⟩ = some (.int .i64 0) := (cell_of_row _ _ 0 _ _ _ hN).trans rfl
                have n1 : sw.w.cell? ⟨w.heap.size + 1, 1, none⟩ = some (.int .i64 0) := (cell_of_row _ _ 1 _ _ _ hN).trans rfl
                have n2 : sw.w.cell? ⟨w.heap.size + 1, 2, none⟩ = some (.int .i64 0) := (cell_of_row _ _ 2 _ _ _ hN).trans rfl
                have n3 : sw.w.cell? ⟨w.heap.size + 1, 3, none⟩ = some (.int .i64 0) := (cell_of_row _ _ 3 _ _ _ hN).trans rfl
                have fz0 : sw.w.frozen? ⟨w.heap.size + 1, 0, none⟩ = false := frozen_of_row _ _ 0 _ _ hN
                have fz1 : sw.w.frozen? ⟨w.heap.size + 1, 1, none⟩ = false := frozen_of_row _ _ 1 _ _ hN
                have fz2 : sw.w.frozen? ⟨w.heap.size + 1, 2, none⟩ = false := frozen_of_row _ _ 2 _ _ hN
                have fz3 : sw.w.frozen? ⟨w.heap.size + 1, 3, none⟩ = false := frozen_of_row _ _ 3 _ _ hN
                have HBL : Hid _ := store4p hN (.int .i64 x1) (.int .i64 x2) (.int .i64 x3) (.int .i64 x4)
                have HE2 : Hid _ := below4p (g := w.heap.size + 1) hBW (by omega) (.int .i64 x1) (.int .i64 x2) (.int .i64 x3) (.int .i64 x4)
                clear HK HNE HWE HPB HPK l0 l5 m0 m1 m2 m3 hPB hN
                go_wp2
                refine bodyPost_ret (res_cell2 rfl _ _ (w.heap.size + 1) 27 #[.int .i64 x1, .int .i64 x2, .int .i64 x3, .int .i64 x4] (0, 0) _ rfl ?_ Try.underlying27 rfl packetSizeS) rfl ?_
                · exact HBL.out
                · exact ⟨by rw [HQ0.out.1, HQ0.out.2]; rfl, HE2.out⟩
              · have hbs : (x5 != x1 + x2 + x3 + x4) = true := by simp [hsm]
                have HX5 : Hid (decide (x5 = x1 + x2 + x3 + x4) = false) := decide_eq_false hsm
                clear hsm
                have HQ0 : Hid (G = Nd.zero ∧ E = false) := HZR.out (by rw [HPE.out, HX0.out, HX5.out]; rfl)
                go_wp2_with fail
                refine wp_region_held (S := S) (by kernel_rfl) (by kernel_rfl) hS0 ?_
                try simp only [List.append_eq, List.cons_append, List.nil_append]
                repeat (go_big_quiet_step ((go_at_call 13; exact Calls.held (HPK.out _) (hkk _))))
                refine wpQuiet_nil ?_
                rintro _ ⟨sw, rfl⟩
                have hN := HNE.out sw
                have hBW := HWE.out sw
                have hPB := HPB.out sw
                have p0 := 0
                clear p0 HK HNE HWE HPB HPK l0 l5 m0 m1 m2 m3 hPB
                have n0 : sw.w.cell? ⟨w.heap.size + 1, 0, none⟩ = some (.int .i64 0) := (cell_of_row _ _ 0 _ _ _ hN).trans rfl
                have n1 : sw.w.cell? ⟨w.heap.size + 1, 1, none⟩ = some (.int .i64 0) := (cell_of_row _ _ 1 _ _ _ hN).trans rfl
                have n2 : sw.w.cell? ⟨w.heap.size + 1, 2, none⟩ = some (.int .i64 0) := (cell_of_row _ _ 2 _ _ _ hN).trans rfl
                have n3 : sw.w.cell? ⟨w.heap.size + 1, 3, none⟩ = some (.int .i64 0) := (cell_of_row _ _ 3 _ _ _ hN).trans rfl
                have fz0 : sw.w.frozen? ⟨w.heap.size + 1, 0, none⟩ = false := frozen_of_row _ _ 0 _ _ hN
                have fz1 : sw.w.frozen? ⟨w.heap.size + 1, 1, none⟩ = false := frozen_of_row _ _ 1 _ _ hN
                have fz2 : sw.w.frozen? ⟨w.heap.size + 1, 2, none⟩ = false := frozen_of_row _ _ 2 _ _ hN
                have fz3 : sw.w.frozen? ⟨w.heap.size + 1, 3, none⟩ = false := frozen_of_row _ _ 3 _ _ hN
                have HBL : Hid _ := store4p hN (.int .i64 0) (.int .i64 0) (.int .i64 0) (.int .i64 0)
                have HE2 : Hid _ := below4p (g := w.heap.size + 1) hBW (by omega) (.int .i64 0) (.int .i64 0) (.int .i64 0) (.int .i64 0)
                go_wp2
                refine bodyPost_ret (res_cell2 rfl _ _ (w.heap.size + 1) 27 #[.int .i64 0, .int .i64 0, .int .i64 0, .int .i64 0] (0, 0) _ rfl ?_ Try.underlying27 rfl packetSizeS) rfl ?_
                · exact HBL.out
                · exact ⟨by rw [HQ0.out.1, HQ0.out.2]; rfl, HE2.out⟩
          · have hb90 : (x0 != 90) = true := by simp [h90]
            have HX0 : Hid (decide (x0 = 90) = false) := decide_eq_false h90
            clear h90
            have HQ0 : Hid (G = Nd.zero ∧ E = false) := HZR.out (by rw [HPE.out, HX0.out]; rfl)
            go_wp2_with fail
            refine wp_region_held (S := S) (by kernel_rfl) (by kernel_rfl) hS0 ?_
            try simp only [List.append_eq, List.cons_append, List.nil_append]
            repeat (go_big_quiet_step ((go_at_call 13; exact Calls.held (HPK.out _) (hkk _))))
            refine wpQuiet_nil ?_
            rintro _ ⟨sw, rfl⟩
            have hN := HNE.out sw
            have hBW := HWE.out sw
            have hPB := HPB.out sw
            have p0 := 0
            clear p0 HK HNE HWE HPB HPK l0 l5 m0 m1 m2 m3 hPB
            have n0 : sw.w.cell? ⟨w.heap.size + 1, 0, none⟩ = some (.int .i64 0) := (cell_of_row _ _ 0 _ _ _ hN).trans rfl
            have n1 : sw.w.cell? ⟨w.heap.size + 1, 1, none⟩ = some (.int .i64 0) := (cell_of_row _ _ 1 _ _ _ hN).trans rfl
            have n2 : sw.w.cell? ⟨w.heap.size + 1, 2, none⟩ = some (.int .i64 0) := (cell_of_row _ _ 2 _ _ _ hN).trans rfl
            have n3 : sw.w.cell? ⟨w.heap.size + 1, 3, none⟩ = some (.int .i64 0) := (cell_of_row _ _ 3 _ _ _ hN).trans rfl
            have fz0 : sw.w.frozen? ⟨w.heap.size + 1, 0, none⟩ = false := frozen_of_row _ _ 0 _ _ hN
            have fz1 : sw.w.frozen? ⟨w.heap.size + 1, 1, none⟩ = false := frozen_of_row _ _ 1 _ _ hN
            have fz2 : sw.w.frozen? ⟨w.heap.size + 1, 2, none⟩ = false := frozen_of_row _ _ 2 _ _ hN
            have fz3 : sw.w.frozen? ⟨w.heap.size + 1, 3, none⟩ = false := frozen_of_row _ _ 3 _ _ hN
            have HBL : Hid _ := store4p hN (.int .i64 0) (.int .i64 0) (.int .i64 0) (.int .i64 0)
            have HE2 : Hid _ := below4p (g := w.heap.size + 1) hBW (by omega) (.int .i64 0) (.int .i64 0) (.int .i64 0) (.int .i64 0)
            go_wp2
            refine bodyPost_ret (res_cell2 rfl _ _ (w.heap.size + 1) 27 #[.int .i64 0, .int .i64 0, .int .i64 0, .int .i64 0] (0, 0) _ rfl ?_ Try.underlying27 rfl packetSizeS) rfl ?_
            · exact HBL.out
            · exact ⟨by rw [HQ0.out.1, HQ0.out.2]; rfl, HE2.out⟩
end Go.Proofs.Ytagjdhiicpglaaa
