/- The contracts of chapter 4's Parts, the specification's and the program's. -/
import Derived.Test.YtnjihmailppjkaaMakeIs
import Derived.Test.YtnjihmailppjkaaLawKeep
import Derived.Test.YtnjihmailppjkaaPlainText
import Derived.WalkKit
import Derived.WalkLawsBesides
import Derived.WalkSpells
import Derived.OwnWalk
import Derived.Laws.OwnMore
import Derived.Laws.Rows
namespace Go.Proofs.Ytnjihmailppjkaa
open Go.RowKit
set_option linter.unusedVariables false

/-- The terms of a list of so many. -/
def partsN (ns : List Nd) : Nat → Int → Option (List Int)
  | 0, k => if isK ns k 1 = true ∧ (ndAt ns k).n = 0 then some [] else none
  | m + 1, k => if isK ns k 2 = true then (partsN ns m (ndAt ns k).b).map ((ndAt ns k).a :: ·) else none
def partsR (ns : List Nd) (k n : Int) : Option (List Int) := if n < 0 then none else partsN ns n.toNat k
def partsV (ns : List Nd) (k n : Int) : List Int := (partsR ns k n).getD []
def partsB (ns : List Nd) (k n : Int) : Bool := (partsR ns k n).isSome
theorem isK_kids {ns : List Nd} {k : Int} (h : isK ns k 2 = true) : 0 ≤ k ∧ k < (ns.length : Int) ∧ 0 ≤ (ndAt ns k).b ∧ (ndAt ns k).b < k := by
  obtain ⟨h1, h2⟩ := isK_ok h
  have h3 : okAt ns k = true := h1
  unfold okAt at h1
  rw [Bool.and_eq_true] at h1
  have h4 := inB_true h1.1
  have h5 : nodeB (ndAt ns k) k = true := h1.2
  rcases nodeB_true h5 with h | h | h
  · omega
  · have := h.2.2.2.2.2.1; rw [h2] at this; exact absurd this (by decide)
  · omega
theorem partsN_next {ns : List Nd} {m : Nat} {k : Int} (h : isK ns k 2 = true) : partsN ns (m + 1) k = (partsN ns m (ndAt ns k).b).map ((ndAt ns k).a :: ·) := by rw [partsN, if_pos h]
theorem parts_none {ns : List Nd} {k n : Int} (h : partsR ns k n = none) : partsV ns k n = [] ∧ partsB ns k n = false := by unfold partsV partsB; rw [h]; exact ⟨rfl, rfl⟩
theorem parts_some {ns : List Nd} {k n : Int} {xs : List Int} (h : partsR ns k n = some xs) : partsV ns k n = xs ∧ partsB ns k n = true := by unfold partsV partsB; rw [h]; exact ⟨rfl, rfl⟩
theorem partsN_len (ns : List Nd) : ∀ (m : Nat) (k : Int) (xs : List Int), partsN ns m k = some xs → xs.length = m ∧ ((m : Int) ≤ k ∨ m = 0)
  | 0, k, xs, h => by
    rw [partsN] at h
    split at h
    · simp at h; subst h; exact ⟨rfl, .inr rfl⟩
    · simp at h
  | m + 1, k, xs, h => by
    rw [partsN] at h
    split at h
    · rename_i h1
      have hk := isK_kids h1
      cases hp : partsN ns m (ndAt ns k).b with
      | none => rw [hp] at h; simp at h
      | some ys =>
        rw [hp] at h
        simp at h
        subst h
        have := partsN_len ns m _ ys hp
        exact ⟨by simp [this.1], by omega⟩
    · simp at h
theorem partsV_len (ns : List Nd) (k n : Int) : (partsV ns k n).length ≤ ns.length := by
  cases h : partsR ns k n with
  | none => rw [(parts_none h).1]; exact Nat.zero_le _
  | some xs =>
    rw [(parts_some h).1]
    unfold partsR at h
    split at h
    · simp at h
    · cases hm : n.toNat with
      | zero => rw [hm] at h; have := partsN_len ns 0 k xs h; omega
      | succ m =>
        rw [hm] at h
        have h2 := partsN_len ns (m + 1) k xs h
        rw [partsN] at h
        split at h
        · rename_i h3; have := isK_kids h3; omega
        · simp at h

set_option maxHeartbeats 1600000 in
set_option maxRecDepth 20000 in
theorem specParts_any (a : Option Addr) (cap : Nat) (ns : List Nd) (k0 n : Int) (w : World) (hl : ns.length ≤ 1048576) (hr : RowN w.heap.size w a ns) :
    Calls Try.prog 63 #[.agg #[.slice a ns.length cap], .int .i64 k0, .int .i64 n] w fun e w' => ∃ v, e = .returned (.tuple #[v, .bool (partsB ns k0 n)]) ∧ OwnInt w.heap.size w' v (partsV ns k0 n) ∧ Below w.heap.size w w' := by
  obtain ⟨i0, hi, hz0, hz1, hz2⟩ := info_parts infoIntS
  have HR : Hid (RowN w.heap.size w a ns) := hr
  clear hr
  obtain ⟨V, HV, hV⟩ : ∃ V, Hid (partsV ns k0 n = V) ∧ partsV ns k0 n = V := ⟨_, rfl, rfl⟩
  obtain ⟨Q, HQ, hQ⟩ : ∃ Q, Hid (partsB ns k0 n = Q) ∧ partsB ns k0 n = Q := ⟨_, rfl, rfl⟩
  rw [hV, hQ]
  clear hV hQ
  have empty : ∀ (wz : World), w.heap.size ≤ wz.heap.size → Below w.heap.size w wz → OwnInt w.heap.size (wz.alloc (.cells #[] 3)) (.slice (some ⟨wz.heap.size, 0, none⟩) 0 0) [] ∧ Below w.heap.size w (wz.alloc (.cells #[] 3)) := fun wz hs hb => by
    refine ⟨?_, hb.alloc hs _⟩
    exact ⟨rfl, .inr ⟨wz.heap.size, 0, #[], rfl, hs, heap_alloc_new wz _, Nat.le_refl _, by decide, rfl, rfl⟩⟩
  have HEM : Hid _ := empty
  clear empty
  go_enter Try.func63, Try.ntmps63
  go_wp2
  go_loopw [1, 8, 9] (fun k v i wr => ∃ (m : Nat) (kk : Int) (xs : List Int), i = .int .i64 (m : Int) ∧ k = .int .i64 kk ∧ Hid (xs.length = m ∧ (m = 0 ∨ (m : Int) ≤ n) ∧ m ≤ ns.length ∧ (0 < m → kk + (m : Int) ≤ (ns.length : Int))) ∧ wr.ownsRow (w.heap.size + 1) 3 1 v m (xs.map (Value.int .i64)) ∧ Hid (partsN ns n.toNat k0 = (partsN ns (n.toNat - m) kk).map (xs ++ ·)) ∧ Below w.heap.size w wr ∧ wr.cell? ⟨w.heap.size, 0, none⟩ = some (.slice a ns.length cap) ∧ w.heap.size < wr.heap.size)
    (fun _ _ i _ => n.toNat - (intOf i).toNat)
  case atStart => exact ⟨0, k0, [], rfl, rfl, ⟨rfl, .inl rfl, Nat.zero_le _, fun h => by omega⟩, by have := World.ownsRow_made (w.alloc (.cells #[.slice a ns.length cap] 39)) #[] 0 (base := w.heap.size + 1) (e := 3) (size := 1) (by simp) (by decide) rfl; simpa using this, by show _ = _; simp, ((Below.refl _ _).alloc (Nat.le_refl _) _).alloc (by simp) _, by rw [cell_of_row _ w.heap.size 0 _ _ _ ((heap_alloc_old _ _ (by simp)).trans (heap_alloc_new w _))]; rfl, by simp; omega⟩
  case round =>
    obtain ⟨m, kk, xs, rfl, rfl, HM, hown, HP, hbel, hcA, hsz⟩ := hrel
    have hbs := hbel.size
    have hml := HM.out.2.2.1
    by_cases hlt : (m : Int) < n
    · cases h2 : isK ns kk 2 with
      | false =>
        have H2 : Hid _ := specIs_any a cap ns kk 2 wr hl (HR.out.grown hbel)
        rw [h2] at H2
        have HN : Hid (V = [] ∧ Q = false) := by
          have e : partsR ns k0 n = none := by
            unfold partsR
            rw [if_neg (by omega), HP.out]
            obtain ⟨d, hd⟩ : ∃ d, n.toNat - m = d + 1 := ⟨n.toNat - m - 1, by omega⟩
            rw [hd, partsN, if_neg (by simp [h2])]; rfl
          exact ⟨HV.out ▸ (parts_none e).1, HQ.out ▸ (parts_none e).2⟩
        clear HM HP h2 hown
        go_wp2_with fail
        refine Calls.mono H2.out ?_
        rintro e w1 ⟨rfl, hb1⟩
        have HE : Hid _ := HEM.out w1 (by have := hb1.size; omega) (hbel.trans (hb1.mono hbs))
        clear hb1 H2 hcA HEM
        go_wp2
        go_ret2
        exact ⟨_, by rw [HN.out.2]; rfl, by rw [HN.out.1]; exact HE.out.1, HE.out.2⟩
      | true =>
        have H2 : Hid _ := specIs_any a cap ns kk 2 wr hl (HR.out.grown hbel)
        rw [h2] at H2
        have hkid := isK_kids h2
        have HNX : Hid (partsN ns n.toNat k0 = (partsN ns (n.toNat - (m + 1)) (ndAt ns kk).b).map ((xs ++ [(ndAt ns kk).a]) ++ ·)) := by
          show _ = _
          rw [HP.out]
          obtain ⟨d, hd⟩ : ∃ d, n.toNat - m = d + 1 := ⟨n.toNat - m - 1, by omega⟩
          rw [hd, partsN_next h2, show n.toNat - (m + 1) = d by omega, Option.map_map]
          congr 1
          funext ys
          simp
        obtain ⟨p, rfl, hp⟩ := okAt_in (isK_ok h2).1
        obtain ⟨b, off, rfl⟩ := HR.out.addr hp
        obtain ⟨hb, -, -, c2, c3⟩ := HR.out.at hbel hp
        rw [← ndAt_nat] at c2 c3
        have hp0 : (0 : Int) ≤ (p : Int) := by omega
        have hp1 : (p : Int) < (ns.length : Int) := by omega
        generalize ndAt ns (p : Int) = y at c2 c3 HNX hkid
        have hkb : y.b + ((m + 1 : Nat) : Int) ≤ (ns.length : Int) := by have := HM.out.2.2.2; omega
        have hm1 : m + 1 ≤ ns.length := by omega
        have HOW : Hid (wr.ownsRow (w.heap.size + 1) 3 1 u8 m (xs.map (Value.int .i64))) := hown
        have HX : Hid (xs.length = m) := HM.out.1
        clear HM HP h2 hown hml
        go_wp2_with fail
        refine Calls.mono H2.out ?_
        rintro e w1 ⟨rfl, hb1⟩
        have hs1 := hb1.size
        have ho1 := own_next HOW.out hb1
        have hA1 := (hb1.cell (p := ⟨w.heap.size, 0, none⟩) hsz).trans hcA
        have hw1 := hbel.trans (hb1.mono hbs)
        have q2 := (hb1.cell (Nat.lt_of_lt_of_le hb hbs)).trans c2
        have HC3 : Hid _ := (hb1.cell (Nat.lt_of_lt_of_le hb hbs)).trans c3
        have hsz1 : w.heap.size < w1.heap.size := by omega
        clear hb1 H2 HOW c2 c3 hcA hbel
        go_wp2_with (at_builtin; refine wpList_append_own _ rfl _ _ 102 rfl (w.heap.size + 1) 3 i0 (.int .i64 0) 1 8 Try.underlying102 hi hz0 hz1 hz2 rfl (by decide) _ _ _ rfl (ho1.alloc _) ⟨w1.heap.size, 0, none⟩ 1 1 [.int .i64 y.a] rfl rfl ?c1 ?c2 ?c3 ?c4 ?c5 ?_)
        case c1 => exact cell_one_new _ _ _
        case c2 => intro u hu; simp at hu; subst hu; rfl
        case c3 => unfold maxLen; omega
        case c4 => omega
        case c5 => simp; omega
        intro v' w2 hown' hgrow _
        obtain ⟨hB2, hA2, hs2⟩ := app_step ho1 hw1 hA1 hsz1 hgrow
        have q3 : w2.cell? ⟨b, off + p * 4 + 3, none⟩ = some (.int .i64 y.b) := by
          have hB12 : Below (w.heap.size + 1) w1 w2 := below_app ho1 (Below.refl _ _) hsz1 hgrow
          exact (hB12.cell (p := ⟨b, off + p * 4 + 3, none⟩) (show b < w.heap.size + 1 by omega)).trans HC3.out
        have HO : Hid (w2.ownsRow (w.heap.size + 1) 3 1 v' (m + 1) ((xs ++ [y.a]).map (Value.int .i64))) := by show World.ownsRow _ _ _ _ _ _ _; rw [List.map_append]; exact hown'
        clear hown' hgrow ho1 q2 hA1
        go_wp2
        go_roundw
        case rel => exact ⟨m + 1, y.b, xs ++ [y.a], by go_num, rfl, ⟨by simp [HX.out], .inr (by omega), hm1, fun _ => hkb⟩, HO.out, HNX.out, hB2, hA2, hs2⟩
        case measure => simp [intOf] <;> omega
    · have HN1 : Hid _ := specNum_any a cap ns kk wr hl (HR.out.grown hbel)
      obtain ⟨r, hrr⟩ : ∃ r, isK ns kk 1 = r := ⟨_, rfl⟩
      obtain ⟨z, hzz⟩ : ∃ z, numV ns kk = z := ⟨_, rfl⟩
      have HF : Hid (V = (if r = true ∧ z = 0 ∧ ¬ n < 0 then xs else []) ∧ Q = decide (r = true ∧ z = 0 ∧ ¬ n < 0)) := by
        by_cases hn : n < 0
        · have e : partsR ns k0 n = none := by unfold partsR; rw [if_pos hn]
          rw [if_neg (fun h => h.2.2 hn), decide_eq_false (fun h => h.2.2 hn)]
          exact ⟨HV.out ▸ (parts_none e).1, HQ.out ▸ (parts_none e).2⟩
        · have e0 : partsR ns k0 n = (partsN ns 0 kk).map (xs ++ ·) := by
            unfold partsR
            rw [if_neg hn, HP.out, show n.toNat - m = 0 by omega]
          rw [partsN] at e0
          by_cases hc : isK ns kk 1 = true ∧ (ndAt ns kk).n = 0
          · rw [if_pos hc] at e0
            have hz : z = 0 := by rw [← hzz]; unfold numV; rw [if_pos hc.1]; exact hc.2
            rw [if_pos ⟨by rw [← hrr]; exact hc.1, hz, hn⟩, decide_eq_true ⟨by rw [← hrr]; exact hc.1, hz, hn⟩]
            have e : partsR ns k0 n = some xs := by rw [e0]; simp
            exact ⟨HV.out ▸ (parts_some e).1, HQ.out ▸ (parts_some e).2⟩
          · rw [if_neg hc] at e0
            have hx : ¬ (r = true ∧ z = 0 ∧ ¬ n < 0) := fun h => hc ⟨by rw [hrr]; exact h.1, by have := h.2.1; rw [← hzz] at this; unfold numV at this; rw [if_pos (by rw [hrr]; exact h.1)] at this; exact this⟩
            rw [if_neg hx, decide_eq_false hx]
            exact ⟨HV.out ▸ (parts_none e0).1, HQ.out ▸ (parts_none e0).2⟩
      have HOW : Hid (wr.ownsRow (w.heap.size + 1) 3 1 u8 m (xs.map (Value.int .i64))) := hown
      have HX : Hid (xs.length = m) := HM.out.1
      rw [hrr, hzz] at HN1
      clear hrr hzz HP HM hown
      obtain ⟨x1, x2⟩ := HF.out
      clear HF
      cases r
      · have HG : Hid (V = [] ∧ Q = false) := ⟨by rw [x1, if_neg (by simp)], by rw [x2]; simp⟩
        clear x1 x2
        go_wp2_with fail
        refine Calls.mono HN1.out ?_
        rintro e w1 ⟨rfl, hb1⟩
        have hB1 : Below w.heap.size w w1 := hbel.trans (hb1.mono hbs)
        have HE : Hid _ := HEM.out w1 (by have := hb1.size; omega) hB1
        have HO1 : Hid (OwnInt w.heap.size w1 u8 xs) := by
          show World.ownsRow _ _ _ _ _ _ _
          rw [HX.out]; exact own_base (own_next HOW.out hb1) (by omega)
        have HB1 : Hid _ := hB1
        clear hb1 HN1 hcA HEM HOW hB1 hbel
        go_wp2
        go_ret2
        exact ⟨_, by rw [HG.out.2]; rfl, by rw [HG.out.1]; exact HE.out.1, HE.out.2⟩
      · by_cases hz : z = 0
        · subst hz
          by_cases hn : n < 0
          · have HG : Hid (V = [] ∧ Q = false) := ⟨by rw [x1, if_neg (fun h => h.2.2 hn)], by rw [x2, decide_eq_false (fun h => h.2.2 hn)]⟩
            clear x1 x2
            go_wp2_with fail
            refine Calls.mono HN1.out ?_
            rintro e w1 ⟨rfl, hb1⟩
            have hB1 : Below w.heap.size w w1 := hbel.trans (hb1.mono hbs)
            have HE : Hid _ := HEM.out w1 (by have := hb1.size; omega) hB1
            have HO1 : Hid (OwnInt w.heap.size w1 u8 xs) := by
              show World.ownsRow _ _ _ _ _ _ _
              rw [HX.out]; exact own_base (own_next HOW.out hb1) (by omega)
            have HB1 : Hid _ := hB1
            clear hb1 HN1 hcA HEM HOW hB1 hbel
            go_wp2
            go_ret2
            exact ⟨_, by rw [HG.out.2]; rfl, by rw [HG.out.1]; exact HE.out.1, HE.out.2⟩
          · have HG : Hid (V = xs ∧ Q = true) := ⟨by rw [x1, if_pos ⟨rfl, rfl, hn⟩], by rw [x2, decide_eq_true ⟨rfl, rfl, hn⟩]⟩
            clear x1 x2
            go_wp2_with fail
            refine Calls.mono HN1.out ?_
            rintro e w1 ⟨rfl, hb1⟩
            have hB1 : Below w.heap.size w w1 := hbel.trans (hb1.mono hbs)
            have HE : Hid _ := HEM.out w1 (by have := hb1.size; omega) hB1
            have HO1 : Hid (OwnInt w.heap.size w1 u8 xs) := by
              show World.ownsRow _ _ _ _ _ _ _
              rw [HX.out]; exact own_base (own_next HOW.out hb1) (by omega)
            have HB1 : Hid _ := hB1
            clear hb1 HN1 hcA HEM HOW hB1 hbel
            go_wp2
            go_ret2
            exact ⟨_, by rw [HG.out.2]; rfl, by rw [HG.out.1]; exact HO1.out, HB1.out⟩
        · have hz' : (z != 0) = true := by simp [hz]
          have HG : Hid (V = [] ∧ Q = false) := ⟨by rw [x1, if_neg (fun h => hz h.2.1)], by rw [x2, decide_eq_false (fun h => hz h.2.1)]⟩
          clear x1 x2
          go_wp2_with fail
          refine Calls.mono HN1.out ?_
          rintro e w1 ⟨rfl, hb1⟩
          have hB1 : Below w.heap.size w w1 := hbel.trans (hb1.mono hbs)
          have HE : Hid _ := HEM.out w1 (by have := hb1.size; omega) hB1
          have HO1 : Hid (OwnInt w.heap.size w1 u8 xs) := by
            show World.ownsRow _ _ _ _ _ _ _
            rw [HX.out]; exact own_base (own_next HOW.out hb1) (by omega)
          have HB1 : Hid _ := hB1
          clear hb1 HN1 hcA HEM HOW hB1 hbel
          go_wp2
          go_ret2
          exact ⟨_, by rw [HG.out.2]; rfl, by rw [HG.out.1]; exact HE.out.1, HE.out.2⟩
end Go.Proofs.Ytnjihmailppjkaa
