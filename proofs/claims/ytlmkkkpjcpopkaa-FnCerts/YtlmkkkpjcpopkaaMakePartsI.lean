/- The contract of chapter 4's Parts, the program's. -/
import Derived.Test.YtlmkkkpjcpopkaaMakeParts
import Derived.WalkKit
import Derived.WalkLawsBesides
import Derived.WalkSpells
import Derived.OwnWalk
import Derived.Laws.OwnMore
import Derived.Laws.Rows
namespace Go.Proofs.Ytlmkkkpjcpopkaa
open Go.RowKit
set_option linter.unusedVariables false
/-- A slice's length. -/
def lenOf : Value → Nat
  | .slice _ m _ => m
  | _ => 0
set_option maxHeartbeats 1600000 in
theorem isAtom_any (a : Option Addr) (cap : Nat) (ns : List Nd) (x n : Int) (w : World) (hl : ns.length ≤ 1048576) (hr : RowN w.heap.size w a ns) :
    Calls Try.prog 139 #[.agg #[.slice a ns.length cap], .int .i64 x, .int .i64 n] w fun e w' => e = .returned (.bool (isK ns x 1 && decide (numV ns x = n))) ∧ Below w.heap.size w w' := by
  have hb0 : Below w.heap.size w (w.alloc (.cells #[.slice a ns.length cap] 26)) := (Below.refl _ _).alloc (Nat.le_refl _) _
  have H : Hid _ := implNum_any a cap ns x _ hl (hr.grown hb0)
  have HB0 : Hid (Below w.heap.size w (w.alloc (.cells #[.slice a ns.length cap] 26))) := hb0
  generalize numV ns x = m at H ⊢
  have hs0 : (w.alloc (.cells #[.slice a ns.length cap] 26)).heap.size = w.heap.size + 1 := by simp
  cases hk : isK ns x 1 with
  | false =>
    rw [hk] at H
    clear hr hb0
    go_enter Try.func139, Try.ntmps139
    go_wp2_with fail
    refine Calls.mono H.out ?_
    rintro e w1 ⟨rfl, hb1⟩
    have HB : Hid (Below w.heap.size w w1) := HB0.out.trans (hb1.mono (by omega))
    clear hb1 H
    go_wp2
    go_ret
    exact ⟨rfl, HB.out⟩
  | true =>
    rw [hk] at H
    clear hr hb0
    go_enter Try.func139, Try.ntmps139
    go_wp2_with fail
    refine Calls.mono H.out ?_
    rintro e w1 ⟨rfl, hb1⟩
    have HB : Hid (Below w.heap.size w w1) := HB0.out.trans (hb1.mono (by omega))
    clear hb1 H
    go_wp2
    go_ret
    exact ⟨by rw [show decide (m = n) = (m == n) from Bool.eq_iff_iff.2 (by simp)]; rfl, HB.out⟩
set_option maxHeartbeats 1600000 in
set_option maxRecDepth 20000 in
theorem implParts_any (a : Option Addr) (cap : Nat) (ns : List Nd) (k0 n : Int) (w : World) (hl : ns.length ≤ 1048576) (hr : RowN w.heap.size w a ns) :
    Calls Try.prog 140 #[.agg #[.slice a ns.length cap], .int .i64 k0, .int .i64 n] w fun e w' => ∃ v, e = .returned (.tuple #[v, .bool (partsB ns k0 n)]) ∧ OwnInt w.heap.size w' v (partsV ns k0 n) ∧ Below w.heap.size w w' := by
  obtain ⟨i0, hi, hz0, hz1, hz2⟩ := info_parts infoIntS
  have HR : Hid (RowN w.heap.size w a ns) := hr
  clear hr
  obtain ⟨V, HV, hV⟩ : ∃ V, Hid (partsV ns k0 n = V) ∧ partsV ns k0 n = V := ⟨_, rfl, rfl⟩
  obtain ⟨Q, HQ, hQ⟩ : ∃ Q, Hid (partsB ns k0 n = Q) ∧ partsB ns k0 n = Q := ⟨_, rfl, rfl⟩
  rw [hV, hQ]
  clear hV hQ
  have HEM : Hid (∀ wz, OwnInt w.heap.size wz (.slice none 0 0) []) := fun wz => ⟨rfl, .inl ⟨rfl, rfl⟩⟩
  go_enter Try.func140, Try.ntmps140
  go_wp2
  go_loopw [1, 8] (fun k v wr => ∃ (m : Nat) (kk : Int) (xs : List Int) (av : Option Addr) (cv : Nat), v = .slice av m cv ∧ k = .int .i64 kk ∧ Hid (xs.length = m ∧ (m = 0 ∨ (m : Int) ≤ n) ∧ m ≤ ns.length ∧ (0 < m → kk + (m : Int) ≤ (ns.length : Int))) ∧ wr.ownsRow (w.heap.size + 1) 3 1 v m (xs.map (Value.int .i64)) ∧ Hid (partsN ns n.toNat k0 = (partsN ns (n.toNat - m) kk).map (xs ++ ·)) ∧ Below w.heap.size w wr ∧ wr.cell? ⟨w.heap.size, 0, none⟩ = some (.slice a ns.length cap) ∧ w.heap.size < wr.heap.size)
    (fun _ v _ => n.toNat - lenOf v)
  case atStart => exact ⟨0, k0, [], none, 0, rfl, rfl, ⟨rfl, .inl rfl, Nat.zero_le _, fun h => by omega⟩, ⟨rfl, .inl ⟨rfl, rfl⟩⟩, by show _ = _; simp, (Below.refl _ _).alloc (Nat.le_refl _) _, by rw [cell_of_row _ w.heap.size 0 _ _ _ (heap_alloc_new w _)]; rfl, by simp⟩
  case round =>
    obtain ⟨m, kk, xs, av, cv, rfl, rfl, HM, hown, HP, hbel, hcA, hsz⟩ := hrel
    have hbs := hbel.size
    have hml := HM.out.2.2.1
    by_cases hlt : (m : Int) < n
    · cases h2 : isK ns kk 2 with
      | false =>
        have H2 : Hid _ := implAt_no 2 a cap ns kk wr hl (HR.out.grown hbel) h2
        have HN : Hid (V = [] ∧ Q = false) := by
          have e : partsR ns k0 n = none := by
            unfold partsR
            rw [if_neg (by omega), HP.out]
            obtain ⟨d, hd⟩ : ∃ d, n.toNat - m = d + 1 := ⟨n.toNat - m - 1, by omega⟩
            rw [hd, partsN, if_neg (by simp [h2])]; rfl
          exact ⟨HV.out ▸ (parts_none e).1, HQ.out ▸ (parts_none e).2⟩
        clear HM HP h2 hown
        go_wp2_with fail
        refine Calls.mono H2.out ?_
        rintro e w1 ⟨rfl, hb1⟩
        have hs1 := hb1.size
        have HE : Hid (Below w.heap.size w (w1.alloc (.cells #[.int .i64 0, .int .i64 0, .int .i64 0, .int .i64 0] 112))) := (hbel.trans (hb1.mono hbs)).alloc (by omega) _
        clear hb1 H2 hcA
        go_wp2
        go_ret2
        exact ⟨_, by rw [HN.out.2]; rfl, by rw [HN.out.1]; exact HEM.out _, HE.out⟩
      | true =>
        have H2 : Hid _ := implAt_yes 2 a cap ns kk wr hl (HR.out.grown hbel) h2
        have hkid := isK_kids h2
        have HNX : Hid (partsN ns n.toNat k0 = (partsN ns (n.toNat - (m + 1)) (ndAt ns kk).b).map ((xs ++ [(ndAt ns kk).a]) ++ ·)) := by
          show _ = _
          rw [HP.out]
          obtain ⟨d, hd⟩ : ∃ d, n.toNat - m = d + 1 := ⟨n.toNat - m - 1, by omega⟩
          rw [hd, partsN_next h2, show n.toNat - (m + 1) = d by omega, Option.map_map]
          congr 1
          funext ys
          simp
        generalize ndAt ns kk = y at HNX hkid H2
        have hkb : y.b + ((m + 1 : Nat) : Int) ≤ (ns.length : Int) := by have := HM.out.2.2.2; omega
        have hm1 : m + 1 ≤ ns.length := by omega
        have HOW : Hid (wr.ownsRow (w.heap.size + 1) 3 1 (.slice av m cv) m (xs.map (Value.int .i64))) := hown
        have HX : Hid (xs.length = m) := HM.out.1
        clear HM HP h2 hown hml
        go_wp2_with fail
        refine Calls.mono H2.out ?_
        rintro e w1 ⟨rfl, hb1⟩
        have hs1 := hb1.size
        have hbn : Below w1.heap.size w1 (w1.alloc (.cells #[.int .i64 y.k, .int .i64 y.n, .int .i64 y.a, .int .i64 y.b] 112)) := (Below.refl _ _).alloc (Nat.le_refl _) _
        have hbw : Below wr.heap.size wr (w1.alloc (.cells #[.int .i64 y.k, .int .i64 y.n, .int .i64 y.a, .int .i64 y.b] 112)) := hb1.trans (hbn.mono hs1)
        have ho1 := own_next HOW.out hbw
        have hA1 := (hbw.cell (p := ⟨w.heap.size, 0, none⟩) hsz).trans hcA
        have hw1 := hbel.trans (hbw.mono hbs)
        have hnn := heap_alloc_new w1 (.cells #[.int .i64 y.k, .int .i64 y.n, .int .i64 y.a, .int .i64 y.b] 112)
        have q2 : (w1.alloc (.cells #[.int .i64 y.k, .int .i64 y.n, .int .i64 y.a, .int .i64 y.b] 112)).cell? ⟨w1.heap.size, 2, none⟩ = some (.int .i64 y.a) := (cell_of_row _ _ 2 _ _ _ hnn).trans rfl
        have hsz1 : w.heap.size < (w1.alloc (.cells #[.int .i64 y.k, .int .i64 y.n, .int .i64 y.a, .int .i64 y.b] 112)).heap.size := by simp; omega
        have hlo : ∀ g, (Value.slice av m cv).ownBlock = some g → g < w1.heap.size := fun g hg => Nat.lt_of_lt_of_le (World.ownsRow.lt HOW.out g hg).2 hs1
        have hwn : w1.heap.size < (w1.alloc (.cells #[.int .i64 y.k, .int .i64 y.n, .int .i64 y.a, .int .i64 y.b] 112)).heap.size := by simp
        clear hb1 H2 HOW hcA hbel hbn hbw
        go_wp2_with (at_builtin; refine wpList_append_own _ rfl _ _ 40 rfl (w.heap.size + 1) 3 i0 (.int .i64 0) 1 8 Try.underlying40 hi hz0 hz1 hz2 rfl (by decide) _ _ _ rfl (ho1.alloc _) ⟨w1.heap.size + 1, 0, none⟩ 1 1 [.int .i64 y.a] rfl rfl ?c1 ?c2 ?c3 ?c4 ?c5 ?_)
        case c1 =>
          have := cell_one_new (w1.alloc (.cells #[.int .i64 y.k, .int .i64 y.n, .int .i64 y.a, .int .i64 y.b] 112)) (.int .i64 y.a) 3
          simpa using this
        case c2 => intro u hu; simp at hu; subst hu; rfl
        case c3 => unfold maxLen; omega
        case c4 => omega
        case c5 => simp; omega
        intro v' w2 hown' hgrow _
        obtain ⟨hB2, hA2, hs2⟩ := app_step ho1 hw1 hA1 hsz1 hgrow
        have hn2 : w2.heap[w1.heap.size]? = some (.cells #[.int .i64 y.k, .int .i64 y.n, .int .i64 y.a, .int .i64 y.b] 112 (0, 0)) := by
          rw [hgrow.block w1.heap.size (by simp; omega) (fun e => by have := hlo _ e.symm; omega), heap_alloc_old _ _ hwn]
          exact hnn
        have q3 : w2.cell? ⟨w1.heap.size, 3, none⟩ = some (.int .i64 y.b) := (cell_of_row _ _ 3 _ _ _ hn2).trans rfl
        have HO : Hid (w2.ownsRow (w.heap.size + 1) 3 1 v' (m + 1) ((xs ++ [y.a]).map (Value.int .i64))) := by show World.ownsRow _ _ _ _ _ _ _; rw [List.map_append]; exact hown'
        obtain ⟨av', cv', rfl⟩ : ∃ av' cv', v' = .slice av' (m + 1) cv' := by
          rcases HO.out.2 with ⟨rfl, h0⟩ | ⟨g, cap', cur, rfl, _⟩
          · omega
          · exact ⟨_, _, rfl⟩
        clear hown' hgrow ho1 q2 hA1 hnn hn2
        go_wp2
        go_roundw
        case rel => exact ⟨m + 1, y.b, xs ++ [y.a], av', cv', rfl, rfl, ⟨by simp [HX.out], .inr (by omega), hm1, fun _ => hkb⟩, HO.out, HNX.out, hB2, hA2, hs2⟩
        case measure => simp [lenOf] <;> omega
    · have HN1 : Hid _ := isAtom_any a cap ns kk 0 wr hl (HR.out.grown hbel)
      obtain ⟨q, hqq⟩ : ∃ q, (isK ns kk 1 && decide (numV ns kk = 0)) = q := ⟨_, rfl⟩
      have HF : Hid (V = (if q = true ∧ ¬ n < 0 then xs else []) ∧ Q = decide (q = true ∧ ¬ n < 0)) := by
        by_cases hn : n < 0
        · have e : partsR ns k0 n = none := by unfold partsR; rw [if_pos hn]
          rw [if_neg (fun h => h.2 hn), decide_eq_false (fun h => h.2 hn)]
          exact ⟨HV.out ▸ (parts_none e).1, HQ.out ▸ (parts_none e).2⟩
        · have e0 : partsR ns k0 n = (partsN ns 0 kk).map (xs ++ ·) := by
            unfold partsR
            rw [if_neg hn, HP.out, show n.toNat - m = 0 by omega]
          rw [partsN] at e0
          by_cases hc : isK ns kk 1 = true ∧ (ndAt ns kk).n = 0
          · rw [if_pos hc] at e0
            have hz : q = true := by rw [← hqq]; unfold numV; rw [if_pos hc.1, hc.1, decide_eq_true hc.2]; rfl
            rw [if_pos ⟨hz, hn⟩, decide_eq_true ⟨hz, hn⟩]
            have e : partsR ns k0 n = some xs := by rw [e0]; simp
            exact ⟨HV.out ▸ (parts_some e).1, HQ.out ▸ (parts_some e).2⟩
          · rw [if_neg hc] at e0
            have hx : ¬ (q = true ∧ ¬ n < 0) := fun h => hc (by
              have h1 := h.1
              rw [← hqq, Bool.and_eq_true, decide_eq_true_eq] at h1
              refine ⟨h1.1, ?_⟩
              have h2 := h1.2
              unfold numV at h2; rw [if_pos h1.1] at h2; exact h2)
            rw [if_neg hx, decide_eq_false hx]
            exact ⟨HV.out ▸ (parts_none e0).1, HQ.out ▸ (parts_none e0).2⟩
      have HOW : Hid (wr.ownsRow (w.heap.size + 1) 3 1 (.slice av m cv) m (xs.map (Value.int .i64))) := hown
      have HX : Hid (xs.length = m) := HM.out.1
      rw [hqq] at HN1
      clear hqq HP HM hown
      obtain ⟨x1, x2⟩ := HF.out
      clear HF
      by_cases hn : n < 0
      · have HG : Hid (V = [] ∧ Q = false) := ⟨by rw [x1, if_neg (fun h => h.2 hn)], by rw [x2, decide_eq_false (fun h => h.2 hn)]⟩
        have HB1 : Hid _ := hbel
        clear x1 x2 HN1 hcA HOW hbel
        go_wp2
        go_ret2
        exact ⟨_, by rw [HG.out.2]; rfl, by rw [HG.out.1]; exact HEM.out _, HB1.out⟩
      · cases q
        · have HG : Hid (V = [] ∧ Q = false) := ⟨by rw [x1, if_neg (by simp)], by rw [x2]; simp⟩
          clear x1 x2
          go_wp2_with fail
          refine Calls.mono HN1.out ?_
          rintro e w1 ⟨rfl, hb1⟩
          have HB1 : Hid (Below w.heap.size w w1) := hbel.trans (hb1.mono hbs)
          clear hb1 HN1 hcA HOW hbel
          go_wp2
          go_ret2
          exact ⟨_, by rw [HG.out.2]; rfl, by rw [HG.out.1]; exact HEM.out _, HB1.out⟩
        · have HG : Hid (V = xs ∧ Q = true) := ⟨by rw [x1, if_pos ⟨rfl, hn⟩], by rw [x2, decide_eq_true ⟨rfl, hn⟩]⟩
          clear x1 x2
          go_wp2_with fail
          refine Calls.mono HN1.out ?_
          rintro e w1 ⟨rfl, hb1⟩
          have HO1 : Hid (OwnInt w.heap.size w1 (.slice av m cv) xs) := by
            show World.ownsRow _ _ _ _ _ _ _
            rw [HX.out]; exact own_base (own_next HOW.out hb1) (by omega)
          have HB1 : Hid (Below w.heap.size w w1) := hbel.trans (hb1.mono hbs)
          clear hb1 HN1 hcA HOW hbel
          go_wp2
          go_ret2
          exact ⟨_, by rw [HG.out.2]; rfl, by rw [HG.out.1]; exact HO1.out, HB1.out⟩
end Go.Proofs.Ytlmkkkpjcpopkaa
