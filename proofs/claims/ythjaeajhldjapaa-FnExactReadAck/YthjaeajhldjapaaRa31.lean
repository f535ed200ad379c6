/- What came, read from a text (chapter 31): ReadAck in plain words, and the specification's. -/
import Derived.Test.YthjaeajhldjapaaAck31
import Derived.Test.YthjaeajhldjapaaVarBack
import Derived.Test.YthjaeajhldjapaaReadW
import Derived.WalkKit
import Derived.WalkLawsBesides
import Derived.WalkSpells
import Derived.OwnWalk
import Derived.PlainAid
namespace Go.Proofs.Ythjaeajhldjapaa
open Go.RowKit Go.PlainAid
set_option maxRecDepth 20000
set_option linter.unusedVariables false
def nx (t : ByteArray) (p : Nat) : Int × Nat := match RV t (p : Int) with | none => (-1, p) | some (n, k) => (n, k)
def nxP (t : ByteArray) (p : Nat) : Nat → Nat | 0 => p | m + 1 => (nx t (nxP t p m)).2
def nxL (t : ByteArray) (p m : Nat) : List Int := (List.range m).map fun j => (nx t (nxP t p j)).1
theorem nxL_succ (t : ByteArray) (p m : Nat) : nxL t p (m + 1) = nxL t p m ++ [(nx t (nxP t p m)).1] := by
  unfold nxL; rw [List.range_succ, List.map_append]; rfl
theorem nxL_len (t : ByteArray) (p m : Nat) : (nxL t p m).length = m := by unfold nxL; simp
def raList (t : ByteArray) : List Int := nxL t (nx t 0).2 (min (nx t 0).1 100).toNat
def raOk (t : ByteArray) : Bool := ackOk (raList t) && decide (ackT (raList t) = t)
def raL (t : ByteArray) : List Int := if raOk t = true then raList t else []
theorem nx_some {t : ByteArray} {p : Nat} {n : Int} {k : Nat} (h : RV t (p : Int) = some (n, k)) : nx t p = (n, k) := by unfold nx; rw [h]
theorem nx_none {t : ByteArray} {p : Nat} (h : RV t (p : Int) = none) : nx t p = (-1, p) := by unfold nx; rw [h]
theorem raList_len (t : ByteArray) : (raList t).length ≤ 100 := by unfold raList; rw [nxL_len]; omega
theorem raL_len (t : ByteArray) : (raL t).length ≤ 2097152 := by
  unfold raL
  split
  · have := raList_len t; omega
  · simp
theorem ackN_pre (xs : List Int) (j : Nat) : ∀ d, ∃ r, ackN xs (j + d) = ackN xs j ++ r
  | 0 => ⟨[], by simp⟩
  | d + 1 => by
    obtain ⟨r, h⟩ := ackN_pre xs j d
    exact ⟨r ++ vb (xs.getD (j + d) 0).toNat, by rw [← Nat.add_assoc, ackN_succ, h, List.append_assoc]⟩
def ackP (xs : List Int) (j : Nat) : Nat := (strOfNums (ackN xs j)).size
theorem ack_first {xs : List Int} (hl : xs.length ≤ 100) {t : ByteArray} (h : strOfNums (ackN xs xs.length) = t) : RV t 0 = some ((xs.length : Int), ackP xs 0) := by
  obtain ⟨r, hr⟩ := ackN_pre xs 0 xs.length
  rw [Nat.zero_add] at hr
  have h1 := var_back (A := ⟨#[]⟩) (C := strOfNums r) (n := xs.length) (by omega)
  have e : (⟨#[]⟩ : ByteArray) ++ strOfNums (vb xs.length) ++ strOfNums r = t := by
    rw [← h, hr, ackN_zero, strApp]
    apply Go.WideShapes.bytes_inj
    simp only [dat_app]
    rfl
  rw [e] at h1
  have e0 : (⟨#[]⟩ : ByteArray).size = 0 := rfl
  rw [e0, Nat.zero_add] at h1
  unfold ackP
  rw [ackN_zero]
  exact h1
theorem ack_next {xs : List Int} (hl : xs.length ≤ 100) (hu : ∀ j, j < xs.length → upAt xs j) {t : ByteArray} (h : strOfNums (ackN xs xs.length) = t) {j : Nat} (hj : j < xs.length) : RV t (ackP xs j : Int) = some (xs.getD j 0, ackP xs (j + 1)) := by
  obtain ⟨r, hr⟩ := ackN_pre xs (j + 1) (xs.length - (j + 1))
  rw [show j + 1 + (xs.length - (j + 1)) = xs.length by omega, ackN_succ] at hr
  have hin := (hu j hj).1
  obtain ⟨q, hq⟩ := Int.eq_ofNat_of_zero_le hin.1
  have hq2 : (xs.getD j 0).toNat = q := by omega
  have h1 := var_back (A := strOfNums (ackN xs j)) (C := strOfNums r) (n := q) (by omega)
  have e : strOfNums (ackN xs j) ++ strOfNums (vb q) ++ strOfNums r = t := by rw [← h, hr, strApp, strApp, hq2]
  rw [e] at h1
  unfold ackP
  rw [h1, hq, ackN_succ, hq2, strApp, sz_app]
theorem ra_true {t : ByteArray} (h : raOk t = true) : ∃ m p0 : Nat, RV t 0 = some ((m : Int), p0) ∧ m ≤ 100 ∧ (∀ j, j < m → RV t (nxP t p0 j : Int) ≠ none) ∧ raList t = nxL t p0 m := by
  unfold raOk at h
  rw [Bool.and_eq_true] at h
  have hT := of_decide_eq_true h.2
  have hk := h.1
  have hall : ∃ xs : List Int, xs.length ≤ 100 ∧ (∀ j, j < xs.length → upAt xs j) ∧ strOfNums (ackN xs xs.length) = t := by
    generalize raList t = xs at hk hT
    obtain ⟨h1, h2, -, -⟩ := ack_true hk
    unfold ackT at hT
    rw [if_pos hk] at hT
    exact ⟨xs, h1, h2, hT⟩
  obtain ⟨xs, hl, hu, hx⟩ := hall
  have h0 := ack_first hl hx
  have hP : ∀ j, j ≤ xs.length → nxP t (ackP xs 0) j = ackP xs j := by
    intro j
    induction j with
    | zero => intro _; rfl
    | succ j ih =>
      intro hj
      show (nx t (nxP t (ackP xs 0) j)).2 = _
      rw [ih (by omega), nx_some (ack_next hl hu hx (by omega))]
  refine ⟨xs.length, ackP xs 0, h0, hl, fun j hj => ?_, ?_⟩
  · rw [hP j (by omega), ack_next hl hu hx hj]; simp
  · unfold raList
    rw [nx_some (show RV t ((0 : Nat) : Int) = _ from h0)]
    simp only []
    rw [show (min (xs.length : Int) 100).toNat = xs.length by omega]
theorem raList_of {t : ByteArray} {m p0 : Nat} (h0 : RV t 0 = some ((m : Int), p0)) (hm : m ≤ 100) : raList t = nxL t p0 m := by
  unfold raList
  rw [nx_some (show RV t ((0 : Nat) : Int) = _ from h0)]
  simp only []
  rw [show (min (m : Int) 100).toNat = m by omega]
theorem ra_no {t : ByteArray} (h : raOk t = false) : raL t = [] := by unfold raL; rw [if_neg (by rw [h]; simp)]
theorem ra_none {t : ByteArray} (h : RV t 0 = none) : raOk t = false := by
  cases hk : raOk t with
  | false => rfl
  | true => obtain ⟨m, p0, r0, -⟩ := ra_true hk; rw [h] at r0; cases r0
theorem ra_many {t : ByteArray} {n : Int} {k : Nat} (h : RV t 0 = some (n, k)) (hn : 100 < n) : raOk t = false := by
  cases hk : raOk t with
  | false => rfl
  | true => obtain ⟨m, p0, r0, hm, -⟩ := ra_true hk; rw [h] at r0; simp only [Option.some.injEq, Prod.mk.injEq] at r0; omega
theorem ra_stop {t : ByteArray} {n k j : Nat} (h : RV t 0 = some ((n : Int), k)) (hj : j < n) (hr : RV t (nxP t k j : Int) = none) : raOk t = false := by
  cases hk : raOk t with
  | false => rfl
  | true =>
    obtain ⟨m, p0, r0, hm, ha, -⟩ := ra_true hk
    rw [h] at r0
    simp only [Option.some.injEq, Prod.mk.injEq] at r0
    obtain ⟨e1, e2⟩ := r0
    subst e2
    exact absurd hr (ha j (by omega))
theorem own_as {w : World} {base k : Nat} {v : Value} {xs : List Int} (h : w.ownsRow base 3 1 v k (xs.map (Value.int .i64))) (hk : xs.length = k) : OwnInt base w v xs := by unfold OwnInt; rw [hk]; exact h
set_option maxHeartbeats 3200000 in
theorem specRa_any (t : ByteArray) (w : World) (hs : t.size ≤ 1048576) :
    Calls Try.prog 9 #[.string t] w fun e w' => ∃ v, e = .returned (.tuple #[v, .bool (raOk t)]) ∧ OwnInt w.heap.size w' v (raL t) ∧ Below w.heap.size w w' := by
  cases r0 : RV t 0 with
  | none =>
    have hk := ra_none r0
    rw [ra_no hk, hk]
    have H : Hid (∀ wz, _) := fun wz => specRead_none t 0 wz hs r0
    clear r0 hk
    go_enter Try.func9, Try.ntmps9
    go_wp2_with fail
    refine Calls.mono (H.out _) ?_
    rintro e w1 ⟨rfl, hb⟩
    have hsz := hb.size
    go_wp2
    go_ret2
    exact ⟨_, rfl, OwnInt.base (World.ownsRow_made _ _ _ (Nat.le_refl _) (by decide) rfl) hsz, hb.alloc hsz _⟩
  | some y =>
    obtain ⟨n, p0⟩ := y
    have H : Hid (∀ wz, _) := fun wz => specRead_some t 0 wz hs n p0 r0
    have hbd := RV_bd r0
    by_cases hn : n ≤ 100
    · obtain ⟨n, rfl⟩ := Int.eq_ofNat_of_zero_le hbd.1
      have hq : ¬ (100 : Int) < (n : Int) := by omega
      obtain ⟨i0, hi, hz0, hz1, hz2⟩ := info_parts infoIntS
      have HR0 : Hid _ := r0
      have HS : Hid _ := hs
      have HLS : Hid (raList t = nxL t p0 n) := raList_of r0 (by omega)
      clear r0 hbd hn
      go_enter Try.func9, Try.ntmps9
      go_wp2_with fail
      refine Calls.mono (H.out _) ?_
      rintro e w1 ⟨rfl, hb1⟩
      have hs1 := hb1.size
      have HB1 : Hid _ := hb1
      clear hb1
      go_wp2
      go_loopw [5, 7, 8] (fun at' v i wr => ∃ k : Nat, k ≤ n ∧ at' = .int .i64 ((nxP t p0 k : Nat) : Int) ∧ i = .int .i64 (k : Int) ∧ wr.ownsRow w1.heap.size 3 1 v k ((nxL t p0 k).map (Value.int .i64)) ∧ Below w1.heap.size w1 wr)
        (fun _ _ i _ => n - (intOf i).toNat)
      case atStart => exact ⟨0, Nat.zero_le _, rfl, rfl, World.ownsRow_made _ _ _ (Nat.le_refl _) (by decide) rfl, (Below.refl _ _).alloc (Nat.le_refl _) _⟩
      case round =>
        obtain ⟨k, hk, rfl, rfl, hown, hbel⟩ := hrel
        have hsz := hbel.size
        by_cases hlt : k < n
        · have hi1 : (k : Int) < (n : Int) := by omega
          have HO : Hid (World.ownsRow _ _ _ _ _ _ _) := hown
          clear hown
          cases r1 : RV t (nxP t p0 k : Int) with
          | none =>
            have hK := ra_stop HR0.out hlt r1
            have HE : Hid (raOk t = false ∧ raL t = []) := ⟨hK, ra_no hK⟩
            have H1 : Hid (∀ wz, _) := fun wz => specRead_none t (nxP t p0 k : Int) wz HS.out r1
            clear r1 hK
            generalize ((nxP t p0 k : Nat) : Int) = pk at H1
            go_wp2_with fail
            refine Calls.mono (H1.out _) ?_
            rintro e w2 ⟨rfl, hb2⟩
            have hB2 := HB1.out.trans ((hbel.trans (hb2.mono hsz)).mono hs1)
            have hsz2 := hB2.size
            clear hb2 hbel HO
            go_wp2
            go_ret2
            exact ⟨_, by rw [HE.out.1]; rfl, by rw [HE.out.2]; exact OwnInt.base (World.ownsRow_made _ _ _ (Nat.le_refl _) (by decide) rfl) hsz2, hB2.alloc hsz2 _⟩
          | some y1 =>
            obtain ⟨x, k1⟩ := y1
            have hnx := nx_some r1
            have HP : Hid (nxP t p0 (k + 1) = k1) := by show (nx t (nxP t p0 k)).2 = _; rw [hnx]
            have HX : Hid (nxL t p0 (k + 1) = nxL t p0 k ++ [x]) := by show _ = _; rw [nxL_succ, hnx]
            have HLN : Hid ((nxL t p0 k).length = k) := nxL_len t p0 k
            have H1 : Hid (∀ wz, _) := fun wz => specRead_some t (nxP t p0 k : Int) wz HS.out x k1 r1
            clear r1 hnx
            generalize ((nxP t p0 k : Nat) : Int) = pk at H1
            go_wp2_with fail
            refine Calls.mono (H1.out _) ?_
            rintro e w2 ⟨rfl, hb2⟩
            have ho2 := own_next HO.out hb2
            have hB2 := hbel.trans (hb2.mono hsz)
            have hsz2 := hB2.size
            clear hb2 hbel HO H1
            go_wp2_with (at_builtin; refine wpList_append_own _ rfl _ _ 22 rfl w1.heap.size 3 i0 (.int .i64 0) 1 8 Try.underlying22 hi hz0 hz1 hz2 rfl (by decide) _ _ _ rfl (ho2.alloc _) ⟨w2.heap.size, 0, none⟩ 1 1 [.int .i64 x] rfl rfl ?c1 ?c2 ?c3 ?c4 ?c5 ?_)
            case c1 => exact cell_one_new _ _ _
            case c2 => intro u hu; simp at hu; subst hu; rfl
            case c3 => unfold maxLen; omega
            case c4 => omega
            case c5 => simp; omega
            · intro v' w3 hown' hgrow _
              have hB := below_app ho2 hB2 hsz2 hgrow
              have ho : w3.ownsRow w1.heap.size 3 1 v' (k + 1) ((nxL t p0 (k + 1)).map (Value.int .i64)) := by rw [HX.out, List.map_append]; exact hown'
              clear hown' hgrow ho2 hB2
              go_wp2
              go_roundw
              case rel => exact ⟨k + 1, by omega, by rw [HP.out], by go_num, ho, hB⟩
              case measure => simp [intOf]; omega
        · obtain rfl : k = n := by omega
          have ho := own_as hown (nxL_len t p0 k)
          obtain ⟨a, cap, rfl, -, hr⟩ := ho.row
          have HO : Hid (OwnInt w1.heap.size wr _ _) := ho
          have hA : Hid (∀ wz, RowI wz.heap.size wz a (nxL t p0 k) → _) := fun wz hrz => specAck_any a cap (nxL t p0 k) wz (by rw [nxL_len]; omega) hrz
          have HK : Hid (raOk t = (ackOk (nxL t p0 k) && decide (ackT (nxL t p0 k) = t))) := by show _ = _; unfold raOk; rw [HLS.out]
          have HQ : Hid (raOk t = true → raL t = nxL t p0 k) := fun h => by unfold raL; rw [if_pos h, HLS.out]
          have HL2 : Hid ((nxL t p0 k).length = k) := nxL_len t p0 k
          have HA : Hid _ := hA.out wr hr
          have HBB : Hid _ := hbel
          clear hown hA hr ho hbel HLS
          generalize nxL t p0 k = xs at HO HK HQ HL2 HA ⊢
          cases hk1 : ackOk xs with
          | false =>
            have HE : Hid (raOk t = false ∧ raL t = []) := by
              have : raOk t = false := by rw [HK.out, hk1]; rfl
              exact ⟨this, ra_no this⟩
            rw [hk1] at HA
            clear hk1 HK HQ
            generalize ackT xs = s at HA
            go_wp2_with fail
            refine Calls.mono HA.out ?_
            rintro e w2 ⟨rfl, hb2⟩
            have hB2 := HB1.out.trans ((HBB.out.trans (hb2.mono hsz)).mono hs1)
            have hsz2 := hB2.size
            clear hb2 HA HBB
            go_wp2
            go_ret2
            exact ⟨_, by rw [HE.out.1]; rfl, by rw [HE.out.2]; exact OwnInt.base (World.ownsRow_made _ _ _ (Nat.le_refl _) (by decide) rfl) hsz2, hB2.alloc hsz2 _⟩
          | true =>
            rw [hk1] at HA
            by_cases hT : ackT xs = t
            · have hok : raOk t = true := by rw [HK.out, hk1, decide_eq_true hT]; rfl
              have HE : Hid (raOk t = true ∧ raL t = xs) := ⟨hok, HQ.out hok⟩
              rw [hT] at HA
              clear hk1 HK HQ hT hok
              go_wp2_with fail
              refine Calls.mono HA.out ?_
              rintro e w2 ⟨rfl, hb2⟩
              have hB2 := HB1.out.trans ((HBB.out.trans (hb2.mono hsz)).mono hs1)
              have HO2 : Hid (OwnInt _ _ _ _) := OwnInt.base (HO.out.later hb2) hs1
              rw [HL2.out] at HO2 ⊢
              clear hb2 HA HBB HO
              go_wp2
              go_ret2
              exact ⟨_, by rw [HE.out.1]; rfl, by rw [HE.out.2]; exact HO2.out, hB2⟩
            · have HE : Hid (raOk t = false ∧ raL t = []) := by
                have : raOk t = false := by rw [HK.out, hk1, decide_eq_false hT]; rfl
                exact ⟨this, ra_no this⟩
              clear hk1 HK HQ
              generalize ackT xs = s at HA hT
              have hq5 : (s.toList == t.toList) = false := by
                rw [beq_eq_false_iff_ne, ByteArray.toList_eq, ByteArray.toList_eq]
                exact fun e => hT (Go.WideShapes.bytes_inj e)
              clear hT
              go_wp2_with fail
              refine Calls.mono HA.out ?_
              rintro e w2 ⟨rfl, hb2⟩
              have hB2 := HB1.out.trans ((HBB.out.trans (hb2.mono hsz)).mono hs1)
              have hsz2 := hB2.size
              clear hb2 HA HBB
              go_wp2
              go_ret2
              exact ⟨_, by rw [HE.out.1]; rfl, by rw [HE.out.2]; exact OwnInt.base (World.ownsRow_made _ _ _ (Nat.le_refl _) (by decide) rfl) hsz2, hB2.alloc hsz2 _⟩
    · have hk := ra_many r0 (by omega)
      rw [ra_no hk, hk]
      have hq : (100 : Int) < n := by omega
      clear r0 hk hbd hn
      go_enter Try.func9, Try.ntmps9
      go_wp2_with fail
      refine Calls.mono (H.out _) ?_
      rintro e w1 ⟨rfl, hb⟩
      have hsz := hb.size
      go_wp2
      go_ret2
      exact ⟨_, rfl, OwnInt.base (World.ownsRow_made _ _ _ (Nat.le_refl _) (by decide) rfl) hsz, hb.alloc hsz _⟩
end Go.Proofs.Ythjaeajhldjapaa
