/- What came, read from a text (chapter 31): ReadAck, the program's. -/
import Derived.Test.YthjaeajhldjapaaRa31
import Derived.Test.YthjaeajhldjapaaArrW
import Derived.WalkKit
import Derived.WalkLawsBesides
import Derived.WalkSpells
import Derived.OwnWalk
import Derived.PlainAid
import Derived.Deep.Cut
namespace Go.Proofs.Ythjaeajhldjapaa
open Go.RowKit Go.PlainAid
set_option maxRecDepth 20000
set_option linter.unusedVariables false
theorem numbersIn_any (t : ByteArray) (w : World) :
    Calls Try.prog 19 #[.string t] w fun e w' => e = .returned (.func (.func 25) #[] #[.pointer (some ⟨w.heap.size, 0, none⟩), .pointer (some ⟨w.heap.size + 1, 0, none⟩)]) ∧ w' = (w.alloc (.cells #[.string t] 9)).alloc (.cells #[.int .i64 0] 3) := by
  go_enter Try.func19, Try.ntmps19
  go_wp2
  go_ret
  exact ⟨rfl, rfl⟩
theorem nextIn_any (t : ByteArray) (g g1 p : Nat) (w : World) (hs : t.size ≤ 1048576) (hG : w.heap[g]? = some (.cells #[.string t] 9 (0, 0))) (hG1 : w.heap[g1]? = some (.cells #[.int .i64 (p : Int)] 3 (0, 0))) :
    Calls Try.prog 25 #[.pointer (some ⟨g, 0, none⟩), .pointer (some ⟨g1, 0, none⟩)] w fun e w' => e = .returned (.int .i64 (nx t p).1) ∧ w.grownBy w' (some g1) ∧ w'.heap[g1]? = some (.cells #[.int .i64 (((nx t p).2 : Nat) : Int)] 3 (0, 0)) := by
  have c0 : w.cell? ⟨g, 0, none⟩ = some (.string t) := (cell_of_row _ _ 0 _ _ _ hG).trans rfl
  have c1 : w.cell? ⟨g1, 0, none⟩ = some (.int .i64 (p : Int)) := (cell_of_row _ _ 0 _ _ _ hG1).trans rfl
  have f1 : w.frozen? ⟨g1, 0, none⟩ = false := frozen_of_row _ _ 0 _ _ hG1
  cases r : RV t (p : Int) with
  | none =>
    have H : Hid (∀ wz, _) := fun wz => implRead_none t (p : Int) wz hs r
    rw [nx_none r]
    have HG1 : Hid _ := hG1
    clear r hG hG1
    go_enter Try.func25, Try.ntmps25
    go_wp2_with fail
    refine Calls.mono (H.out _) ?_
    rintro e w1 ⟨rfl, rfl⟩
    go_wp2
    go_ret
    exact ⟨rfl, gb_refl _ _, HG1.out⟩
  | some y =>
    obtain ⟨n, k⟩ := y
    have H : Hid (∀ wz, _) := fun wz => implRead_some t (p : Int) wz hs n k r
    rw [nx_some r]
    have HC : Hid (w.grownBy (w.setCell ⟨g1, 0, none⟩ (.int .i64 (k : Int))) (some g1)) := gb_cell w g1 0 _
    have HS : Hid ((w.setCell ⟨g1, 0, none⟩ (.int .i64 (k : Int))).heap[g1]? = some (.cells #[.int .i64 (k : Int)] 3 (0, 0))) := (heap_setCell_same w g1 0 _ _ _ hG1).trans rfl
    clear r hG hG1
    go_enter Try.func25, Try.ntmps25
    go_wp2_with fail
    refine Calls.mono (H.out _) ?_
    rintro e w1 ⟨rfl, rfl⟩
    go_wp2
    go_ret
    exact ⟨rfl, HC.out, HS.out⟩
theorem below_gbi {B : Nat} {w w1 w2 : World} {g : Nat} (h : Below B w w1) (hB : B ≤ w1.heap.size) (h' : w1.grownBy w2 (some g)) (hg : B ≤ g) : Below B w w2 := h.grown h' hB (fun k hk => by cases hk; exact hg)
set_option maxHeartbeats 3200000 in
theorem implRa_any (t : ByteArray) (w : World) (hs : t.size ≤ 1048576) :
    Calls Try.prog 10 #[.string t] w fun e w' => ∃ v, e = .returned (.tuple #[v, .bool (raOk t)]) ∧ OwnInt w.heap.size w' v (raL t) ∧ Below w.heap.size w w' := by
  obtain ⟨i0, hi, hz0, hz1, hz2⟩ := info_parts infoIntS
  have HN : Hid _ := numbersIn_any t w
  have HX : Hid (∀ g g1 p wz, _) := fun g g1 p wz => nextIn_any t g g1 p wz hs
  have hA0 : ((w.alloc (.cells #[.string t] 9)).alloc (.cells #[.int .i64 0] 3)).heap[w.heap.size]? = some (.cells #[.string t] 9 (0, 0)) := (heap_alloc_old _ _ (by simp)).trans (heap_alloc_new w _)
  have hA1 : ((w.alloc (.cells #[.string t] 9)).alloc (.cells #[.int .i64 0] 3)).heap[w.heap.size + 1]? = some (.cells #[.int .i64 ((0 : Nat) : Int)] 3 (0, 0)) := by
    have := heap_alloc_new (w.alloc (.cells #[.string t] 9)) (.cells #[.int .i64 0] 3)
    simpa using this
  have hB0 : Below w.heap.size w ((w.alloc (.cells #[.string t] 9)).alloc (.cells #[.int .i64 0] 3)) := ((Below.refl _ _).alloc (Nat.le_refl _) _).alloc (by simp) _
  have HLS : Hid (raList t = nxL t (nx t 0).2 (min (nx t 0).1 100).toNat) := rfl
  clear hs
  go_enter Try.func10, Try.ntmps10
  go_wp2_with fail
  refine Calls.mono HN.out ?_
  rintro e w2 ⟨rfl, rfl⟩
  generalize ((w.alloc (.cells #[.string t] 9)).alloc (.cells #[.int .i64 0] 3)) = w2 at hA0 hA1 hB0 ⊢
  clear HN
  go_wp2_with fail
  refine Calls.mono (HX.out _ _ 0 w2 hA0 hA1) ?_
  rintro e w3 ⟨rfl, hg, hA3⟩
  have l0 : w.heap.size < w2.heap.size := (Array.getElem?_eq_some_iff.1 hA0).1
  have hB3 : Below w.heap.size w w3 := below_gbi hB0 hB0.size hg (by omega)
  have hS3 : w3.heap[w.heap.size]? = some (.cells #[.string t] 9 (0, 0)) := (hg.block _ l0 (by simp)).trans hA0
  have l3 : w.heap.size + 1 < w3.heap.size := (Array.getElem?_eq_some_iff.1 hA3).1
  clear hg hB0 hA0 hA1 l0
  generalize (nx t 0).2 = p0 at HLS hA3
  generalize (nx t 0).1 = n0 at HLS ⊢
  by_cases hm : n0 ≤ 100
  · obtain ⟨c, hc⟩ : ∃ c : Nat, c = n0.toNat := ⟨_, rfl⟩
    rw [show (min n0 100).toNat = c by omega] at HLS
    have hc100 : c ≤ 100 := by omega
    go_wp2
    go_loopw [5, 13] (fun v i wr => ∃ k : Nat, k ≤ c ∧ i = .int .i64 (k : Int) ∧ wr.ownsRow w3.heap.size 3 1 v k ((nxL t p0 k).map (Value.int .i64)) ∧ wr.heap[w.heap.size]? = some (.cells #[.string t] 9 (0, 0)) ∧ wr.heap[w.heap.size + 1]? = some (.cells #[.int .i64 ((nxP t p0 k : Nat) : Int)] 3 (0, 0)) ∧ Below w.heap.size w wr ∧ w3.heap.size ≤ wr.heap.size)
      (fun _ i _ => c - (intOf i).toNat)
    case atStart => exact ⟨0, Nat.zero_le _, rfl, World.ownsRow_nil _ _ _ _, hS3, hA3, hB3, Nat.le_refl _⟩
    case round =>
      obtain ⟨k, hk, rfl, hown, hg0, hg1, hbel, hsz⟩ := hrel
      by_cases hlt : k < c
      · have hi1 : (k : Int) < n0 := by omega
        have HP : Hid (nxP t p0 (k + 1) = (nx t (nxP t p0 k)).2) := rfl
        have HLX : Hid (nxL t p0 (k + 1) = nxL t p0 k ++ [(nx t (nxP t p0 k)).1]) := nxL_succ t p0 k
        have HLN : Hid ((nxL t p0 k).length = k) := nxL_len t p0 k
        have HO : Hid (World.ownsRow _ _ _ _ _ _ _) := hown
        clear hown
        go_wp2_with fail
        refine Calls.mono (HX.out _ _ (nxP t p0 k) wr hg0 hg1) ?_
        rintro e w5 ⟨rfl, hg, hA5⟩
        have hb5 : Below w.heap.size w w5 := below_gbi hbel hbel.size hg (by omega)
        have hs5 : w3.heap.size ≤ w5.heap.size := Nat.le_trans hsz hg.size
        have hS5 : w5.heap[w.heap.size]? = some (.cells #[.string t] 9 (0, 0)) := (hg.block _ (by omega) (by simp)).trans hg0
        have ho5 : w5.ownsRow w3.heap.size 3 1 _ k ((nxL t p0 k).map (Value.int .i64)) := HO.out.kept hg (Or.inr (fun e => by have := (HO.out.lt _ e).1; omega))
        rw [← HP.out] at hA5
        generalize (nx t (nxP t p0 k)).1 = x at HLX ⊢
        clear hg hg0 hg1 hbel HO hsz
        go_wp2_with (at_builtin; refine wpList_append_own _ rfl _ _ 22 rfl w3.heap.size 3 i0 (.int .i64 0) 1 8 Try.underlying22 hi hz0 hz1 hz2 rfl (by decide) _ _ _ rfl (ho5.alloc _) ⟨w5.heap.size, 0, none⟩ 1 1 [.int .i64 x] rfl rfl ?c1 ?c2 ?c3 ?c4 ?c5 ?_)
        case c1 => exact cell_one_new _ _ _
        case c2 => intro u hu; simp at hu; subst hu; rfl
        case c3 => unfold maxLen; omega
        case c4 => omega
        case c5 => simp; omega
        · intro v' w6 hown' hgrow _
          have hB6 : Below w3.heap.size w5 w6 := below_app ho5 (Below.refl _ _) hs5 hgrow
          have hS6 := (hB6.block _ (show w.heap.size < w3.heap.size by omega)).trans hS5
          have hA6 := (hB6.block _ l3).trans hA5
          have hb6 : Below w.heap.size w w6 := hb5.trans (hB6.mono (by omega))
          have hs6 : w3.heap.size ≤ w6.heap.size := Nat.le_trans hs5 hB6.size
          have ho : w6.ownsRow w3.heap.size 3 1 v' (k + 1) ((nxL t p0 (k + 1)).map (Value.int .i64)) := by rw [HLX.out, List.map_append]; exact hown'
          clear hown' hgrow ho5 hB6 hS5 hA5 hb5 hs5
          go_wp2
          go_roundw
          case rel => exact ⟨k + 1, by omega, by go_num, ho, hS6, hA6, hb6, hs6⟩
          case measure => simp [intOf]; omega
      · obtain rfl : k = c := by omega
        have hi1 : ¬ (k : Int) < n0 := by omega
        clear hc
        have ho := own_as hown (nxL_len t p0 k)
        obtain ⟨a, cap, rfl, -, hr⟩ := ho.row
        have HO : Hid (OwnInt w3.heap.size wr _ _) := ho
        have HK : Hid (raOk t = (ackOk (nxL t p0 k) && decide (ackT (nxL t p0 k) = t))) := by show _ = _; unfold raOk; rw [HLS.out]
        have HQ : Hid (raOk t = true → raL t = nxL t p0 k) := fun h => by unfold raL; rw [if_pos h, HLS.out]
        have HL2 : Hid ((nxL t p0 k).length = k) := nxL_len t p0 k
        have HA : Hid _ := implAck_any a cap (nxL t p0 k) wr (by rw [nxL_len]; omega) hr
        have HBB : Hid _ := hbel
        have hszw := hbel.size
        have hw3 : w.heap.size ≤ w3.heap.size := by omega
        clear hown hr ho hbel HLS hg0 hg1
        generalize nxL t p0 k = xs at HO HK HQ HL2 HA ⊢
        cases hk1 : ackOk xs with
        | false =>
          have HE : Hid (raOk t = false ∧ raL t = []) := by
            have : raOk t = false := by rw [HK.out, hk1]; rfl
            exact ⟨this, ra_no this⟩
          rw [hk1] at HA
          clear hk1 HK HQ
          generalize ackT xs = s at HA
          go_wp2_with fail
          refine Calls.mono HA.out ?_
          rintro e w8 ⟨rfl, hb8⟩
          have hB8 := HBB.out.trans (hb8.mono hszw)
          clear hb8 HA HBB
          go_wp2
          go_ret2
          exact ⟨_, by rw [HE.out.1]; rfl, by rw [HE.out.2]; exact World.ownsRow_nil _ _ _ _, hB8⟩
        | true =>
          rw [hk1] at HA
          by_cases hT : ackT xs = t
          · have hok : raOk t = true := by rw [HK.out, hk1, decide_eq_true hT]; rfl
            have HE : Hid (raOk t = true ∧ raL t = xs) := ⟨hok, HQ.out hok⟩
            rw [hT] at HA
            clear hk1 HK HQ hT hok
            go_wp2_with fail
            refine Calls.mono HA.out ?_
            rintro e w8 ⟨rfl, hb8⟩
            have hB8 := HBB.out.trans (hb8.mono hszw)
            have HO2 : Hid (OwnInt _ _ _ _) := OwnInt.base (HO.out.later hb8) hw3
            rw [HL2.out] at HO2 ⊢
            clear hb8 HA HBB HO
            go_wp2
            go_ret2
            exact ⟨_, by rw [HE.out.1]; rfl, by rw [HE.out.2]; exact HO2.out, hB8⟩
          · have HE : Hid (raOk t = false ∧ raL t = []) := by
              have : raOk t = false := by rw [HK.out, hk1, decide_eq_false hT]; rfl
              exact ⟨this, ra_no this⟩
            clear hk1 HK HQ
            generalize ackT xs = s at HA hT
            have hq5 : (s.toList == t.toList) = false := by
              rw [beq_eq_false_iff_ne, ByteArray.toList_eq, ByteArray.toList_eq]
              exact fun e => hT (Go.WideShapes.bytes_inj e)
            clear hT
            go_wp2_with fail
            refine Calls.mono HA.out ?_
            rintro e w8 ⟨rfl, hb8⟩
            have hB8 := HBB.out.trans (hb8.mono hszw)
            clear hb8 HA HBB
            go_wp2
            go_ret2
            exact ⟨_, by rw [HE.out.1]; rfl, by rw [HE.out.2]; exact World.ownsRow_nil _ _ _ _, hB8⟩
  · obtain ⟨c, hc⟩ : ∃ c : Nat, c = 100 := ⟨_, rfl⟩
    rw [show (min n0 100).toNat = c by omega] at HLS
    have hm2 : 100 < n0 := by omega
    have hc100 : c ≤ 100 := by omega
    go_wp2
    go_loopw [5, 13] (fun v i wr => ∃ k : Nat, k ≤ c ∧ i = .int .i64 (k : Int) ∧ wr.ownsRow w3.heap.size 3 1 v k ((nxL t p0 k).map (Value.int .i64)) ∧ wr.heap[w.heap.size]? = some (.cells #[.string t] 9 (0, 0)) ∧ wr.heap[w.heap.size + 1]? = some (.cells #[.int .i64 ((nxP t p0 k : Nat) : Int)] 3 (0, 0)) ∧ Below w.heap.size w wr ∧ w3.heap.size ≤ wr.heap.size)
      (fun _ i _ => c - (intOf i).toNat)
    case atStart => exact ⟨0, Nat.zero_le _, rfl, World.ownsRow_nil _ _ _ _, hS3, hA3, hB3, Nat.le_refl _⟩
    case round =>
      obtain ⟨k, hk, rfl, hown, hg0, hg1, hbel, hsz⟩ := hrel
      by_cases hlt : k < c
      · have hi1 : (k : Int) < 100 := by omega
        have HP : Hid (nxP t p0 (k + 1) = (nx t (nxP t p0 k)).2) := rfl
        have HLX : Hid (nxL t p0 (k + 1) = nxL t p0 k ++ [(nx t (nxP t p0 k)).1]) := nxL_succ t p0 k
        have HLN : Hid ((nxL t p0 k).length = k) := nxL_len t p0 k
        have HO : Hid (World.ownsRow _ _ _ _ _ _ _) := hown
        clear hown
        go_wp2_with fail
        refine Calls.mono (HX.out _ _ (nxP t p0 k) wr hg0 hg1) ?_
        rintro e w5 ⟨rfl, hg, hA5⟩
        have hb5 : Below w.heap.size w w5 := below_gbi hbel hbel.size hg (by omega)
        have hs5 : w3.heap.size ≤ w5.heap.size := Nat.le_trans hsz hg.size
        have hS5 : w5.heap[w.heap.size]? = some (.cells #[.string t] 9 (0, 0)) := (hg.block _ (by omega) (by simp)).trans hg0
        have ho5 : w5.ownsRow w3.heap.size 3 1 _ k ((nxL t p0 k).map (Value.int .i64)) := HO.out.kept hg (Or.inr (fun e => by have := (HO.out.lt _ e).1; omega))
        rw [← HP.out] at hA5
        generalize (nx t (nxP t p0 k)).1 = x at HLX ⊢
        clear hg hg0 hg1 hbel HO hsz
        go_wp2_with (at_builtin; refine wpList_append_own _ rfl _ _ 22 rfl w3.heap.size 3 i0 (.int .i64 0) 1 8 Try.underlying22 hi hz0 hz1 hz2 rfl (by decide) _ _ _ rfl (ho5.alloc _) ⟨w5.heap.size, 0, none⟩ 1 1 [.int .i64 x] rfl rfl ?c1 ?c2 ?c3 ?c4 ?c5 ?_)
        case c1 => exact cell_one_new _ _ _
        case c2 => intro u hu; simp at hu; subst hu; rfl
        case c3 => unfold maxLen; omega
        case c4 => omega
        case c5 => simp; omega
        · intro v' w6 hown' hgrow _
          have hB6 : Below w3.heap.size w5 w6 := below_app ho5 (Below.refl _ _) hs5 hgrow
          have hS6 := (hB6.block _ (show w.heap.size < w3.heap.size by omega)).trans hS5
          have hA6 := (hB6.block _ l3).trans hA5
          have hb6 : Below w.heap.size w w6 := hb5.trans (hB6.mono (by omega))
          have hs6 : w3.heap.size ≤ w6.heap.size := Nat.le_trans hs5 hB6.size
          have ho : w6.ownsRow w3.heap.size 3 1 v' (k + 1) ((nxL t p0 (k + 1)).map (Value.int .i64)) := by rw [HLX.out, List.map_append]; exact hown'
          clear hown' hgrow ho5 hB6 hS5 hA5 hb5 hs5
          go_wp2
          go_roundw
          case rel => exact ⟨k + 1, by omega, by go_num, ho, hS6, hA6, hb6, hs6⟩
          case measure => simp [intOf]; omega
      · obtain rfl : k = c := by omega
        have hi1 : ¬ (k : Int) < 100 := by omega
        clear hc
        have ho := own_as hown (nxL_len t p0 k)
        obtain ⟨a, cap, rfl, -, hr⟩ := ho.row
        have HO : Hid (OwnInt w3.heap.size wr _ _) := ho
        have HK : Hid (raOk t = (ackOk (nxL t p0 k) && decide (ackT (nxL t p0 k) = t))) := by show _ = _; unfold raOk; rw [HLS.out]
        have HQ : Hid (raOk t = true → raL t = nxL t p0 k) := fun h => by unfold raL; rw [if_pos h, HLS.out]
        have HL2 : Hid ((nxL t p0 k).length = k) := nxL_len t p0 k
        have HA : Hid _ := implAck_any a cap (nxL t p0 k) wr (by rw [nxL_len]; omega) hr
        have HBB : Hid _ := hbel
        have hszw := hbel.size
        have hw3 : w.heap.size ≤ w3.heap.size := by omega
        clear hown hr ho hbel HLS hg0 hg1
        generalize nxL t p0 k = xs at HO HK HQ HL2 HA ⊢
        cases hk1 : ackOk xs with
        | false =>
          have HE : Hid (raOk t = false ∧ raL t = []) := by
            have : raOk t = false := by rw [HK.out, hk1]; rfl
            exact ⟨this, ra_no this⟩
          rw [hk1] at HA
          clear hk1 HK HQ
          generalize ackT xs = s at HA
          go_wp2_with fail
          refine Calls.mono HA.out ?_
          rintro e w8 ⟨rfl, hb8⟩
          have hB8 := HBB.out.trans (hb8.mono hszw)
          clear hb8 HA HBB
          go_wp2
          go_ret2
          exact ⟨_, by rw [HE.out.1]; rfl, by rw [HE.out.2]; exact World.ownsRow_nil _ _ _ _, hB8⟩
        | true =>
          rw [hk1] at HA
          by_cases hT : ackT xs = t
          · have hok : raOk t = true := by rw [HK.out, hk1, decide_eq_true hT]; rfl
            have HE : Hid (raOk t = true ∧ raL t = xs) := ⟨hok, HQ.out hok⟩
            rw [hT] at HA
            clear hk1 HK HQ hT hok
            go_wp2_with fail
            refine Calls.mono HA.out ?_
            rintro e w8 ⟨rfl, hb8⟩
            have hB8 := HBB.out.trans (hb8.mono hszw)
            have HO2 : Hid (OwnInt _ _ _ _) := OwnInt.base (HO.out.later hb8) hw3
            rw [HL2.out] at HO2 ⊢
            clear hb8 HA HBB HO
            go_wp2
            go_ret2
            exact ⟨_, by rw [HE.out.1]; rfl, by rw [HE.out.2]; exact HO2.out, hB8⟩
          · have HE : Hid (raOk t = false ∧ raL t = []) := by
              have : raOk t = false := by rw [HK.out, hk1, decide_eq_false hT]; rfl
              exact ⟨this, ra_no this⟩
            clear hk1 HK HQ
            generalize ackT xs = s at HA hT
            have hq5 : (s.toList == t.toList) = false := by
              rw [beq_eq_false_iff_ne, ByteArray.toList_eq, ByteArray.toList_eq]
              exact fun e => hT (Go.WideShapes.bytes_inj e)
            clear hT
            go_wp2_with fail
            refine Calls.mono HA.out ?_
            rintro e w8 ⟨rfl, hb8⟩
            have hB8 := HBB.out.trans (hb8.mono hszw)
            clear hb8 HA HBB
            go_wp2
            go_ret2
            exact ⟨_, by rw [HE.out.1]; rfl, by rw [HE.out.2]; exact World.ownsRow_nil _ _ _ _, hB8⟩
end Go.Proofs.Ythjaeajhldjapaa
