/- The contracts of chapter 7's WindowOk, Fresh and Noted, the specification's, and what they say in plain words. -/
import Derived.Test.YtmbaipednonhpaaTermW
import Derived.WalkKit
import Derived.WalkLawsBesides
import Derived.WalkSpells
import Derived.IntWalk
import Derived.Laws.Rows
import Derived.Laws.BitsLemmas
import Derived.Laws.ResultCell
namespace Go.Proofs.Ytmbaipednonhpaa
open Go.RowKit
set_option linter.unusedVariables false
/-- WindowOk. -/
def winB (t s : Int) : Bool := inB t (-1) 9999 && (inB s 0 65535 && (if t < 0 then decide (s = 0) else (decide (s % 2 = 1) && (decide (15 ≤ t) || decide (s < 2 ^ (t + 1).toNat)))))
/-- Fresh. -/
def freshB (t s q : Int) : Bool := winB t s && (inB q 0 9999 && (decide (t < q) || (decide (t - q < 16) && decide (s.toNat / 2 ^ (t - q).toNat % 2 = 0))))
/-- What is seen with it. -/
def notedS (t s q : Int) : Int := if q ≤ t then ((s.toNat ||| 2 ^ (t - q).toNat : Nat) : Int) else if 0 ≤ t ∧ q - t < 16 then (((s.toNat * 2 ^ (q - t).toNat) % 65536 ||| 1 : Nat) : Int) else 1
theorem winB_range {t s : Int} (h : winB t s = true) : (-1 ≤ t ∧ t ≤ 9999) ∧ (0 ≤ s ∧ s ≤ 65535) := by
  unfold winB inB at h
  simp only [Bool.and_eq_true, decide_eq_true_eq] at h
  exact ⟨h.1, h.2.1⟩
theorem pow_small {k : Nat} (h : k ≤ 15) : (2 : Int) ^ k ≤ 32768 ∧ 0 < (2 : Int) ^ k := by
  rcases (show k = 0 ∨ k = 1 ∨ k = 2 ∨ k = 3 ∨ k = 4 ∨ k = 5 ∨ k = 6 ∨ k = 7 ∨ k = 8 ∨ k = 9 ∨ k = 10 ∨ k = 11 ∨ k = 12 ∨ k = 13 ∨ k = 14 ∨ k = 15 by omega) with rfl | rfl | rfl | rfl | rfl | rfl | rfl | rfl | rfl | rfl | rfl | rfl | rfl | rfl | rfl | rfl <;> decide
theorem wrap_small {x : Int} (h : 0 ≤ x) (h2 : x ≤ 4294967296) : wrap64 x = x := by unfold wrap64; omega
set_option maxHeartbeats 1600000 in
theorem specWin_any (t s : Int) (w : World) :
    Calls Try.prog 17 #[.agg #[.int .i64 t, .int .i64 s]] w fun e w' => e = .returned (.bool (winB t s)) ∧ Below w.heap.size w w' := by
  have HB : Hid (Below w.heap.size w (w.alloc (.cells #[.int .i64 t, .int .i64 s] 27))) := (Below.refl _ _).alloc (Nat.le_refl _) _
  obtain ⟨d1, HD1⟩ : ∃ d, Hid (inB t (-1) 9999 = d) := ⟨_, rfl⟩
  obtain ⟨d2, HD2⟩ : ∃ d, Hid (inB s 0 65535 = d) := ⟨_, rfl⟩
  have HE : Hid (winB t s = (d1 && (d2 && (if t < 0 then decide (s = 0) else (decide (s % 2 = 1) && (decide (15 ≤ t) || decide (s < 2 ^ (t + 1).toNat))))))) := by show _ = _; unfold winB; rw [HD1.out, HD2.out]
  cases d1
  · have HF : Hid (winB t s = false) := by show _ = _; rw [HE.out]; rfl
    go_enter Try.func17, Try.ntmps17
    go_wp2_with (go_at_call 29; refine (specIn_any _ _ _ _).mono ?_; rintro e w' ⟨rfl, rfl⟩; rw [HD1.out])
    go_ret
    exact ⟨by rw [HF.out]; rfl, HB.out⟩
  · cases d2
    · have HF : Hid (winB t s = false) := by show _ = _; rw [HE.out]; rfl
      go_enter Try.func17, Try.ntmps17
      go_wp2_with (go_at_call 29; refine (specIn_any _ _ _ _).mono ?_; rintro e w' ⟨rfl, rfl⟩; first | rw [HD1.out] | rw [HD2.out])
      go_ret
      exact ⟨by rw [HF.out]; rfl, HB.out⟩
    · have hr1 : -1 ≤ t ∧ t ≤ 9999 := by have := HD1.out; unfold inB at this; simpa using this
      have hr2 : 0 ≤ s ∧ s ≤ 65535 := by have := HD2.out; unfold inB at this; simpa using this
      obtain ⟨h1, h2⟩ := hr1
      obtain ⟨h3, h4⟩ := hr2
      by_cases h0 : t < 0
      · have HF : Hid (winB t s = decide (s = 0)) := by show _ = _; rw [HE.out, if_pos h0]; rfl
        go_enter Try.func17, Try.ntmps17
        go_wp2_with (go_at_call 29; refine (specIn_any _ _ _ _).mono ?_; rintro e w' ⟨rfl, rfl⟩; first | rw [HD1.out] | rw [HD2.out])
        go_ret
        exact ⟨by rw [HF.out]; rfl, HB.out⟩
      · have HF : Hid (winB t s = (decide (s % 2 = 1) && (decide (15 ≤ t) || decide (s < 2 ^ (t + 1).toNat)))) := by show _ = _; rw [HE.out, if_neg h0]; rfl
        have h0' : 0 ≤ t := by omega
        have htm : s.tmod 2 = s % 2 := Int.tmod_eq_emod_of_nonneg h3
        by_cases ho : s % 2 = 1
        · rw [ho] at htm
          by_cases h15 : 15 ≤ t
          · clear h0
            go_enter Try.func17, Try.ntmps17
            go_wp2_with (go_at_call 29; refine (specIn_any _ _ _ _).mono ?_; rintro e w' ⟨rfl, rfl⟩; first | rw [HD1.out] | rw [HD2.out])
            go_ret
            exact ⟨by rw [HF.out]; simp [ho, h15], HB.out⟩
          · have hp := pow_small (k := (t + 1).toNat) (by omega)
            have hwr : wrap64 (2 ^ (t + 1).toNat) = 2 ^ (t + 1).toNat := wrap_small (by omega) (by omega)
            have h15' : t < 15 := by omega
            clear h0 hp
            go_enter Try.func17, Try.ntmps17
            go_wp2_with (go_at_call 29; refine (specIn_any _ _ _ _).mono ?_; rintro e w' ⟨rfl, rfl⟩; first | rw [HD1.out] | rw [HD2.out])
            go_ret
            exact ⟨by rw [HF.out]; simp [ho], HB.out⟩
        · have hz : s % 2 = 0 := by omega
          rw [hz] at htm
          clear h0
          go_enter Try.func17, Try.ntmps17
          go_wp2_with (go_at_call 29; refine (specIn_any _ _ _ _).mono ?_; rintro e w' ⟨rfl, rfl⟩; first | rw [HD1.out] | rw [HD2.out])
          go_ret
          exact ⟨by rw [HF.out]; simp [hz], HB.out⟩
theorem bits1 {a b : Nat} (ha : a < 4294967296) (hb : b < 4294967296) : bits .and .i64 (a : Int) (b : Int) = ((a &&& b : Nat) : Int) ∧ bits .or .i64 (a : Int) (b : Int) = ((a ||| b : Nat) : Int) :=
  bits_nat .i64 32 (by decide) (fun n h1 h2 => by rw [IntKind.wrap_i64]; have : n < 4294967296 := h2; omega) a b ha hb
theorem div_nat (s k : Nat) : (s : Int) / 2 ^ k = ((s / 2 ^ k : Nat) : Int) := by rw [Int.natCast_ediv]; congr 1
theorem mul_nat (s k : Nat) : (s : Int) * 2 ^ k = ((s * 2 ^ k : Nat) : Int) := by rw [Int.natCast_mul]; congr 1
theorem pow_nat (k : Nat) : (2 : Int) ^ k = ((2 ^ k : Nat) : Int) := by simp
theorem pow_smallN {k : Nat} (h : k ≤ 15) : 2 ^ k ≤ 32768 := by
  have := (pow_small h).1
  rw [pow_nat] at this
  omega
set_option maxHeartbeats 1600000 in
theorem specFresh_any (t s q : Int) (w : World) :
    Calls Try.prog 16 #[.agg #[.int .i64 t, .int .i64 s], .int .i64 q] w fun e w' => e = .returned (.bool (freshB t s q)) ∧ Below w.heap.size w w' := by
  have HB0 : Hid (Below w.heap.size w (w.alloc (.cells #[.int .i64 t, .int .i64 s] 27))) := (Below.refl _ _).alloc (Nat.le_refl _) _
  have hbx := heap_alloc_new w (.cells #[.int .i64 t, .int .i64 s] 27)
  have HW : Hid (∀ w, Calls Try.prog 17 #[.agg #[.int .i64 t, .int .i64 s]] w fun e w' => e = .returned (.bool (winB t s)) ∧ Below w.heap.size w w') := fun w => specWin_any t s w
  obtain ⟨d1, HD1⟩ : ∃ d, Hid (winB t s = d) := ⟨_, rfl⟩
  obtain ⟨d2, HD2⟩ : ∃ d, Hid (inB q 0 9999 = d) := ⟨_, rfl⟩
  have HE : Hid (freshB t s q = (d1 && (d2 && (decide (t < q) || (decide (t - q < 16) && decide (s.toNat / 2 ^ (t - q).toNat % 2 = 0)))))) := by show _ = _; unfold freshB; rw [HD1.out, HD2.out]
  go_enter Try.func16, Try.ntmps16
  go_wp2_with fail
  refine (HW.out _).mono ?_
  rintro e w1 ⟨rfl, hb1⟩
  rw [HD1.out]
  have hb2 := (hb1.block w.heap.size (by simp)).trans hbx
  have c0 : w1.cell? ⟨w.heap.size, 0, none⟩ = some (.int .i64 t) := (cell_of_row _ _ 0 _ _ _ hb2).trans rfl
  have c1 : w1.cell? ⟨w.heap.size, 1, none⟩ = some (.int .i64 s) := (cell_of_row _ _ 1 _ _ _ hb2).trans rfl
  have HB : Hid (Below w.heap.size w w1) := HB0.out.trans (hb1.mono (by simp))
  clear hb1 hb2 hbx HB0 HW
  cases d1
  · have HF : Hid (freshB t s q = false) := by show _ = _; rw [HE.out]; rfl
    go_wp2
    go_ret
    exact ⟨by rw [HF.out]; rfl, HB.out⟩
  · cases d2
    · have HF : Hid (freshB t s q = false) := by show _ = _; rw [HE.out]; rfl
      go_wp2_with (go_at_call 29; refine (specIn_any _ _ _ _).mono ?_; rintro e w' ⟨rfl, rfl⟩; rw [HD2.out])
      go_ret
      exact ⟨by rw [HF.out]; rfl, HB.out⟩
    · obtain ⟨⟨h1, h2⟩, h3, h4⟩ := winB_range HD1.out
      have hq : 0 ≤ q ∧ q ≤ 9999 := by have := HD2.out; unfold inB at this; simpa using this
      obtain ⟨hq1, hq2⟩ := hq
      by_cases hlt : t < q
      · have HF : Hid (freshB t s q = true) := by show _ = _; rw [HE.out]; simp [hlt]
        go_wp2_with (go_at_call 29; refine (specIn_any _ _ _ _).mono ?_; rintro e w' ⟨rfl, rfl⟩; rw [HD2.out])
        go_ret
        exact ⟨by rw [HF.out]; rfl, HB.out⟩
      · by_cases h16 : t - q < 16
        · obtain ⟨S, rfl⟩ := Int.eq_ofNat_of_zero_le h3
          obtain ⟨k, hk⟩ := Int.eq_ofNat_of_zero_le (show 0 ≤ t - q by omega)
          have hlt' : q ≤ t := by omega
          have hkn : (t - q).toNat = k := by omega
          have hdv : (S : Int) / 2 ^ (t - q).toNat = ((S / 2 ^ k : Nat) : Int) := by rw [hkn]; exact div_nat S k
          have hsm : S / 2 ^ k ≤ S := Nat.div_le_self _ _
          have hbt : bits BinOp.and IntKind.i64 ((S / 2 ^ k : Nat) : Int) 1 = ((S / 2 ^ k % 2 : Nat) : Int) := by have := (bits1 (a := S / 2 ^ k) (b := 1) (by omega) (by decide)).1; rw [Nat.and_one_is_mod] at this; exact this
          have HF : Hid (freshB t (S : Int) q = decide (S / 2 ^ k % 2 = 0)) := by show _ = _; rw [HE.out, hkn]; simp [hlt, h16]
          generalize S / 2 ^ k = D at hdv hbt HF hsm
          clear hlt hkn hk
          go_wp2_with (go_at_call 29; refine (specIn_any _ _ _ _).mono ?_; rintro e w' ⟨rfl, rfl⟩; rw [HD2.out])
          go_ret
          refine ⟨?_, HB.out⟩
          rw [HF.out]
          show Ending.returned (Value.bool _) = _
          congr 2
          by_cases h : D % 2 = 0
          · simp [h] <;> omega
          · have : D % 2 = 1 := by omega
            simp [this] <;> omega
        · have HF : Hid (freshB t s q = false) := by show _ = _; rw [HE.out]; simp [hlt, h16]
          have hlt' : q ≤ t := by omega
          clear hlt
          go_wp2_with (go_at_call 29; refine (specIn_any _ _ _ _).mono ?_; rintro e w' ⟨rfl, rfl⟩; rw [HD2.out])
          go_ret
          exact ⟨by rw [HF.out]; rfl, HB.out⟩
theorem winSize : (Try.prog.info? 27).map (·.size) = some 2 := by kernel_rfl
theorem res_win {P : Program} {fn : Func} {p u : Tmp} {ty : TypeId} (h : fn.results = #[.cell p ty, .tmp u]) (tmps : Array Value) (w : World) (g : Nat) (t : TypeId) (cs : Array Value) (fr : Nat × Nat) (d : TypeDesc)
    (hp : tmps.getD p undef = .pointer (some ⟨g, 0, none⟩)) (hg : w.heap[g]? = some (.cells cs t fr))
    (hu : P.underlying ty = some d) (hd : (match d with | .struct _ | .array _ _ => true | _ => false) = true) (hi : (P.info? ty).map (·.size) = some cs.size) :
    (results fn tmps).run P w = .ok (.tuple #[.agg cs, tmps.getD u undef]) w := by
  have hp' : tmps[p]?.getD undef = .pointer (some ⟨g, 0, none⟩) := by simpa using hp
  simp [results, h, hp', asAddr, run_loadVar_row w g t ty cs fr d hg hu hd hi]
theorem below_two {B : Nat} {a w : World} {g : Nat} (h : Below B a w) (hg : B ≤ g) (u v : Value) : Below B a ((w.setCell ⟨g, 0, none⟩ u).setCell ⟨g, 1, none⟩ v) := (h.setCell hg u).setCell hg v
theorem store2 {w : World} {g : Nat} {t : TypeId} {u0 u1 : Value} (h : w.heap[g]? = some (.cells #[u0, u1] t (0, 0))) (v0 v1 : Value) : ((w.setCell ⟨g, 0, none⟩ v0).setCell ⟨g, 1, none⟩ v1).heap[g]? = some (.cells #[v0, v1] t (0, 0)) :=
  (heap_setCell_same _ g 1 _ _ _ (heap_setCell_same _ g 0 _ _ _ h)).trans rfl
/-- Noted's window. -/
def notedT (t s q : Int) : Int := if freshB t s q = true then (if q ≤ t then t else q) else t
def notedV (t s q : Int) : Int := if freshB t s q = true then notedS t s q else s
theorem freshB_range {t s q : Int} (h : freshB t s q = true) : (-1 ≤ t ∧ t ≤ 9999) ∧ (0 ≤ s ∧ s ≤ 65535) ∧ (0 ≤ q ∧ q ≤ 9999) ∧ (q ≤ t → t - q < 16) := by
  unfold freshB at h
  simp only [Bool.and_eq_true, Bool.or_eq_true, decide_eq_true_eq] at h
  have h2 : 0 ≤ q ∧ q ≤ 9999 := by have := h.2.1; unfold inB at this; simpa using this
  exact ⟨(winB_range h.1).1, (winB_range h.1).2, h2, fun hq => by rcases h.2.2 with h3 | h3 <;> omega⟩
set_option maxHeartbeats 3200000 in
theorem specNoted_any (t s q : Int) (w : World) :
    Calls Try.prog 15 #[.agg #[.int .i64 t, .int .i64 s], .int .i64 q] w fun e w' => e = .returned (.tuple #[.agg #[.int .i64 (notedT t s q), .int .i64 (notedV t s q)], .bool (freshB t s q)]) ∧ Below w.heap.size w w' := by
  have HB0 : Hid (Below w.heap.size w ((w.alloc (.cells #[.int .i64 t, .int .i64 s] 27)).alloc (.cells #[.int .i64 0, .int .i64 0] 27))) := ((Below.refl _ _).alloc (Nat.le_refl _) _).alloc (by simp) _
  have hbx : ((w.alloc (.cells #[.int .i64 t, .int .i64 s] 27)).alloc (.cells #[.int .i64 0, .int .i64 0] 27)).heap[w.heap.size]? = some (.cells #[.int .i64 t, .int .i64 s] 27 (0, 0)) := (heap_alloc_old _ _ (by simp)).trans (heap_alloc_new w _)
  have hrx : ((w.alloc (.cells #[.int .i64 t, .int .i64 s] 27)).alloc (.cells #[.int .i64 0, .int .i64 0] 27)).heap[w.heap.size + 1]? = some (.cells #[.int .i64 0, .int .i64 0] 27 (0, 0)) := by have := heap_alloc_new (w.alloc (.cells #[.int .i64 t, .int .i64 s] 27)) (.cells #[.int .i64 0, .int .i64 0] 27); simpa using this
  have HW : Hid (∀ w, Calls Try.prog 16 #[.agg #[.int .i64 t, .int .i64 s], .int .i64 q] w fun e w' => e = .returned (.bool (freshB t s q)) ∧ Below w.heap.size w w') := fun w => specFresh_any t s q w
  obtain ⟨d1, HD1⟩ : ∃ d, Hid (freshB t s q = d) := ⟨_, rfl⟩
  obtain ⟨T, V, HT, hT, hV⟩ : ∃ T V, Hid (T = notedT t s q ∧ V = notedV t s q) ∧ T = notedT t s q ∧ V = notedV t s q := ⟨_, _, ⟨rfl, rfl⟩, rfl, rfl⟩
  rw [← hT, ← hV]
  clear hT hV
  go_enter Try.func15, Try.ntmps15
  go_wp2_with fail
  refine (HW.out _).mono ?_
  rintro e w1 ⟨rfl, hb1⟩
  rw [HD1.out]
  have hb2 := (hb1.block w.heap.size (by simp <;> omega)).trans hbx
  have hr2 := (hb1.block (w.heap.size + 1) (by simp)).trans hrx
  have c0 : w1.cell? ⟨w.heap.size, 0, none⟩ = some (.int .i64 t) := (cell_of_row _ _ 0 _ _ _ hb2).trans rfl
  have c1 : w1.cell? ⟨w.heap.size, 1, none⟩ = some (.int .i64 s) := (cell_of_row _ _ 1 _ _ _ hb2).trans rfl
  have r0 : w1.cell? ⟨w.heap.size + 1, 0, none⟩ = some (.int .i64 0) := (cell_of_row _ _ 0 _ _ _ hr2).trans rfl
  have r1 : w1.cell? ⟨w.heap.size + 1, 1, none⟩ = some (.int .i64 0) := (cell_of_row _ _ 1 _ _ _ hr2).trans rfl
  have f0 : w1.frozen? ⟨w.heap.size + 1, 0, none⟩ = false := frozen_of_row _ _ 0 _ _ hr2
  have f1 : w1.frozen? ⟨w.heap.size + 1, 1, none⟩ = false := frozen_of_row _ _ 1 _ _ hr2
  have HB : Hid (Below w.heap.size w w1) := HB0.out.trans (hb1.mono (by simp <;> omega))
  have HR : Hid (w1.heap[w.heap.size + 1]? = some (.cells #[.int .i64 0, .int .i64 0] 27 (0, 0))) := hr2
  clear hb1 hb2 hr2 hbx hrx HB0 HW
  cases d1
  · have HF : Hid (T = t ∧ V = s) := by
      refine ⟨HT.out.1.trans ?_, HT.out.2.trans ?_⟩
      · unfold notedT; rw [HD1.out]; rfl
      · unfold notedV; rw [HD1.out]; rfl
    go_wp2
    refine bodyPost_ret (res_win rfl _ _ (w.heap.size + 1) 27 #[.int .i64 t, .int .i64 s] (0, 0) _ rfl (store2 HR.out _ _) Try.underlying27 rfl winSize) rfl ?_
    exact ⟨by rw [HF.out.1, HF.out.2, HD1.out]; rfl, below_two HB.out (by omega) _ _⟩
  · obtain ⟨⟨h1, h2⟩, ⟨h3, h4⟩, ⟨hq1, hq2⟩, h16⟩ := freshB_range HD1.out
    obtain ⟨S, rfl⟩ := Int.eq_ofNat_of_zero_le h3
    by_cases hle : q ≤ t
    · have h16' := h16 hle
      obtain ⟨k, hk⟩ := Int.eq_ofNat_of_zero_le (show 0 ≤ t - q by omega)
      have hkn : (t - q).toNat = k := by omega
      have hp := pow_smallN (k := k) (by omega)
      have hwr : wrap64 (2 ^ (t - q).toNat) = ((2 ^ k : Nat) : Int) := by rw [hkn, pow_nat]; exact wrap_small (Int.natCast_nonneg _) (Int.ofNat_le.2 (Nat.le_trans hp (by decide)))
      have hor := (bits1 (a := S) (b := 2 ^ k) (by omega) (by omega)).2
      have HF : Hid (T = t ∧ V = ((S ||| 2 ^ k : Nat) : Int)) := by
        refine ⟨HT.out.1.trans ?_, HT.out.2.trans ?_⟩
        · unfold notedT; rw [HD1.out, if_pos rfl, if_pos hle]
        · unfold notedV notedS; rw [HD1.out, if_pos rfl, if_pos hle, hkn]; simp
      generalize (2 ^ k : Nat) = P at hwr hor HF hp
      clear hk h16 hkn
      go_wp2
      refine bodyPost_ret (res_win rfl _ _ (w.heap.size + 1) 27 #[.int .i64 t, .int .i64 ((S ||| P : Nat) : Int)] (0, 0) _ rfl (store2 HR.out _ _) Try.underlying27 rfl winSize) rfl ?_
      exact ⟨by rw [HF.out.1, HF.out.2, HD1.out]; rfl, below_two HB.out (by omega) _ _⟩
    · have hlt : t < q := by omega
      by_cases hc : 0 ≤ t ∧ q - t < 16
      · obtain ⟨ht0, hd16⟩ := hc
        obtain ⟨k, hk⟩ := Int.eq_ofNat_of_zero_le (show 0 ≤ q - t by omega)
        have hkn : (q - t).toNat = k := by omega
        have hp := pow_smallN (k := k) (by omega)
        have hm : S * 2 ^ k ≤ 65535 * 32768 := Nat.mul_le_mul (by omega) hp
        have hwr : wrap64 ((S : Int) * 2 ^ (q - t).toNat) = ((S * 2 ^ k : Nat) : Int) := by rw [hkn, mul_nat]; exact wrap_small (Int.natCast_nonneg _) (Int.ofNat_le.2 (Nat.le_trans hm (by decide)))
        have hand : bits BinOp.and IntKind.i64 ((S * 2 ^ k : Nat) : Int) 65535 = ((S * 2 ^ k % 65536 : Nat) : Int) := by have := (bits1 (a := S * 2 ^ k) (b := 65535) (by omega) (by decide)).1; rw [show (65535 : Nat) = 2 ^ 16 - 1 from rfl, Nat.and_two_pow_sub_one_eq_mod] at this; exact this
        have hor : bits BinOp.or IntKind.i64 (((S * 2 ^ k : Nat) : Int) % 65536) 1 = ((S * 2 ^ k % 65536 ||| 1 : Nat) : Int) := by have := (bits1 (a := S * 2 ^ k % 65536) (b := 1) (by omega) (by decide)).2; rw [show ((S * 2 ^ k % 65536 : Nat) : Int) = ((S * 2 ^ k : Nat) : Int) % 65536 from Int.natCast_emod _ _] at this; exact this
        have HF : Hid (T = q ∧ V = ((S * 2 ^ k % 65536 ||| 1 : Nat) : Int)) := by
          refine ⟨HT.out.1.trans ?_, HT.out.2.trans ?_⟩
          · unfold notedT; rw [HD1.out, if_pos rfl, if_neg hle]
          · unfold notedV notedS; rw [HD1.out, if_pos rfl, if_neg hle, if_pos ⟨ht0, hd16⟩, hkn]; simp
        generalize S * 2 ^ k = P at hwr hand hor HF hm
        clear hk h16 hkn hle hp
        go_wp2
        refine bodyPost_ret (res_win rfl _ _ (w.heap.size + 1) 27 #[.int .i64 q, .int .i64 ((P % 65536 ||| 1 : Nat) : Int)] (0, 0) _ rfl (store2 HR.out _ _) Try.underlying27 rfl winSize) rfl ?_
        exact ⟨by rw [HF.out.1, HF.out.2, HD1.out]; rfl, below_two HB.out (by omega) _ _⟩
      · have hor : bits BinOp.or IntKind.i64 0 1 = 1 := by decide
        have HF : Hid (T = q ∧ V = 1) := by
          refine ⟨HT.out.1.trans ?_, HT.out.2.trans ?_⟩
          · unfold notedT; rw [HD1.out, if_pos rfl, if_neg hle]
          · unfold notedV notedS; rw [HD1.out, if_pos rfl, if_neg hle, if_neg hc]
        clear h16 hle
        by_cases ht0 : 0 ≤ t
        · have hd16 : ¬ q - t < 16 := fun h => hc ⟨ht0, h⟩
          clear hc
          go_wp2
          refine bodyPost_ret (res_win rfl _ _ (w.heap.size + 1) 27 #[.int .i64 q, .int .i64 1] (0, 0) _ rfl (store2 HR.out _ _) Try.underlying27 rfl winSize) rfl ?_
          exact ⟨by rw [HF.out.1, HF.out.2, HD1.out]; rfl, below_two HB.out (by omega) _ _⟩
        · have ht0' : t < 0 := by omega
          clear hc ht0
          go_wp2
          refine bodyPost_ret (res_win rfl _ _ (w.heap.size + 1) 27 #[.int .i64 q, .int .i64 1] (0, 0) _ rfl (store2 HR.out _ _) Try.underlying27 rfl winSize) rfl ?_
          exact ⟨by rw [HF.out.1, HF.out.2, HD1.out]; rfl, below_two HB.out (by omega) _ _⟩
end Go.Proofs.Ytmbaipednonhpaa
