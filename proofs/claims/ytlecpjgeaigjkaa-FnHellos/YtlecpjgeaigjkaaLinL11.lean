/- A letter's parts are no more than the arena has terms. -/
import Derived.Test.YtlecpjgeaigjkaaLin11
import Derived.Test.YtlecpjgeaigjkaaWrd11l
import Derived.Test.YtlecpjgeaigjkaaWrd11r
import Derived.Deep.QuietTactic
namespace Go.Proofs.Ytlecpjgeaigjkaa
open Go.RowKit
theorem linV_le (ns : List Nd) (k : Int) : (linV ns k).length ≤ ns.length := by
  unfold linV
  split
  · have := partsV_len ns k (mnyV (ltKd ns k) + 1)
    unfold ltPs
    rw [List.length_drop]
    omega
  · simp
end Go.Proofs.Ytlecpjgeaigjkaa

namespace Go.Proofs.Ytlecpjgeaigjkaa
open Go.RowKit
set_option linter.unusedVariables false
def Kf (ns : List Nd) (k : Int) : Nat → Int
  | 0 => (ndAt ns k).b
  | m + 1 => (ndAt ns (Kf ns k m)).b
def Xf (ns : List Nd) (k : Int) (m : Nat) : Int := (ndAt ns (Kf ns k m)).a
def LtQ (g : Nat) (ns : List Nd) (k : Int) (w : World) (e : Ending) (w' : World) : Prop := ((∃ h, linB ns k = true ∧ e = .returned (.agg #[.int .i64 (ltKd ns k), .slice (some ⟨h, 0, none⟩) (linV ns k).length (linV ns k).length]) ∧ w.heap.size ≤ h ∧ w'.heap[h]? = some (.cells ((linV ns k).map (Value.int .i64)).toArray 3 (0, 0))) ∨ (linB ns k = false ∧ e = notP)) ∧ w.grownBy w' (some g)
theorem lin_is1 (ns : List Nd) (k : Int) (h0 : numB ns k = true) (hm : mnyV (ltKd ns k) = 1) : linB ns k = (isK ns (Kf ns k 0) 2 && numIs ns (Kf ns k 1) 0 && (!(ltKd ns k == 76) || isK ns (Xf ns k 0) 1)) ∧ (linB ns k = true → linV ns k = rowX (Xf ns k) 1) := by
  unfold numB at h0
  rw [Bool.and_eq_true] at h0
  have hp := parts_is2 ns k
  have e1 : linB ns k = (partsB ns k (2) && (decide (ltKd ns k ≠ 76) || isK ns ((partsV ns k (2)).getD 1 0) 1)) := by
    unfold linB ltPs
    rw [h0.1, h0.2, hm]
    simp
  have e2 : linB ns k = true → linV ns k = (partsV ns k (2)).drop 1 := fun h => by unfold linV ltPs; rw [if_pos h, hm]; rfl
  have hd : decide (ltKd ns k ≠ 76) = !(ltKd ns k == 76) := by rw [Bool.eq_iff_iff]; simp
  rw [hd] at e1
  unfold partsB partsV at e1 e2
  rw [hp, h0.1] at e1 e2
  constructor
  · rw [e1]
    show _ = _
    simp only [Xf, Kf]
    cases isK ns (ndAt ns k).b 2
    · simp
    cases numIs ns (ndAt ns (ndAt ns k).b).b 0
    · simp
    · simp
  · intro h
    have h' := h
    rw [e1] at h'
    rw [e2 h]
    cases hc : (isK ns (ndAt ns k).b 2 && numIs ns (ndAt ns (ndAt ns k).b).b 0) with
    | false => rw [hc] at h'; simp at h'
    | true => simp [rowX, List.range_succ, Xf, Kf]
theorem ltN1_any (g : Nat) (a : Option Addr) (cap : Nat) (ns : List Nd) (k : Int) (w : World) (hl : ns.length ≤ 1048576) (hs : Rd g a cap ns k w) (h0 : numB ns k = true) (hm : mnyV (ltKd ns k) = 1) : Calls Try.prog 70 #[.pointer (some ⟨g, 0, none⟩)] w (LtQ g ns k w) := by
  obtain ⟨hE, hV⟩ := lin_is1 ns k h0 hm
  have NO : linB ns k = false → ∀ e w', RdN g w e w' → LtQ g ns k w e w' := fun hb e w' h => ⟨.inr ⟨hb, h.1⟩, h.2⟩
  have YES : linB ns k = true → ∀ e w', LtP g (ltKd ns k) (rowX (Xf ns k) 1) w e w' → LtQ g ns k w e w' := fun hb e w' ⟨h, h1, h2, h3, h4⟩ => ⟨.inl ⟨h, hb, by rw [hV hb]; exact h1, h2, by rw [hV hb]; exact h3⟩, h4⟩
  have H0 := numC_ok (g := g) (a := a) (cap := cap) hl h0
  have hM : mnyV (ltKd ns k) = ((1 : Nat) : Int) := hm
  cases t0 : isK ns (Kf ns k 0) 2 with
  | false =>
    have HT : ∀ m, m < 0 → ∀ wz, Rd g a cap ns (Kf ns k m) wz → Calls Try.prog 104 #[.pointer (some ⟨g, 0, none⟩)] wz (RdP g a cap ns (.int .i64 (Xf ns k m)) (Kf ns k (m + 1)) wz) := fun m hm => absurd hm (by omega)
    exact Calls.mono (lt_f2 g a cap ns k (ltKd ns k) (Kf ns k) (Xf ns k) 1 0 w hs H0 hM (by omega) (by omega) HT (fun wz hz => term_no g a cap ns _ wz hl hz t0)) (NO (by rw [hE, t0]; simp))
  | true =>
    have HT : ∀ m, m < 1 → ∀ wz, Rd g a cap ns (Kf ns k m) wz → Calls Try.prog 104 #[.pointer (some ⟨g, 0, none⟩)] wz (RdP g a cap ns (.int .i64 (Xf ns k m)) (Kf ns k (m + 1)) wz) := fun m hm wz hz => by rcases (show m = 0 by omega) with rfl; exact term_yes g a cap ns _ wz hl hz t0
    cases te : numIs ns (Kf ns k 1) 0 with
    | false => exact Calls.mono (lt_f3 g a cap ns k (ltKd ns k) (Kf ns k) (Xf ns k) 1 0 w hs H0 hM (by omega) HT (endC_no hl te)) (NO (by rw [hE, t0, te]; simp))
    | true =>
      cases t7 : (ltKd ns k == 76) with
      | false => exact Calls.mono (lt_ok g a cap ns k (ltKd ns k) (Kf ns k) (Xf ns k) 1 0 w hs H0 hM (by omega) HT (endC_ok hl te) t7) (YES (by rw [hE, t0, te, t7]; simp))
      | true =>
        cases ta : isK ns (Xf ns k 0) 1 with
        | false => exact Calls.mono (lt_f4 g a cap ns k (ltKd ns k) (Kf ns k) (Xf ns k) 1 0 w hs H0 hM (by omega) HT (endC_ok hl te) t7 (fun wz hz => numAt_no _ g a cap ns _ wz hl hz ta)) (NO (by rw [hE, t0, te, t7, ta]; simp))
        | true => exact Calls.mono (lt_ok76 g a cap ns k (ltKd ns k) (Kf ns k) (Xf ns k) 1 0 w hs H0 hM (by omega) HT (endC_ok hl te) t7 (fun wz hz => numAt_yes _ g a cap ns _ wz hl hz ta)) (YES (by rw [hE, t0, te, t7, ta]; simp))
theorem lin_is2 (ns : List Nd) (k : Int) (h0 : numB ns k = true) (hm : mnyV (ltKd ns k) = 2) : linB ns k = (isK ns (Kf ns k 0) 2 && isK ns (Kf ns k 1) 2 && numIs ns (Kf ns k 2) 0 && (!(ltKd ns k == 76) || isK ns (Xf ns k 0) 1)) ∧ (linB ns k = true → linV ns k = rowX (Xf ns k) 2) := by
  unfold numB at h0
  rw [Bool.and_eq_true] at h0
  have hp := parts_is3 ns k
  have e1 : linB ns k = (partsB ns k (3) && (decide (ltKd ns k ≠ 76) || isK ns ((partsV ns k (3)).getD 1 0) 1)) := by
    unfold linB ltPs
    rw [h0.1, h0.2, hm]
    simp
  have e2 : linB ns k = true → linV ns k = (partsV ns k (3)).drop 1 := fun h => by unfold linV ltPs; rw [if_pos h, hm]; rfl
  have hd : decide (ltKd ns k ≠ 76) = !(ltKd ns k == 76) := by rw [Bool.eq_iff_iff]; simp
  rw [hd] at e1
  unfold partsB partsV at e1 e2
  rw [hp, h0.1] at e1 e2
  constructor
  · rw [e1]
    show _ = _
    simp only [Xf, Kf]
    cases isK ns (ndAt ns k).b 2
    · simp
    cases isK ns (ndAt ns (ndAt ns k).b).b 2
    · simp
    cases numIs ns (ndAt ns (ndAt ns (ndAt ns k).b).b).b 0
    · simp
    · simp
  · intro h
    have h' := h
    rw [e1] at h'
    rw [e2 h]
    cases hc : (isK ns (ndAt ns k).b 2 && (isK ns (ndAt ns (ndAt ns k).b).b 2 && numIs ns (ndAt ns (ndAt ns (ndAt ns k).b).b).b 0)) with
    | false => rw [hc] at h'; simp at h'
    | true => simp [rowX, List.range_succ, Xf, Kf]
theorem ltN2_any (g : Nat) (a : Option Addr) (cap : Nat) (ns : List Nd) (k : Int) (w : World) (hl : ns.length ≤ 1048576) (hs : Rd g a cap ns k w) (h0 : numB ns k = true) (hm : mnyV (ltKd ns k) = 2) : Calls Try.prog 70 #[.pointer (some ⟨g, 0, none⟩)] w (LtQ g ns k w) := by
  obtain ⟨hE, hV⟩ := lin_is2 ns k h0 hm
  have NO : linB ns k = false → ∀ e w', RdN g w e w' → LtQ g ns k w e w' := fun hb e w' h => ⟨.inr ⟨hb, h.1⟩, h.2⟩
  have YES : linB ns k = true → ∀ e w', LtP g (ltKd ns k) (rowX (Xf ns k) 2) w e w' → LtQ g ns k w e w' := fun hb e w' ⟨h, h1, h2, h3, h4⟩ => ⟨.inl ⟨h, hb, by rw [hV hb]; exact h1, h2, by rw [hV hb]; exact h3⟩, h4⟩
  have H0 := numC_ok (g := g) (a := a) (cap := cap) hl h0
  have hM : mnyV (ltKd ns k) = ((2 : Nat) : Int) := hm
  cases t0 : isK ns (Kf ns k 0) 2 with
  | false =>
    have HT : ∀ m, m < 0 → ∀ wz, Rd g a cap ns (Kf ns k m) wz → Calls Try.prog 104 #[.pointer (some ⟨g, 0, none⟩)] wz (RdP g a cap ns (.int .i64 (Xf ns k m)) (Kf ns k (m + 1)) wz) := fun m hm => absurd hm (by omega)
    exact Calls.mono (lt_f2 g a cap ns k (ltKd ns k) (Kf ns k) (Xf ns k) 2 0 w hs H0 hM (by omega) (by omega) HT (fun wz hz => term_no g a cap ns _ wz hl hz t0)) (NO (by rw [hE, t0]; simp))
  | true =>
    cases t1 : isK ns (Kf ns k 1) 2 with
    | false =>
      have HT : ∀ m, m < 1 → ∀ wz, Rd g a cap ns (Kf ns k m) wz → Calls Try.prog 104 #[.pointer (some ⟨g, 0, none⟩)] wz (RdP g a cap ns (.int .i64 (Xf ns k m)) (Kf ns k (m + 1)) wz) := fun m hm wz hz => by rcases (show m = 0 by omega) with rfl; exact term_yes g a cap ns _ wz hl hz t0
      exact Calls.mono (lt_f2 g a cap ns k (ltKd ns k) (Kf ns k) (Xf ns k) 2 1 w hs H0 hM (by omega) (by omega) HT (fun wz hz => term_no g a cap ns _ wz hl hz t1)) (NO (by rw [hE, t0, t1]; simp))
    | true =>
      have HT : ∀ m, m < 2 → ∀ wz, Rd g a cap ns (Kf ns k m) wz → Calls Try.prog 104 #[.pointer (some ⟨g, 0, none⟩)] wz (RdP g a cap ns (.int .i64 (Xf ns k m)) (Kf ns k (m + 1)) wz) := fun m hm wz hz => by
            rcases (show m = 0 ∨ m = 1 by omega) with rfl | rfl
            · exact term_yes g a cap ns _ wz hl hz t0
            · exact term_yes g a cap ns _ wz hl hz t1
      cases te : numIs ns (Kf ns k 2) 0 with
      | false => exact Calls.mono (lt_f3 g a cap ns k (ltKd ns k) (Kf ns k) (Xf ns k) 2 0 w hs H0 hM (by omega) HT (endC_no hl te)) (NO (by rw [hE, t0, t1, te]; simp))
      | true =>
        cases t7 : (ltKd ns k == 76) with
        | false => exact Calls.mono (lt_ok g a cap ns k (ltKd ns k) (Kf ns k) (Xf ns k) 2 0 w hs H0 hM (by omega) HT (endC_ok hl te) t7) (YES (by rw [hE, t0, t1, te, t7]; simp))
        | true =>
          cases ta : isK ns (Xf ns k 0) 1 with
          | false => exact Calls.mono (lt_f4 g a cap ns k (ltKd ns k) (Kf ns k) (Xf ns k) 2 0 w hs H0 hM (by omega) HT (endC_ok hl te) t7 (fun wz hz => numAt_no _ g a cap ns _ wz hl hz ta)) (NO (by rw [hE, t0, t1, te, t7, ta]; simp))
          | true => exact Calls.mono (lt_ok76 g a cap ns k (ltKd ns k) (Kf ns k) (Xf ns k) 2 0 w hs H0 hM (by omega) HT (endC_ok hl te) t7 (fun wz hz => numAt_yes _ g a cap ns _ wz hl hz ta)) (YES (by rw [hE, t0, t1, te, t7, ta]; simp))
theorem ltW_any (g : Nat) (a : Option Addr) (cap : Nat) (ns : List Nd) (k : Int) (w : World) (hl : ns.length ≤ 1048576) (hs : Rd g a cap ns k w) : Calls Try.prog 70 #[.pointer (some ⟨g, 0, none⟩)] w (LtQ g ns k w) := by
  have NO : linB ns k = false → ∀ e w', RdN g w e w' → LtQ g ns k w e w' := fun hb e w' h => ⟨.inr ⟨hb, h.1⟩, h.2⟩
  cases h0 : numB ns k with
  | false =>
    refine Calls.mono (lt_f0 g a cap ns k 0 (Kf ns k) (Xf ns k) 0 0 w hs (numC_no hl h0)) (NO ?_)
    unfold linB
    unfold numB at h0
    rw [← Bool.and_assoc, h0]; rfl
  | true =>
    rcases mny_is (ltKd ns k) with hm | hm | hm
    · refine Calls.mono (lt_f1 g a cap ns k (ltKd ns k) (Kf ns k) (Xf ns k) 0 0 w hs (numC_ok hl h0) hm) (NO ?_)
      unfold linB
      rw [hm]; simp
    · exact ltN1_any g a cap ns k w hl hs h0 hm
    · exact ltN2_any g a cap ns k w hl hs h0 hm
set_option maxHeartbeats 1600000 in
set_option maxRecDepth 20000 in
theorem implLetterIn_any (a : Option Addr) (cap : Nat) (ns : List Nd) (k : Int) (w : World) (hl : ns.length ≤ 1048576) (hr : RowN w.heap.size w a ns) :
    Calls Try.prog 31 #[.agg #[.slice a ns.length cap], .int .i64 k] w fun e w' => ∃ v, e = .returned (.tuple #[.int .i64 (linK ns k), v]) ∧ OwnInt w.heap.size w' v (linV ns k) ∧ Below w.heap.size w w' := by
  have hb0 : Below w.heap.size w (w.alloc (.cells #[.slice a ns.length cap] 30)) := (Below.refl _ _).alloc (Nat.le_refl _) _
  have hA := heap_alloc_new w (.cells #[.slice a ns.length cap] 30)
  have c0 : (w.alloc (.cells #[.slice a ns.length cap] 30)).cell? ⟨w.heap.size, 0, none⟩ = some (.slice a ns.length cap) := (cell_of_row _ _ 0 _ _ _ hA).trans rfl
  have HC : Hid _ := readLt_any a cap ns k (ltKd ns k) (linV ns k).length ((linV ns k).map (Value.int .i64)).toArray (linB ns k) _ hl (hr.grown hb0) (fun g wy hy => (ltW_any g a cap ns k wy hl hy).mono fun e w' h => h)
  have hs0 : (w.alloc (.cells #[.slice a ns.length cap] 30)).heap.size = w.heap.size + 1 := by simp
  cases hbb : linB ns k with
  | true =>
    have hk : linK ns k = ltKd ns k := by unfold linK; rw [if_pos hbb]
    rw [hk]
    rw [hbb] at HC
    have hvl : (linV ns k).length ≤ ns.length := linV_le ns k
    have HRI : Hid (∀ (h : Nat) (wz wy : World), w.heap.size ≤ h → wz.heap[h]? = some (.cells ((linV ns k).map (Value.int .i64)).toArray 3 (0, 0)) → Below wz.heap.size wz wy → OwnInt w.heap.size wy (.slice (some ⟨h, 0, none⟩) (linV ns k).length (linV ns k).length) (linV ns k)) := fun h wz wy hlo hh hb =>
      ⟨by simp, .inr ⟨h, _, _, rfl, hlo, (hb.block _ (Array.getElem?_eq_some_iff.1 hh).1).trans hh, Nat.le_refl _, by unfold maxLen; omega, by simp, by rw [Nat.mul_one]; show List.take _ ((linV ns k).map (Value.int .i64)) = _; exact List.take_of_length_le (by simp)⟩⟩
    clear hvl
    generalize (linV ns k).length = n at HC HRI ⊢
    generalize ltKd ns k = kd at HC ⊢
    clear hr hA hbb hk
    go_enter Try.func31, Try.ntmps31
    go_wp2_with fail
    generalize w.alloc (.cells #[.slice a ns.length cap] 30) = w0 at hb0 c0 HC hs0 ⊢
    refine Calls.mono HC.out ?_
    rintro e w1 ⟨⟨h, -, rfl, hlo, hrow⟩ | ⟨h, -⟩, hb1⟩
    · have hN := heap_alloc_new w1 (.cells #[.int .i64 kd, .slice (some ⟨h, 0, none⟩) n n] 83)
      have HR1 : Hid (w.heap.size ≤ h ∧ w1.heap[h]? = some (.cells ((linV ns k).map (Value.int .i64)).toArray 3 (0, 0))) := ⟨by omega, hrow⟩
      have HB : Hid (Below w.heap.size w (w1.alloc (.cells #[.int .i64 kd, .slice (some ⟨h, 0, none⟩) n n] 83)) ∧ Below w1.heap.size w1 (w1.alloc (.cells #[.int .i64 kd, .slice (some ⟨h, 0, none⟩) n n] 83))) := ⟨(hb0.trans (hb1.mono (by omega))).alloc (by have := hb1.size; omega) _, (Below.refl _ _).alloc (Nat.le_refl _) _⟩
      have d0 : (w1.alloc (.cells #[.int .i64 kd, .slice (some ⟨h, 0, none⟩) n n] 83)).cell? ⟨w1.heap.size, 0, none⟩ = some (.int .i64 kd) := (cell_of_row _ _ 0 _ _ _ hN).trans rfl
      have d1 : (w1.alloc (.cells #[.int .i64 kd, .slice (some ⟨h, 0, none⟩) n n] 83)).cell? ⟨w1.heap.size, 1, none⟩ = some (.slice (some ⟨h, 0, none⟩) n n) := (cell_of_row _ _ 1 _ _ _ hN).trans rfl
      clear hb1 hb0 c0 HC hs0 hN hrow hlo
      go_wp2_with fail
      generalize w1.alloc (.cells #[.int .i64 kd, .slice (some ⟨h, 0, none⟩) n n] 83) = w2 at HB d0 d1 ⊢
      go_quiet (fail)
      go_wp2
      go_ret2
      exact ⟨_, rfl, HRI.out h w1 _ HR1.out.1 HR1.out.2 (below_dn HB.out.2 _), below_dn HB.out.1 _⟩
    · cases h
  | false =>
    have hk : linK ns k = 0 ∧ linV ns k = [] := by unfold linK linV; rw [if_neg (by rw [hbb]; decide), if_neg (by rw [hbb]; decide)]; exact ⟨rfl, rfl⟩
    rw [hk.1, hk.2]
    rw [hbb] at HC
    clear hr hA hbb hk
    go_enter Try.func31, Try.ntmps31
    go_wp2_with fail
    generalize w.alloc (.cells #[.slice a ns.length cap] 30) = w0 at hb0 c0 HC hs0 ⊢
    refine Calls.mono HC.out ?_
    rintro e w1 ⟨⟨h, h', -⟩ | ⟨-, rfl⟩, hb1⟩
    · cases h'
    · have hN := heap_alloc_new w1 (.cells #[.int .i64 0, .slice none 0 0] 83)
      have HB : Hid (Below w.heap.size w (w1.alloc (.cells #[.int .i64 0, .slice none 0 0] 83))) := (hb0.trans (hb1.mono (by omega))).alloc (by have := hb1.size; omega) _
      have d0 : (w1.alloc (.cells #[.int .i64 0, .slice none 0 0] 83)).cell? ⟨w1.heap.size, 0, none⟩ = some (.int .i64 0) := (cell_of_row _ _ 0 _ _ _ hN).trans rfl
      have d1 : (w1.alloc (.cells #[.int .i64 0, .slice none 0 0] 83)).cell? ⟨w1.heap.size, 1, none⟩ = some (.slice none 0 0) := (cell_of_row _ _ 1 _ _ _ hN).trans rfl
      clear hb1 hb0 c0 HC hs0 hN
      go_wp2_with fail
      generalize w1.alloc (.cells #[.int .i64 0, .slice none 0 0] 83) = w2 at HB d0 d1 ⊢
      go_quiet (fail)
      go_wp2
      go_ret2
      exact ⟨_, rfl, ⟨rfl, .inl ⟨rfl, rfl⟩⟩, below_dn HB.out _⟩
end Go.Proofs.Ytlecpjgeaigjkaa
