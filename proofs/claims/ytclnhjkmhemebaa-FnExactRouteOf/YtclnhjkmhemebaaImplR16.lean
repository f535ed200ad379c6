/- The program's chapter 16: ways that are right, and the longest one. -/
import Derived.Test.YtclnhjkmhemebaaImplW16
import Derived.BigRegion
namespace Go.Proofs.Ytclnhjkmhemebaa
open Go.RowKit
set_option linter.unusedVariables false
def sameW (r y : Rt) : Bool := decide (r.n = y.n ∧ r.b = y.b)
def idxW (r : Rt) : List Rt → Nat → Int
  | [], _ => -1
  | x :: l, i => if sameW r x = true then (i : Int) else idxW r l (i + 1)
theorem idxW_any (r : Rt) : ∀ (l : List Rt) (i : Nat), decide (0 ≤ idxW r l i) = l.any (sameW r)
  | [], i => by simp [idxW]
  | x :: l, i => by
    rw [idxW, List.any_cons]
    cases h : sameW r x with
    | true => simp
    | false => simp only [Bool.false_or]; rw [if_neg (by decide)]; exact idxW_any r l (i + 1)
theorem rtIn_any (rs : List Rt) (r : Rt) : ∀ k, k ≤ rs.length → rtIn rs r k = (rs.take k).any (sameW r)
  | 0, _ => rfl
  | k + 1, h => by
    rw [rtIn, rtIn_any rs r k (by omega), List.take_succ_eq_append_getElem (by omega), List.any_append, List.getD_eq_getElem?_getD, List.getElem?_eq_getElem (by omega)]
    simp only [Option.getD_some, List.any_cons, List.any_nil, Bool.or_false, sameW]
    congr 1
    rw [Bool.eq_iff_iff]; simp only [Bool.and_eq_true, decide_eq_true_eq]
    constructor
    · rintro ⟨h1, h2⟩; exact ⟨h1.symm, h2.symm⟩
    · rintro ⟨h1, h2⟩; exact ⟨h1.symm, h2.symm⟩
theorem drop_consR {ls : List Rt} {i : Nat} (h : i < ls.length) : ls.drop i = ls.getD i Rt.zero :: ls.drop (i + 1) := by
  rw [List.drop_eq_getElem_cons h, List.getD_eq_getElem?_getD, List.getElem?_eq_getElem h]; rfl
theorem RowRt.take {B : Nat} {w : World} {a : Option Addr} {rs : List Rt} (h : RowRt B w a rs) (k : Nat) : RowRt B w a (rs.take k) := by
  rcases h with h0 | ⟨b, off, e, hlt, hc⟩
  · left; rw [h0]; simp
  · refine .inr ⟨b, off, e, hlt, fun i hi => ?_⟩
    have hi2 : i < k ∧ i < rs.length := by simp at hi; omega
    have e2 : (rs.take k).getD i Rt.zero = rs.getD i Rt.zero := by
      rw [List.getD_eq_getElem?_getD, List.getD_eq_getElem?_getD, List.getElem?_take_of_lt hi2.1]
    rw [e2]; exact hc i hi2.2
set_option maxHeartbeats 800000 in
theorem idxRt_any (r : Rt) (a : Option Addr) (cap : Nat) (rs : List Rt) (w : World) (hl : rs.length ≤ 1048576) (hr : RowRt w.heap.size w a rs) :
    Calls Try.prog 129 #[.slice a rs.length cap, .func (.func 107) #[.agg #[.int .i64 r.n, .int .i64 r.b, .int .i64 r.t]] #[]] w fun e w' => e = .returned (.int .i64 (idxW r rs 0)) ∧ Below w.heap.size w w' := by
  have HR : Hid (RowRt w.heap.size w a rs) := hr
  clear hr
  obtain ⟨V, HV⟩ : ∃ V, Hid (idxW r rs 0 = V) := ⟨_, rfl⟩
  rw [HV.out]
  go_enter Try.func129, Try.ntmps129
  go_wp2
  go_loopw [8] (fun i wr => ∃ k : Nat, k ≤ rs.length ∧ i = .int .i64 (k : Int) ∧ Hid (idxW r (rs.drop k) k = V) ∧ Below w.heap.size w wr) (fun i _ => rs.length - (intOf i).toNat)
  case atStart => exact ⟨0, Nat.zero_le _, rfl, HV, Below.refl _ _⟩
  case round =>
    obtain ⟨k, hk, rfl, HK, hbel⟩ := hrel
    by_cases hlt : k < rs.length
    · obtain ⟨b, off, rfl⟩ := HR.out.addr hlt
      obtain ⟨hb, c0, c1, c2⟩ := HR.out.at hbel hlt
      have hi0 : (0 : Int) ≤ (k : Int) := by omega
      have hi1 : (k : Int) < (rs.length : Int) := by omega
      have HD : Hid (idxW r (rs.drop k) k = if sameW r (rs.getD k Rt.zero) = true then (k : Int) else idxW r (rs.drop (k + 1)) (k + 1)) := by show _ = _; rw [drop_consR hlt, idxW]
      generalize rs.getD k Rt.zero = y at c0 c1 c2 HD
      have HC : Hid _ := sameWay_any r y wr
      obtain ⟨d, hd⟩ : ∃ d, sameW r y = d := ⟨_, rfl⟩
      rw [show decide (r.n = y.n ∧ r.b = y.b) = d from hd] at HC
      have HD2 : Hid (sameW r y = d) := hd
      clear hd
      go_wp2_with fail
      refine Calls.mono HC.out ?_
      rintro e w2 ⟨rfl, hb2⟩
      have HB2 : Hid (Below w.heap.size w w2) := hbel.trans (hb2.mono hbel.size)
      clear HC hb2 hbel c0 c1 c2
      cases d with
      | true =>
        have HE : Hid ((k : Int) = V) := by show _ = _; rw [← HK.out, HD.out, if_pos HD2.out]
        clear HD HK
        go_wp2
        go_ret
        exact ⟨by rw [← HE.out]; rfl, HB2.out⟩
      | false =>
        have HE : Hid (idxW r (rs.drop (k + 1)) (k + 1) = V) := by show _ = _; rw [← HK.out, HD.out, HD2.out]; rfl
        clear HD HK
        go_wp2
        go_roundw
        case rel => exact ⟨k + 1, by omega, by go_num, HE, HB2.out⟩
        case measure => simp [intOf]; omega
    · obtain rfl : k = rs.length := by omega
      have HE : Hid (-1 = V) := by show _ = _; rw [← HK.out, List.drop_length, idxW]
      clear HK
      go_wp2
      go_ret
      exact ⟨by rw [← HE.out]; rfl, hbel⟩
set_option maxHeartbeats 800000 in
theorem conRt_any (r : Rt) (a : Option Addr) (cap : Nat) (rs : List Rt) (w : World) (hl : rs.length ≤ 1048576) (hr : RowRt w.heap.size w a rs) :
    Calls Try.prog 106 #[.slice a rs.length cap, .func (.func 107) #[.agg #[.int .i64 r.n, .int .i64 r.b, .int .i64 r.t]] #[]] w fun e w' => e = .returned (.bool (rs.any (sameW r))) ∧ Below w.heap.size w w' := by
  have HC : Hid _ := idxRt_any r a cap rs w hl hr
  rw [← idxW_any r rs 0]
  generalize idxW r rs 0 = V at HC ⊢
  clear hr
  go_enter Try.func106, Try.ntmps106
  go_wp2_with fail
  refine Calls.mono HC.out ?_
  rintro e w2 ⟨rfl, hb2⟩
  have HB2 : Hid (Below w.heap.size w w2) := hb2
  clear HC hb2
  go_wp2
  go_ret
  exact ⟨rfl, HB2.out⟩
set_option maxHeartbeats 3200000 in
set_option maxRecDepth 20000 in
theorem implRoutes_any (a : Option Addr) (cap : Nat) (rs : List Rt) (w : World) (hl : rs.length ≤ 1048576) (hcp : rs.length ≤ cap) (hf : ∀ y ∈ rs, y.Fits) (hr : RowRt w.heap.size w a rs) :
    Calls Try.prog 50 #[.slice a rs.length cap] w fun e w' => e = .returned (.bool (rtsB rs)) ∧ Below w.heap.size w w' := by
  have HR : Hid (RowRt w.heap.size w a rs) := hr
  clear hr hf
  by_cases h8 : rs.length ≤ 8
  · obtain ⟨V, HV⟩ : ∃ V, Hid (rtsFrom rs rs.length 0 = V) := ⟨_, rfl⟩
    have HP : Hid (rtsB rs = V) := by show _ = _; unfold rtsB; rw [HV.out, decide_eq_true h8]; simp
    rw [HP.out]
    have h8' : decide ((8 : Int) < (rs.length : Int)) = false := decide_eq_false (by omega)
    have hcap : rs.length ≤ 1048576 := hl
    clear h8
    go_enter Try.func50, Try.ntmps50
    go_wp2
    go_loopw [10] (fun i wr => ∃ k : Nat, k ≤ rs.length ∧ i = .int .i64 (k : Int) ∧ Hid (rtsFrom rs (rs.length - k) k = V) ∧ Hid (Below w.heap.size w wr)) (fun i _ => rs.length - (intOf i).toNat)
    case atStart => exact ⟨0, Nat.zero_le _, rfl, HV, Below.refl _ _⟩
    case round =>
      obtain ⟨k, hk, rfl, HF, HBE⟩ := hrel
      by_cases hlt : k < rs.length
      · obtain ⟨b, off, rfl⟩ := HR.out.addr hlt
        have hi0 : (0 : Int) ≤ (k : Int) := by omega
        have hi1 : (k : Int) < (rs.length : Int) := by omega
        have hi2 : (k : Int) ≤ (cap : Int) := by omega
        have hi3 : k ≤ cap := by omega
        obtain ⟨hb, c0, c1, c2⟩ := HR.out.at HBE.out (i := k) hlt
        have HFD : Hid (rtsFrom rs (rs.length - k) k = (rtOk rs k && rtsFrom rs (rs.length - (k + 1)) (k + 1))) := by
          show _ = _
          rw [show rs.length - k = (rs.length - (k + 1)) + 1 by omega, rts_next]
        obtain ⟨y, HY⟩ : ∃ y, Hid (rs.getD k Rt.zero = y) := ⟨_, rfl⟩
        rw [HY.out] at c0 c1 c2
        have HBX : Hid (Below w.heap.size w (wr.alloc (.cells #[.int .i64 y.n, .int .i64 y.b, .int .i64 y.t] 44))) := HBE.out.alloc HBE.out.size _
        have hA := heap_alloc_new wr (.cells #[.int .i64 y.n, .int .i64 y.b, .int .i64 y.t] 44)
        have hs : wr.heap.size < (wr.alloc (.cells #[.int .i64 y.n, .int .i64 y.b, .int .i64 y.t] 44)).heap.size := by simp
        obtain ⟨d0, h0⟩ : ∃ d, rtA y = d := ⟨_, rfl⟩
        obtain ⟨d1, h1⟩ : ∃ d, (rs.take k).any (sameW y) = d := ⟨_, rfl⟩
        have HIR : Hid (∀ wz, Calls Try.prog 105 #[.agg #[.int .i64 y.n, .int .i64 y.b, .int .i64 y.t]] wz fun e w' => e = .returned (.bool d0) ∧ Below wz.heap.size wz w') := fun wz => by have := isRight_any y wz; rw [h0] at this; exact this
        have HXX : Hid (rtOk rs k = (d0 && !d1)) := by
          show _ = _
          rw [← h0, ← h1, ← rtIn_any rs y k (by omega)]
          cases hh : rtA y with
          | false => rw [rtOk_bad (by rw [HY.out]; exact hh)]; rfl
          | true =>
            cases hi : rtIn rs y k with
            | true => rw [rtOk_twice (by rw [HY.out]; exact hi)]; rfl
            | false => rw [rtOk_yes (by rw [HY.out]; exact hh) (by rw [HY.out]; exact hi)]; rfl
        go_wp2_with fail
        clear c0 c1 c2
        generalize wr.alloc (.cells #[.int .i64 y.n, .int .i64 y.b, .int .i64 y.t] 44) = w1 at HBX hA hs ⊢
        obtain ⟨S, hS0, hNE, HK⟩ := below_classB (Below.refl w1.heap.size w1) (Nat.le_refl _)
        have HW : Hid (∀ s : Hw S, Below w.heap.size w s.w) := fun s => HBX.out.trans ((HK.out.2 _ s.ok).mono HBX.out.size)
        have c0 : ∀ s : Hw S, s.w.cell? ⟨wr.heap.size, 0, none⟩ = some (.int .i64 y.n) := fun s => ((HK.out.2 _ s.ok).cell (p := ⟨wr.heap.size, 0, none⟩) hs).trans ((cell_of_row w1 _ 0 _ _ _ hA).trans rfl)
        have c1 : ∀ s : Hw S, s.w.cell? ⟨wr.heap.size, 1, none⟩ = some (.int .i64 y.b) := fun s => ((HK.out.2 _ s.ok).cell (p := ⟨wr.heap.size, 1, none⟩) hs).trans ((cell_of_row w1 _ 1 _ _ _ hA).trans rfl)
        have c2 : ∀ s : Hw S, s.w.cell? ⟨wr.heap.size, 2, none⟩ = some (.int .i64 y.t) := fun s => ((HK.out.2 _ s.ok).cell (p := ⟨wr.heap.size, 2, none⟩) hs).trans ((cell_of_row w1 _ 2 _ _ _ hA).trans rfl)
        have HCF : Hid (∀ s : Hw S, Calls Try.prog 106 #[.slice (some ⟨b, off, none⟩) k cap, .func (.func 107) #[.agg #[.int .i64 y.n, .int .i64 y.b, .int .i64 y.t]] #[]] s.w fun e w' => e = .returned (.bool d1) ∧ Below s.w.heap.size s.w w') := fun s => by
          have h := conRt_any y (some ⟨b, off, none⟩) cap (rs.take k) s.w (by simp; omega) ((HR.out.grown (HW.out s)).take k)
          rw [h1, show (rs.take k).length = k by simp; omega] at h
          exact h
        clear hA hs h0 h1
        cases d0 with
        | false =>
          have HE : Hid (V = false) := by show _ = _; rw [← HF.out, HFD.out, HXX.out]; rfl
          clear HF HFD HXX
          refine wp_region_held (S := S) (by kernel_rfl) (by kernel_rfl) hS0 ?_
          try simp only [List.append_eq, List.cons_append, List.nil_append]
          repeat (go_big_quiet_step (first | (go_at_call 105; with_reducible exact Calls.held (HIR.out _) (HK.out.1 _))))
          refine wpQuiet_nil ?_
          rintro _ ⟨sw, rfl⟩
          have HB3 : Hid (Below w.heap.size w sw.w) := HW.out sw
          clear HK c0 c1 c2 hS0 hNE HW HIR HCF
          go_wp2
          go_ret
          exact ⟨by rw [HE.out]; rfl, HB3.out⟩
        | true =>
          cases d1 with
          | true =>
            have HE : Hid (V = false) := by show _ = _; rw [← HF.out, HFD.out, HXX.out]; rfl
            clear HF HFD HXX
            refine wp_region_held (S := S) (by kernel_rfl) (by kernel_rfl) hS0 ?_
            try simp only [List.append_eq, List.cons_append, List.nil_append]
            repeat (go_big_quiet_step (first | (go_at_call 105; with_reducible exact Calls.held (HIR.out _) (HK.out.1 _)) | (go_at_call 106; with_reducible exact Calls.held (HCF.out _) (HK.out.1 _))))
            refine wpQuiet_nil ?_
            rintro _ ⟨sw, rfl⟩
            have HB3 : Hid (Below w.heap.size w sw.w) := HW.out sw
            clear HK c0 c1 c2 hS0 hNE HW HIR HCF
            go_wp2
            go_ret
            exact ⟨by rw [HE.out]; rfl, HB3.out⟩
          | false =>
            have HE : Hid (rtsFrom rs (rs.length - (k + 1)) (k + 1) = V) := by show _ = _; rw [← HF.out, HFD.out, HXX.out]; rfl
            clear HF HFD HXX
            refine wp_region_held (S := S) (by kernel_rfl) (by kernel_rfl) hS0 ?_
            try simp only [List.append_eq, List.cons_append, List.nil_append]
            repeat (go_big_quiet_step (first | (go_at_call 105; with_reducible exact Calls.held (HIR.out _) (HK.out.1 _)) | (go_at_call 106; with_reducible exact Calls.held (HCF.out _) (HK.out.1 _))))
            refine wpQuiet_nil ?_
            rintro _ ⟨sw, rfl⟩
            have HB3 : Hid (Below w.heap.size w sw.w) := HW.out sw
            clear HK c0 c1 c2 hS0 hNE HW HIR HCF
            go_wp2
            go_roundw
            case rel => exact ⟨k + 1, by omega, by go_num, HE, HB3⟩
            case measure => simp [intOf]; omega
      · obtain rfl : k = rs.length := by omega
        have HE : Hid (V = true) := by show _ = _; rw [← HF.out, Nat.sub_self]; rfl
        clear HF
        go_wp2
        go_ret
        exact ⟨by rw [HE.out]; rfl, HBE.out⟩
  · have HP : Hid (rtsB rs = false) := by show _ = _; unfold rtsB; rw [decide_eq_false h8]; simp
    rw [HP.out]
    have h8' : decide ((8 : Int) < (rs.length : Int)) = true := decide_eq_true (by omega)
    clear h8
    go_enter Try.func50, Try.ntmps50
    go_wp2
    go_ret
    exact ⟨rfl, Below.refl _ _⟩
theorem longSize : (Try.prog.info? 116).map (·.size) = some 5 := by kernel_rfl
theorem wayAlloc (w : World) (x : Rt) : (w.alloc (.cells #[.int .i64 x.n, .int .i64 x.b, .int .i64 x.t] 44)).heap.size = w.heap.size + 1 := by simp
theorem store5 {w : World} {g : Nat} {u0 u1 u2 u3 u4 : Value} (h : w.heap[g]? = some (.cells #[u0, u1, u2, u3, u4] 116 (0, 0))) (x : Rt) :
    (((((w.setCell ⟨g, 0, none⟩ (.int .i64 x.n)).setCell ⟨g, 1, none⟩ (.int .i64 x.b)).setCell ⟨g, 2, none⟩ (.int .i64 x.t)).setCell ⟨g, 3, none⟩ (.int .i64 x.b)).setCell ⟨g, 4, none⟩ (.bool true)).heap[g]? = some (.cells #[.int .i64 x.n, .int .i64 x.b, .int .i64 x.t, .int .i64 x.b, .bool true] 116 (0, 0)) := by
  have h0 := heap_setCell_same w g 0 _ _ (.int .i64 x.n) h
  have h1 := heap_setCell_same _ g 1 _ _ (.int .i64 x.b) h0
  have h2 := heap_setCell_same _ g 2 _ _ (.int .i64 x.t) h1
  have h3 := heap_setCell_same _ g 3 _ _ (.int .i64 x.b) h2
  have h4 := heap_setCell_same _ g 4 _ _ (.bool true) h3
  exact h4.trans (by rfl)
theorem grown5 (w : World) (g : Nat) (x : Rt) : w.grownBy (((((w.setCell ⟨g, 0, none⟩ (.int .i64 x.n)).setCell ⟨g, 1, none⟩ (.int .i64 x.b)).setCell ⟨g, 2, none⟩ (.int .i64 x.t)).setCell ⟨g, 3, none⟩ (.int .i64 x.b)).setCell ⟨g, 4, none⟩ (.bool true)) (some g) :=
  gb_setB (gb_setB (gb_setB (gb_setB (gb_setB (gb_reflB w (some g)) 0 _) 1 _) 2 _) 3 _) 4 _
set_option maxHeartbeats 1600000 in
theorem see_yes (g : Nat) (o x : Rt) (l : Int) (sm : Bool) (w : World) (hg : w.heap[g]? = some (.cells #[.int .i64 o.n, .int .i64 o.b, .int .i64 o.t, .int .i64 l, .bool sm] 116 (0, 0))) (h : sm = false ∨ l < x.b) :
    Calls Try.prog 87 #[.pointer (some ⟨g, 0, none⟩), .agg #[.int .i64 x.n, .int .i64 x.b, .int .i64 x.t], .int .i64 x.b] w fun e w' => e = .returned (.tuple #[]) ∧ w'.heap[g]? = some (.cells #[.int .i64 x.n, .int .i64 x.b, .int .i64 x.t, .int .i64 x.b, .bool true] 116 (0, 0)) ∧ w.grownBy w' (some g) := by
  have hlt : g < w.heap.size := (Array.getElem?_eq_some_iff.1 hg).1
  have HE : Hid (((((((w.setCell ⟨g, 0, none⟩ (.int .i64 x.n)).setCell ⟨g, 1, none⟩ (.int .i64 x.b)).setCell ⟨g, 2, none⟩ (.int .i64 x.t)).setCell ⟨g, 3, none⟩ (.int .i64 x.b)).setCell ⟨g, 4, none⟩ (.bool true)).alloc (.cells #[.int .i64 x.n, .int .i64 x.b, .int .i64 x.t] 44)).heap[g]? = some (.cells #[.int .i64 x.n, .int .i64 x.b, .int .i64 x.t, .int .i64 x.b, .bool true] 116 (0, 0)) ∧ w.grownBy ((((((w.setCell ⟨g, 0, none⟩ (.int .i64 x.n)).setCell ⟨g, 1, none⟩ (.int .i64 x.b)).setCell ⟨g, 2, none⟩ (.int .i64 x.t)).setCell ⟨g, 3, none⟩ (.int .i64 x.b)).setCell ⟨g, 4, none⟩ (.bool true)).alloc (.cells #[.int .i64 x.n, .int .i64 x.b, .int .i64 x.t] 44)) (some g)) := by
    have h2 := grown5 w g x
    have h3 : Below (((((w.setCell ⟨g, 0, none⟩ (.int .i64 x.n)).setCell ⟨g, 1, none⟩ (.int .i64 x.b)).setCell ⟨g, 2, none⟩ (.int .i64 x.t)).setCell ⟨g, 3, none⟩ (.int .i64 x.b)).setCell ⟨g, 4, none⟩ (.bool true)).heap.size (((((w.setCell ⟨g, 0, none⟩ (.int .i64 x.n)).setCell ⟨g, 1, none⟩ (.int .i64 x.b)).setCell ⟨g, 2, none⟩ (.int .i64 x.t)).setCell ⟨g, 3, none⟩ (.int .i64 x.b)).setCell ⟨g, 4, none⟩ (.bool true)) ((((((w.setCell ⟨g, 0, none⟩ (.int .i64 x.n)).setCell ⟨g, 1, none⟩ (.int .i64 x.b)).setCell ⟨g, 2, none⟩ (.int .i64 x.t)).setCell ⟨g, 3, none⟩ (.int .i64 x.b)).setCell ⟨g, 4, none⟩ (.bool true)).alloc (.cells #[.int .i64 x.n, .int .i64 x.b, .int .i64 x.t] 44)) := (Below.refl _ _).alloc (Nat.le_refl _) _
    exact ⟨(h3.block _ (Nat.lt_of_lt_of_le hlt h2.size)).trans (store5 hg x), h3.os.trans h2.os, h3.tape.trans h2.tape, h3.output.trans h2.output, Nat.le_trans h2.size h3.size, fun k hk hne => (h3.block k (Nat.lt_of_lt_of_le hk h2.size)).trans (h2.block k hk hne)⟩
  have q0 : w.cell? ⟨g, 0, none⟩ = some (.int .i64 o.n) := (cell_of_row _ _ 0 _ _ _ hg).trans rfl
  have q1 : w.cell? ⟨g, 1, none⟩ = some (.int .i64 o.b) := (cell_of_row _ _ 1 _ _ _ hg).trans rfl
  have q2 : w.cell? ⟨g, 2, none⟩ = some (.int .i64 o.t) := (cell_of_row _ _ 2 _ _ _ hg).trans rfl
  have q3 : w.cell? ⟨g, 3, none⟩ = some (.int .i64 l) := (cell_of_row _ _ 3 _ _ _ hg).trans rfl
  have q4 : w.cell? ⟨g, 4, none⟩ = some (.bool sm) := (cell_of_row _ _ 4 _ _ _ hg).trans rfl
  have f0 : w.frozen? ⟨g, 0, none⟩ = false := frozen_of_row _ _ 0 _ _ hg
  have f1 : w.frozen? ⟨g, 1, none⟩ = false := frozen_of_row _ _ 1 _ _ hg
  have f2 : w.frozen? ⟨g, 2, none⟩ = false := frozen_of_row _ _ 2 _ _ hg
  have f3 : w.frozen? ⟨g, 3, none⟩ = false := frozen_of_row _ _ 3 _ _ hg
  have f4 : w.frozen? ⟨g, 4, none⟩ = false := frozen_of_row _ _ 4 _ _ hg
  clear hg
  cases sm with
  | false =>
    clear h
    go_enter Try.func87, Try.ntmps87
    go_wp2
    go_end0
    exact ⟨rfl, HE.out⟩
  | true =>
    have h' : decide (l < x.b) = true := decide_eq_true (by simpa using h)
    clear h
    go_enter Try.func87, Try.ntmps87
    go_wp2
    go_end0
    exact ⟨rfl, HE.out⟩
set_option maxHeartbeats 1600000 in
theorem see_no (g : Nat) (o x : Rt) (l : Int) (w : World) (hg : w.heap[g]? = some (.cells #[.int .i64 o.n, .int .i64 o.b, .int .i64 o.t, .int .i64 l, .bool true] 116 (0, 0))) (h : ¬ l < x.b) :
    Calls Try.prog 87 #[.pointer (some ⟨g, 0, none⟩), .agg #[.int .i64 x.n, .int .i64 x.b, .int .i64 x.t], .int .i64 x.b] w fun e w' => e = .returned (.tuple #[]) ∧ w'.heap[g]? = some (.cells #[.int .i64 o.n, .int .i64 o.b, .int .i64 o.t, .int .i64 l, .bool true] 116 (0, 0)) ∧ w.grownBy w' (some g) := by
  have hlt : g < w.heap.size := (Array.getElem?_eq_some_iff.1 hg).1
  have hb0 : Below w.heap.size w (w.alloc (.cells #[.int .i64 x.n, .int .i64 x.b, .int .i64 x.t] 44)) := (Below.refl _ _).alloc (Nat.le_refl _) _
  have hg1 := (hb0.block _ hlt).trans hg
  have HE : Hid ((w.alloc (.cells #[.int .i64 x.n, .int .i64 x.b, .int .i64 x.t] 44)).heap[g]? = some (.cells #[.int .i64 o.n, .int .i64 o.b, .int .i64 o.t, .int .i64 l, .bool true] 116 (0, 0)) ∧ w.grownBy (w.alloc (.cells #[.int .i64 x.n, .int .i64 x.b, .int .i64 x.t] 44)) (some g)) := ⟨hg1, ⟨hb0.os, hb0.tape, hb0.output, hb0.size, fun k hk _ => hb0.block k hk⟩⟩
  have h' : decide (l < x.b) = false := decide_eq_false h
  have q3 : (w.alloc (.cells #[.int .i64 x.n, .int .i64 x.b, .int .i64 x.t] 44)).cell? ⟨g, 3, none⟩ = some (.int .i64 l) := (cell_of_row _ _ 3 _ _ _ hg1).trans rfl
  have q4 : (w.alloc (.cells #[.int .i64 x.n, .int .i64 x.b, .int .i64 x.t] 44)).cell? ⟨g, 4, none⟩ = some (.bool true) := (cell_of_row _ _ 4 _ _ _ hg1).trans rfl
  clear hb0 hg1 hg h
  go_enter Try.func87, Try.ntmps87
  go_wp2_with fail
  go_end0
  exact ⟨rfl, HE.out⟩
/-- What is kept of the best of the first k. -/
def BestIn (rs : List Rt) (d : Int) (k g : Nat) (w : World) : Prop := (bestN rs d k < 0 ∧ w.heap[g]? = some (.cells #[.int .i64 0, .int .i64 0, .int .i64 0, .int .i64 0, .bool false] 116 (0, 0))) ∨ ∃ j : Nat, bestN rs d k = (j : Int) ∧ w.heap[g]? = some (.cells #[.int .i64 (rs.getD j Rt.zero).n, .int .i64 (rs.getD j Rt.zero).b, .int .i64 (rs.getD j Rt.zero).t, .int .i64 (rs.getD j Rt.zero).b, .bool true] 116 (0, 0))
theorem BestIn.later {rs : List Rt} {d : Int} {k k' g : Nat} {w w' : World} (h : BestIn rs d k g w) (e : bestN rs d k' = bestN rs d k) (hw : w'.heap[g]? = w.heap[g]?) : BestIn rs d k' g w' := by
  unfold BestIn at *
  rw [e, hw]; exact h
set_option maxHeartbeats 3200000 in
set_option maxRecDepth 20000 in
theorem implRoute_any (a : Option Addr) (cap : Nat) (rs : List Rt) (d : Int) (w : World) (hl : rs.length ≤ 1048576) (hf : ∀ y ∈ rs, y.Fits) (h1 : (Lit.int .i64 d).wf = true) (hr : RowRt w.heap.size w a rs) :
    Calls Try.prog 38 #[.slice a rs.length cap, .int .i64 d] w fun e w' => e = .returned (.tuple #[.agg #[.int .i64 (bestR rs d).n, .int .i64 (bestR rs d).b, .int .i64 (bestR rs d).t], .bool (bestB rs d)]) ∧ Below w.heap.size w w' := by
  have HR : Hid (RowRt w.heap.size w a rs) := hr
  have HFI : Hid (∀ y ∈ rs, y.Fits) := hf
  have HWF : Hid ((Lit.int .i64 d).wf = true) := h1
  clear hr hf h1
  have hb0 : Below w.heap.size w ((w.alloc (.cells #[.int .i64 0, .int .i64 0, .int .i64 0] 44)).alloc (.cells #[.int .i64 0, .int .i64 0, .int .i64 0, .int .i64 0, .bool false] 116)) := ((Below.refl _ _).alloc (Nat.le_refl _) _).alloc (by simp) _
  have HA0 : Hid (((w.alloc (.cells #[.int .i64 0, .int .i64 0, .int .i64 0] 44)).alloc (.cells #[.int .i64 0, .int .i64 0, .int .i64 0, .int .i64 0, .bool false] 116)).heap[w.heap.size]? = some (.cells #[.int .i64 0, .int .i64 0, .int .i64 0] 44 (0, 0))) := (heap_alloc_old _ _ (by simp)).trans (heap_alloc_new w _)
  have HA1 : Hid (((w.alloc (.cells #[.int .i64 0, .int .i64 0, .int .i64 0] 44)).alloc (.cells #[.int .i64 0, .int .i64 0, .int .i64 0, .int .i64 0, .bool false] 116)).heap[w.heap.size + 1]? = some (.cells #[.int .i64 0, .int .i64 0, .int .i64 0, .int .i64 0, .bool false] 116 (0, 0))) := by
    have := heap_alloc_new (w.alloc (.cells #[.int .i64 0, .int .i64 0, .int .i64 0] 44)) (.cells #[.int .i64 0, .int .i64 0, .int .i64 0, .int .i64 0, .bool false] 116)
    rw [show (w.alloc (.cells #[.int .i64 0, .int .i64 0, .int .i64 0] 44)).heap.size = w.heap.size + 1 by simp] at this
    exact this
  have HB0 : Hid _ := hb0
  obtain ⟨G, HG⟩ : ∃ G, Hid (bestR rs d = G) := ⟨_, rfl⟩
  obtain ⟨E, HE⟩ : ∃ E, Hid (bestB rs d = E) := ⟨_, rfl⟩
  rw [HG.out, HE.out]
  clear hb0
  go_enter Try.func38, Try.ntmps38
  go_wp2_with fail
  go_loopw [11] (fun i wr => ∃ k : Nat, k ≤ rs.length ∧ i = .int .i64 (k : Int) ∧ Hid (Below w.heap.size w wr) ∧ Hid (wr.heap[w.heap.size]? = some (.cells #[.int .i64 0, .int .i64 0, .int .i64 0] 44 (0, 0))) ∧ Hid (BestIn rs d k (w.heap.size + 1) wr)) (fun i _ => rs.length - (intOf i).toNat)
  case atStart => exact ⟨0, Nat.zero_le _, rfl, HB0, HA0, .inl ⟨by show bestN rs d 0 < 0; rw [bestN]; omega, HA1.out⟩⟩
  case round =>
    obtain ⟨k, hk, rfl, HB, H0, HBI⟩ := hrel
    have hl0 : w.heap.size < wr.heap.size := (Array.getElem?_eq_some_iff.1 H0.out).1
    have hl1 : w.heap.size + 1 < wr.heap.size := by rcases HBI.out with ⟨_, h⟩ | ⟨_, _, h⟩ <;> exact (Array.getElem?_eq_some_iff.1 h).1
    by_cases hlt : k < rs.length
    · obtain ⟨b, off, rfl⟩ := HR.out.addr hlt
      obtain ⟨hb, c0, c1, c2⟩ := HR.out.at HB.out hlt
      have hi0 : (0 : Int) ≤ (k : Int) := by omega
      have hi1 : (k : Int) < (rs.length : Int) := by omega
      obtain ⟨y, HY⟩ : ∃ y, Hid (rs.getD k Rt.zero = y) := ⟨_, rfl⟩
      rw [HY.out] at c0 c1 c2
      have HYF : Hid y.Fits := by show y.Fits; rw [← HY.out]; exact HFI.out _ (by rw [List.getD_eq_getElem?_getD, List.getElem?_eq_getElem hlt]; exact List.getElem_mem hlt)
      have HBN : Hid (Below wr.heap.size wr (wr.alloc (.cells #[.int .i64 y.n, .int .i64 y.b, .int .i64 y.t] 44))) := (Below.refl _ _).alloc (Nat.le_refl _) _
      have HN : Hid ((wr.alloc (.cells #[.int .i64 y.n, .int .i64 y.b, .int .i64 y.t] 44)).heap[wr.heap.size]? = some (.cells #[.int .i64 y.n, .int .i64 y.b, .int .i64 y.t] 44 (0, 0))) := heap_alloc_new wr _
      obtain ⟨f, hf⟩ : ∃ f, fitB y d = f := ⟨_, rfl⟩
      have HC : Hid (∀ wz, Calls Try.prog 39 #[.agg #[.int .i64 y.n, .int .i64 y.b, .int .i64 y.t], .int .i64 d] wz fun e w' => e = .returned (.bool f) ∧ Below wz.heap.size wz w') := fun wz => by have := implFits_any y d wz HYF.out HWF.out; rw [hf] at this; exact this
      have HFT : Hid (fitB (rs.getD k Rt.zero) d = f) := by show _ = _; rw [HY.out]; exact hf
      clear hf
      go_wp2_with fail
      refine Calls.mono (HC.out _) ?_
      rintro e w4 ⟨rfl, hb4⟩
      have hs : wr.heap.size < (wr.alloc (.cells #[.int .i64 y.n, .int .i64 y.b, .int .i64 y.t] 44)).heap.size := by simp
      have HB4 : Hid (Below w.heap.size w w4) := (HB.out.trans (HBN.out.mono HB.out.size)).trans (hb4.mono (Nat.le_trans HB.out.size HBN.out.size))
      have hN4 : w4.heap[wr.heap.size]? = some (.cells #[.int .i64 y.n, .int .i64 y.b, .int .i64 y.t] 44 (0, 0)) := (hb4.block _ hs).trans HN.out
      have H04 : Hid (w4.heap[w.heap.size]? = some (.cells #[.int .i64 0, .int .i64 0, .int .i64 0] 44 (0, 0))) := (hb4.block _ (Nat.lt_trans hl0 hs)).trans ((HBN.out.block _ hl0).trans H0.out)
      have HBI4 : Hid (BestIn rs d k (w.heap.size + 1) w4) := HBI.out.later rfl ((hb4.block _ (Nat.lt_trans hl1 hs)).trans (HBN.out.block _ hl1))
      have hl4 : w.heap.size < w4.heap.size := (Array.getElem?_eq_some_iff.1 H04.out).1
      clear hs hb4 HC HBN HN HB H0 HBI c0 c1 c2
      cases f with
      | false =>
        have HNX : Hid (BestIn rs d (k + 1) (w.heap.size + 1) w4) := HBI4.out.later (best_no rfl HFT.out) rfl
        clear hN4
        go_wp2
        go_roundw
        case rel => exact ⟨k + 1, by omega, by go_num, HB4, H04, HNX⟩
        case measure => simp [intOf]; omega
      | true =>
        have y0 : w4.cell? ⟨wr.heap.size, 0, none⟩ = some (.int .i64 y.n) := (cell_of_row _ _ 0 _ _ _ hN4).trans rfl
        have y1 : w4.cell? ⟨wr.heap.size, 1, none⟩ = some (.int .i64 y.b) := (cell_of_row _ _ 1 _ _ _ hN4).trans rfl
        have y2 : w4.cell? ⟨wr.heap.size, 2, none⟩ = some (.int .i64 y.t) := (cell_of_row _ _ 2 _ _ _ hN4).trans rfl
        have HSEE : Hid (Calls Try.prog 87 #[.pointer (some ⟨w.heap.size + 1, 0, none⟩), .agg #[.int .i64 y.n, .int .i64 y.b, .int .i64 y.t], .int .i64 y.b] w4 fun e w' => e = .returned (.tuple #[]) ∧ Hid (BestIn rs d (k + 1) (w.heap.size + 1) w' ∧ w4.grownBy w' (some (w.heap.size + 1)))) := by
          rcases HBI4.out with ⟨hz, hg⟩ | ⟨j, hj, hg⟩
          · refine (see_yes (w.heap.size + 1) Rt.zero y 0 false w4 hg (.inl rfl)).mono ?_
            rintro e w' ⟨rfl, h2, h3⟩
            exact ⟨rfl, .inr ⟨k, best_first rfl HFT.out hz, by rw [HY.out]; exact h2⟩, h3⟩
          · by_cases hm : (rs.getD j Rt.zero).b < y.b
            · refine (see_yes (w.heap.size + 1) (rs.getD j Rt.zero) y _ true w4 hg (.inr hm)).mono ?_
              rintro e w' ⟨rfl, h2, h3⟩
              exact ⟨rfl, .inr ⟨k, best_more hj HFT.out (by rw [HY.out]; exact hm), by rw [HY.out]; exact h2⟩, h3⟩
            · refine (see_no (w.heap.size + 1) (rs.getD j Rt.zero) y _ w4 hg hm).mono ?_
              rintro e w' ⟨rfl, h2, h3⟩
              exact ⟨rfl, .inr ⟨j, best_less hj (by rw [HY.out]; omega), h2⟩, h3⟩
        clear hN4
        go_wp2_with fail
        refine Calls.mono HSEE.out ?_
        rintro e w5 ⟨rfl, H5⟩
        have HB5 : Hid (Below w.heap.size w w5) := HB4.out.grown H5.out.2 HB4.out.size (fun k hk => by cases hk; omega)
        have H05 : Hid (w5.heap[w.heap.size]? = some (.cells #[.int .i64 0, .int .i64 0, .int .i64 0] 44 (0, 0))) := (H5.out.2.block _ hl4 (by simp)).trans H04.out
        have HBI5 : Hid (BestIn rs d (k + 1) (w.heap.size + 1) w5) := H5.out.1
        clear H5 HSEE y0 y1 y2 HB4 H04 HBI4
        go_wp2
        go_roundw
        case rel => exact ⟨k + 1, by omega, by go_num, HB5, H05, HBI5⟩
        case measure => simp [intOf]; omega
    · obtain rfl : k = rs.length := by omega
      have h0 := H0.out
      have r0 : wr.cell? ⟨w.heap.size, 0, none⟩ = some (.int .i64 0) := (cell_of_row _ _ 0 _ _ _ h0).trans rfl
      have r1 : wr.cell? ⟨w.heap.size, 1, none⟩ = some (.int .i64 0) := (cell_of_row _ _ 1 _ _ _ h0).trans rfl
      have r2 : wr.cell? ⟨w.heap.size, 2, none⟩ = some (.int .i64 0) := (cell_of_row _ _ 2 _ _ _ h0).trans rfl
      have fr0 : wr.frozen? ⟨w.heap.size, 0, none⟩ = false := frozen_of_row _ _ 0 _ _ h0
      have fr1 : wr.frozen? ⟨w.heap.size, 1, none⟩ = false := frozen_of_row _ _ 1 _ _ h0
      have fr2 : wr.frozen? ⟨w.heap.size, 2, none⟩ = false := frozen_of_row _ _ 2 _ _ h0
      obtain ⟨lb, HGB⟩ : ∃ lb : Int, Hid (wr.heap[w.heap.size + 1]? = some (.cells #[.int .i64 G.n, .int .i64 G.b, .int .i64 G.t, .int .i64 lb, .bool E] 116 (0, 0))) := by
        rcases HBI.out with ⟨hz, hg⟩ | ⟨j, hj, hg⟩
        · refine ⟨0, ?_⟩
          have hG : G = Rt.zero := by rw [← HG.out]; unfold bestR; rw [if_pos hz]
          have hE : E = false := by rw [← HE.out]; unfold bestB; exact decide_eq_false (by omega)
          rw [hG, hE]; exact hg
        · refine ⟨(rs.getD j Rt.zero).b, ?_⟩
          have hG : G = rs.getD j Rt.zero := by rw [← HG.out]; unfold bestR; rw [hj, if_neg (by omega)]; simp
          have hE : E = true := by rw [← HE.out]; unfold bestB; exact decide_eq_true (by omega)
          rw [hG, hE]; exact hg
      have q0 : wr.cell? ⟨w.heap.size + 1, 0, none⟩ = some (.int .i64 G.n) := (cell_of_row _ _ 0 _ _ _ HGB.out).trans rfl
      have q1 : wr.cell? ⟨w.heap.size + 1, 1, none⟩ = some (.int .i64 G.b) := (cell_of_row _ _ 1 _ _ _ HGB.out).trans rfl
      have q2 : wr.cell? ⟨w.heap.size + 1, 2, none⟩ = some (.int .i64 G.t) := (cell_of_row _ _ 2 _ _ _ HGB.out).trans rfl
      have q3 : wr.cell? ⟨w.heap.size + 1, 3, none⟩ = some (.int .i64 lb) := (cell_of_row _ _ 3 _ _ _ HGB.out).trans rfl
      have q4 : wr.cell? ⟨w.heap.size + 1, 4, none⟩ = some (.bool E) := (cell_of_row _ _ 4 _ _ _ HGB.out).trans rfl
      have HST : Hid ((((wr.setCell ⟨w.heap.size, 0, none⟩ (.int .i64 G.n)).setCell ⟨w.heap.size, 1, none⟩ (.int .i64 G.b)).setCell ⟨w.heap.size, 2, none⟩ (.int .i64 G.t)).heap[w.heap.size]? = some (.cells #[.int .i64 G.n, .int .i64 G.b, .int .i64 G.t] 44 (0, 0))) := store3r h0 _ _ _
      have HSD : Hid ((((wr.drew.setCell ⟨w.heap.size, 0, none⟩ (.int .i64 G.n)).setCell ⟨w.heap.size, 1, none⟩ (.int .i64 G.b)).setCell ⟨w.heap.size, 2, none⟩ (.int .i64 G.t)).heap[w.heap.size]? = some (.cells #[.int .i64 G.n, .int .i64 G.b, .int .i64 G.t] 44 (0, 0))) := store3r (show wr.drew.heap[w.heap.size]? = _ from h0) _ _ _
      have HBE : Hid (Below w.heap.size w (((wr.setCell ⟨w.heap.size, 0, none⟩ (.int .i64 G.n)).setCell ⟨w.heap.size, 1, none⟩ (.int .i64 G.b)).setCell ⟨w.heap.size, 2, none⟩ (.int .i64 G.t))) := ((HB.out.setCell (show w.heap.size ≤ w.heap.size from Nat.le_refl _) _).setCell (show w.heap.size ≤ w.heap.size from Nat.le_refl _) _).setCell (show w.heap.size ≤ w.heap.size from Nat.le_refl _) _
      have hne : w.heap.size ≠ w.heap.size + 1 := by omega
      clear h0 H0 HB HBI HGB
      go_wp2
      go_region
      go_wp2
      refine bodyPost_ret (res_cellR rfl _ _ w.heap.size 44 #[.int .i64 G.n, .int .i64 G.b, .int .i64 G.t] (0, 0) _ rfl ?_ Try.underlying44 rfl sizeRt) rfl ?_
      · exact HST.out
      · exact ⟨rfl, HBE.out.drew⟩
end Go.Proofs.Ytclnhjkmhemebaa
