/- The laws' own helpers over rows of Routes: toRoute, toRouteS, szRouteS, eqRoute, eqRouteS, markRouteS, heldRouteS; and what a law keeps of such rows. -/
import Derived.Test.YtclnhjkmhemebaaRowRt
import Derived.Test.YtclnhjkmhemebaaHeldQ
import Derived.WalkKit
import Derived.WalkLawsBesides
import Derived.WalkSpells
import Derived.OwnWalk
import Derived.Laws.OwnMore
import Derived.Laws.Rows
import Derived.Lib.SmallJoins
import Derived.Deep.Slices
import Derived.OpenShut
import Derived.ProofKit
import Derived.BigRegion
namespace Go.Proofs.Ytclnhjkmhemebaa
open Go.ChangeShapes Go.WideShapes Go.ChangeAt Go.RowKit Go.Joins Go.Deep
set_option linter.unusedVariables false
theorem cellsLRoute : Try.prog.cellsOf 84 = 3 := by kernel_rfl
theorem cellsLIntRt : Try.prog.cellsOf 3 = 1 := by kernel_rfl
set_option maxRecDepth 100000 in
theorem rt_cells {H : Type} {enc : TypeId × Value → H} {W : World} {base : Nat} {sp : Nat → Bool} {held : Bool} {fuel : Nat} {cs : List Value} {x : DataW H × List MemPlace} (h : DataW.trod enc Try.prog W base sp held fuel 84 cs = some x) :
    ∃ y : Rt, cs = [.int .i64 y.n, .int .i64 y.b, .int .i64 y.t] ∧ y.Fits := by
  obtain ⟨y0, y1, y2, n, _, hl, h0, h1, h2⟩ := trod_struct3 Try.underlying84 h
  rw [cellsLRoute] at hl
  match cs, hl with
  | [c0, c1, c2], _ =>
    simp only [cellsLIntRt, List.drop_zero, List.drop_succ_cons, List.take_succ_cons, List.take_zero] at h0 h1 h2
    obtain ⟨z0, e0, _, w0⟩ := DataW.trod_int Try.underlying3 h0
    obtain ⟨z1, e1, _, w1⟩ := DataW.trod_int Try.underlying3 h1
    obtain ⟨z2, e2, _, w2⟩ := DataW.trod_int Try.underlying3 h2
    simp only [List.cons.injEq, and_true] at e0 e1 e2
    subst e0 e1 e2
    exact ⟨⟨z0, z1, z2⟩, rfl, bounds_i64 w0, bounds_i64 w1, bounds_i64 w2⟩
set_option maxRecDepth 100000 in
theorem rt_of {H : Type} {enc : TypeId × Value → H} {W : World} {base b0 : Nat} {sp : Nat → Bool} {held : Bool} {r : Reach} {v : Value} {d : DataW H} {p : List MemPlace} (hv : Value.okWide Try.prog W r b0 84 v) (h : DataW.Trod enc Try.prog W base sp held 84 v d p) :
    ∃ y : Rt, v = .agg #[.int .i64 y.n, .int .i64 y.b, .int .i64 y.t] ∧ y.Fits := by
  obtain ⟨cs, rfl, hsz⟩ := okWide_struct Try.underlying84 hv
  obtain ⟨fuel, hf⟩ := h
  obtain ⟨y, he, hfit⟩ := rt_cells hf
  refine ⟨y, ?_, hfit⟩
  congr 1
  apply Array.ext'
  exact he
set_option maxRecDepth 100000 in
theorem rts_of {H : Type} {enc : TypeId × Value → H} {W : World} {a : Option Addr} {len cap : Nat} {d : DataW H} {p : List MemPlace} (h : DataW.Trod enc Try.prog W 0 (fun _ => true) true 79 (.slice a len cap) d p) :
    ∃ ns : List Rt, len = ns.length ∧ ns.length ≤ maxLen ∧ RowRt W.heap.size W a ns ∧ ∀ y ∈ ns, y.Fits := by
  obtain ⟨fuel, hf⟩ := h
  simp only [Value.cells] at hf
  rcases open_slice Try.underlying79 hf with ⟨hn, _⟩ | ⟨ad, len', cap', m, f, D, Pl, hn, _, hlc, hcm, hm, _, hel⟩
  · simp only [List.cons.injEq, and_true, Value.slice.injEq] at hn
    obtain ⟨rfl, rfl, rfl⟩ := hn
    exact ⟨[], rfl, by simp, .inl rfl, by simp⟩
  · simp only [List.cons.injEq, and_true, Value.slice.injEq] at hn
    obtain ⟨rfl, rfl, rfl⟩ := hn
    simp only [if_true] at hm
    subst hm
    rw [cellsLRoute] at hel
    have each : ∀ i, i < len → ∃ y : Rt, y.Fits ∧ W.cells? 0 (ad.add (i * 3)) 3 = some [.int .i64 y.n, .int .i64 y.b, .int .i64 y.t] := fun i hi => by
      obtain ⟨cs', h1, h2⟩ := hel i (by omega)
      obtain ⟨y, rfl, hfit⟩ := rt_cells h2
      exact ⟨y, hfit, h1⟩
    obtain ⟨Y, hY⟩ := choose_lt each
    have hlen : ((List.range len).map Y).length = len := by simp
    have hget : ∀ i, i < len → ((List.range len).map Y).getD i Rt.zero = Y i := fun i hi => by
      rw [List.getD_eq_getElem?_getD, List.getElem?_map, List.getElem?_range hi]; rfl
    refine ⟨(List.range len).map Y, by rw [hlen], by rw [hlen]; omega, ?_, ?_⟩
    · rcases Nat.eq_zero_or_pos len with h00 | h00
      · exact .inl (by rw [h00]; rfl)
      · have key : ∀ i, i < len → ∀ j u, [Value.int .i64 (Y i).n, .int .i64 (Y i).b, .int .i64 (Y i).t][j]? = some u → W.cell? ((ad.add (i * 3)).add j) = some u := fun i hi j u hu => by
          obtain ⟨_, hl4, hcell⟩ := World.cells?_some (hY i hi).2
          have hj : j < 3 := by
            have := (List.getElem?_eq_some_iff.1 hu).1
            simpa using this
          rw [hcell j hj]; exact hu
        obtain ⟨b, off, spot⟩ := ad
        have hc0 := key 0 h00 0 _ rfl
        have hspot : spot = none := by simpa [Addr.add] using World.cell?_spot hc0
        subst hspot
        have hadd : ∀ i j : Nat, ((⟨b, off, none⟩ : Addr).add i).add j = ⟨b, off + i + j, none⟩ := fun i j => by
          have e1 : (⟨b, off, none⟩ : Addr).add i = ⟨b, off + i, none⟩ := by unfold Addr.add; split <;> simp_all
          rw [e1]; unfold Addr.add; split <;> simp_all
        refine .inr ⟨b, off, rfl, ?_, fun i hi => ?_⟩
        · have := World.block_lt_of_cell? W _ hc0
          rw [hadd] at this; exact this
        · rw [hlen] at hi
          rw [hget i hi]
          have k0 := key i hi 0 _ rfl
          have k1 := key i hi 1 _ rfl
          have k2 := key i hi 2 _ rfl
          rw [hadd] at k0 k1 k2
          exact ⟨k0, k1, k2⟩
    · intro y hy
      simp only [List.mem_map, List.mem_range] at hy
      obtain ⟨i, hi, rfl⟩ := hy
      exact (hY i hi).1
theorem toRoute_any (x : Rt) (w : World) :
    Calls Try.prog 66 #[.agg #[.int .i64 x.n, .int .i64 x.b, .int .i64 x.t]] w fun e w' => e = .returned (.agg #[.int .i64 x.n, .int .i64 x.b, .int .i64 x.t]) ∧ Below w.heap.size w w' := by
  go_enter Try.func66, Try.ntmps66
  go_wp2
  refine bodyPost_ret (results_cell_row rfl _ _ (w.heap.size + 1) 44 #[.int .i64 x.n, .int .i64 x.b, .int .i64 x.t] (0, 0) _ rfl ?_ Try.underlying44 rfl sizeRt) rfl ?_
  · rw [heap_alloc_old _ _ (by simp)]
    have := heap_alloc_new (w.alloc (.cells #[.int .i64 x.n, .int .i64 x.b, .int .i64 x.t] 84)) (.cells #[.int .i64 x.n, .int .i64 x.b, .int .i64 x.t] 44)
    simpa using this
  · exact ⟨rfl, (((Below.refl _ _).alloc (Nat.le_refl _) _).alloc (by simp) _).alloc (by simp; omega) _⟩
theorem szRouteS_any (a : Option Addr) (len cap : Nat) (w : World) (hl : len ≤ 1048576) :
    Calls Try.prog 63 #[.slice a len cap, .int .i64 1048576] w fun e w' => e = .returned (.int .i64 (1048576 - (len : Int))) ∧ w = w' := by
  have h : ¬ (1048576 : Int) - (len : Int) < 0 := by omega
  go_enter Try.func63, Try.ntmps63
  go_wp2
  go_ret
  exact ⟨rfl, rfl⟩
theorem szRouteS_big (a : Option Addr) (len cap : Nat) (w : World) (hl : 1048576 < len) (hm : len ≤ maxLen) :
    Calls Try.prog 63 #[.slice a len cap, .int .i64 1048576] w fun e w' => e = .returned (.int .i64 (-1)) ∧ w = w' := by
  have h : (1048576 : Int) - (len : Int) < 0 := by omega
  have hm' : (len : Int) ≤ 9223372036854775807 := by unfold maxLen at hm; omega
  clear hm
  go_enter Try.func63, Try.ntmps63
  go_wp2
  go_ret
  exact ⟨rfl, rfl⟩
theorem set3_takeRt {α : Type} (xs : List α) (m : Nat) (a0 a1 a2 : α) (h : m + 3 ≤ xs.length) : (((xs.set m a0).set (m + 1) a1).set (m + 2) a2).take (m + 3) = xs.take m ++ [a0, a1, a2] := by
  apply List.ext_getElem?
  intro j
  rw [List.getElem?_take]
  by_cases hj : j < m
  · rw [if_pos (by omega), List.getElem?_append_left (by simp; omega), List.getElem?_take, if_pos hj]
    simp only [List.getElem?_set]
    rw [if_neg (by omega), if_neg (by omega), if_neg (by omega)]
  · by_cases hj4 : j < m + 3
    · rw [if_pos hj4, List.getElem?_append_right (by simp; omega)]
      simp only [List.getElem?_set, List.length_set, List.length_take]
      rcases (show j = m ∨ j = m + 1 ∨ j = m + 2 by omega) with rfl | rfl | rfl
      · rw [show min j xs.length = j by omega]; simp; omega
      · rw [show min m xs.length = m by omega]; simp; omega
      · rw [show min m xs.length = m by omega]; simp; omega
    · rw [if_neg hj4, List.getElem?_eq_none (by simp; omega)]
set_option maxHeartbeats 800000 in
theorem toRouteS_any (a : Option Addr) (cap : Nat) (ns : List Rt) (w : World) (hl : ns.length ≤ 1048576) (hr : RowRt w.heap.size w a ns) :
    Calls Try.prog 64 #[.slice a ns.length cap] w fun e w' => ∃ v, e = .returned v ∧ (∃ g : Nat, v = .slice (some ⟨g, 0, none⟩) ns.length ns.length) ∧ OwnRt w.heap.size w' v ns ∧ Below w.heap.size w w' := by
  obtain ⟨i0, hi, hz0, hz1, hz2⟩ := info_parts infoRt
  have HR : Hid (RowRt w.heap.size w a ns) := hr
  clear hr
  go_enter Try.func64, Try.ntmps64
  go_wp2_with (at_make; refine wpList_make_full _ rfl _ _ 41 rfl w.heap.size 44 i0 (.agg #[.int .i64 0, .int .i64 0, .int .i64 0]) 3 Try.underlying41 hi hz0 hz1 .i64 .i64 _ _ ns.length rfl rfl rfl rfl (by rw [hz2]; omega) (by unfold maxLen; omega) (Nat.le_refl _) ?_; intro w2 hown2 hgrow2)
  have hB2 : Below w.heap.size w w2 := (Below.refl _ _).grown hgrow2 (Nat.le_refl _) (by simp)
  clear hgrow2
  go_loopw [4] (fun i wr => ∃ (k : Nat) (xs : List Value), k ≤ ns.length ∧ i = .int .i64 (k : Int) ∧ wr.ownsRow w.heap.size 44 3 (.slice (some ⟨w.heap.size, 0, none⟩) ns.length ns.length) ns.length xs ∧ Hid (xs.take (k * 3) = cellsRt (ns.take k)) ∧ Below w.heap.size w wr)
    (fun i _ => ns.length - (intOf i).toNat)
  case atStart => exact ⟨0, _, Nat.zero_le _, rfl, hown2, (by show _ = _; simp [cellsRt]), hB2⟩
  case round =>
    obtain ⟨k, xs, hk, rfl, hownr, HT, hbr⟩ := hrel
    have hxl : xs.length = ns.length * 3 := hownr.1
    by_cases hlt : k < ns.length
    · obtain ⟨b, off, rfl⟩ := HR.out.addr hlt
      obtain ⟨hb, c0, c1, c2⟩ := HR.out.at hbr hlt
      have hi0 : (0 : Int) ≤ (k : Int) := by omega
      have hi1 : (k : Int) < (ns.length : Int) := by omega
      have HC : Hid (cellsRt (ns.take (k + 1)) = cellsRt (ns.take k) ++ (ns.getD k Rt.zero).cells) := cellsRt_take ns k hlt
      generalize ns.getD k Rt.zero = y at c0 c1 c2 HC
      go_wp2_with fail
      refine (toRoute_any y _).mono ?_
      rintro e w3 ⟨rfl, hb3⟩
      have ho3 := own_laterB hownr hb3
      have hbw : Below w.heap.size w w3 := hbr.trans (hb3.mono hbr.size)
      obtain ⟨u0, e0⟩ : ∃ u, w3.cell? ⟨w.heap.size, k * 3, none⟩ = some u := by rw [ho3.cellAt (k * 3) (by omega)]; exact ⟨_, List.getElem?_eq_getElem (by omega)⟩
      obtain ⟨u1, e1⟩ : ∃ u, w3.cell? ⟨w.heap.size, k * 3 + 1, none⟩ = some u := by rw [ho3.cellAt (k * 3 + 1) (by omega)]; exact ⟨_, List.getElem?_eq_getElem (by omega)⟩
      obtain ⟨u2, e2⟩ : ∃ u, w3.cell? ⟨w.heap.size, k * 3 + 2, none⟩ = some u := by rw [ho3.cellAt (k * 3 + 2) (by omega)]; exact ⟨_, List.getElem?_eq_getElem (by omega)⟩
      have f0 := ho3.frozenAt (k * 3)
      have f1 := ho3.frozenAt (k * 3 + 1)
      have f2 := ho3.frozenAt (k * 3 + 2)
      have HS : Hid _ := (((ho3.stored (k * 3) (.int .i64 y.n)).1.stored (k * 3 + 1) (.int .i64 y.b)).1.stored (k * 3 + 2) (.int .i64 y.t)).1
      have HBE : Hid (Below w.heap.size w ((((w3.setCell ⟨w.heap.size, k * 3, none⟩ (.int .i64 y.n)).setCell ⟨w.heap.size, k * 3 + 1, none⟩ (.int .i64 y.b)).setCell ⟨w.heap.size, k * 3 + 2, none⟩ (.int .i64 y.t)))) := (((hbw.setCell (Nat.le_refl _) _).setCell (Nat.le_refl _) _).setCell (Nat.le_refl _) _)
      have HT4 : Hid ((((xs.set (k * 3) (.int .i64 y.n)).set (k * 3 + 1) (.int .i64 y.b)).set (k * 3 + 2) (.int .i64 y.t)).take ((k + 1) * 3) = cellsRt (ns.take (k + 1))) := by
        show _ = _
        rw [show (k + 1) * 3 = k * 3 + 3 by omega, set3_takeRt xs (k * 3) _ _ _ (by omega), HT.out, HC.out]; rfl
      clear hownr ho3 hbr hbw hb3 HT HC c0 c1 c2
      go_wp2
      go_roundw
      case rel => exact ⟨k + 1, _, by omega, by go_num, HS.out, HT4, HBE.out⟩
      case measure => simp [intOf]; omega
    · obtain rfl : k = ns.length := by omega
      have HE : Hid (xs = cellsRt ns) := by
        show _ = _
        have := HT.out
        rw [List.take_of_length_le (by omega), List.take_length] at this
        exact this
      clear HT
      go_wp2
      go_ret
      exact ⟨_, rfl, ⟨_, rfl⟩, by unfold OwnRt; rw [← HE.out]; exact hownr, hbr⟩
theorem eqRoute_any (x y : Rt) (w : World) :
    Calls Try.prog 67 #[.agg #[.int .i64 x.n, .int .i64 x.b, .int .i64 x.t], .agg #[.int .i64 y.n, .int .i64 y.b, .int .i64 y.t]] w fun e w' => e = .returned (.bool (decide (x = y))) ∧ Below w.heap.size w w' := by
  have HE := rt_eq x y
  by_cases h0 : x.n = y.n
  · by_cases h1 : x.b = y.b
    · by_cases h2 : x.t = y.t
      · have HV : Hid (decide (x = y) = true) := decide_eq_true (HE.mpr ⟨h0, h1, h2⟩)
        clear HE
        go_enter Try.func67, Try.ntmps67
        go_wp2
        go_ret
        exact ⟨by rw [HV.out]; rfl, ((Below.refl _ _).alloc (Nat.le_refl _) _).alloc (by simp) _⟩
      · have HV : Hid (decide (x = y) = false) := decide_eq_false (fun h => h2 (HE.mp h).2.2)
        have h3' : (x.t != y.t) = true := by simp [h2]
        clear HE
        go_enter Try.func67, Try.ntmps67
        go_wp2
        go_ret
        exact ⟨by rw [HV.out]; rfl, ((Below.refl _ _).alloc (Nat.le_refl _) _).alloc (by simp) _⟩
    · have HV : Hid (decide (x = y) = false) := decide_eq_false (fun h => h1 (HE.mp h).2.1)
      have h3' : (x.b != y.b) = true := by simp [h1]
      clear HE
      go_enter Try.func67, Try.ntmps67
      go_wp2
      go_ret
      exact ⟨by rw [HV.out]; rfl, ((Below.refl _ _).alloc (Nat.le_refl _) _).alloc (by simp) _⟩
  · have HV : Hid (decide (x = y) = false) := decide_eq_false (fun h => h0 (HE.mp h).1)
    have h3' : (x.n != y.n) = true := by simp [h0]
    clear HE
    go_enter Try.func67, Try.ntmps67
    go_wp2
    go_ret
    exact ⟨by rw [HV.out]; rfl, ((Below.refl _ _).alloc (Nat.le_refl _) _).alloc (by simp) _⟩
def sameRt (ns ms : List Rt) : Nat → Nat → Bool
  | 0, _ => true
  | f + 1, k => if ns.getD k Rt.zero = ms.getD k Rt.zero then sameRt ns ms f (k + 1) else false
theorem sameRt_eq : ∀ (f k : Nat) (ns ms : List Rt), ns.length = ms.length → ns.length = k + f → ns.take k = ms.take k → sameRt ns ms f k = decide (ns = ms)
  | 0, k, ns, ms, hl, hf, ht => by
    rw [List.take_of_length_le (by omega), List.take_of_length_le (by omega)] at ht
    simp [sameRt, ht]
  | f + 1, k, ns, ms, hl, hf, ht => by
    rw [sameRt]
    have h1 : k < ns.length := by omega
    have h2 : k < ms.length := by omega
    have e1 : ns.getD k Rt.zero = ns[k] := by rw [List.getD_eq_getElem?_getD, List.getElem?_eq_getElem h1]; rfl
    have e2 : ms.getD k Rt.zero = ms[k] := by rw [List.getD_eq_getElem?_getD, List.getElem?_eq_getElem h2]; rfl
    split
    · rename_i h
      refine sameRt_eq f (k + 1) ns ms hl (by omega) ?_
      rw [List.take_succ_eq_append_getElem h1, List.take_succ_eq_append_getElem h2, ht, ← e1, ← e2, h]
    · rename_i h
      symm; apply decide_eq_false
      intro e; subst e; exact h rfl
set_option maxHeartbeats 1600000 in
theorem eqRouteS_len (a b : Option Addr) (ca cb n : Nat) (ns ms : List Rt) (w : World) (h1 : ns.length = n) (h2 : ms.length = n) (hl : n ≤ 2097152) (hr : RowRt w.heap.size w a ns) (hq : RowRt w.heap.size w b ms) :
    Calls Try.prog 65 #[.slice a n ca, .slice b n cb] w fun e w' => e = .returned (.bool (decide (ns = ms))) ∧ Below w.heap.size w w' := by
  have HR : Hid (RowRt w.heap.size w a ns) := hr
  have HQ : Hid (RowRt w.heap.size w b ms) := hq
  have HN : Hid (ns.length = n ∧ ms.length = n) := ⟨h1, h2⟩
  have HS : Hid (sameRt ns ms n 0 = decide (ns = ms)) := sameRt_eq n 0 ns ms (by omega) (by omega) rfl
  clear hr hq h1 h2
  go_enter Try.func65, Try.ntmps65
  go_wp2
  go_loopw [5] (fun i wr => ∃ k : Nat, k ≤ n ∧ i = .int .i64 (k : Int) ∧ Hid (sameRt ns ms (n - k) k = decide (ns = ms)) ∧ Below w.heap.size w wr)
    (fun i _ => n - (intOf i).toNat)
  case atStart => exact ⟨0, Nat.zero_le _, rfl, HS, Below.refl _ _⟩
  case round =>
    obtain ⟨k, hk, rfl, HF, hbel⟩ := hrel
    by_cases hlt : k < n
    · obtain ⟨b1, off1, rfl⟩ := HR.out.addr (i := k) (by have := HN.out.1; omega)
      obtain ⟨b2, off2, rfl⟩ := HQ.out.addr (i := k) (by have := HN.out.2; omega)
      have hi0 : (0 : Int) ≤ (k : Int) := by omega
      have hi1 : (k : Int) < (n : Int) := by omega
      obtain ⟨S, hS0, hNE, HK⟩ := below_classB hbel (Nat.le_refl _)
      have C1 := fun s : Hw S => HR.out.at (HK.out.2 _ s.ok) (i := k) (by have := HN.out.1; omega)
      have C2 := fun s : Hw S => HQ.out.at (HK.out.2 _ s.ok) (i := k) (by have := HN.out.2; omega)
      have HFD : Hid (sameRt ns ms (n - k) k = if ns.getD k Rt.zero = ms.getD k Rt.zero then sameRt ns ms (n - (k + 1)) (k + 1) else false) := by
        show _ = _
        rw [show n - k = (n - (k + 1)) + 1 by omega, sameRt]
      generalize ns.getD k Rt.zero = x at C1 HFD
      generalize ms.getD k Rt.zero = y at C2 HFD
      have c0 := fun s : Hw S => (C1 s).2.1
      have c1 := fun s : Hw S => (C1 s).2.2.1
      have c2 := fun s : Hw S => (C1 s).2.2.2
      have d0 := fun s : Hw S => (C2 s).2.1
      have d1 := fun s : Hw S => (C2 s).2.2.1
      have d2 := fun s : Hw S => (C2 s).2.2.2
      clear C1 C2
      by_cases hxy : x = y
      · have hd : decide (x = y) = true := decide_eq_true hxy
        have HV : Hid (sameRt ns ms (n - (k + 1)) (k + 1) = decide (ns = ms)) := by show _ = _; rw [← HF.out, HFD.out, if_pos hxy]
        clear hxy
        go_wp2
        refine wp_region_held (S := S) (by kernel_rfl) (by kernel_rfl) hS0 ?_
        repeat (go_big_quiet_step ((go_at_call 67; exact Calls.held (eqRoute_any x y _) (HK.out.1 _))))
        refine wpQuiet_nil ?_
        rintro _ ⟨sw, rfl⟩
        have hB := HK.out.2 _ sw.ok
        clear c0 d0 c1 d1 c2 d2 HK
        go_wp2
        go_roundw
        case rel => exact ⟨k + 1, by omega, by go_num, HV, hB⟩
        case measure => simp [intOf]; omega
      · have hd : decide (x = y) = false := decide_eq_false hxy
        have HV : Hid (decide (ns = ms) = false) := by show _ = _; rw [← HF.out, HFD.out, if_neg hxy]
        clear hxy
        go_wp2
        refine wp_region_held (S := S) (by kernel_rfl) (by kernel_rfl) hS0 ?_
        repeat (go_big_quiet_step ((go_at_call 67; exact Calls.held (eqRoute_any x y _) (HK.out.1 _))))
        refine wpQuiet_nil ?_
        rintro _ ⟨sw, rfl⟩
        have hB := HK.out.2 _ sw.ok
        clear c0 d0 c1 d1 c2 d2 HK
        go_wp2
        go_ret
        exact ⟨by rw [HV.out]; rfl, hB⟩
    · obtain rfl : k = n := by omega
      go_wp2
      go_ret
      exact ⟨by rw [← HF.out, Nat.sub_self]; rfl, hbel⟩
theorem eqRouteS_same (a b : Option Addr) (ca cb : Nat) (ns : List Rt) (w : World) (hl : ns.length ≤ 2097152) (hr : RowRt w.heap.size w a ns) (hq : RowRt w.heap.size w b ns) :
    Calls Try.prog 65 #[.slice a ns.length ca, .slice b ns.length cb] w fun e w' => e = .returned (.bool true) ∧ Below w.heap.size w w' := by
  have h := eqRouteS_len a b ca cb ns.length ns ns w rfl rfl hl hr hq
  rw [decide_eq_true rfl] at h
  exact h
/-- The marks. -/
def markRt (k : Int) : Rt := ⟨k, k + 1, k + 1 + 1⟩
def marksRt (k : Int) : Nat → List Rt
  | 0 => []
  | n + 1 => marksRt k n ++ [markRt (k + 3 * (n : Int))]
theorem marksRt_len (k : Int) : ∀ n, (marksRt k n).length = n
  | 0 => rfl
  | n + 1 => by simp [marksRt, marksRt_len k n]
theorem marksRt_at (k : Int) : ∀ n i, i < n → (marksRt k n).getD i Rt.zero = markRt (k + 3 * (i : Int))
  | n + 1, i, h => by
    rw [marksRt, List.getD_eq_getElem?_getD]
    by_cases hi : i < n
    · rw [List.getElem?_append_left (by rw [marksRt_len]; exact hi), ← List.getD_eq_getElem?_getD]; exact marksRt_at k n i hi
    · obtain rfl : i = n := by omega
      rw [List.getElem?_append_right (by rw [marksRt_len]; exact Nat.le_refl _), marksRt_len]; simp
/-- A row that came in, below p. -/
structure InRt (p : Nat) (a : Option Addr) (ns : List Rt) (w : World) : Prop where
  le : p ≤ w.heap.size
  row : RowRt p w a ns
theorem InRt.next {p : Nat} {a : Option Addr} {ns : List Rt} {w w' : World} (h : InRt p a ns w) (hb : Below w.heap.size w w') : InRt p a ns w' := ⟨Nat.le_trans h.le hb.size, h.row.later (hb.mono h.le)⟩
theorem InRt.mark {p : Nat} {a : Option Addr} {ns : List Rt} {w w' : World} {r : Option Nat} (h : InRt p a ns w) (hg : w.grownBy w' r) (hne : ∀ g, r = some g → p ≤ g) : InRt p a ns w' := by
  refine ⟨Nat.le_trans h.le hg.size, ?_⟩
  rcases h.row with h0 | ⟨b, off, e, hlt, hc⟩
  · exact .inl h0
  · refine .inr ⟨b, off, e, hlt, fun i hi => ?_⟩
    have hn : r ≠ some b := fun e => by have := hne b e; omega
    have hb : b < w.heap.size := Nat.lt_of_lt_of_le hlt h.le
    obtain ⟨c0, c1, c2⟩ := hc i hi
    exact ⟨cell_grownB hg hb hn c0, cell_grownB hg hb hn c1, cell_grownB hg hb hn c2⟩
theorem InRt.all {p : Nat} {a : Option Addr} {ns : List Rt} {w : World} (h : InRt p a ns w) : RowRt w.heap.size w a ns := h.row.wide h.le
/-- A row that the law owns, its block from lo on, below hi. -/
structure OwnRtZ (lo hi : Nat) (v : Value) (ns : List Rt) (w : World) : Prop where
  own : OwnRt lo w v ns
  le : hi ≤ w.heap.size
  lt : ∀ k, v.ownBlock = some k → k < hi
theorem OwnRtZ.made {lo : Nat} {v : Value} {ns : List Rt} {w : World} (h : OwnRt lo w v ns) : OwnRtZ lo w.heap.size v ns w := ⟨h, Nat.le_refl _, fun k hk => (World.ownsRow.lt h k hk).2⟩
theorem OwnRtZ.next {lo hi : Nat} {v : Value} {ns : List Rt} {w w' : World} (h : OwnRtZ lo hi v ns w) (hb : Below w.heap.size w w') : OwnRtZ lo hi v ns w' := ⟨h.own.later hb, Nat.le_trans h.le hb.size, h.lt⟩
theorem OwnRtZ.mark {lo hi : Nat} {v : Value} {ns : List Rt} {w w' : World} {r : Option Nat} (h : OwnRtZ lo hi v ns w) (hg : w.grownBy w' r) (hne : ∀ g, r = some g → g < lo ∨ hi ≤ g) : OwnRtZ lo hi v ns w' := by
  refine ⟨World.ownsRow.kept h.own hg ?_, Nat.le_trans h.le hg.size, h.lt⟩
  cases hv : v.ownBlock with
  | none => exact .inl rfl
  | some k =>
    right
    intro e
    have h1 := World.ownsRow.lt h.own k hv
    have h2 := h.lt k hv
    have h3 := hne k e.symm
    omega
theorem OwnRtZ.rowAt {lo hi : Nat} {a : Option Addr} {n cap : Nat} {ns : List Rt} {w : World} (h : OwnRtZ lo hi (.slice a n cap) ns w) : RowRt w.heap.size w a ns := by
  obtain ⟨a', cap', e, _, hr⟩ := h.own.row
  cases e
  exact hr
theorem OwnRtZ.rowIs {lo hi : Nat} {a : Option Addr} {n cap : Nat} {ns : List Rt} {w : World} (h : OwnRtZ lo hi (.slice a n cap) ns w) : Adr a cap := by
  obtain ⟨a', cap', e, ha, _⟩ := h.own.row
  cases e
  exact ha
/-- A struct in a box of its own. -/
structure BxRt (b : Nat) (x : Rt) (w : World) : Prop where
  lt : b < w.heap.size
  c0 : w.cell? ⟨b, 0, none⟩ = some (.int .i64 x.n)
  c1 : w.cell? ⟨b, 1, none⟩ = some (.int .i64 x.b)
  c2 : w.cell? ⟨b, 2, none⟩ = some (.int .i64 x.t)
theorem BxRt.next {b : Nat} {x : Rt} {w w' : World} (h : BxRt b x w) (hb : Below w.heap.size w w') : BxRt b x w' := ⟨Nat.lt_of_lt_of_le h.lt hb.size, (hb.cell (p := ⟨b, 0, none⟩) h.lt).trans h.c0, (hb.cell (p := ⟨b, 1, none⟩) h.lt).trans h.c1, (hb.cell (p := ⟨b, 2, none⟩) h.lt).trans h.c2⟩
theorem BxRt.made {w : World} {x : Rt} {t : TypeId} : BxRt w.heap.size x (w.alloc (.cells #[.int .i64 x.n, .int .i64 x.b, .int .i64 x.t] t)) := by
  have hn := heap_alloc_new w (.cells #[.int .i64 x.n, .int .i64 x.b, .int .i64 x.t] t)
  exact ⟨by simp, (cell_of_row _ w.heap.size 0 _ _ _ hn).trans rfl, (cell_of_row _ w.heap.size 1 _ _ _ hn).trans rfl, (cell_of_row _ w.heap.size 2 _ _ _ hn).trans rfl⟩
theorem OwnRtZ.block {lo hi : Nat} {v : Value} {ns : List Rt} {w : World} (h : OwnRtZ lo hi v ns w) : ∀ g, v.ownBlock = some g → lo ≤ g ∧ g < hi := fun g hg => ⟨(World.ownsRow.lt h.own g hg).1, h.lt g hg⟩
end Go.Proofs.Ytclnhjkmhemebaa
