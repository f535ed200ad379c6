/- The contracts of chapter 16's functions on ways and packets, the specification's: PacketOk, FitsRoute, RouteOf, RoutesOk. -/
import Derived.Test.YtclnhjkmhemebaaPlainTerm
import Derived.Test.YtclnhjkmhemebaaTermW
import Derived.Test.YtclnhjkmhemebaaHeldQ
import Derived.WalkKit
import Derived.WalkLawsBesides
import Derived.WalkSpells
import Derived.OwnWalk
import Derived.Laws.OwnMore
import Derived.Laws.Rows
import Derived.Laws.ResultCell
import Derived.Deep.QuietTactic
import Derived.BigQuiet
namespace Go.Proofs.Ytclnhjkmhemebaa
open Go.RowKit
set_option linter.unusedVariables false
set_option maxHeartbeats 800000 in
theorem specPkOk_any (p : Nd) (w : World) :
    Calls Try.prog 52 #[.agg #[.int .i64 p.k, .int .i64 p.n, .int .i64 p.a, .int .i64 p.b]] w fun e w' => e = .returned (.bool (pkOk p)) ∧ Below w.heap.size w w' := by
  have HB : Hid (Below w.heap.size w (w.alloc (.cells #[.int .i64 p.k, .int .i64 p.n, .int .i64 p.a, .int .i64 p.b] 52))) := (Below.refl _ _).alloc (Nat.le_refl _) _
  unfold pkOk
  obtain ⟨d0, h0⟩ : ∃ d, inB p.k 0 255 = d := ⟨_, rfl⟩
  obtain ⟨d1, h1⟩ : ∃ d, inB p.n 0 255 = d := ⟨_, rfl⟩
  obtain ⟨d2, h2⟩ : ∃ d, inB p.a 1 9 = d := ⟨_, rfl⟩
  obtain ⟨d3, h3⟩ : ∃ d, inB p.b 0 999 = d := ⟨_, rfl⟩
  rw [h0, h1, h2, h3]
  cases d0 <;> cases d1 <;> cases d2 <;> cases d3
  all_goals
    go_enter Try.func52, Try.ntmps52
    go_wp2_with fail
    repeat (go_at_call 83; refine (specIn_any _ _ _ _).mono ?_; rintro e w' ⟨rfl, rfl⟩; (first | rw [h0] | rw [h1] | rw [h2] | rw [h3]); go_wp2_with fail)
    go_ret
    exact ⟨rfl, HB.out⟩
set_option maxHeartbeats 800000 in
theorem specFits_any (r : Rt) (d : Int) (w : World) :
    Calls Try.prog 55 #[.agg #[.int .i64 r.n, .int .i64 r.b, .int .i64 r.t], .int .i64 d] w fun e w' => e = .returned (.bool (fitB r d)) ∧ Below w.heap.size w w' := by
  have HB : Hid (Below w.heap.size w (w.alloc (.cells #[.int .i64 r.n, .int .i64 r.b, .int .i64 r.t] 44))) := (Below.refl _ _).alloc (Nat.le_refl _) _
  obtain ⟨F, HF⟩ : ∃ F, Hid (fitB r d = F) := ⟨_, rfl⟩
  rw [HF.out]
  obtain ⟨d0, h0⟩ : ∃ d, inB r.b 0 8 = d := ⟨_, rfl⟩
  obtain ⟨d1, h1⟩ : ∃ q, inB d 0 255 = q := ⟨_, rfl⟩
  obtain ⟨d2, h2⟩ : ∃ d, inB r.n 0 255 = d := ⟨_, rfl⟩
  cases d0 <;> cases d1 <;> cases d2
  case true.true.true =>
    have H0 := h0
    have H1 := h1
    have H2 := h2
    unfold inB at H0 H1 H2
    simp at H0 H1 H2
    go_enter Try.func55, Try.ntmps55
    go_wp2_with fail
    repeat (go_at_call 83; refine (specIn_any _ _ _ _).mono ?_; rintro e w' ⟨rfl, rfl⟩; (first | rw [h0] | rw [h1] | rw [h2]); go_wp2_with fail)
    have HV : Hid (F = (d / 2 ^ (8 - r.b).toNat == r.n / 2 ^ (8 - r.b).toNat)) := by show _ = _; rw [← HF.out]; unfold fitB; rw [h0, h1, h2]; simp only [Bool.true_and, shB]; rw [Bool.eq_iff_iff, beq_iff_eq]; exact decide_eq_true_iff
    go_ret
    exact ⟨by rw [HV.out]; rfl, HB.out⟩
  all_goals
    have HV : Hid (F = false) := by show _ = _; rw [← HF.out]; unfold fitB; rw [h0, h1, h2]; rfl
    go_enter Try.func55, Try.ntmps55
    go_wp2_with fail
    repeat (go_at_call 83; refine (specIn_any _ _ _ _).mono ?_; rintro e w' ⟨rfl, rfl⟩; (first | rw [h0] | rw [h1] | rw [h2]); go_wp2_with fail)
    go_ret
    exact ⟨by rw [HV.out]; rfl, HB.out⟩
theorem store3r {w : World} {g : Nat} {u0 u1 u2 : Value} (h : w.heap[g]? = some (.cells #[u0, u1, u2] 44 (0, 0))) (v0 v1 v2 : Value) :
    (((w.setCell ⟨g, 0, none⟩ v0).setCell ⟨g, 1, none⟩ v1).setCell ⟨g, 2, none⟩ v2).heap[g]? = some (.cells #[v0, v1, v2] 44 (0, 0)) := by
  have h0 := heap_setCell_same w g 0 _ _ v0 h
  have h1 := heap_setCell_same _ g 1 _ _ v1 h0
  have h2 := heap_setCell_same _ g 2 _ _ v2 h1
  exact h2.trans (by rfl)
theorem res_cellR {P : Program} {fn : Func} {p u : Tmp} {ty : TypeId} (h : fn.results = #[.cell p ty, .tmp u]) (tmps : Array Value) (w : World) (g : Nat) (t : TypeId) (cs : Array Value) (fr : Nat × Nat) (d : TypeDesc)
    (hp : tmps.getD p undef = .pointer (some ⟨g, 0, none⟩)) (hg : w.heap[g]? = some (.cells cs t fr))
    (hu : P.underlying ty = some d) (hd : (match d with | .struct _ | .array _ _ => true | _ => false) = true) (hi : (P.info? ty).map (·.size) = some cs.size) :
    (results fn tmps).run P w = .ok (.tuple #[.agg cs, tmps.getD u undef]) w := by
  rw [results_cell_tmp h, hp]
  simp [asAddr, run_loadVar_row w g t ty cs fr d hg hu hd hi]
theorem best_no {rs : List Rt} {d : Int} {k : Nat} {bz : Int} (hb : bestN rs d k = bz) (h : fitB (rs.getD k Rt.zero) d = false) : bestN rs d (k + 1) = bz := by
  rw [bestN, if_neg (fun c => by rw [h] at c; cases c.1), hb]
theorem best_first {rs : List Rt} {d : Int} {k : Nat} {bz : Int} (hb : bestN rs d k = bz) (h : fitB (rs.getD k Rt.zero) d = true) (hz : bz < 0) : bestN rs d (k + 1) = k := by
  rw [bestN, if_pos ⟨h, .inl (by rw [hb]; exact hz)⟩]
theorem best_more {rs : List Rt} {d : Int} {k j : Nat} (hb : bestN rs d k = (j : Int)) (h : fitB (rs.getD k Rt.zero) d = true) (hz : (rs.getD j Rt.zero).b < (rs.getD k Rt.zero).b) : bestN rs d (k + 1) = k := by
  rw [bestN, if_pos ⟨h, .inr (by rw [hb]; exact hz)⟩]
theorem best_less {rs : List Rt} {d : Int} {k j : Nat} (hb : bestN rs d k = (j : Int)) (hz : (rs.getD k Rt.zero).b ≤ (rs.getD j Rt.zero).b) : bestN rs d (k + 1) = j := by
  rw [bestN, if_neg (fun c => by rcases c.2 with h | h; (rw [hb] at h; omega); (rw [hb] at h; simp only [Int.toNat_natCast] at h; omega)), hb]
set_option maxHeartbeats 3200000 in
set_option maxRecDepth 20000 in
theorem specRoute_any (a : Option Addr) (cap : Nat) (rs : List Rt) (d : Int) (w : World) (hl : rs.length ≤ 1048576) (hr : RowRt w.heap.size w a rs) :
    Calls Try.prog 49 #[.slice a rs.length cap, .int .i64 d] w fun e w' => e = .returned (.tuple #[.agg #[.int .i64 (bestR rs d).n, .int .i64 (bestR rs d).b, .int .i64 (bestR rs d).t], .bool (bestB rs d)]) ∧ Below w.heap.size w w' := by
  have HR : Hid (RowRt w.heap.size w a rs) := hr
  clear hr
  have HB0 : Hid (Below w.heap.size w (w.alloc (.cells #[.int .i64 0, .int .i64 0, .int .i64 0] 44))) := (Below.refl _ _).alloc (Nat.le_refl _) _
  have HX0 : Hid ((w.alloc (.cells #[.int .i64 0, .int .i64 0, .int .i64 0] 44)).heap[w.heap.size]? = some (.cells #[.int .i64 0, .int .i64 0, .int .i64 0] 44 (0, 0))) := heap_alloc_new w _
  have hs0 : (w.alloc (.cells #[.int .i64 0, .int .i64 0, .int .i64 0] 44)).heap.size = w.heap.size + 1 := by simp
  obtain ⟨G, HG⟩ : ∃ G, Hid (bestR rs d = G) := ⟨_, rfl⟩
  obtain ⟨E, HE⟩ : ∃ E, Hid (bestB rs d = E) := ⟨_, rfl⟩
  rw [HG.out, HE.out]
  go_enter Try.func49, Try.ntmps49
  go_wp2
  generalize w.alloc (.cells #[.int .i64 0, .int .i64 0, .int .i64 0] 44) = w0 at HB0 HX0 hs0 ⊢
  go_loopw [6, 7] (fun q i wr => ∃ (k : Nat) (bz : Int), k ≤ rs.length ∧ i = .int .i64 (k : Int) ∧ q = .int .i64 bz ∧ Hid (bestN rs d k = bz) ∧ Hid (Below w0.heap.size w0 wr)) (fun _ i _ => rs.length - (intOf i).toNat)
  case atStart => exact ⟨0, -1, Nat.zero_le _, rfl, rfl, (by show _ = _; rfl), (Below.refl _ _)⟩
  case round =>
    obtain ⟨k, bz, hk, rfl, rfl, HK1, HBR⟩ := hrel
    by_cases hlt : k < rs.length
    · obtain ⟨b, off, rfl⟩ := HR.out.addr hlt
      have hi0 : (0 : Int) ≤ (k : Int) := by omega
      have hi1 : (k : Int) < (rs.length : Int) := by omega
      obtain ⟨S, hS0, hNE, HK⟩ := below_classB HBR.out (Nat.le_refl _)
      have HW : Hid (∀ s : Hw S, Below w.heap.size w s.w) := fun s => HB0.out.trans ((HK.out.2 _ s.ok).mono HB0.out.size)
      have C1 := fun s : Hw S => HR.out.at (HW.out s) (i := k) hlt
      obtain ⟨y, HY⟩ : ∃ y, Hid (rs.getD k Rt.zero = y) := ⟨_, rfl⟩
      rw [HY.out] at C1
      have c0 := fun s : Hw S => (C1 s).2.1
      have c1 := fun s : Hw S => (C1 s).2.2.1
      have c2 := fun s : Hw S => (C1 s).2.2.2
      clear C1
      obtain ⟨f, hf⟩ : ∃ f, fitB y d = f := ⟨_, rfl⟩
      have HFT : Hid (fitB (rs.getD k Rt.zero) d = f) := by show _ = _; rw [HY.out]; exact hf
      have HI : ∀ wz : World, Calls Try.prog 55 #[.agg #[.int .i64 y.n, .int .i64 y.b, .int .i64 y.t], .int .i64 d] wz fun e w' => e = .returned (.bool f) ∧ Below wz.heap.size wz w' := fun wz => by have := specFits_any y d wz; rw [hf] at this; exact this
      clear hf
      cases f with
      | false =>
        have HN : Hid (bestN rs d (k + 1) = bz) := best_no HK1.out HFT.out
        go_wp2
        refine wp_region_held (S := S) (by kernel_rfl) (by kernel_rfl) hS0 ?_
        repeat (go_big_quiet_step ((go_at_call 55; exact Calls.held (HI _) (HK.out.1 _))))
        refine wpQuiet_nil ?_
        rintro _ ⟨sw, rfl⟩
        have HB2 : Hid _ := HK.out.2 _ sw.ok
        clear HK c0 c1 c2
        go_wp2
        go_roundw
        case rel => exact ⟨k + 1, bz, by omega, by go_num, rfl, HN, HB2⟩
        case measure => simp [intOf]; omega
      | true =>
        by_cases hz : bz < 0
        · have HN : Hid (bestN rs d (k + 1) = k) := best_first HK1.out HFT.out hz
          go_wp2
          refine wp_region_held (S := S) (by kernel_rfl) (by kernel_rfl) hS0 ?_
          repeat (go_big_quiet_step ((go_at_call 55; exact Calls.held (HI _) (HK.out.1 _))))
          refine wpQuiet_nil ?_
          rintro _ ⟨sw, rfl⟩
          have HB2 : Hid _ := HK.out.2 _ sw.ok
          clear HK c0 c1 c2
          go_wp2
          go_roundw
          case rel => exact ⟨k + 1, k, by omega, by go_num, rfl, HN, HB2⟩
          case measure => simp [intOf]; omega
        · obtain ⟨j, hj⟩ := Int.eq_ofNat_of_zero_le (show 0 ≤ bz by omega)
          subst hj
          have hjk : j < k := by have := (bestN_range rs d k).2; rw [HK1.out] at this; omega
          have hj0 : (0 : Int) ≤ (j : Int) := by omega
          have hj1 : (j : Int) < (rs.length : Int) := by omega
          have hjn : decide ((j : Int) < 0) = false := decide_eq_false hz
          have C2 := fun s : Hw S => HR.out.at (HW.out s) (i := j) (by omega)
          obtain ⟨z, HZ⟩ : ∃ z, Hid (rs.getD j Rt.zero = z) := ⟨_, rfl⟩
          rw [HZ.out] at C2
          have d1 := fun s : Hw S => (C2 s).2.2.1
          clear C2 hz
          by_cases hzy : z.b < y.b
          · have HN : Hid (bestN rs d (k + 1) = k) := best_more HK1.out HFT.out (by rw [HZ.out, HY.out]; exact hzy)
            have hzy' : decide (z.b < y.b) = true := decide_eq_true hzy
            clear hzy
            go_wp2
            refine wp_region_held (S := S) (by kernel_rfl) (by kernel_rfl) hS0 ?_
            repeat (go_big_quiet_step ((go_at_call 55; exact Calls.held (HI _) (HK.out.1 _))))
            refine wpQuiet_nil ?_
            rintro _ ⟨sw, rfl⟩
            have HB2 : Hid _ := HK.out.2 _ sw.ok
            clear HK c0 c1 c2 d1
            go_wp2
            go_roundw
            case rel => exact ⟨k + 1, k, by omega, by go_num, rfl, HN, HB2⟩
            case measure => simp [intOf]; omega
          · have HN : Hid (bestN rs d (k + 1) = j) := best_less HK1.out (by rw [HZ.out, HY.out]; omega)
            have hzy' : decide (z.b < y.b) = false := decide_eq_false hzy
            clear hzy
            go_wp2
            refine wp_region_held (S := S) (by kernel_rfl) (by kernel_rfl) hS0 ?_
            repeat (go_big_quiet_step ((go_at_call 55; exact Calls.held (HI _) (HK.out.1 _))))
            refine wpQuiet_nil ?_
            rintro _ ⟨sw, rfl⟩
            have HB2 : Hid _ := HK.out.2 _ sw.ok
            clear HK c0 c1 c2 d1
            go_wp2
            go_roundw
            case rel => exact ⟨k + 1, j, by omega, by go_num, rfl, HN, HB2⟩
            case measure => simp [intOf]; omega
    · obtain rfl : k = rs.length := by omega
      have hXB := (HBR.out.block w.heap.size (by omega)).trans HX0.out
      have HWR : Hid (Below w.heap.size w wr) := HB0.out.trans (HBR.out.mono HB0.out.size)
      have r0 : wr.cell? ⟨w.heap.size, 0, none⟩ = some (.int .i64 0) := (cell_of_row _ _ 0 _ _ _ hXB).trans rfl
      have r1 : wr.cell? ⟨w.heap.size, 1, none⟩ = some (.int .i64 0) := (cell_of_row _ _ 1 _ _ _ hXB).trans rfl
      have r2 : wr.cell? ⟨w.heap.size, 2, none⟩ = some (.int .i64 0) := (cell_of_row _ _ 2 _ _ _ hXB).trans rfl
      have f0 : wr.frozen? ⟨w.heap.size, 0, none⟩ = false := frozen_of_row _ _ 0 _ _ hXB
      have f1 : wr.frozen? ⟨w.heap.size, 1, none⟩ = false := frozen_of_row _ _ 1 _ _ hXB
      have f2 : wr.frozen? ⟨w.heap.size, 2, none⟩ = false := frozen_of_row _ _ 2 _ _ hXB
      have hgw : w.heap.size < wr.heap.size := (Array.getElem?_eq_some_iff.1 hXB).1
      have HST : Hid (∀ v0 v1 v2, (((wr.setCell ⟨w.heap.size, 0, none⟩ v0).setCell ⟨w.heap.size, 1, none⟩ v1).setCell ⟨w.heap.size, 2, none⟩ v2).heap[w.heap.size]? = some (.cells #[v0, v1, v2] 44 (0, 0))) := fun v0 v1 v2 => store3r hXB v0 v1 v2
      have HBS : Hid (∀ v0 v1 v2, Below w.heap.size w (((wr.setCell ⟨w.heap.size, 0, none⟩ v0).setCell ⟨w.heap.size, 1, none⟩ v1).setCell ⟨w.heap.size, 2, none⟩ v2)) := fun v0 v1 v2 => ((HWR.out.setCell (Nat.le_refl _) _).setCell (Nat.le_refl _) _).setCell (Nat.le_refl _) _
      clear hXB
      by_cases hz : bz < 0
      · have HQ : Hid (G = Rt.zero ∧ E = false) := by
          refine ⟨?_, ?_⟩
          · rw [← HG.out]; unfold bestR; rw [HK1.out, if_pos hz]
          · rw [← HE.out]; unfold bestB; rw [HK1.out]; exact decide_eq_false (by omega)
        clear HK1
        go_wp2
        refine bodyPost_ret (res_cellR rfl _ _ w.heap.size 44 #[.int .i64 0, .int .i64 0, .int .i64 0] (0, 0) _ rfl ?_ Try.underlying44 rfl sizeRt) rfl ?_
        · exact HST.out _ _ _
        · exact ⟨by rw [HQ.out.1, HQ.out.2]; rfl, HBS.out _ _ _⟩
      · obtain ⟨j, hj⟩ := Int.eq_ofNat_of_zero_le (show 0 ≤ bz by omega)
        subst hj
        have hjk : j < rs.length := by have := (bestN_range rs d rs.length).2; rw [HK1.out] at this; omega
        have hj0 : (0 : Int) ≤ (j : Int) := by omega
        have hj1 : (j : Int) < (rs.length : Int) := by omega
        have hjn : decide ((j : Int) < 0) = false := decide_eq_false hz
        obtain ⟨b, off, rfl⟩ := HR.out.addr hjk
        have C2 := HR.out.at HWR.out (i := j) hjk
        have HQ : Hid (G = rs.getD j Rt.zero ∧ E = true) := by
          refine ⟨?_, ?_⟩
          · rw [← HG.out]; unfold bestR; rw [HK1.out, if_neg hz]; rfl
          · rw [← HE.out]; unfold bestB; rw [HK1.out]; exact decide_eq_true (by omega)
        generalize rs.getD j Rt.zero = y at C2 HQ
        obtain ⟨hb, c0, c1, c2⟩ := C2
        clear HK1 hz
        go_wp2
        refine bodyPost_ret (res_cellR rfl _ _ w.heap.size 44 #[.int .i64 y.n, .int .i64 y.b, .int .i64 y.t] (0, 0) _ rfl ?_ Try.underlying44 rfl sizeRt) rfl ?_
        · exact HST.out _ _ _
        · exact ⟨by rw [HQ.out.1, HQ.out.2]; rfl, HBS.out _ _ _⟩
end Go.Proofs.Ytclnhjkmhemebaa
