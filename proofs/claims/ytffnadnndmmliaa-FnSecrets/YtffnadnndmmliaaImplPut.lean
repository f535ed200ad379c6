/- The contracts of chapter 3's Put, the program's, and of the library's Index and Clone over nodes. -/
import Derived.Test.YtffnadnndmmliaaImplR
import Derived.Test.YtffnadnndmmliaaLawArena2
import Derived.Test.YtffnadnndmmliaaPlainPlaces
import Derived.WalkKit
import Derived.WalkLawsBesides
import Derived.WalkSpells
import Derived.Laws.OwnMore
import Derived.Laws.MakeOwn
import Derived.Laws.AppendOwnNone
import Derived.Laws.Rows
import Derived.Laws.ResultCell
import Derived.Deep.QuietTactic
import Derived.BigQuiet
import Derived.Deep.RegionLaw
namespace Go.Proofs.Ytffnadnndmmliaa
open Go.RowKit
set_option linter.unusedVariables false

set_option maxHeartbeats 800000 in
/-- slices.Index. -/
theorem index_any (a : Option Addr) (cap : Nat) (ns : List Nd) (x : Nd) (w : World) (hl : ns.length ≤ 1048576) (hr : RowN w.heap.size w a ns) :
    Calls Try.prog 158 #[.slice a ns.length cap, .agg #[.int .i64 x.k, .int .i64 x.n, .int .i64 x.a, .int .i64 x.b]] w fun e w' => e = .returned (.int .i64 (findN ns x)) ∧ Below w.heap.size w w' := by
  have HR : Hid (RowN w.heap.size w a ns) := hr
  clear hr
  have hgd := nodeGuard
  go_enter Try.func158, Try.ntmps158
  go_wp2
  go_loopw [8] (fun i wr => ∃ k : Nat, k ≤ ns.length ∧ i = .int .i64 (k : Int) ∧ Hid (findFrom x (ns.drop k) k = findN ns x) ∧ Below w.heap.size w wr ∧ Hid (wr.heap[w.heap.size]? = some (.cells #[.int .i64 x.k, .int .i64 x.n, .int .i64 x.a, .int .i64 x.b] 45 (0, 0))))
    (fun i _ => ns.length - (intOf i).toNat)
  case atStart => exact ⟨0, Nat.zero_le _, rfl, rfl, (Below.refl _ _).alloc (Nat.le_refl _) _, heap_alloc_new w _⟩
  case round =>
    obtain ⟨k, hk, rfl, HF, hbel, HO⟩ := hrel
    by_cases hlt : k < ns.length
    · obtain ⟨b, off, rfl⟩ := HR.out.addr hlt
      obtain ⟨hb, c0, c1, c2, c3⟩ := HR.out.at hbel hlt
      have d0 : wr.cell? ⟨w.heap.size, 0, none⟩ = some (.int .i64 x.k) := by rw [cell_of_row wr w.heap.size 0 _ _ _ HO.out]; rfl
      have d1 : wr.cell? ⟨w.heap.size, 1, none⟩ = some (.int .i64 x.n) := by rw [cell_of_row wr w.heap.size 1 _ _ _ HO.out]; rfl
      have d2 : wr.cell? ⟨w.heap.size, 2, none⟩ = some (.int .i64 x.a) := by rw [cell_of_row wr w.heap.size 2 _ _ _ HO.out]; rfl
      have d3 : wr.cell? ⟨w.heap.size, 3, none⟩ = some (.int .i64 x.b) := by rw [cell_of_row wr w.heap.size 3 _ _ _ HO.out]; rfl
      have HFD : Hid (_ = _) := find_drop ns x k hlt
      have hi0 : (0 : Int) ≤ (k : Int) := by omega
      have hi1 : (k : Int) < (ns.length : Int) := by omega
      generalize ns.getD k Nd.zero = y at c0 c1 c2 c3 HFD
      have hel := node_eql x y
      by_cases hyx : y = x
      · have hdy : decide (x = y) = true := by simp [hyx]
        have HV : Hid (findN ns x = (k : Int)) := by show _ = _; rw [← HF.out, HFD.out, if_pos hyx]
        clear hyx
        go_wp2
        go_quiet (fail)
        go_wp2
        go_ret
        exact ⟨by rw [HV.out]; rfl, below_dn hbel _⟩
      · have hdy : decide (x = y) = false := by simp [Ne.symm hyx]
        have HV : Hid (findFrom x (ns.drop (k + 1)) (k + 1) = findN ns x) := by show _ = _; rw [← HF.out, HFD.out, if_neg hyx]
        clear hyx
        go_wp2
        go_quiet (fail)
        go_wp2
        go_roundw
        case rel => exact ⟨k + 1, by omega, by go_num, HV, below_dn hbel _, HO.out⟩
        case measure => simp [intOf]; omega
    · obtain rfl : k = ns.length := by omega
      go_wp2
      go_ret
      exact ⟨by rw [← HF.out, find_end]; rfl, hbel⟩

set_option maxHeartbeats 1600000 in
/-- Where Put has a node stand. -/
theorem placeIn_any (a : Option Addr) (cap : Nat) (ns : List Nd) (x : Nd) (w : World) (hl : ns.length ≤ 1048576) (hr : RowN w.heap.size w a ns) :
    Calls Try.prog 91 #[.agg #[.slice a ns.length cap], .agg #[.int .i64 x.k, .int .i64 x.n, .int .i64 x.a, .int .i64 x.b]] w fun e w' => e = .returned (.int .i64 (putK ns x)) ∧ Below w.heap.size w w' := by
  have hb0 : Below w.heap.size w ((w.alloc (.cells #[.slice a ns.length cap] 28)).alloc (.cells #[.int .i64 x.k, .int .i64 x.n, .int .i64 x.a, .int .i64 x.b] 45)) := ((Below.refl _ _).alloc (Nat.le_refl _) _).alloc (by simp) _
  have hs0 : ((w.alloc (.cells #[.slice a ns.length cap] 28)).alloc (.cells #[.int .i64 x.k, .int .i64 x.n, .int .i64 x.a, .int .i64 x.b] 45)).heap.size = w.heap.size + 2 := by simp
  have hA0 : ((w.alloc (.cells #[.slice a ns.length cap] 28)).alloc (.cells #[.int .i64 x.k, .int .i64 x.n, .int .i64 x.a, .int .i64 x.b] 45)).heap[w.heap.size]? = some (.cells #[.slice a ns.length cap] 28 (0, 0)) := by
    rw [heap_alloc_old _ _ (by simp)]
    exact heap_alloc_new w _
  have hn0 : ((w.alloc (.cells #[.slice a ns.length cap] 28)).alloc (.cells #[.int .i64 x.k, .int .i64 x.n, .int .i64 x.a, .int .i64 x.b] 45)).heap[w.heap.size + 1]? = some (.cells #[.int .i64 x.k, .int .i64 x.n, .int .i64 x.a, .int .i64 x.b] 45 (0, 0)) := by
    have := heap_alloc_new (w.alloc (.cells #[.slice a ns.length cap] 28)) (.cells #[.int .i64 x.k, .int .i64 x.n, .int .i64 x.a, .int .i64 x.b] 45)
    simpa using this
  have HR0 : Hid (RowN ((w.alloc (.cells #[.slice a ns.length cap] 28)).alloc (.cells #[.int .i64 x.k, .int .i64 x.n, .int .i64 x.a, .int .i64 x.b] 45)).heap.size ((w.alloc (.cells #[.slice a ns.length cap] 28)).alloc (.cells #[.int .i64 x.k, .int .i64 x.n, .int .i64 x.a, .int .i64 x.b] 45)) a ns) := hr.grown hb0
  go_enter Try.func91, Try.ntmps91
  go_wp2_with fail
  generalize (w.alloc (.cells #[.slice a ns.length cap] 28)).alloc (.cells #[.int .i64 x.k, .int .i64 x.n, .int .i64 x.a, .int .i64 x.b] 45) = w0 at hb0 hs0 hA0 hn0 HR0 ⊢
  obtain ⟨S, hS0, hNE, HK⟩ := below_class (Below.refl w0.heap.size w0) (Nat.le_refl _)
  have cA : ∀ s : Hw S, s.w.cell? ⟨w.heap.size, 0, none⟩ = some (.slice a ns.length cap) := fun s => ((HK.out.2 _ s.ok).cell (p := ⟨w.heap.size, 0, none⟩) (show w.heap.size < w0.heap.size by omega)).trans ((cell_of_row w0 _ 0 _ _ _ hA0).trans rfl)
  have c0 : ∀ s : Hw S, s.w.cell? ⟨w.heap.size + 1, 0, none⟩ = some (.int .i64 x.k) := fun s => ((HK.out.2 _ s.ok).cell (p := ⟨w.heap.size + 1, 0, none⟩) (show w.heap.size + 1 < w0.heap.size by omega)).trans ((cell_of_row w0 _ 0 _ _ _ hn0).trans rfl)
  have c1 : ∀ s : Hw S, s.w.cell? ⟨w.heap.size + 1, 1, none⟩ = some (.int .i64 x.n) := fun s => ((HK.out.2 _ s.ok).cell (p := ⟨w.heap.size + 1, 1, none⟩) (show w.heap.size + 1 < w0.heap.size by omega)).trans ((cell_of_row w0 _ 1 _ _ _ hn0).trans rfl)
  have c2 : ∀ s : Hw S, s.w.cell? ⟨w.heap.size + 1, 2, none⟩ = some (.int .i64 x.a) := fun s => ((HK.out.2 _ s.ok).cell (p := ⟨w.heap.size + 1, 2, none⟩) (show w.heap.size + 1 < w0.heap.size by omega)).trans ((cell_of_row w0 _ 2 _ _ _ hn0).trans rfl)
  have c3 : ∀ s : Hw S, s.w.cell? ⟨w.heap.size + 1, 3, none⟩ = some (.int .i64 x.b) := fun s => ((HK.out.2 _ s.ok).cell (p := ⟨w.heap.size + 1, 3, none⟩) (show w.heap.size + 1 < w0.heap.size by omega)).trans ((cell_of_row w0 _ 3 _ _ _ hn0).trans rfl)
  have HI : Hid (∀ s : Hw S, Calls Try.prog 158 #[.slice a ns.length cap, .agg #[.int .i64 x.k, .int .i64 x.n, .int .i64 x.a, .int .i64 x.b]] s.w fun e w' => e = .returned (.int .i64 (findN ns x)) ∧ Below s.w.heap.size s.w w') := fun s => index_any _ _ ns x s.w hl (HR0.out.grown (HK.out.2 _ s.ok))
  have HPL : Hid (∀ s : Hw S, Calls Try.prog 157 #[.agg #[.int .i64 x.k, .int .i64 x.n, .int .i64 x.a, .int .i64 x.b], .int .i64 (ns.length : Int), .int .i64 (findN ns x), .int .i64 3000] s.w fun e w' => e = .returned (.int .i64 (putK ns x)) ∧ Below s.w.heap.size s.w w') := fun s => by
    have := placeFor_any x ns.length (findN ns x) ((3000 : Nat) : Int) s.w
    rw [placeB_put, putKm_is] at this
    exact this
  have HB0 : Hid (Below w.heap.size w w0) := hb0
  obtain ⟨kk, HKK⟩ : ∃ kk, Hid (putK ns x = kk) := ⟨_, rfl⟩
  rw [HKK.out] at HPL
  generalize findN ns x = fx at HI HPL
  clear hA0 hn0 HR0 hr hb0
  refine wp_region_held (S := S) (by kernel_rfl) (by kernel_rfl) hS0 ?_
  repeat (go_big_quiet_step (first | (go_at_call 158; exact Calls.held (HI.out _) (HK.out.1 _)) | (go_at_call 157; exact Calls.held (HPL.out _) (HK.out.1 _))))
  refine wpQuiet_nil ?_
  rintro _ ⟨sw, rfl⟩
  have HE : Hid (Below w.heap.size w sw.w) := HB0.out.trans ((HK.out.2 _ sw.ok).mono HB0.out.size)
  clear HK HI HPL cA c0 c1 c2 c3 hS0 hNE
  go_wp2
  go_ret
  exact ⟨by rw [HKK.out]; rfl, HE.out⟩

/-- A copy into room that was made for one more. -/
theorem made_copy (a : Option Addr) (cap : Nat) (ns : List Nd) (W : World) (hl : ns.length ≤ 1048576) (ha : AddrN a cap) (hr : RowN W.heap.size W a ns) :
    ∃ w2 w3, (Instr.makeSlice 26 (.int .i64 0) (.int .i64 ((ns.length : Int) + 1))).run Try.prog W = .ok (.slice (some ⟨W.heap.size, 0, none⟩) 0 (ns.length + 1)) w2 ∧
      (∀ ty, (Builtin.append_ #[26, 26] ty #[.slice (some ⟨W.heap.size, 0, none⟩) 0 (ns.length + 1), .slice a ns.length cap]).run Try.prog w2 = .ok (.slice (some ⟨W.heap.size, 0, none⟩) ns.length (ns.length + 1)) w3) ∧
      OwnN W.heap.size w3 (.slice (some ⟨W.heap.size, 0, none⟩) ns.length (ns.length + 1)) ns ∧ Below W.heap.size W w2 ∧ Below W.heap.size W w3 := by
  obtain ⟨i0, hi, hz0, hz1, hz2⟩ := info_parts infoNode
  obtain ⟨w2, h2, ho2, hg2⟩ := run_make_own (P := Try.prog) W W.heap.size 26 45 i0 _ 4 Try.underlying26 hi hz0 hz1 .i64 .i64 (ns.length + 1) (by rw [hz2]; omega) (by unfold maxLen; omega) (Nat.le_refl _)
  have hb2 : Below W.heap.size W w2 := (Below.refl _ _).grown hg2 (Nat.le_refl _) (by simp)
  rw [show ((ns.length + 1 : Nat) : Int) = (ns.length : Int) + 1 by omega] at h2
  rcases ha with ⟨rfl, rfl⟩ | ⟨b, off, rfl⟩
  · rcases hr with h0 | ⟨_, _, e, _⟩
    · subst h0
      exact ⟨w2, w2, h2, fun ty => run_append_owned_none (P := Try.prog) w2 W.heap.size _ ty 45 i0 4 Try.underlying26 hi _ 0 [] ho2, ho2, hb2, hb2⟩
    · cases e
  · have hf := fun ty => run_append_fits (P := Try.prog) w2 W.heap.size 26 ty 45 i0 4 Try.underlying26 hi hz1 W.heap.size 0 (ns.length + 1) [] ho2 ⟨b, off, none⟩ ns.length cap (cellsN ns) (cellsN_len ns) (hr.later hb2).cells (cells_one ns) (by omega)
    obtain ⟨w3, h3, ho3, hg3⟩ := hf 0
    refine ⟨w2, w3, h2, fun ty => ?_, ?_, hb2, hb2.grown hg3 hb2.size (fun k hk => by cases hk; exact Nat.le_refl _)⟩
    · have := h3
      rw [Nat.zero_add] at this
      exact this
    · unfold OwnN
      simpa using ho3

/-- An append whose run is known, inside a region that draws. -/
theorem step_append_run {P : Program} {ops : Array Oper} {o : Oper} {a : Act} {w w' : World} {v : Value} {K : Act → World → Prop} {Q : Exit → Act → World → Prop} {E : Prop} (hgd : o.guard = none) (s x : Operand) (t u : TypeId)
    (ho : o.op = .call { callee := .builtin .append, args := #[s, x], argTypes := #[t, u] }) (hrun : (Builtin.append_ #[t, u] o.type #[a.eval s, a.eval x]).run P w = .ok v w') (h : K (a.put o.dst v) w') :
    if Region.wanted o (yielded ops a.tmps) = true then Oper.wp P o a w K Q else E := by
  have hw : Region.wanted o (yielded ops a.tmps) = true := by simp [Region.wanted, hgd]
  rw [if_pos hw]
  unfold Oper.wp
  simp [execOp, ho, resolve, invoke, builtin, hrun, Result.andThen]
  exact h
end Go.Proofs.Ytffnadnndmmliaa
