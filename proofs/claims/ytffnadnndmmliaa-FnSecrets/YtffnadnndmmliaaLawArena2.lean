/- The laws' own helpers over arenas: eqNodeS, eqArena, sameArena, markNodeS, markArena, heldNodeS, heldArena. -/
import Derived.Test.YtffnadnndmmliaaLawArena
import Derived.Test.YtffnadnndmmliaaHeldQ
import Derived.WalkKit
import Derived.WalkLawsBesides
import Derived.WalkSpells
import Derived.OwnWalk
import Derived.Laws.OwnMore
import Derived.Laws.Rows
namespace Go.Proofs.Ytffnadnndmmliaa
open Go.RowKit

/-- Are these nodes the same, from place k on? -/
def sameFrom (ns ms : List Nd) : Nat → Nat → Bool
  | 0, _ => true
  | f + 1, k => if ns.getD k Nd.zero = ms.getD k Nd.zero then sameFrom ns ms f (k + 1) else false
theorem sameFrom_eq : ∀ (f k : Nat) (ns ms : List Nd), ns.length = ms.length → ns.length = k + f → ns.take k = ms.take k → sameFrom ns ms f k = decide (ns = ms)
  | 0, k, ns, ms, hl, hf, ht => by
    rw [List.take_of_length_le (by omega), List.take_of_length_le (by omega)] at ht
    simp [sameFrom, ht]
  | f + 1, k, ns, ms, hl, hf, ht => by
    rw [sameFrom]
    have h1 : k < ns.length := by omega
    have h2 : k < ms.length := by omega
    have e1 : ns.getD k Nd.zero = ns[k] := by rw [List.getD_eq_getElem?_getD, List.getElem?_eq_getElem h1]; rfl
    have e2 : ms.getD k Nd.zero = ms[k] := by rw [List.getD_eq_getElem?_getD, List.getElem?_eq_getElem h2]; rfl
    split
    · rename_i h
      refine sameFrom_eq f (k + 1) ns ms hl (by omega) ?_
      rw [List.take_succ_eq_append_getElem h1, List.take_succ_eq_append_getElem h2, ht, ← e1, ← e2, h]
    · rename_i h
      symm; apply decide_eq_false
      intro e; subst e; exact h rfl

/-- The worlds in which all below B is as it was: a class that calls keep. -/
theorem below_class {B : Nat} {w wr : World} (h : Below B w wr) (hs : B ≤ w.heap.size) : ∃ S : World → Prop, S wr.drew ∧ Nonempty (Hw S) ∧ Hid ((∀ (s : Hw S) w', Below s.w.heap.size s.w w' → S w') ∧ (∀ w', S w' → Below B w w')) :=
  ⟨Below B w, h.drew, ⟨⟨wr.drew, h.drew⟩⟩, ⟨fun s _ h1 => s.ok.trans (h1.mono (Nat.le_trans hs s.ok.size)), fun _ h => h⟩⟩

set_option maxHeartbeats 1600000 in
theorem eqNodeS_same (a b : Option Addr) (ca cb n : Nat) (ns ms : List Nd) (w : World) (h1 : ns.length = n) (h2 : ms.length = n) (hl : n ≤ 2097152) (hr : RowN w.heap.size w a ns) (hq : RowN w.heap.size w b ms) :
    Calls Try.prog 83 #[.slice a n ca, .slice b n cb] w fun e w' => e = .returned (.bool (decide (ns = ms))) ∧ Below w.heap.size w w' := by
  have HR : Hid (RowN w.heap.size w a ns) := hr
  have HQ : Hid (RowN w.heap.size w b ms) := hq
  have HN : Hid (ns.length = n ∧ ms.length = n) := ⟨h1, h2⟩
  have HS : Hid (sameFrom ns ms n 0 = decide (ns = ms)) := sameFrom_eq n 0 ns ms (by omega) (by omega) rfl
  clear hr hq h1 h2
  go_enter Try.func83, Try.ntmps83
  go_wp2
  go_loopw [5] (fun i wr => ∃ k : Nat, k ≤ n ∧ i = .int .i64 (k : Int) ∧ Hid (sameFrom ns ms (n - k) k = decide (ns = ms)) ∧ Below w.heap.size w wr)
    (fun i _ => n - (intOf i).toNat)
  case atStart => exact ⟨0, Nat.zero_le _, rfl, HS, Below.refl _ _⟩
  case round =>
    obtain ⟨k, hk, rfl, HF, hbel⟩ := hrel
    by_cases hlt : k < n
    · obtain ⟨b1, off1, rfl⟩ := HR.out.addr (i := k) (by have := HN.out.1; omega)
      obtain ⟨b2, off2, rfl⟩ := HQ.out.addr (i := k) (by have := HN.out.2; omega)
      have hi0 : (0 : Int) ≤ (k : Int) := by omega
      have hi1 : (k : Int) < (n : Int) := by omega
      obtain ⟨S, hS0, hNE, HK⟩ := below_class hbel (Nat.le_refl _)
      have C1 := fun s : Hw S => HR.out.at (HK.out.2 _ s.ok) (i := k) (by have := HN.out.1; omega)
      have C2 := fun s : Hw S => HQ.out.at (HK.out.2 _ s.ok) (i := k) (by have := HN.out.2; omega)
      have HFD : Hid (sameFrom ns ms (n - k) k = if ns.getD k Nd.zero = ms.getD k Nd.zero then sameFrom ns ms (n - (k + 1)) (k + 1) else false) := by
        show _ = _
        rw [show n - k = (n - (k + 1)) + 1 by omega, sameFrom]
      generalize ns.getD k Nd.zero = x at C1 HFD
      generalize ms.getD k Nd.zero = y at C2 HFD
      have c0 := fun s : Hw S => (C1 s).2.1
      have c1 := fun s : Hw S => (C1 s).2.2.1
      have c2 := fun s : Hw S => (C1 s).2.2.2.1
      have c3 := fun s : Hw S => (C1 s).2.2.2.2
      have d0 := fun s : Hw S => (C2 s).2.1
      have d1 := fun s : Hw S => (C2 s).2.2.1
      have d2 := fun s : Hw S => (C2 s).2.2.2.1
      have d3 := fun s : Hw S => (C2 s).2.2.2.2
      clear C1 C2
      by_cases hxy : x = y
      · have hd : decide (x = y) = true := decide_eq_true hxy
        have HV : Hid (sameFrom ns ms (n - (k + 1)) (k + 1) = decide (ns = ms)) := by show _ = _; rw [← HF.out, HFD.out, if_pos hxy]
        clear hxy
        go_wp2
        refine wp_region_held (S := S) (by kernel_rfl) (by kernel_rfl) hS0 ?_
        repeat (go_big_quiet_step ((go_at_call 154; exact Calls.held (eqNode_any x y _) (HK.out.1 _))))
        refine wpQuiet_nil ?_
        rintro _ ⟨sw, rfl⟩
        have hB := HK.out.2 _ sw.ok
        clear c0 c1 c2 c3 d0 d1 d2 d3 HK
        go_wp2
        go_roundw
        case rel => exact ⟨k + 1, by omega, by go_num, HV, hB⟩
        case measure => simp [intOf]; omega
      · have hd : decide (x = y) = false := decide_eq_false hxy
        have HV : Hid (decide (ns = ms) = false) := by show _ = _; rw [← HF.out, HFD.out, if_neg hxy]
        clear hxy
        go_wp2
        refine wp_region_held (S := S) (by kernel_rfl) (by kernel_rfl) hS0 ?_
        repeat (go_big_quiet_step ((go_at_call 154; exact Calls.held (eqNode_any x y _) (HK.out.1 _))))
        refine wpQuiet_nil ?_
        rintro _ ⟨sw, rfl⟩
        have hB := HK.out.2 _ sw.ok
        clear c0 c1 c2 c3 d0 d1 d2 d3 HK
        go_wp2
        go_ret
        exact ⟨by rw [HV.out]; rfl, hB⟩
    · obtain rfl : k = n := by omega
      go_wp2
      go_ret
      exact ⟨by rw [← HF.out, Nat.sub_self]; rfl, hbel⟩
theorem eqNodeS_any (a b : Option Addr) (ca cb : Nat) (ns ms : List Nd) (w : World) (_hl : ns.length ≤ 2097152) (hm : ms.length ≤ 2097152) (hr : RowN w.heap.size w a ns) (hq : RowN w.heap.size w b ms) :
    Calls Try.prog 83 #[.slice a ns.length ca, .slice b ms.length cb] w fun e w' => e = .returned (.bool (decide (ns = ms))) ∧ Below w.heap.size w w' := by
  by_cases he : ns.length = ms.length
  · have := eqNodeS_same a b ca cb ms.length ns ms w he rfl hm hr hq
    rw [he]; exact this
  · have hei : ((ns.length : Int) != (ms.length : Int)) = true := by simp; omega
    have HV : Hid (decide (ns = ms) = false) := decide_eq_false (fun h => he (by rw [h]))
    clear hr hq
    go_enter Try.func83, Try.ntmps83
    go_wp2
    go_ret
    exact ⟨by rw [HV.out]; rfl, Below.refl _ _⟩
theorem eqArena_any (a b : Option Addr) (ca cb : Nat) (ns ms : List Nd) (w : World) (hl : ns.length ≤ 2097152) (hm : ms.length ≤ 2097152) (hr : RowN w.heap.size w a ns) (hq : RowN w.heap.size w b ms) :
    Calls Try.prog 19 #[.agg #[.slice a ns.length ca], .agg #[.slice b ms.length cb]] w fun e w' => e = .returned (.bool (decide (ns = ms))) ∧ Below w.heap.size w w' := by
  have hb0 : Below w.heap.size w ((w.alloc (.cells #[.slice a ns.length ca] 28)).alloc (.cells #[.slice b ms.length cb] 28)) := ((Below.refl _ _).alloc (Nat.le_refl _) _).alloc (by simp) _
  have H : Hid _ := eqNodeS_any a b ca cb ns ms ((w.alloc (.cells #[.slice a ns.length ca] 28)).alloc (.cells #[.slice b ms.length cb] 28)) hl hm (hr.grown hb0) (hq.grown hb0)
  have HB : Hid _ := hb0
  clear hr hq hb0
  cases hd : decide (ns = ms)
  all_goals
    rw [hd] at H
    go_enter Try.func19, Try.ntmps19
    go_wp2_with fail
    refine Calls.mono H.out ?_
    rintro e w1 ⟨rfl, hb1⟩
    go_wp2
    go_ret
    exact ⟨rfl, HB.out.trans (hb1.mono HB.out.size)⟩
theorem eqArena_same (a b : Option Addr) (ca cb : Nat) (ns : List Nd) (w : World) (hl : ns.length ≤ 2097152) (hr : RowN w.heap.size w a ns) (hq : RowN w.heap.size w b ns) :
    Calls Try.prog 19 #[.agg #[.slice a ns.length ca], .agg #[.slice b ns.length cb]] w fun e w' => e = .returned (.bool true) ∧ Below w.heap.size w w' := by
  have h := eqArena_any a b ca cb ns ns w hl hl hr hq
  rw [decide_eq_true rfl] at h
  exact h
/-- Two cells that were there are there behind a call. -/
theorem two_kept {w w' : World} {p q : Addr} {u v : Value} (h : w.cell? p = some u ∧ w.cell? q = some v) (hp : p.block < w.heap.size) (hq : q.block < w.heap.size) (hb : Below w.heap.size w w') : w'.cell? p = some u ∧ w'.cell? q = some v :=
  ⟨(hb.cell hp).trans h.1, (hb.cell hq).trans h.2⟩
end Go.Proofs.Ytffnadnndmmliaa
