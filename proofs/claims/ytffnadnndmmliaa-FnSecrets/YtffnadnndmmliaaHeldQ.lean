/- One walk, in the order of the text, of a region that draws its order, where what is held of the world (S) is kept by every operation and every callee (they may make memory): the library's theorem at the class of the worlds that meet S. -/
import Derived.WalkKit
import Derived.WalkLawsBesides
import Derived.Deep.QuietTactic
import Derived.BigQuiet
import Derived.Test.YtffnadnndmmliaaTermAt
import Derived.WalkSpells
import Derived.Deep.RegionHeld3
import Derived.Deep.RegionWith
namespace Go.Proofs.Ytffnadnndmmliaa
open Go.RowKit

/-- A world that meets S. -/
structure Hw (S : World → Prop) where
  w : World
  ok : S w
theorem wp_region_held {P : Program} {S : World → Prop} {id : Nat} {Q : Exit → Act → World → Prop} {a : Act} {w : World} {l : List Oper} (hm : P.follows .mixedOrders = true) (hB : Region.lexB .any l.toArray = true) (hS : S w.drew)
    (h : wpQuiet P l.toArray (fun w' => ∃ s : Hw S, w' = s.w) (fun a' => ∀ w', (∃ s : Hw S, w' = s.w) → Q .normal a' w') l a) : (Code.region id l.toArray true).wp P Q a w :=
  wp_region_quiet (C := fun w' => ∃ s : Hw S, w' = s.w) hm hB ⟨⟨w.drew, hS⟩, rfl⟩ (by simpa using h)
theorem Calls.held {P : Program} {S : World → Prop} {f : FuncId} {args : Array Value} {v : Value} {s : Hw S} (h : Calls P f args s.w fun e w' => e = .returned v ∧ Below s.w.heap.size s.w w') (hk : ∀ w', Below s.w.heap.size s.w w' → S w') :
    Calls P f args s.w fun e w'' => e = .returned v ∧ ∃ s' : Hw S, w'' = s'.w :=
  h.mono fun _ w' ⟨he, hb⟩ => ⟨he, ⟨w', hk w' hb⟩, rfl⟩
theorem Calls.heldSame {P : Program} {S : World → Prop} {f : FuncId} {args : Array Value} {v : Value} {s : Hw S} (h : Calls P f args s.w fun e w' => e = .returned v ∧ s.w = w') :
    Calls P f args s.w fun e w'' => e = .returned v ∧ ∃ s' : Hw S, w'' = s'.w :=
  h.mono fun _ _ ⟨he, hb⟩ => ⟨he, s, hb.symm⟩
end Go.Proofs.Ytffnadnndmmliaa

namespace Go.Proofs.Ytffnadnndmmliaa
open Go.RowKit

theorem specOk_no (a : Option Addr) (cap : Nat) (ns : List Nd) (k : Int) (w : World) (hl : ns.length ≤ 1048576) (h : inB k 0 ((ns.length : Int) - 1) = false) :
    Calls Try.prog 38 #[.agg #[.slice a ns.length cap], .int .i64 k] w fun e w' => e = .returned (.bool false) ∧ Below w.heap.size w w' := by
  go_enter Try.func38, Try.ntmps38
  go_wp2_with fail
  refine (specIn_any _ _ _ _).mono ?_
  rintro e w' ⟨rfl, rfl⟩
  go_wp2
  go_ret
  exact ⟨rfl, (Below.refl _ _).alloc (Nat.le_refl _) _⟩
theorem specOk_yes (a : Option Addr) (cap : Nat) (ns : List Nd) (i : Nat) (w : World) (hl : ns.length ≤ 1048576) (hi : i < ns.length) (hr : RowN w.heap.size w a ns) :
    Calls Try.prog 38 #[.agg #[.slice a ns.length cap], .int .i64 (i : Int)] w fun e w' => e = .returned (.bool (nodeB (ns.getD i Nd.zero) i)) ∧ Below w.heap.size w w' := by
  have h : inB (i : Int) 0 ((ns.length : Int) - 1) = true := by unfold inB; simp; omega
  obtain ⟨b, off, rfl⟩ := hr.addr hi
  obtain ⟨hb, c0, c1, c2, c3⟩ := hr.at (Below.refl _ _) hi
  have hi0 : (0 : Int) ≤ (i : Int) := by omega
  have hi1 : (i : Int) < (ns.length : Int) := by omega
  clear hr
  generalize ns.getD i Nd.zero = y at c0 c1 c2 c3 ⊢
  go_enter Try.func38, Try.ntmps38
  go_wp2_with fail
  refine (specIn_any _ _ _ _).mono ?_
  rintro e w' ⟨rfl, rfl⟩
  go_wp2_with fail
  refine (specNode_any y i _ (by omega) (by omega)).mono ?_
  rintro e w' ⟨rfl, hb1⟩
  go_wp2
  go_ret
  exact ⟨rfl, ((Below.refl _ _).alloc (Nat.le_refl _) _).trans (hb1.mono (by simp))⟩
theorem specOk_any (a : Option Addr) (cap : Nat) (ns : List Nd) (k : Int) (w : World) (hl : ns.length ≤ 1048576) (hr : RowN w.heap.size w a ns) :
    Calls Try.prog 38 #[.agg #[.slice a ns.length cap], .int .i64 k] w fun e w' => e = .returned (.bool (okAt ns k)) ∧ Below w.heap.size w w' := by
  cases h : inB k 0 ((ns.length : Int) - 1) with
  | false =>
    have e : okAt ns k = false := by unfold okAt; rw [h]; rfl
    rw [e]
    exact specOk_no a cap ns k w hl h
  | true =>
    have h' := h
    unfold inB at h'
    simp at h'
    obtain ⟨i, rfl⟩ : ∃ i : Nat, k = (i : Int) := ⟨k.toNat, by omega⟩
    have e : okAt ns (i : Int) = nodeB (ns.getD i Nd.zero) i := by unfold okAt; rw [h]; simp
    rw [e]
    exact specOk_yes a cap ns i w hl (by omega) hr

theorem all_drop (ns : List Nd) (i : Nat) (h : i < ns.length) : allFrom ns (ns.drop i) i = (nodeB (ns.getD i Nd.zero) i && (decide (findN ns (ns.getD i Nd.zero) = i) && allFrom ns (ns.drop (i + 1)) (i + 1))) := by
  rw [List.drop_eq_getElem_cons h, allFrom]
  rw [List.getD_eq_getElem?_getD, List.getElem?_eq_getElem h]; rfl
theorem all_end (ns : List Nd) : allFrom ns (ns.drop ns.length) ns.length = true := by rw [List.drop_length]; rfl
theorem RowN.later {w w' : World} {a : Option Addr} {ns : List Nd} {B : Nat} (h : RowN B w a ns) (hb : Below B w w') : RowN B w' a ns := by
  rcases h with h0 | ⟨b, off, e, hlt, hc⟩
  · exact .inl h0
  · refine .inr ⟨b, off, e, hlt, fun i hi => ?_⟩
    obtain ⟨c0, c1, c2, c3⟩ := hc i hi
    exact ⟨(hb.cell hlt).trans c0, (hb.cell hlt).trans c1, (hb.cell hlt).trans c2, (hb.cell hlt).trans c3⟩
theorem RowN.wide {w : World} {a : Option Addr} {ns : List Nd} {B B' : Nat} (h : RowN B w a ns) (hB : B ≤ B') : RowN B' w a ns := by
  rcases h with h0 | ⟨b, off, e, hlt, hc⟩
  · exact .inl h0
  · exact .inr ⟨b, off, e, Nat.lt_of_lt_of_le hlt hB, hc⟩
theorem RowN.grown {w w' : World} {a : Option Addr} {ns : List Nd} (h : RowN w.heap.size w a ns) (hb : Below w.heap.size w w') : RowN w'.heap.size w' a ns := (h.later hb).wide hb.size

theorem specArena_long (a : Option Addr) (cap : Nat) (ns : List Nd) (w : World) (hl : ns.length ≤ 1048576) (h : 3000 < ns.length) :
    Calls Try.prog 39 #[.agg #[.slice a ns.length cap]] w fun e w' => e = .returned (.bool (arenaB ns)) ∧ Below w.heap.size w w' := by
  have HV : Hid (arenaB ns = false) := by show _ = _; unfold arenaB; rw [decide_eq_false (by omega)]; rfl
  have h' : (3000 : Int) < (ns.length : Int) := by omega
  go_enter Try.func39, Try.ntmps39
  go_wp2
  go_ret
  exact ⟨by rw [HV.out]; rfl, (Below.refl _ _).alloc (Nat.le_refl _) _⟩
/-- What a walk over an arena behind a struct of its own holds, in whatever later world. -/
def HeldA (w : World) (b off k : Nat) (y : Nd) (v : Value) (w' : World) : Prop := w'.cell? ⟨w.heap.size, 0, none⟩ = some v ∧ w'.cell? ⟨b, off + k * 4, none⟩ = some (.int .i64 y.k) ∧ w'.cell? ⟨b, off + k * 4 + 1, none⟩ = some (.int .i64 y.n) ∧ w'.cell? ⟨b, off + k * 4 + 2, none⟩ = some (.int .i64 y.a) ∧ w'.cell? ⟨b, off + k * 4 + 3, none⟩ = some (.int .i64 y.b) ∧ w.heap.size < w'.heap.size ∧ Below w.heap.size w w'
theorem heldA_next {w w1 w2 : World} {b off k : Nat} {y : Nd} {v : Value} (hb : b < w.heap.size) (h : HeldA w b off k y v w1) (h1 : Below w1.heap.size w1 w2) : HeldA w b off k y v w2 := by
  obtain ⟨e0, e1, e2, e3, e4, e5, e6⟩ := h
  have hb' : b < w1.heap.size := Nat.lt_trans hb e5
  exact ⟨(h1.cell (p := ⟨w.heap.size, 0, none⟩) e5).trans e0, (h1.cell (p := ⟨b, off + k * 4, none⟩) hb').trans e1, (h1.cell (p := ⟨b, off + k * 4 + 1, none⟩) hb').trans e2, (h1.cell (p := ⟨b, off + k * 4 + 2, none⟩) hb').trans e3, (h1.cell (p := ⟨b, off + k * 4 + 3, none⟩) hb').trans e4, Nat.lt_of_lt_of_le e5 h1.size, e6.trans (h1.mono e6.size)⟩
theorem heldA_row {w w1 : World} {b off k : Nat} {y : Nd} {v : Value} {a : Option Addr} {ns : List Nd} (hr : RowN w.heap.size w a ns) (h : HeldA w b off k y v w1) : RowN w1.heap.size w1 a ns := hr.grown h.2.2.2.2.2.2
theorem heldA_class {w wr : World} {b off k : Nat} {y : Nd} {v : Value} {a : Option Addr} {ns : List Nd} (hb : b < w.heap.size) (hr : RowN w.heap.size w a ns) (h : HeldA w b off k y v wr) :
    ∃ S : World → Prop, S wr ∧ Nonempty (Hw S) ∧ (∀ s : Hw S, s.w.cell? ⟨w.heap.size, 0, none⟩ = some v) ∧ (∀ s : Hw S, s.w.cell? ⟨b, off + k * 4, none⟩ = some (.int .i64 y.k)) ∧ (∀ s : Hw S, s.w.cell? ⟨b, off + k * 4 + 1, none⟩ = some (.int .i64 y.n)) ∧ (∀ s : Hw S, s.w.cell? ⟨b, off + k * 4 + 2, none⟩ = some (.int .i64 y.a)) ∧ (∀ s : Hw S, s.w.cell? ⟨b, off + k * 4 + 3, none⟩ = some (.int .i64 y.b)) ∧
      Hid ((∀ (s : Hw S) w', Below s.w.heap.size s.w w' → S w') ∧ (∀ s : Hw S, RowN s.w.heap.size s.w a ns) ∧ (∀ w', S w' → HeldA w b off k y v w')) :=
  ⟨HeldA w b off k y v, h, ⟨⟨wr, h⟩⟩, fun s => s.ok.1, fun s => s.ok.2.1, fun s => s.ok.2.2.1, fun s => s.ok.2.2.2.1, fun s => s.ok.2.2.2.2.1,
    ⟨fun s _ h1 => heldA_next hb s.ok h1, fun s => heldA_row hr s.ok, fun _ h => h⟩⟩
set_option maxHeartbeats 1600000 in
theorem specArena_short (a : Option Addr) (cap : Nat) (ns : List Nd) (w : World) (h : ns.length ≤ 3000) (hr : RowN w.heap.size w a ns) :
    Calls Try.prog 39 #[.agg #[.slice a ns.length cap]] w fun e w' => e = .returned (.bool (arenaB ns)) ∧ Below w.heap.size w w' := by
  have HV : Hid (arenaB ns = allFrom ns ns 0) := by show _ = _; unfold arenaB; rw [decide_eq_true (by omega)]; rfl
  have h' : ¬ (3000 : Int) < (ns.length : Int) := by omega
  have HR : Hid (RowN w.heap.size w a ns) := hr
  clear hr
  go_enter Try.func39, Try.ntmps39
  go_wp2
  go_loopw [3] (fun i wr => ∃ k : Nat, k ≤ ns.length ∧ i = .int .i64 (k : Int) ∧ Hid (allFrom ns (ns.drop k) k = allFrom ns ns 0) ∧ Below w.heap.size w wr ∧ wr.cell? ⟨w.heap.size, 0, none⟩ = some (.slice a ns.length cap) ∧ w.heap.size < wr.heap.size)
    (fun i _ => ns.length - (intOf i).toNat)
  case atStart => exact ⟨0, Nat.zero_le _, rfl, rfl, (Below.refl _ _).alloc (Nat.le_refl _) _, by rw [cell_of_row _ w.heap.size 0 _ _ _ (heap_alloc_new w _)]; rfl, by simp⟩
  case round =>
    obtain ⟨k, hk, rfl, HF, hbel, hown, hsz⟩ := hrel
    by_cases hlt : k < ns.length
    · obtain ⟨b, off, rfl⟩ := HR.out.addr hlt
      obtain ⟨hb, c0, c1, c2, c3⟩ := HR.out.at hbel hlt
      have HFD : Hid (_ = _) := all_drop ns k hlt
      have hi0 : (0 : Int) ≤ (k : Int) := by omega
      have hi1 : (k : Int) < (ns.length : Int) := by omega
      generalize ns.getD k Nd.zero = y at c0 c1 c2 c3 HFD
      obtain ⟨S, hS0, hNE, q0, q1, q2, q3, q4, HK⟩ := heldA_class (wr := wr.drew) (v := .slice (some ⟨b, off, none⟩) ns.length cap) hb HR.out ⟨hown, c0, c1, c2, c3, hsz, hbel.drew⟩
      clear c0 c1 c2 c3
      cases hN : nodeB y k with
      | false =>
        have HE : Hid (allFrom ns ns 0 = false) := by show _ = _; rw [← HF.out, HFD.out, hN]; rfl
        go_wp2
        refine wp_region_held (S := S) (by kernel_rfl) (by kernel_rfl) hS0 ?_
        repeat (go_big_quiet_step (first | (go_at_call 105; exact Calls.held (specNode_any y k _ (by omega) (by omega)) (HK.out.1 _)) | (go_at_call 106; exact Calls.held (specAt_any _ cap ns y _ (by omega) (HK.out.2.1 _)) (HK.out.1 _))))
        refine wpQuiet_nil ?_
        rintro _ ⟨sw, rfl⟩
        have hH := HK.out.2.2 _ sw.ok
        have hB := hH.2.2.2.2.2.2
        have hsz2 := hH.2.2.2.2.2.1
        have hcell := hH.1
        clear hH HK q0 q1 q2 q3 q4 hS0
        go_wp2
        go_ret
        exact ⟨by rw [HV.out, HE.out]; rfl, hB⟩
      | true =>
        by_cases hq : findN ns y = (k : Int)
        · have HE : Hid (allFrom ns (ns.drop (k + 1)) (k + 1) = allFrom ns ns 0) := by show _ = _; rw [← HF.out, HFD.out, hN, decide_eq_true hq]; rfl
          go_wp2
          refine wp_region_held (S := S) (by kernel_rfl) (by kernel_rfl) hS0 ?_
          repeat (go_big_quiet_step (first | (go_at_call 105; exact Calls.held (specNode_any y k _ (by omega) (by omega)) (HK.out.1 _)) | (go_at_call 106; exact Calls.held (specAt_any _ cap ns y _ (by omega) (HK.out.2.1 _)) (HK.out.1 _))))
          refine wpQuiet_nil ?_
          rintro _ ⟨sw, rfl⟩
          have hH := HK.out.2.2 _ sw.ok
          have hB := hH.2.2.2.2.2.2
          have hsz2 := hH.2.2.2.2.2.1
          have hcell := hH.1
          clear hH HK q0 q1 q2 q3 q4 hS0
          go_wp2
          go_roundw
          case rel => exact ⟨k + 1, by omega, by go_num, HE, hB, hcell, hsz2⟩
          case measure => simp [intOf]; omega
        · have hq' : (findN ns y == (k : Int)) = false := by simp [hq]
          have HE : Hid (allFrom ns ns 0 = false) := by show _ = _; rw [← HF.out, HFD.out, hN, decide_eq_false hq]; rfl
          go_wp2
          refine wp_region_held (S := S) (by kernel_rfl) (by kernel_rfl) hS0 ?_
          repeat (go_big_quiet_step (first | (go_at_call 105; exact Calls.held (specNode_any y k _ (by omega) (by omega)) (HK.out.1 _)) | (go_at_call 106; exact Calls.held (specAt_any _ cap ns y _ (by omega) (HK.out.2.1 _)) (HK.out.1 _))))
          refine wpQuiet_nil ?_
          rintro _ ⟨sw, rfl⟩
          have hH := HK.out.2.2 _ sw.ok
          have hB := hH.2.2.2.2.2.2
          have hsz2 := hH.2.2.2.2.2.1
          have hcell := hH.1
          clear hH HK q0 q1 q2 q3 q4 hS0
          go_wp2
          go_ret
          exact ⟨by rw [HV.out, HE.out]; rfl, hB⟩
    · obtain rfl : k = ns.length := by omega
      go_wp2
      go_ret
      exact ⟨by rw [HV.out, ← HF.out, all_end]; rfl, hbel⟩
theorem specArena_any (a : Option Addr) (cap : Nat) (ns : List Nd) (w : World) (hl : ns.length ≤ 1048576) (hr : RowN w.heap.size w a ns) :
    Calls Try.prog 39 #[.agg #[.slice a ns.length cap]] w fun e w' => e = .returned (.bool (arenaB ns)) ∧ Below w.heap.size w w' := by
  by_cases h : ns.length ≤ 3000
  · exact specArena_short a cap ns w h hr
  · exact specArena_long a cap ns w hl (by omega)
end Go.Proofs.Ytffnadnndmmliaa
