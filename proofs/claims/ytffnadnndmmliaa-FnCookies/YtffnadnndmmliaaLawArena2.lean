/- The laws' own helpers over arenas: eqNodeS, eqArena, sameArena, markNodeS, markArena, heldNodeS, heldArena. -/
import Derived.Test.YtffnadnndmmliaaLawArena
import Derived.Test.YtffnadnndmmliaaHeldQ
import Derived.WalkKit
import Derived.WalkLawsBesides
import Derived.WalkSpells
import Derived.OwnWalk
import Derived.Laws.OwnMore
import Derived.Laws.Rows
import Derived.BigRegion
namespace Go.Proofs.Ytffnadnndmmliaa
open Go.RowKit

/-- Are these nodes the same, from place k on? -/
def sameFrom (ns ms : List Nd) : Nat → Nat → Bool
  | 0, _ => true
  | f + 1, k => if ns.getD k Nd.zero = ms.getD k Nd.zero then sameFrom ns ms f (k + 1) else false
theorem sameFrom_eq : ∀ (f k : Nat) (ns ms : List Nd), ns.length = ms.length → ns.length = k + f → ns.take k = ms.take k → sameFrom ns ms f k = decide (ns = ms)
  | 0, k, ns, ms, hl, hf, ht => by
    rw [List.take_of_length_le (by omega), List.take_of_length_le (by omega)] at ht
    simp [sameFrom, ht]
  | f + 1, k, ns, ms, hl, hf, ht => by
    rw [sameFrom]
    have h1 : k < ns.length := by omega
    have h2 : k < ms.length := by omega
    have e1 : ns.getD k Nd.zero = ns[k] := by rw [List.getD_eq_getElem?_getD, List.getElem?_eq_getElem h1]; rfl
    have e2 : ms.getD k Nd.zero = ms[k] := by rw [List.getD_eq_getElem?_getD, List.getElem?_eq_getElem h2]; rfl
    split
    · rename_i h
      refine sameFrom_eq f (k + 1) ns ms hl (by omega) ?_
      rw [List.take_succ_eq_append_getElem h1, List.take_succ_eq_append_getElem h2, ht, ← e1, ← e2, h]
    · rename_i h
      symm; apply decide_eq_false
      intro e; subst e; exact h rfl

/-- The worlds in which all below B is as it was: a class that calls keep. -/
theorem below_class {B : Nat} {w wr : World} (h : Below B w wr) (hs : B ≤ w.heap.size) : ∃ S : World → Prop, S wr.drew ∧ Nonempty (Hw S) ∧ Hid ((∀ (s : Hw S) w', Below s.w.heap.size s.w w' → S w') ∧ (∀ w', S w' → Below B w w')) :=
  ⟨Below B w, h.drew, ⟨⟨wr.drew, h.drew⟩⟩, ⟨fun s _ h1 => s.ok.trans (h1.mono (Nat.le_trans hs s.ok.size)), fun _ h => h⟩⟩

set_option maxHeartbeats 1600000 in
theorem eqNodeS_same (a b : Option Addr) (ca cb n : Nat) (ns ms : List Nd) (w : World) (h1 : ns.length = n) (h2 : ms.length = n) (hl : n ≤ 2097152) (hr : RowN w.heap.size w a ns) (hq : RowN w.heap.size w b ms) :
    Calls Try.prog 83 #[.slice a n ca, .slice b n cb] w fun e w' => e = .returned (.bool (decide (ns = ms))) ∧ Below w.heap.size w w' := by
  have HR : Hid (RowN w.heap.size w a ns) := hr
  have HQ : Hid (RowN w.heap.size w b ms) := hq
  have HN : Hid (ns.length = n ∧ ms.length = n) := ⟨h1, h2⟩
  have HS : Hid (sameFrom ns ms n 0 = decide (ns = ms)) := sameFrom_eq n 0 ns ms (by omega) (by omega) rfl
  clear hr hq h1 h2
  go_enter Try.func83, Try.ntmps83
  go_wp2
  go_loopw [5] (fun i wr => ∃ k : Nat, k ≤ n ∧ i = .int .i64 (k : Int) ∧ Hid (sameFrom ns ms (n - k) k = decide (ns = ms)) ∧ Below w.heap.size w wr)
    (fun i _ => n - (intOf i).toNat)
  case atStart => exact ⟨0, Nat.zero_le _, rfl, HS, Below.refl _ _⟩
  case round =>
    obtain ⟨k, hk, rfl, HF, hbel⟩ := hrel
    by_cases hlt : k < n
    · obtain ⟨b1, off1, rfl⟩ := HR.out.addr (i := k) (by have := HN.out.1; omega)
      obtain ⟨b2, off2, rfl⟩ := HQ.out.addr (i := k) (by have := HN.out.2; omega)
      have hi0 : (0 : Int) ≤ (k : Int) := by omega
      have hi1 : (k : Int) < (n : Int) := by omega
      obtain ⟨S, hS0, hNE, HK⟩ := below_class hbel (Nat.le_refl _)
      have C1 := fun s : Hw S => HR.out.at (HK.out.2 _ s.ok) (i := k) (by have := HN.out.1; omega)
      have C2 := fun s : Hw S => HQ.out.at (HK.out.2 _ s.ok) (i := k) (by have := HN.out.2; omega)
      have HFD : Hid (sameFrom ns ms (n - k) k = if ns.getD k Nd.zero = ms.getD k Nd.zero then sameFrom ns ms (n - (k + 1)) (k + 1) else false) := by
        show _ = _
        rw [show n - k = (n - (k + 1)) + 1 by omega, sameFrom]
      generalize ns.getD k Nd.zero = x at C1 HFD
      generalize ms.getD k Nd.zero = y at C2 HFD
      have c0 := fun s : Hw S => (C1 s).2.1
      have c1 := fun s : Hw S => (C1 s).2.2.1
      have c2 := fun s : Hw S => (C1 s).2.2.2.1
      have c3 := fun s : Hw S => (C1 s).2.2.2.2
      have d0 := fun s : Hw S => (C2 s).2.1
      have d1 := fun s : Hw S => (C2 s).2.2.1
      have d2 := fun s : Hw S => (C2 s).2.2.2.1
      have d3 := fun s : Hw S => (C2 s).2.2.2.2
      clear C1 C2
      by_cases hxy : x = y
      · have hd : decide (x = y) = true := decide_eq_true hxy
        have HV : Hid (sameFrom ns ms (n - (k + 1)) (k + 1) = decide (ns = ms)) := by show _ = _; rw [← HF.out, HFD.out, if_pos hxy]
        clear hxy
        go_wp2
        refine wp_region_held (S := S) (by kernel_rfl) (by kernel_rfl) hS0 ?_
        repeat (go_big_quiet_step ((go_at_call 154; exact Calls.held (eqNode_any x y _) (HK.out.1 _))))
        refine wpQuiet_nil ?_
        rintro _ ⟨sw, rfl⟩
        have hB := HK.out.2 _ sw.ok
        clear c0 c1 c2 c3 d0 d1 d2 d3 HK
        go_wp2
        go_roundw
        case rel => exact ⟨k + 1, by omega, by go_num, HV, hB⟩
        case measure => simp [intOf]; omega
      · have hd : decide (x = y) = false := decide_eq_false hxy
        have HV : Hid (decide (ns = ms) = false) := by show _ = _; rw [← HF.out, HFD.out, if_neg hxy]
        clear hxy
        go_wp2
        refine wp_region_held (S := S) (by kernel_rfl) (by kernel_rfl) hS0 ?_
        repeat (go_big_quiet_step ((go_at_call 154; exact Calls.held (eqNode_any x y _) (HK.out.1 _))))
        refine wpQuiet_nil ?_
        rintro _ ⟨sw, rfl⟩
        have hB := HK.out.2 _ sw.ok
        clear c0 c1 c2 c3 d0 d1 d2 d3 HK
        go_wp2
        go_ret
        exact ⟨by rw [HV.out]; rfl, hB⟩
    · obtain rfl : k = n := by omega
      go_wp2
      go_ret
      exact ⟨by rw [← HF.out, Nat.sub_self]; rfl, hbel⟩
theorem eqNodeS_any (a b : Option Addr) (ca cb : Nat) (ns ms : List Nd) (w : World) (_hl : ns.length ≤ 2097152) (hm : ms.length ≤ 2097152) (hr : RowN w.heap.size w a ns) (hq : RowN w.heap.size w b ms) :
    Calls Try.prog 83 #[.slice a ns.length ca, .slice b ms.length cb] w fun e w' => e = .returned (.bool (decide (ns = ms))) ∧ Below w.heap.size w w' := by
  by_cases he : ns.length = ms.length
  · have := eqNodeS_same a b ca cb ms.length ns ms w he rfl hm hr hq
    rw [he]; exact this
  · have hei : ((ns.length : Int) != (ms.length : Int)) = true := by simp; omega
    have HV : Hid (decide (ns = ms) = false) := decide_eq_false (fun h => he (by rw [h]))
    clear hr hq
    go_enter Try.func83, Try.ntmps83
    go_wp2
    go_ret
    exact ⟨by rw [HV.out]; rfl, Below.refl _ _⟩
theorem eqArena_any (a b : Option Addr) (ca cb : Nat) (ns ms : List Nd) (w : World) (hl : ns.length ≤ 2097152) (hm : ms.length ≤ 2097152) (hr : RowN w.heap.size w a ns) (hq : RowN w.heap.size w b ms) :
    Calls Try.prog 19 #[.agg #[.slice a ns.length ca], .agg #[.slice b ms.length cb]] w fun e w' => e = .returned (.bool (decide (ns = ms))) ∧ Below w.heap.size w w' := by
  have hb0 : Below w.heap.size w ((w.alloc (.cells #[.slice a ns.length ca] 28)).alloc (.cells #[.slice b ms.length cb] 28)) := ((Below.refl _ _).alloc (Nat.le_refl _) _).alloc (by simp) _
  have H : Hid _ := eqNodeS_any a b ca cb ns ms ((w.alloc (.cells #[.slice a ns.length ca] 28)).alloc (.cells #[.slice b ms.length cb] 28)) hl hm (hr.grown hb0) (hq.grown hb0)
  have HB : Hid _ := hb0
  clear hr hq hb0
  cases hd : decide (ns = ms)
  all_goals
    rw [hd] at H
    go_enter Try.func19, Try.ntmps19
    go_wp2_with fail
    refine Calls.mono H.out ?_
    rintro e w1 ⟨rfl, hb1⟩
    go_wp2
    go_ret
    exact ⟨rfl, HB.out.trans (hb1.mono HB.out.size)⟩
theorem eqArena_same (a b : Option Addr) (ca cb : Nat) (ns : List Nd) (w : World) (hl : ns.length ≤ 2097152) (hr : RowN w.heap.size w a ns) (hq : RowN w.heap.size w b ns) :
    Calls Try.prog 19 #[.agg #[.slice a ns.length ca], .agg #[.slice b ns.length cb]] w fun e w' => e = .returned (.bool true) ∧ Below w.heap.size w w' := by
  have h := eqArena_any a b ca cb ns ns w hl hl hr hq
  rw [decide_eq_true rfl] at h
  exact h
/-- Two cells that were there are there behind a call. -/
theorem two_kept {w w' : World} {p q : Addr} {u v : Value} (h : w.cell? p = some u ∧ w.cell? q = some v) (hp : p.block < w.heap.size) (hq : q.block < w.heap.size) (hb : Below w.heap.size w w') : w'.cell? p = some u ∧ w'.cell? q = some v :=
  ⟨(hb.cell hp).trans h.1, (hb.cell hq).trans h.2⟩
end Go.Proofs.Ytffnadnndmmliaa

namespace Go.Proofs.Ytffnadnndmmliaa
open Go.RowKit

/-- The marks: numbers that go on. -/
def markN (k : Int) : Nd := ⟨k, k + 1, k + 1 + 1, k + 1 + 1 + 1⟩
def marksN (k : Int) : Nat → List Nd
  | 0 => []
  | n + 1 => marksN k n ++ [markN (k + 4 * (n : Int))]
theorem marksN_len (k : Int) : ∀ n, (marksN k n).length = n
  | 0 => rfl
  | n + 1 => by simp [marksN, marksN_len k n]
theorem marksN_at (k : Int) : ∀ n i, i < n → (marksN k n).getD i Nd.zero = markN (k + 4 * (i : Int))
  | n + 1, i, h => by
    rw [marksN, List.getD_eq_getElem?_getD]
    by_cases hi : i < n
    · rw [List.getElem?_append_left (by rw [marksN_len]; exact hi), ← List.getD_eq_getElem?_getD]; exact marksN_at k n i hi
    · obtain rfl : i = n := by omega
      rw [List.getElem?_append_right (by rw [marksN_len]; exact Nat.le_refl _), marksN_len]; simp

theorem gb_refl (w : World) (r : Option Nat) : w.grownBy w r := ⟨rfl, rfl, rfl, Nat.le_refl _, fun _ _ _ => rfl⟩
theorem gb_set {w w' : World} {g : Nat} (h : w.grownBy w' (some g)) (j : Nat) (u : Value) : w.grownBy (w'.setCell ⟨g, j, none⟩ u) (some g) :=
  ⟨h.os, h.tape, h.output, by simpa using h.size, fun k hk hne => (Below.heap_setCell _ _ _ _ (by simpa using hne)).trans (h.block k hk hne)⟩
theorem gb_below {w w' : World} {B g : Nat} (h : w.grownBy w' (some g)) (hB : B ≤ g) (hs : B ≤ w.heap.size) : Below B w w' := ⟨h.os, h.tape, h.output, h.size, fun k hk => h.block k (by omega) (by simp; omega)⟩
set_option maxHeartbeats 1600000 in
theorem markNodeS_any (base g cap n k0 : Nat) (xs0 : List Value) (w : World) (hn : n ≤ 2097152) (hk : k0 ≤ 1000) (hown : w.ownsRow base 45 4 (.slice (some ⟨g, 0, none⟩) n cap) n xs0) :
    Calls Try.prog 84 #[.slice (some ⟨g, 0, none⟩) n cap, .int .i64 (k0 : Int)] w fun e w' => e = .returned (.int .i64 ((k0 : Int) + 4 * (n : Int))) ∧ OwnN base w' (.slice (some ⟨g, 0, none⟩) n cap) (marksN k0 n) ∧ w.grownBy w' (some g) := by
  go_enter Try.func84, Try.ntmps84
  go_wp2
  go_loopw [1, 5] (fun kk i wr => ∃ (j : Nat) (xs : List Value), j ≤ n ∧ i = .int .i64 (j : Int) ∧ kk = .int .i64 ((k0 : Int) + 4 * (j : Int)) ∧ wr.ownsRow base 45 4 (.slice (some ⟨g, 0, none⟩) n cap) n xs ∧ Hid (xs.take (j * 4) = cellsN (marksN k0 j)) ∧ Hid (w.grownBy wr (some g)))
    (fun _ i _ => n - (intOf i).toNat)
  case atStart => exact ⟨0, _, Nat.zero_le _, rfl, by simp, hown, (by show _ = _; simp [cellsN, marksN]), gb_refl _ _⟩
  case round =>
    obtain ⟨j, xs, hj, rfl, rfl, ho, HT, HG⟩ := hrel
    have hxl : xs.length = n * 4 := ho.1
    by_cases hlt : j < n
    · have hi0 : (0 : Int) ≤ (j : Int) := by omega
      have hi1 : (j : Int) < (n : Int) := by omega
      obtain ⟨u0, e0⟩ : ∃ u, wr.cell? ⟨g, j * 4, none⟩ = some u := by rw [ho.cellAt (j * 4) (by omega)]; exact ⟨_, List.getElem?_eq_getElem (by omega)⟩
      obtain ⟨u1, e1⟩ : ∃ u, wr.cell? ⟨g, j * 4 + 1, none⟩ = some u := by rw [ho.cellAt (j * 4 + 1) (by omega)]; exact ⟨_, List.getElem?_eq_getElem (by omega)⟩
      obtain ⟨u2, e2⟩ : ∃ u, wr.cell? ⟨g, j * 4 + 2, none⟩ = some u := by rw [ho.cellAt (j * 4 + 2) (by omega)]; exact ⟨_, List.getElem?_eq_getElem (by omega)⟩
      obtain ⟨u3, e3⟩ : ∃ u, wr.cell? ⟨g, j * 4 + 3, none⟩ = some u := by rw [ho.cellAt (j * 4 + 3) (by omega)]; exact ⟨_, List.getElem?_eq_getElem (by omega)⟩
      have f0 := ho.frozenAt (j * 4)
      have f1 := ho.frozenAt (j * 4 + 1)
      have f2 := ho.frozenAt (j * 4 + 2)
      have f3 := ho.frozenAt (j * 4 + 3)
      have HS : Hid _ := ((((ho.stored (j * 4) (.int .i64 ((k0 : Int) + 4 * (j : Int)))).1.stored (j * 4 + 1) (.int .i64 ((k0 : Int) + 4 * (j : Int) + 1))).1.stored (j * 4 + 2) (.int .i64 ((k0 : Int) + 4 * (j : Int) + 1 + 1))).1.stored (j * 4 + 3) (.int .i64 ((k0 : Int) + 4 * (j : Int) + 1 + 1 + 1))).1
      have HG4 : Hid _ := gb_set (gb_set (gb_set (gb_set HG.out (j * 4) (.int .i64 ((k0 : Int) + 4 * (j : Int)))) (j * 4 + 1) (.int .i64 ((k0 : Int) + 4 * (j : Int) + 1))) (j * 4 + 2) (.int .i64 ((k0 : Int) + 4 * (j : Int) + 1 + 1))) (j * 4 + 3) (.int .i64 ((k0 : Int) + 4 * (j : Int) + 1 + 1 + 1))
      have HT4 : Hid (((((xs.set (j * 4) (.int .i64 ((k0 : Int) + 4 * (j : Int)))).set (j * 4 + 1) (.int .i64 ((k0 : Int) + 4 * (j : Int) + 1))).set (j * 4 + 2) (.int .i64 ((k0 : Int) + 4 * (j : Int) + 1 + 1))).set (j * 4 + 3) (.int .i64 ((k0 : Int) + 4 * (j : Int) + 1 + 1 + 1))).take ((j + 1) * 4) = cellsN (marksN k0 (j + 1))) := by
        show _ = _
        rw [show (j + 1) * 4 = j * 4 + 4 by omega, set4_take xs (j * 4) _ _ _ _ (by omega), HT.out, marksN, cellsN_append]; rfl
      clear ho HT HG
      go_wp2
      go_roundw
      case rel => exact ⟨j + 1, _, by omega, by go_num, by go_num, HS.out, HT4, HG4⟩
      case measure => simp [intOf]; omega
    · obtain rfl : j = n := by omega
      have HE : Hid (xs = cellsN (marksN k0 j)) := by
        show _ = _
        have := HT.out
        rw [List.take_of_length_le (by omega)] at this
        exact this
      clear HT
      go_wp2
      go_ret
      exact ⟨rfl, by unfold OwnN; rw [← HE.out, marksN_len]; exact ho, HG.out⟩
theorem markNodeS_nil (k : Int) (w : World) :
    Calls Try.prog 84 #[.slice none 0 0, .int .i64 k] w fun e w' => e = .returned (.int .i64 k) ∧ w = w' := by
  go_enter Try.func84, Try.ntmps84
  go_wp2
  go_loop [1, 5] (fun kk i => kk = .int .i64 k ∧ i = .int .i64 0) (fun _ _ => 0)
  case atStart => exact ⟨rfl, rfl⟩
  case round =>
    obtain ⟨rfl, rfl⟩ := hrel
    go_wp2
    go_ret
    exact ⟨rfl, rfl⟩
set_option maxHeartbeats 1600000 in
theorem heldNodeS_any (a : Option Addr) (cap n k0 : Nat) (w : World) (hn : n ≤ 2097152) (hk : k0 ≤ 1000) (hr : RowN w.heap.size w a (marksN k0 n)) :
    Calls Try.prog 85 #[.slice a n cap, .int .i64 (k0 : Int)] w fun e w' => e = .returned (.int .i64 ((k0 : Int) + 4 * (n : Int))) ∧ Below w.heap.size w w' := by
  have HR : Hid (RowN w.heap.size w a (marksN k0 n)) := hr
  clear hr
  go_enter Try.func85, Try.ntmps85
  go_wp2
  go_loopw [1, 5] (fun kk i wr => ∃ j : Nat, j ≤ n ∧ i = .int .i64 (j : Int) ∧ kk = .int .i64 ((k0 : Int) + 4 * (j : Int)) ∧ Below w.heap.size w wr)
    (fun _ i _ => n - (intOf i).toNat)
  case atStart => exact ⟨0, Nat.zero_le _, rfl, by simp, Below.refl _ _⟩
  case round =>
    obtain ⟨j, hj, rfl, rfl, hbel⟩ := hrel
    by_cases hlt : j < n
    · have hi0 : (0 : Int) ≤ (j : Int) := by omega
      have hi1 : (j : Int) < (n : Int) := by omega
      have hjl : j < (marksN k0 n).length := by rw [marksN_len]; exact hlt
      obtain ⟨b, off, rfl⟩ := HR.out.addr hjl
      obtain ⟨hb, c0, c1, c2, c3⟩ := HR.out.at hbel hjl
      rw [marksN_at k0 n j hlt] at c0 c1 c2 c3
      simp only [markN] at c0 c1 c2 c3
      clear hjl
      go_wp2
      go_roundw
      case rel => exact ⟨j + 1, by omega, by go_num, by go_num, hbel⟩
      case measure => simp [intOf]; omega
    · obtain rfl : j = n := by omega
      go_wp2
      go_ret
      exact ⟨rfl, hbel⟩
theorem gb_alloc {w w' : World} {r : Option Nat} {o : Obj} (h : (w.alloc o).grownBy w' r) : w.grownBy w' r :=
  ⟨h.os, h.tape, h.output, Nat.le_trans (by simp) h.size, fun k hk hne => (h.block k (by simp; omega) hne).trans (heap_alloc_old w o hk)⟩
/-- markArena on an arena that the call owns: it holds marks then; nothing else has turned. -/
theorem markArena_any (base k0 : Nat) (v : Value) (ns : List Nd) (w : World) (hn : ns.length ≤ 2097152) (hk : k0 ≤ 1000) (hown : OwnN base w v ns) :
    Calls Try.prog 20 #[.agg #[v], .int .i64 (k0 : Int)] w fun e w' => e = .returned (.int .i64 ((k0 : Int) + 4 * (ns.length : Int))) ∧ OwnN base w' v (marksN k0 ns.length) ∧ w.grownBy w' v.ownBlock := by
  rcases hown.2 with ⟨rfl, h0⟩ | ⟨g, cap, cur, rfl, hg, hh, _⟩
  · have HO : Hid (OwnN base (w.alloc (.cells #[.slice none 0 0] 28)) (.slice none 0 0) (marksN k0 ns.length)) := by
      rw [h0]; exact ⟨rfl, .inl ⟨rfl, rfl⟩⟩
    have hz : (ns.length : Int) = 0 := by omega
    have HG : Hid (w.grownBy (w.alloc (.cells #[.slice none 0 0] 28)) (Value.slice none 0 0).ownBlock) := gb_alloc (gb_refl _ _)
    clear hown
    go_enter Try.func20, Try.ntmps20
    go_wp2_with fail
    refine (markNodeS_nil _ _).mono ?_
    rintro e w1 ⟨rfl, rfl⟩
    go_wp2
    go_ret
    exact ⟨by go_num, HO.out, HG.out⟩
  · have HM : Hid _ := markNodeS_any base g cap ns.length k0 (cellsN ns) (w.alloc (.cells #[.slice (some ⟨g, 0, none⟩) ns.length cap] 28)) hn hk (hown.alloc _)
    clear hown hh
    go_enter Try.func20, Try.ntmps20
    go_wp2_with fail
    refine Calls.mono HM.out ?_
    rintro e w1 ⟨rfl, ho, hgr⟩
    have hgb : w.grownBy w1 (Value.slice (some ⟨g, 0, none⟩) ns.length cap).ownBlock := gb_alloc hgr
    clear HM hgr
    go_wp2
    go_ret
    exact ⟨rfl, ho, hgb⟩
theorem heldArena_any (k0 : Nat) (a : Option Addr) (n cap : Nat) (w : World) (hn : n ≤ 2097152) (hk : k0 ≤ 1000) (hr : RowN w.heap.size w a (marksN k0 n)) :
    Calls Try.prog 21 #[.agg #[.slice a n cap], .int .i64 (k0 : Int)] w fun e w' => e = .returned (.int .i64 ((k0 : Int) + 4 * (n : Int))) ∧ Below w.heap.size w w' := by
  have hb0 : Below w.heap.size w (w.alloc (.cells #[.slice a n cap] 28)) := (Below.refl _ _).alloc (Nat.le_refl _) _
  have HH : Hid _ := heldNodeS_any a cap n k0 (w.alloc (.cells #[.slice a n cap] 28)) hn hk (hr.grown hb0)
  have HB : Hid _ := hb0
  clear hr hb0
  go_enter Try.func21, Try.ntmps21
  go_wp2_with fail
  refine Calls.mono HH.out ?_
  rintro e w1 ⟨rfl, hb1⟩
  go_wp2
  go_ret
  exact ⟨rfl, HB.out.trans (hb1.mono HB.out.size)⟩
end Go.Proofs.Ytffnadnndmmliaa
