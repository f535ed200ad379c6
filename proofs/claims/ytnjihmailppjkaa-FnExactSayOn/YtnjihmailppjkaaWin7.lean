/- The contracts of chapter 7's WindowOk, Fresh and Noted, the specification's, and what they say in plain words. -/
import Derived.Test.YtnjihmailppjkaaPlainTerm
import Derived.WalkKit
import Derived.WalkLawsBesides
import Derived.WalkSpells
import Derived.IntWalk
import Derived.Laws.Rows
import Derived.Laws.BitsLemmas
import Derived.Laws.ResultCell
import Derived.Lib.SmallJoins
import Derived.Deep.Slices
import Derived.OpenShut
import Derived.ProofKit
import Derived.Deep.RegionHeld3
namespace Go.Proofs.Ytnjihmailppjkaa
open Go.RowKit
set_option linter.unusedVariables false
/-- WindowOk. -/
def winB (t s : Int) : Bool := inB t (-1) 9999 && (inB s 0 65535 && (if t < 0 then decide (s = 0) else (decide (s % 2 = 1) && (decide (15 ≤ t) || decide (s < 2 ^ (t + 1).toNat)))))
/-- Fresh. -/
def freshB (t s q : Int) : Bool := winB t s && (inB q 0 9999 && (decide (t < q) || (decide (t - q < 16) && decide (s.toNat / 2 ^ (t - q).toNat % 2 = 0))))
/-- What is seen with it. -/
def notedS (t s q : Int) : Int := if q ≤ t then ((s.toNat ||| 2 ^ (t - q).toNat : Nat) : Int) else if 0 ≤ t ∧ q - t < 16 then (((s.toNat * 2 ^ (q - t).toNat) % 65536 ||| 1 : Nat) : Int) else 1
theorem winB_range {t s : Int} (h : winB t s = true) : (-1 ≤ t ∧ t ≤ 9999) ∧ (0 ≤ s ∧ s ≤ 65535) := by
  unfold winB inB at h
  simp only [Bool.and_eq_true, decide_eq_true_eq] at h
  exact ⟨h.1, h.2.1⟩
theorem pow_small {k : Nat} (h : k ≤ 15) : (2 : Int) ^ k ≤ 32768 ∧ 0 < (2 : Int) ^ k := by
  rcases (show k = 0 ∨ k = 1 ∨ k = 2 ∨ k = 3 ∨ k = 4 ∨ k = 5 ∨ k = 6 ∨ k = 7 ∨ k = 8 ∨ k = 9 ∨ k = 10 ∨ k = 11 ∨ k = 12 ∨ k = 13 ∨ k = 14 ∨ k = 15 by omega) with rfl | rfl | rfl | rfl | rfl | rfl | rfl | rfl | rfl | rfl | rfl | rfl | rfl | rfl | rfl | rfl <;> decide
theorem wrap_small {x : Int} (h : 0 ≤ x) (h2 : x ≤ 4294967296) : wrap64 x = x := by unfold wrap64; omega
set_option maxHeartbeats 1600000 in
theorem specWin_any (t s : Int) (w : World) :
    Calls Try.prog 31 #[.agg #[.int .i64 t, .int .i64 s]] w fun e w' => e = .returned (.bool (winB t s)) ∧ Below w.heap.size w w' := by
  have HB : Hid (Below w.heap.size w (w.alloc (.cells #[.int .i64 t, .int .i64 s] 23))) := (Below.refl _ _).alloc (Nat.le_refl _) _
  obtain ⟨d1, HD1⟩ : ∃ d, Hid (inB t (-1) 9999 = d) := ⟨_, rfl⟩
  obtain ⟨d2, HD2⟩ : ∃ d, Hid (inB s 0 65535 = d) := ⟨_, rfl⟩
  have HE : Hid (winB t s = (d1 && (d2 && (if t < 0 then decide (s = 0) else (decide (s % 2 = 1) && (decide (15 ≤ t) || decide (s < 2 ^ (t + 1).toNat))))))) := by show _ = _; unfold winB; rw [HD1.out, HD2.out]
  cases d1
  · have HF : Hid (winB t s = false) := by show _ = _; rw [HE.out]; rfl
    go_enter Try.func31, Try.ntmps31
    go_wp2_with (go_at_call 30; refine (specIn_any _ _ _ _).mono ?_; rintro e w' ⟨rfl, rfl⟩; rw [HD1.out])
    go_ret
    exact ⟨by rw [HF.out]; rfl, HB.out⟩
  · cases d2
    · have HF : Hid (winB t s = false) := by show _ = _; rw [HE.out]; rfl
      go_enter Try.func31, Try.ntmps31
      go_wp2_with (go_at_call 30; refine (specIn_any _ _ _ _).mono ?_; rintro e w' ⟨rfl, rfl⟩; first | rw [HD1.out] | rw [HD2.out])
      go_ret
      exact ⟨by rw [HF.out]; rfl, HB.out⟩
    · have hr1 : -1 ≤ t ∧ t ≤ 9999 := by have := HD1.out; unfold inB at this; simpa using this
      have hr2 : 0 ≤ s ∧ s ≤ 65535 := by have := HD2.out; unfold inB at this; simpa using this
      obtain ⟨h1, h2⟩ := hr1
      obtain ⟨h3, h4⟩ := hr2
      by_cases h0 : t < 0
      · have HF : Hid (winB t s = decide (s = 0)) := by show _ = _; rw [HE.out, if_pos h0]; rfl
        go_enter Try.func31, Try.ntmps31
        go_wp2_with (go_at_call 30; refine (specIn_any _ _ _ _).mono ?_; rintro e w' ⟨rfl, rfl⟩; first | rw [HD1.out] | rw [HD2.out])
        go_ret
        exact ⟨by rw [HF.out]; rfl, HB.out⟩
      · have HF : Hid (winB t s = (decide (s % 2 = 1) && (decide (15 ≤ t) || decide (s < 2 ^ (t + 1).toNat)))) := by show _ = _; rw [HE.out, if_neg h0]; rfl
        have h0' : 0 ≤ t := by omega
        have htm : s.tmod 2 = s % 2 := Int.tmod_eq_emod_of_nonneg h3
        by_cases ho : s % 2 = 1
        · rw [ho] at htm
          by_cases h15 : 15 ≤ t
          · clear h0
            go_enter Try.func31, Try.ntmps31
            go_wp2_with (go_at_call 30; refine (specIn_any _ _ _ _).mono ?_; rintro e w' ⟨rfl, rfl⟩; first | rw [HD1.out] | rw [HD2.out])
            go_ret
            exact ⟨by rw [HF.out]; simp [ho, h15], HB.out⟩
          · have hp := pow_small (k := (t + 1).toNat) (by omega)
            have hwr : wrap64 (2 ^ (t + 1).toNat) = 2 ^ (t + 1).toNat := wrap_small (by omega) (by omega)
            have h15' : t < 15 := by omega
            clear h0 hp
            go_enter Try.func31, Try.ntmps31
            go_wp2_with (go_at_call 30; refine (specIn_any _ _ _ _).mono ?_; rintro e w' ⟨rfl, rfl⟩; first | rw [HD1.out] | rw [HD2.out])
            go_ret
            exact ⟨by rw [HF.out]; simp [ho], HB.out⟩
        · have hz : s % 2 = 0 := by omega
          rw [hz] at htm
          clear h0
          go_enter Try.func31, Try.ntmps31
          go_wp2_with (go_at_call 30; refine (specIn_any _ _ _ _).mono ?_; rintro e w' ⟨rfl, rfl⟩; first | rw [HD1.out] | rw [HD2.out])
          go_ret
          exact ⟨by rw [HF.out]; simp [hz], HB.out⟩
theorem bits1 {a b : Nat} (ha : a < 4294967296) (hb : b < 4294967296) : bits .and .i64 (a : Int) (b : Int) = ((a &&& b : Nat) : Int) ∧ bits .or .i64 (a : Int) (b : Int) = ((a ||| b : Nat) : Int) :=
  bits_nat .i64 32 (by decide) (fun n h1 h2 => by rw [IntKind.wrap_i64]; have : n < 4294967296 := h2; omega) a b ha hb
theorem div_nat (s k : Nat) : (s : Int) / 2 ^ k = ((s / 2 ^ k : Nat) : Int) := by rw [Int.natCast_ediv]; congr 1
theorem mul_nat (s k : Nat) : (s : Int) * 2 ^ k = ((s * 2 ^ k : Nat) : Int) := by rw [Int.natCast_mul]; congr 1
theorem pow_nat (k : Nat) : (2 : Int) ^ k = ((2 ^ k : Nat) : Int) := by simp
theorem pow_smallN {k : Nat} (h : k ≤ 15) : 2 ^ k ≤ 32768 := by
  have := (pow_small h).1
  rw [pow_nat] at this
  omega
theorem winSize : (Try.prog.info? 23).map (·.size) = some 2 := by kernel_rfl
theorem res_win {P : Program} {fn : Func} {p u : Tmp} {ty : TypeId} (h : fn.results = #[.cell p ty, .tmp u]) (tmps : Array Value) (w : World) (g : Nat) (t : TypeId) (cs : Array Value) (fr : Nat × Nat) (d : TypeDesc)
    (hp : tmps.getD p undef = .pointer (some ⟨g, 0, none⟩)) (hg : w.heap[g]? = some (.cells cs t fr))
    (hu : P.underlying ty = some d) (hd : (match d with | .struct _ | .array _ _ => true | _ => false) = true) (hi : (P.info? ty).map (·.size) = some cs.size) :
    (results fn tmps).run P w = .ok (.tuple #[.agg cs, tmps.getD u undef]) w := by
  have hp' : tmps[p]?.getD undef = .pointer (some ⟨g, 0, none⟩) := by simpa using hp
  simp [results, h, hp', asAddr, run_loadVar_row w g t ty cs fr d hg hu hd hi]
theorem below_two {B : Nat} {a w : World} {g : Nat} (h : Below B a w) (hg : B ≤ g) (u v : Value) : Below B a ((w.setCell ⟨g, 0, none⟩ u).setCell ⟨g, 1, none⟩ v) := (h.setCell hg u).setCell hg v
theorem store2 {w : World} {g : Nat} {t : TypeId} {u0 u1 : Value} (h : w.heap[g]? = some (.cells #[u0, u1] t (0, 0))) (v0 v1 : Value) : ((w.setCell ⟨g, 0, none⟩ v0).setCell ⟨g, 1, none⟩ v1).heap[g]? = some (.cells #[v0, v1] t (0, 0)) :=
  (heap_setCell_same _ g 1 _ _ _ (heap_setCell_same _ g 0 _ _ _ h)).trans rfl
/-- Noted's window. -/
def notedT (t s q : Int) : Int := if freshB t s q = true then (if q ≤ t then t else q) else t
def notedV (t s q : Int) : Int := if freshB t s q = true then notedS t s q else s
theorem freshB_range {t s q : Int} (h : freshB t s q = true) : (-1 ≤ t ∧ t ≤ 9999) ∧ (0 ≤ s ∧ s ≤ 65535) ∧ (0 ≤ q ∧ q ≤ 9999) ∧ (q ≤ t → t - q < 16) := by
  unfold freshB at h
  simp only [Bool.and_eq_true, Bool.or_eq_true, decide_eq_true_eq] at h
  have h2 : 0 ≤ q ∧ q ≤ 9999 := by have := h.2.1; unfold inB at this; simpa using this
  exact ⟨(winB_range h.1).1, (winB_range h.1).2, h2, fun hq => by rcases h.2.2 with h3 | h3 <;> omega⟩
end Go.Proofs.Ytnjihmailppjkaa

namespace Go.Proofs.Ytnjihmailppjkaa
open Go.ChangeShapes Go.WideShapes Go.ChangeAt Go.RowKit Go.Joins Go.Deep
set_option linter.unusedVariables false
theorem toWin_any (t s : Int) (w : World) :
    Calls Try.prog 33 #[.agg #[.int .i64 t, .int .i64 s]] w fun e w' => e = .returned (.agg #[.int .i64 t, .int .i64 s]) ∧ Below w.heap.size w w' := by
  go_enter Try.func33, Try.ntmps33
  go_wp2
  refine bodyPost_ret (results_cell_row rfl _ _ (w.heap.size + 1) 23 #[.int .i64 t, .int .i64 s] (0, 0) _ rfl ?_ Try.underlying23 rfl winSize) rfl ?_
  · rw [heap_alloc_old _ _ (by simp)]
    have := heap_alloc_new (w.alloc (.cells #[.int .i64 t, .int .i64 s] 32)) (.cells #[.int .i64 t, .int .i64 s] 23)
    simpa using this
  · exact ⟨rfl, (((Below.refl _ _).alloc (Nat.le_refl _) _).alloc (by simp) _).alloc (by simp; omega) _⟩
theorem eqWin_same (t s : Int) (w : World) :
    Calls Try.prog 27 #[.agg #[.int .i64 t, .int .i64 s], .agg #[.int .i64 t, .int .i64 s]] w fun e w' => e = .returned (.bool true) ∧ Below w.heap.size w w' := by
  go_enter Try.func27, Try.ntmps27
  go_wp2
  go_ret
  exact ⟨rfl, ((Below.refl _ _).alloc (Nat.le_refl _) _).alloc (by simp) _⟩
theorem cellsLWin : Try.prog.cellsOf 32 = 2 := by kernel_rfl
theorem cellsLIntW : Try.prog.cellsOf 3 = 1 := by kernel_rfl
set_option maxRecDepth 100000 in
theorem win_of {H : Type} {enc : TypeId × Value → H} {W : World} {base b0 : Nat} {sp : Nat → Bool} {held : Bool} {r : Reach} {v : Value} {d : DataW H} {p : List MemPlace} (hv : Value.okWide Try.prog W r b0 32 v) (h : DataW.Trod enc Try.prog W base sp held 32 v d p) :
    ∃ t s : Int, v = .agg #[.int .i64 t, .int .i64 s] ∧ (Lit.int .i64 t).wf = true ∧ (Lit.int .i64 s).wf = true := by
  obtain ⟨cs, rfl, hsz⟩ := okWide_struct Try.underlying32 hv
  obtain ⟨fuel, hf⟩ := h
  obtain ⟨y0, y1, n, _, hl, h0, h1⟩ := trod_struct2 Try.underlying32 hf
  rw [cellsLWin] at hl hsz
  obtain ⟨c0, c1, hc⟩ : ∃ c0 c1, cs.toList = [c0, c1] := by
    match hcs : cs.toList, (show cs.toList.length = 2 by simpa using hsz) with
    | [a, b], _ => exact ⟨a, b, rfl⟩
  have hcs : cs = #[c0, c1] := by apply Array.ext'; exact hc
  subst hcs
  simp only [Value.cells, cellsLIntW, List.drop_zero, List.drop_succ_cons, List.take_succ_cons, List.take_zero] at h0 h1
  obtain ⟨z0, e0, _, w0⟩ := DataW.trod_int Try.underlying3 h0
  obtain ⟨z1, e1, _, w1⟩ := DataW.trod_int Try.underlying3 h1
  simp only [List.cons.injEq, and_true] at e0 e1
  subst e0 e1
  exact ⟨z0, z1, rfl, w0, w1⟩
/-- A window in a box. -/
structure WinIn (b : Nat) (t s : Int) (w : World) : Prop where
  lt : b < w.heap.size
  c0 : w.cell? ⟨b, 0, none⟩ = some (.int .i64 t)
  c1 : w.cell? ⟨b, 1, none⟩ = some (.int .i64 s)
theorem WinIn.next {b : Nat} {t s : Int} {w w' : World} (h : WinIn b t s w) (hb : Below w.heap.size w w') : WinIn b t s w' := ⟨Nat.lt_of_lt_of_le h.lt hb.size, (hb.cell (p := ⟨b, 0, none⟩) h.lt).trans h.c0, (hb.cell (p := ⟨b, 1, none⟩) h.lt).trans h.c1⟩
theorem WinIn.made {w : World} {t s : Int} {ty : TypeId} : WinIn w.heap.size t s (w.alloc (.cells #[.int .i64 t, .int .i64 s] ty)) := ⟨by simp, by rw [cell_of_row _ w.heap.size 0 _ _ _ (heap_alloc_new w _)]; rfl, by rw [cell_of_row _ w.heap.size 1 _ _ _ (heap_alloc_new w _)]; rfl⟩
end Go.Proofs.Ytnjihmailppjkaa
