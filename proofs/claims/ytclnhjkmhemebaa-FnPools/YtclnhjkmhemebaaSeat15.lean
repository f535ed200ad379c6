/- The program's chapter 15: an array of three seats; what is looked for in it. -/
import Derived.Test.YtclnhjkmhemebaaPool15
import Derived.Test.YtclnhjkmhemebaaRowB
import Derived.WalkKit
import Derived.WalkLawsBesides
import Derived.WalkSpells
import Derived.OwnWalk
import Derived.Laws.Rows
import Derived.Laws.StructEq
import Derived.Deep.QuietTactic
import Derived.BigQuiet
namespace Go.Proofs.Ytclnhjkmhemebaa
open Go.RowKit
set_option linter.unusedVariables false
structure Se where
  b : Bool
  c : Int
  deriving DecidableEq, Inhabited
structure St where
  s0 : Se
  s1 : Se
  s2 : Se
  deriving DecidableEq, Inhabited
def St.zero : St := ⟨⟨false, 0⟩, ⟨false, 0⟩, ⟨false, 0⟩⟩
abbrev St.cells (t : St) : Array Value := #[.bool t.s0.b, .int .i64 t.s0.c, .bool t.s1.b, .int .i64 t.s1.c, .bool t.s2.b, .int .i64 t.s2.c]
abbrev St.val (t : St) : Value := .agg #[.bool t.s0.b, .int .i64 t.s0.c, .bool t.s1.b, .int .i64 t.s1.c, .bool t.s2.b, .int .i64 t.s2.c]
def St.idx (t : St) (x : Se) : Int := if t.s0 = x then 0 else if t.s1 = x then 1 else if t.s2 = x then 2 else -1
def St.has (t : St) (c : Int) : Bool := decide (0 ≤ t.idx ⟨true, c⟩)
theorem se_eq (x y : Se) : x = y ↔ x.b = y.b ∧ x.c = y.c := by
  obtain ⟨a0, a1⟩ := x; obtain ⟨b0, b1⟩ := y; simp
theorem seFields : Try.prog.underlying 95 = some (.struct (Try.prog.fieldsOf 95)) := by kernel_rfl
theorem seHeld : Try.prog.stoodInHeld 95 = false := by kernel_rfl
theorem seGuard : Try.prog.eqGuardType Try.prog.depth 95 = false := by kernel_rfl
theorem se_eql (x y : Se) (w : World) : (Op.equalIn 10000 95 (.agg #[.bool x.b, .int .i64 x.c]) (.agg #[.bool y.b, .int .i64 y.c])).run Try.prog w = .ok (decide (x = y)) w := by
  rw [show (10000 : Nat) = 9999 + 1 from rfl, run_equalIn_agg _ _ _ _ _ seFields seHeld]
  simp only [Program.fieldsOf, Try.underlying95]
  have e := se_eq x y
  by_cases h0 : x.b = y.b <;> by_cases h1 : x.c = y.c <;> go_simp <;> simp [e, h0, h1]
/-- What is left to look for from a place on. -/
def St.from (t : St) (x : Se) : Nat → Int
  | 0 => t.idx x
  | 1 => if t.s1 = x then 1 else if t.s2 = x then 2 else -1
  | 2 => if t.s2 = x then 2 else -1
  | _ => -1
set_option maxHeartbeats 1600000 in
/-- slices.Index over the three seats. -/
theorem seatIdx_any (g : Nat) (t : St) (x : Se) (w : World) (hg : w.heap[g]? = some (.cells t.cells 97 (0, 0))) :
    Calls Try.prog 75 #[.slice (some ⟨g, 0, none⟩) 3 3, .agg #[.bool x.b, .int .i64 x.c]] w fun e w' => e = .returned (.int .i64 (t.idx x)) ∧ Below w.heap.size w w' := by
  obtain ⟨V, HV⟩ : ∃ V, Hid (t.idx x = V) := ⟨_, rfl⟩
  rw [HV.out]
  have HG : Hid _ := hg
  have hlt : g < w.heap.size := (Array.getElem?_eq_some_iff.1 hg).1
  clear hg
  have hgd := seGuard
  go_enter Try.func75, Try.ntmps75
  go_wp2
  go_loopw [8] (fun i wr => ∃ k : Nat, k ≤ 3 ∧ i = .int .i64 (k : Int) ∧ Hid (t.from x k = V) ∧ Below w.heap.size w wr ∧ Hid (wr.heap[w.heap.size]? = some (.cells #[.bool x.b, .int .i64 x.c] 95 (0, 0))))
    (fun i _ => 3 - (intOf i).toNat)
  case atStart => exact ⟨0, Nat.zero_le _, rfl, HV, (Below.refl _ _).alloc (Nat.le_refl _) _, heap_alloc_new w _⟩
  case round =>
    obtain ⟨k, hk, rfl, HF, hbel, HO⟩ := hrel
    have hG := (hbel.block _ hlt).trans HG.out
    have d0 : wr.cell? ⟨w.heap.size, 0, none⟩ = some (.bool x.b) := (cell_of_row wr w.heap.size 0 _ _ _ HO.out).trans rfl
    have d1 : wr.cell? ⟨w.heap.size, 1, none⟩ = some (.int .i64 x.c) := (cell_of_row wr w.heap.size 1 _ _ _ HO.out).trans rfl
    rcases (show k = 0 ∨ k = 1 ∨ k = 2 ∨ k = 3 by omega) with rfl | rfl | rfl | rfl
    · have c0 : wr.cell? ⟨g, 0, none⟩ = some (.bool t.s0.b) := (cell_of_row _ _ 0 _ _ _ hG).trans rfl
      have c1 : wr.cell? ⟨g, 1, none⟩ = some (.int .i64 t.s0.c) := (cell_of_row _ _ 1 _ _ _ hG).trans rfl
      have HN : Hid (t.from x 0 = if t.s0 = x then 0 else t.from x 1) := rfl
      clear hG
      generalize t.s0 = y at c0 c1 HN
      have hel := se_eql x y
      by_cases hyx : y = x
      · have hdy : decide (x = y) = true := by simp [hyx]
        have HE : Hid ((0 : Int) = V) := by show _ = _; rw [← HF.out, HN.out, if_pos hyx]
        clear hyx HN HF
        go_wp2
        go_quiet (fail)
        go_wp2
        go_ret
        exact ⟨by rw [← HE.out]; rfl, below_dnB hbel _⟩
      · have hdy : decide (x = y) = false := by simp [Ne.symm hyx]
        have HE : Hid (t.from x 1 = V) := by show _ = _; rw [← HF.out, HN.out, if_neg hyx]
        clear hyx HN HF
        go_wp2
        go_quiet (fail)
        go_wp2
        go_roundw
        case rel => exact ⟨1, by omega, by go_num, HE, below_dnB hbel _, HO⟩
        case measure => simp [intOf]
    · have c0 : wr.cell? ⟨g, 2, none⟩ = some (.bool t.s1.b) := (cell_of_row _ _ 2 _ _ _ hG).trans rfl
      have c1 : wr.cell? ⟨g, 3, none⟩ = some (.int .i64 t.s1.c) := (cell_of_row _ _ 3 _ _ _ hG).trans rfl
      have HN : Hid (t.from x 1 = if t.s1 = x then 1 else t.from x 2) := rfl
      clear hG
      generalize t.s1 = y at c0 c1 HN
      have hel := se_eql x y
      by_cases hyx : y = x
      · have hdy : decide (x = y) = true := by simp [hyx]
        have HE : Hid ((1 : Int) = V) := by show _ = _; rw [← HF.out, HN.out, if_pos hyx]
        clear hyx HN HF
        go_wp2
        go_quiet (fail)
        go_wp2
        go_ret
        exact ⟨by rw [← HE.out]; rfl, below_dnB hbel _⟩
      · have hdy : decide (x = y) = false := by simp [Ne.symm hyx]
        have HE : Hid (t.from x 2 = V) := by show _ = _; rw [← HF.out, HN.out, if_neg hyx]
        clear hyx HN HF
        go_wp2
        go_quiet (fail)
        go_wp2
        go_roundw
        case rel => exact ⟨2, by omega, by go_num, HE, below_dnB hbel _, HO⟩
        case measure => simp [intOf]
    · have c0 : wr.cell? ⟨g, 4, none⟩ = some (.bool t.s2.b) := (cell_of_row _ _ 4 _ _ _ hG).trans rfl
      have c1 : wr.cell? ⟨g, 5, none⟩ = some (.int .i64 t.s2.c) := (cell_of_row _ _ 5 _ _ _ hG).trans rfl
      have HN : Hid (t.from x 2 = if t.s2 = x then 2 else t.from x 3) := rfl
      clear hG
      generalize t.s2 = y at c0 c1 HN
      have hel := se_eql x y
      by_cases hyx : y = x
      · have hdy : decide (x = y) = true := by simp [hyx]
        have HE : Hid ((2 : Int) = V) := by show _ = _; rw [← HF.out, HN.out, if_pos hyx]
        clear hyx HN HF
        go_wp2
        go_quiet (fail)
        go_wp2
        go_ret
        exact ⟨by rw [← HE.out]; rfl, below_dnB hbel _⟩
      · have hdy : decide (x = y) = false := by simp [Ne.symm hyx]
        have HE : Hid (t.from x 3 = V) := by show _ = _; rw [← HF.out, HN.out, if_neg hyx]
        clear hyx HN HF
        go_wp2
        go_quiet (fail)
        go_wp2
        go_roundw
        case rel => exact ⟨3, by omega, by go_num, HE, below_dnB hbel _, HO⟩
        case measure => simp [intOf]
    · have HE : Hid (-1 = V) := HF.out
      clear hG
      go_wp2
      go_ret
      exact ⟨by rw [← HE.out]; rfl, hbel⟩
set_option maxHeartbeats 800000 in
theorem seatCon_any (g : Nat) (t : St) (x : Se) (w : World) (hg : w.heap[g]? = some (.cells t.cells 97 (0, 0))) :
    Calls Try.prog 114 #[.slice (some ⟨g, 0, none⟩) 3 3, .agg #[.bool x.b, .int .i64 x.c]] w fun e w' => e = .returned (.bool (decide (0 ≤ t.idx x))) ∧ Below w.heap.size w w' := by
  have hlt : g < w.heap.size := (Array.getElem?_eq_some_iff.1 hg).1
  have hb0 : Below w.heap.size w (w.alloc (.cells #[.bool x.b, .int .i64 x.c] 95)) := (Below.refl _ _).alloc (Nat.le_refl _) _
  have HC : Hid _ := seatIdx_any g t x (w.alloc (.cells #[.bool x.b, .int .i64 x.c] 95)) ((hb0.block _ hlt).trans hg)
  have HB0 : Hid (Below w.heap.size w (w.alloc (.cells #[.bool x.b, .int .i64 x.c] 95))) := hb0
  obtain ⟨V, HV⟩ : ∃ V, Hid (t.idx x = V) := ⟨_, rfl⟩
  rw [HV.out] at HC ⊢
  clear hb0 hg
  go_enter Try.func114, Try.ntmps114
  go_wp2_with fail
  refine Calls.mono HC.out ?_
  rintro e w2 ⟨rfl, hb2⟩
  have HB2 : Hid (Below w.heap.size w w2) := HB0.out.trans (hb2.mono HB0.out.size)
  clear HC hb2
  go_wp2
  go_ret
  exact ⟨rfl, HB2.out⟩
set_option maxHeartbeats 800000 in
theorem seatHas_any (t : St) (c : Int) (w : World) :
    Calls Try.prog 73 #[t.val, .int .i64 c] w fun e w' => e = .returned (.bool (t.has c)) ∧ Below w.heap.size w w' := by
  have hb0 : Below w.heap.size w (w.alloc (.cells t.cells 97)) := (Below.refl _ _).alloc (Nat.le_refl _) _
  have HC : Hid _ := seatCon_any w.heap.size t ⟨true, c⟩ (w.alloc (.cells t.cells 97)) (heap_alloc_new w _)
  have HB0 : Hid (Below w.heap.size w (w.alloc (.cells t.cells 97))) := hb0
  obtain ⟨V, HV⟩ : ∃ V, Hid (t.has c = V) := ⟨_, rfl⟩
  have HV2 : Hid (decide (0 ≤ t.idx ⟨true, c⟩) = V) := HV.out
  rw [HV2.out] at HC
  rw [HV.out]
  clear hb0
  go_enter Try.func73, Try.ntmps73
  go_wp2_with fail
  refine Calls.mono HC.out ?_
  rintro e w2 ⟨rfl, hb2⟩
  have HB2 : Hid (Below w.heap.size w w2) := HB0.out.trans (hb2.mono HB0.out.size)
  clear HC hb2
  go_wp2
  go_ret
  exact ⟨rfl, HB2.out⟩
end Go.Proofs.Ytclnhjkmhemebaa
