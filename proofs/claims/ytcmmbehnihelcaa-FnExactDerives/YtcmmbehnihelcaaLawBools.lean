/- The laws' own helpers over rows of bools: eqBoolS, markBoolS, heldBoolS; and what a law keeps of such a row. -/
import Derived.Test.YtcmmbehnihelcaaLawArena3
import Derived.Test.YtcmmbehnihelcaaLawKeep
import Derived.Test.YtcmmbehnihelcaaIntRow
import Derived.WalkKit
import Derived.WalkLawsBesides
import Derived.WalkSpells
import Derived.OwnWalk
import Derived.Laws.OwnMore
import Derived.Laws.Rows
namespace Go.Proofs.Ytcmmbehnihelcaa
open Go.RowKit
set_option linter.unusedVariables false

/-- A row of bools of the call's own: its cells. -/
theorem own_bools {w : World} {base k : Nat} {v : Value} {xs : List Bool} (h : w.ownsRow base 4 1 v k (xs.map (Value.bool))) (hk : 0 < k) :
    ∃ g cap, v = .slice (some ⟨g, 0, none⟩) k cap ∧ base ≤ g ∧ g < w.heap.size ∧ ∀ j, j < k → w.cell? ⟨g, j, none⟩ = some (.bool (xs.getD j false)) := by
  have hl : xs.length = k := by have := h.1; simpa using this
  have h' := h
  rcases h.2 with ⟨_, h0⟩ | ⟨g, cap, cur, rfl, hg, hb, _⟩
  · omega
  · refine ⟨g, cap, rfl, hg, (Array.getElem?_eq_some_iff.1 hb).1, fun j hj => ?_⟩
    rw [h'.cellAt j (by omega), List.getElem?_map, List.getElem?_eq_getElem (by omega), List.getD_eq_getElem?_getD, List.getElem?_eq_getElem (by omega)]; rfl
/-- A row of bools in memory, below B. -/
def RowB (B : Nat) (w : World) (a : Option Addr) (xs : List Bool) : Prop := xs = [] ∨ ∃ b off, a = some ⟨b, off, none⟩ ∧ b < B ∧ ∀ j, j < xs.length → w.cell? ⟨b, off + j, none⟩ = some (.bool (xs.getD j false))
theorem RowB.at {B : Nat} {w w' : World} {b off : Nat} {xs : List Bool} (h : RowB B w (some ⟨b, off, none⟩) xs) (hb : Below B w w') {i : Nat} (hi : i < xs.length) : b < B ∧ w'.cell? ⟨b, off + i, none⟩ = some (.bool (xs.getD i false)) := by
  rcases h with h0 | ⟨b', off', e, hlt, hc⟩
  · rw [h0] at hi; simp at hi
  · cases e
    exact ⟨hlt, (hb.cell hlt).trans (hc i hi)⟩
theorem RowB.addr {B : Nat} {w : World} {a : Option Addr} {xs : List Bool} (h : RowB B w a xs) {i : Nat} (hi : i < xs.length) : ∃ b off, a = some ⟨b, off, none⟩ := by
  rcases h with h0 | ⟨b', off', e, _⟩
  · rw [h0] at hi; simp at hi
  · exact ⟨b', off', e⟩
theorem RowB.later {B : Nat} {w w' : World} {a : Option Addr} {xs : List Bool} (h : RowB B w a xs) (hb : Below B w w') : RowB B w' a xs := by
  rcases h with h0 | ⟨b, off, e, hlt, hc⟩
  · exact .inl h0
  · exact .inr ⟨b, off, e, hlt, fun j hj => (hb.cell hlt).trans (hc j hj)⟩
theorem RowB.wide {B B' : Nat} {w : World} {a : Option Addr} {xs : List Bool} (h : RowB B w a xs) (hB : B ≤ B') : RowB B' w a xs := by
  rcases h with h0 | ⟨b, off, e, hlt, hc⟩
  · exact .inl h0
  · exact .inr ⟨b, off, e, Nat.lt_of_lt_of_le hlt hB, hc⟩
theorem RowB.grown {w w' : World} {a : Option Addr} {xs : List Bool} (h : RowB w.heap.size w a xs) (hb : Below w.heap.size w w') : RowB w'.heap.size w' a xs := (h.later hb).wide hb.size
/-- A row of bools that the call owns. -/
def OwnBool (base : Nat) (w : World) (v : Value) (xs : List Bool) : Prop := w.ownsRow base 4 1 v xs.length (xs.map (Value.bool))
theorem OwnBool.row {base : Nat} {w : World} {v : Value} {xs : List Bool} (h : OwnBool base w v xs) : ∃ a cap, v = .slice a xs.length cap ∧ AddrN a cap ∧ RowB w.heap.size w a xs := by
  rcases Nat.eq_zero_or_pos xs.length with h0 | h0
  · rcases h.2 with ⟨rfl, _⟩ | ⟨g, cap, cur, rfl, _⟩
    · exact ⟨none, 0, by rw [h0], .inl ⟨rfl, rfl⟩, .inl (List.length_eq_zero_iff.1 h0)⟩
    · exact ⟨_, cap, rfl, .inr ⟨g, 0, rfl⟩, .inl (List.length_eq_zero_iff.1 h0)⟩
  · obtain ⟨g, cap, rfl, hg, hlt, hc⟩ := own_bools h h0
    exact ⟨_, cap, rfl, .inr ⟨g, 0, rfl⟩, .inr ⟨g, 0, rfl, hlt, fun j hj => by rw [Nat.zero_add]; exact hc j hj⟩⟩
theorem OwnBool.later {B : Nat} {w w' : World} {v : Value} {xs : List Bool} (h : OwnBool B w v xs) (hb : Below w.heap.size w w') : OwnBool B w' v xs := own_next h hb
theorem OwnBool.base {B B' : Nat} {w : World} {v : Value} {xs : List Bool} (h : OwnBool B w v xs) (hb : B' ≤ B) : OwnBool B' w v xs := own_base h hb
/-- A row of bools that the law owns, its block from lo on, below hi. -/
structure OwnY (lo hi : Nat) (v : Value) (xs : List Bool) (w : World) : Prop where
  own : OwnBool lo w v xs
  le : hi ≤ w.heap.size
  lt : ∀ k, v.ownBlock = some k → k < hi
theorem OwnY.made {lo : Nat} {v : Value} {xs : List Bool} {w : World} (h : OwnBool lo w v xs) : OwnY lo w.heap.size v xs w := ⟨h, Nat.le_refl _, fun k hk => (World.ownsRow.lt h k hk).2⟩
theorem OwnY.next {lo hi : Nat} {v : Value} {xs : List Bool} {w w' : World} (h : OwnY lo hi v xs w) (hb : Below w.heap.size w w') : OwnY lo hi v xs w' := ⟨h.own.later hb, Nat.le_trans h.le hb.size, h.lt⟩
theorem OwnY.mark {lo hi : Nat} {v : Value} {xs : List Bool} {w w' : World} {r : Option Nat} (h : OwnY lo hi v xs w) (hg : w.grownBy w' r) (hne : ∀ g, r = some g → g < lo ∨ hi ≤ g) : OwnY lo hi v xs w' := by
  refine ⟨World.ownsRow.kept h.own hg ?_, Nat.le_trans h.le hg.size, h.lt⟩
  cases hv : v.ownBlock with
  | none => exact .inl rfl
  | some k =>
    right
    intro e
    have h1 := World.ownsRow.lt h.own k hv
    have h2 := h.lt k hv
    have h3 := hne k e.symm
    omega
theorem OwnY.rowAt {lo hi : Nat} {a : Option Addr} {n cap : Nat} {xs : List Bool} {w : World} (h : OwnY lo hi (.slice a n cap) xs w) : RowB w.heap.size w a xs := by
  obtain ⟨a', cap', e, _, hr⟩ := h.own.row
  cases e
  exact hr
theorem OwnY.block {lo hi : Nat} {v : Value} {xs : List Bool} {w : World} (h : OwnY lo hi v xs w) : ∀ g, v.ownBlock = some g → lo ≤ g ∧ g < hi := fun g hg => ⟨(World.ownsRow.lt h.own g hg).1, h.lt g hg⟩

set_option maxHeartbeats 800000 in
theorem eqBoolS_same (a b : Option Addr) (ca cb : Nat) (xs : List Bool) (w : World) (hl : xs.length ≤ 2097152) (hr : RowB w.heap.size w a xs) (hq : RowB w.heap.size w b xs) :
    Calls Try.prog 37 #[.slice a xs.length ca, .slice b xs.length cb] w fun e w' => e = .returned (.bool true) ∧ Below w.heap.size w w' := by
  have HR : Hid (RowB w.heap.size w a xs) := hr
  have HQ : Hid (RowB w.heap.size w b xs) := hq
  clear hr hq
  go_enter Try.func37, Try.ntmps37
  go_wp2
  go_loopw [5] (fun i wr => ∃ k : Nat, k ≤ xs.length ∧ i = .int .i64 (k : Int) ∧ Below w.heap.size w wr)
    (fun i _ => xs.length - (intOf i).toNat)
  case atStart => exact ⟨0, Nat.zero_le _, rfl, Below.refl _ _⟩
  case round =>
    obtain ⟨k, hk, rfl, hbel⟩ := hrel
    by_cases hlt : k < xs.length
    · obtain ⟨b1, off1, rfl⟩ := HR.out.addr hlt
      obtain ⟨b2, off2, rfl⟩ := HQ.out.addr hlt
      have hi0 : (0 : Int) ≤ (k : Int) := by omega
      have hi1 : (k : Int) < (xs.length : Int) := by omega
      have c1 := (HR.out.at hbel hlt).2
      have c2 := (HQ.out.at hbel hlt).2
      generalize xs.getD k false = y at c1 c2
      go_wp2
      go_quiet (fail)
      go_wp2
      go_roundw
      case rel => exact ⟨k + 1, by omega, by go_num, below_dn hbel _⟩
      case measure => simp [intOf]; omega
    · obtain rfl : k = xs.length := by omega
      go_wp2
      go_ret
      exact ⟨rfl, hbel⟩
/-- The marks of a row. -/
def marksB (k : Int) : Nat → List Bool
  | 0 => []
  | n + 1 => marksB k n ++ [decide (Int.tmod (k + (n : Int)) 3 = 0)]
theorem marksB_len (k : Int) : ∀ n, (marksB k n).length = n
  | 0 => rfl
  | n + 1 => by simp [marksB, marksB_len k n]
theorem marksB_at (k : Int) : ∀ n i, i < n → (marksB k n).getD i false = decide (Int.tmod (k + (i : Int)) 3 = 0)
  | 0, i, h => by omega
  | n + 1, i, h => by
    rw [marksB, List.getD_eq_getElem?_getD]
    by_cases hi : i < n
    · rw [List.getElem?_append_left (by rw [marksB_len]; exact hi), ← List.getD_eq_getElem?_getD]; exact marksB_at k n i hi
    · obtain rfl : i = n := by omega
      rw [List.getElem?_append_right (by rw [marksB_len]; exact Nat.le_refl _), marksB_len]; simp
set_option maxHeartbeats 800000 in
theorem markBoolS_some (base g cap n k0 : Nat) (xs0 : List Value) (w : World) (hn : n ≤ 2097152) (hk : k0 ≤ 1000000000) (hown : w.ownsRow base 4 1 (.slice (some ⟨g, 0, none⟩) n cap) n xs0) :
    Calls Try.prog 42 #[.slice (some ⟨g, 0, none⟩) n cap, .int .i64 (k0 : Int)] w fun e w' => e = .returned (.int .i64 ((k0 : Int) + (n : Int))) ∧ OwnBool base w' (.slice (some ⟨g, 0, none⟩) n cap) (marksB k0 n) ∧ w.grownBy w' (some g) := by
  go_enter Try.func42, Try.ntmps42
  go_wp2
  go_loopw [1, 5] (fun kk i wr => ∃ (j : Nat) (xs : List Value), j ≤ n ∧ i = .int .i64 (j : Int) ∧ kk = .int .i64 ((k0 : Int) + (j : Int)) ∧ wr.ownsRow base 4 1 (.slice (some ⟨g, 0, none⟩) n cap) n xs ∧ Hid (xs.take j = (marksB k0 j).map (Value.bool)) ∧ Hid (w.grownBy wr (some g)))
    (fun _ i _ => n - (intOf i).toNat)
  case atStart => exact ⟨0, _, Nat.zero_le _, rfl, by simp, hown, (by show _ = _; simp [marksB]), gb_refl _ _⟩
  case round =>
    obtain ⟨j, xs, hj, rfl, rfl, ho, HT, HG⟩ := hrel
    have hxl : xs.length = n * 1 := ho.1
    by_cases hlt : j < n
    · have hi0 : (0 : Int) ≤ (j : Int) := by omega
      have hi1 : (j : Int) < (n : Int) := by omega
      obtain ⟨u0, e0⟩ : ∃ u, wr.cell? ⟨g, j, none⟩ = some u := by rw [ho.cellAt j (by omega)]; exact ⟨_, List.getElem?_eq_getElem (by omega)⟩
      have f0 := ho.frozenAt j
      have HS : Hid _ := (ho.stored j (.bool (decide (Int.tmod ((k0 : Int) + (j : Int)) 3 = 0)))).1
      have HG4 : Hid _ := gb_set HG.out j (.bool (decide (Int.tmod ((k0 : Int) + (j : Int)) 3 = 0)))
      have HT4 : Hid ((xs.set j (.bool (decide (Int.tmod ((k0 : Int) + (j : Int)) 3 = 0)))).take (j + 1) = (marksB k0 (j + 1)).map (Value.bool)) := by
        show _ = _
        rw [marksB, List.map_append, ← HT.out]
        apply List.ext_getElem?
        intro q
        rw [List.getElem?_take]
        by_cases h1 : q < j
        · rw [if_pos (by omega), List.getElem?_append_left (by simp; omega), List.getElem?_set, if_neg (by omega), List.getElem?_take, if_pos h1]
        · by_cases h2 : q = j
          · subst h2
            rw [if_pos (by omega), List.getElem?_append_right (by simp; omega), List.getElem?_set, if_pos rfl, if_pos (by omega)]
            simp [Nat.min_eq_left (show q ≤ xs.length by omega)]
          · rw [if_neg (by omega)]
            symm
            apply List.getElem?_eq_none
            simp; omega
      clear ho HT HG
      go_wp2
      go_roundw
      case rel => exact ⟨j + 1, _, by omega, by go_num, by go_num, HS.out, HT4, HG4⟩
      case measure => simp [intOf]; omega
    · obtain rfl : j = n := by omega
      have HE : Hid (xs = (marksB k0 j).map (Value.bool)) := by
        show _ = _
        have := HT.out
        rw [List.take_of_length_le (by omega)] at this
        exact this
      clear HT
      go_wp2
      go_ret
      exact ⟨rfl, by unfold OwnBool; rw [← HE.out, marksB_len]; exact ho, HG.out⟩
theorem markBoolS_nil (k : Int) (w : World) : Calls Try.prog 42 #[.slice none 0 0, .int .i64 k] w fun e w' => e = .returned (.int .i64 k) ∧ w = w' := by
  go_enter Try.func42, Try.ntmps42
  go_wp2
  go_loop [1, 5] (fun kk i => kk = .int .i64 k ∧ i = .int .i64 0) (fun _ _ => 0)
  case atStart => exact ⟨rfl, rfl⟩
  case round =>
    obtain ⟨rfl, rfl⟩ := hrel
    go_wp2
    go_ret
    exact ⟨rfl, rfl⟩
theorem markBoolS_any (base k0 : Nat) (v : Value) (xs : List Bool) (w : World) (hn : xs.length ≤ 2097152) (hk : k0 ≤ 1000000000) (hown : OwnBool base w v xs) :
    Calls Try.prog 42 #[v, .int .i64 (k0 : Int)] w fun e w' => e = .returned (.int .i64 ((k0 : Int) + (xs.length : Int))) ∧ OwnBool base w' v (marksB k0 xs.length) ∧ w.grownBy w' v.ownBlock := by
  rcases hown.2 with ⟨rfl, h0⟩ | ⟨g, cap, cur, rfl, _⟩
  · refine (markBoolS_nil _ w).mono ?_
    rintro e w1 ⟨rfl, rfl⟩
    refine ⟨by rw [h0]; simp, ?_, gb_refl _ _⟩
    rw [h0]; exact ⟨rfl, .inl ⟨rfl, rfl⟩⟩
  · exact markBoolS_some base g cap xs.length k0 _ w hn hk hown
set_option maxHeartbeats 800000 in
theorem heldBoolS_any (a : Option Addr) (cap n k0 : Nat) (w : World) (hn : n ≤ 2097152) (hk : k0 ≤ 1000000000) (hr : RowB w.heap.size w a (marksB k0 n)) :
    Calls Try.prog 43 #[.slice a n cap, .int .i64 (k0 : Int)] w fun e w' => e = .returned (.int .i64 ((k0 : Int) + (n : Int))) ∧ Below w.heap.size w w' := by
  have HR : Hid (RowB w.heap.size w a (marksB k0 n)) := hr
  clear hr
  go_enter Try.func43, Try.ntmps43
  go_wp2
  go_loopw [1, 5] (fun kk i wr => ∃ j : Nat, j ≤ n ∧ i = .int .i64 (j : Int) ∧ kk = .int .i64 ((k0 : Int) + (j : Int)) ∧ Below w.heap.size w wr)
    (fun _ i _ => n - (intOf i).toNat)
  case atStart => exact ⟨0, Nat.zero_le _, rfl, by simp, Below.refl _ _⟩
  case round =>
    obtain ⟨j, hj, rfl, rfl, hbel⟩ := hrel
    by_cases hlt : j < n
    · have hi0 : (0 : Int) ≤ (j : Int) := by omega
      have hi1 : (j : Int) < (n : Int) := by omega
      have hjl : j < (marksB k0 n).length := by rw [marksB_len]; exact hlt
      obtain ⟨b, off, rfl⟩ := HR.out.addr hjl
      have c0 := (HR.out.at hbel hjl).2
      rw [marksB_at k0 n j hlt] at c0
      clear hjl
      have e3 : Int.tmod ((k0 : Int) + (j : Int)) 3 = ((k0 : Int) + (j : Int)) % 3 := Int.tmod_eq_emod_of_nonneg (by omega)
      rw [e3] at c0
      clear e3
      by_cases h3 : ((k0 : Int) + (j : Int)) % 3 = 0
      · rw [decide_eq_true h3] at c0
        go_wp2
        go_roundw
        case rel => exact ⟨j + 1, by omega, by go_num, by go_num, hbel⟩
        case measure => simp [intOf]; omega
      · rw [decide_eq_false h3] at c0
        go_wp2
        go_roundw
        case rel => exact ⟨j + 1, by omega, by go_num, by go_num, hbel⟩
        case measure => simp [intOf]; omega
    · obtain rfl : j = n := by omega
      go_wp2
      go_ret
      exact ⟨rfl, hbel⟩
end Go.Proofs.Ytcmmbehnihelcaa
