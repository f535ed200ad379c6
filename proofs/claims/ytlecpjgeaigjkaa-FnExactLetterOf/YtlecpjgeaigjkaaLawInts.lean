/- The laws' own helpers over rows of integers: eqIntS, markIntS, heldIntS; and what a law keeps of such a row. -/
import Derived.Test.YtlecpjgeaigjkaaLawArena3
import Derived.Test.YtlecpjgeaigjkaaLawKeep
import Derived.Test.YtlecpjgeaigjkaaPlain
import Derived.WalkKit
import Derived.WalkLawsBesides
import Derived.WalkSpells
import Derived.OwnWalk
import Derived.Laws.OwnMore
import Derived.Laws.Rows
namespace Go.Proofs.Ytlecpjgeaigjkaa
open Go.RowKit
set_option linter.unusedVariables false

/-- A row of integers in memory, below B. -/
def RowI (B : Nat) (w : World) (a : Option Addr) (xs : List Int) : Prop := xs = [] ∨ ∃ b off, a = some ⟨b, off, none⟩ ∧ b < B ∧ ∀ j, j < xs.length → w.cell? ⟨b, off + j, none⟩ = some (.int .i64 (xs.getD j 0))
theorem RowI.at {B : Nat} {w w' : World} {b off : Nat} {xs : List Int} (h : RowI B w (some ⟨b, off, none⟩) xs) (hb : Below B w w') {i : Nat} (hi : i < xs.length) : b < B ∧ w'.cell? ⟨b, off + i, none⟩ = some (.int .i64 (xs.getD i 0)) := by
  rcases h with h0 | ⟨b', off', e, hlt, hc⟩
  · rw [h0] at hi; simp at hi
  · cases e
    exact ⟨hlt, (hb.cell hlt).trans (hc i hi)⟩
theorem RowI.addr {B : Nat} {w : World} {a : Option Addr} {xs : List Int} (h : RowI B w a xs) {i : Nat} (hi : i < xs.length) : ∃ b off, a = some ⟨b, off, none⟩ := by
  rcases h with h0 | ⟨b', off', e, _⟩
  · rw [h0] at hi; simp at hi
  · exact ⟨b', off', e⟩
theorem RowI.later {B : Nat} {w w' : World} {a : Option Addr} {xs : List Int} (h : RowI B w a xs) (hb : Below B w w') : RowI B w' a xs := by
  rcases h with h0 | ⟨b, off, e, hlt, hc⟩
  · exact .inl h0
  · exact .inr ⟨b, off, e, hlt, fun j hj => (hb.cell hlt).trans (hc j hj)⟩
theorem RowI.wide {B B' : Nat} {w : World} {a : Option Addr} {xs : List Int} (h : RowI B w a xs) (hB : B ≤ B') : RowI B' w a xs := by
  rcases h with h0 | ⟨b, off, e, hlt, hc⟩
  · exact .inl h0
  · exact .inr ⟨b, off, e, Nat.lt_of_lt_of_le hlt hB, hc⟩
theorem RowI.grown {w w' : World} {a : Option Addr} {xs : List Int} (h : RowI w.heap.size w a xs) (hb : Below w.heap.size w w') : RowI w'.heap.size w' a xs := (h.later hb).wide hb.size
/-- A row of integers that the call owns. -/
def OwnInt (base : Nat) (w : World) (v : Value) (xs : List Int) : Prop := w.ownsRow base 3 1 v xs.length (xs.map (Value.int .i64))
theorem OwnInt.row {base : Nat} {w : World} {v : Value} {xs : List Int} (h : OwnInt base w v xs) : ∃ a cap, v = .slice a xs.length cap ∧ AddrN a cap ∧ RowI w.heap.size w a xs := by
  rcases Nat.eq_zero_or_pos xs.length with h0 | h0
  · rcases h.2 with ⟨rfl, _⟩ | ⟨g, cap, cur, rfl, _⟩
    · exact ⟨none, 0, by rw [h0], .inl ⟨rfl, rfl⟩, .inl (List.length_eq_zero_iff.1 h0)⟩
    · exact ⟨_, cap, rfl, .inr ⟨g, 0, rfl⟩, .inl (List.length_eq_zero_iff.1 h0)⟩
  · obtain ⟨g, cap, rfl, hg, hlt, hc⟩ := own_ints h h0
    exact ⟨_, cap, rfl, .inr ⟨g, 0, rfl⟩, .inr ⟨g, 0, rfl, hlt, fun j hj => by rw [Nat.zero_add]; exact hc j hj⟩⟩
theorem OwnInt.later {B : Nat} {w w' : World} {v : Value} {xs : List Int} (h : OwnInt B w v xs) (hb : Below w.heap.size w w') : OwnInt B w' v xs := own_next h hb
theorem OwnInt.base {B B' : Nat} {w : World} {v : Value} {xs : List Int} (h : OwnInt B w v xs) (hb : B' ≤ B) : OwnInt B' w v xs := own_base h hb
/-- A row of integers that the law owns, its block from lo on, below hi. -/
structure OwnZ (lo hi : Nat) (v : Value) (xs : List Int) (w : World) : Prop where
  own : OwnInt lo w v xs
  le : hi ≤ w.heap.size
  lt : ∀ k, v.ownBlock = some k → k < hi
theorem OwnZ.made {lo : Nat} {v : Value} {xs : List Int} {w : World} (h : OwnInt lo w v xs) : OwnZ lo w.heap.size v xs w := ⟨h, Nat.le_refl _, fun k hk => (World.ownsRow.lt h k hk).2⟩
theorem OwnZ.next {lo hi : Nat} {v : Value} {xs : List Int} {w w' : World} (h : OwnZ lo hi v xs w) (hb : Below w.heap.size w w') : OwnZ lo hi v xs w' := ⟨h.own.later hb, Nat.le_trans h.le hb.size, h.lt⟩
theorem OwnZ.mark {lo hi : Nat} {v : Value} {xs : List Int} {w w' : World} {r : Option Nat} (h : OwnZ lo hi v xs w) (hg : w.grownBy w' r) (hne : ∀ g, r = some g → g < lo ∨ hi ≤ g) : OwnZ lo hi v xs w' := by
  refine ⟨World.ownsRow.kept h.own hg ?_, Nat.le_trans h.le hg.size, h.lt⟩
  cases hv : v.ownBlock with
  | none => exact .inl rfl
  | some k =>
    right
    intro e
    have h1 := World.ownsRow.lt h.own k hv
    have h2 := h.lt k hv
    have h3 := hne k e.symm
    omega
theorem OwnZ.rowAt {lo hi : Nat} {a : Option Addr} {n cap : Nat} {xs : List Int} {w : World} (h : OwnZ lo hi (.slice a n cap) xs w) : RowI w.heap.size w a xs := by
  obtain ⟨a', cap', e, _, hr⟩ := h.own.row
  cases e
  exact hr
theorem OwnZ.block {lo hi : Nat} {v : Value} {xs : List Int} {w : World} (h : OwnZ lo hi v xs w) : ∀ g, v.ownBlock = some g → lo ≤ g ∧ g < hi := fun g hg => ⟨(World.ownsRow.lt h.own g hg).1, h.lt g hg⟩

set_option maxHeartbeats 800000 in
theorem eqIntS_same (a b : Option Addr) (ca cb : Nat) (xs : List Int) (w : World) (hl : xs.length ≤ 2097152) (hr : RowI w.heap.size w a xs) (hq : RowI w.heap.size w b xs) :
    Calls Try.prog 22 #[.slice a xs.length ca, .slice b xs.length cb] w fun e w' => e = .returned (.bool true) ∧ Below w.heap.size w w' := by
  have HR : Hid (RowI w.heap.size w a xs) := hr
  have HQ : Hid (RowI w.heap.size w b xs) := hq
  clear hr hq
  go_enter Try.func22, Try.ntmps22
  go_wp2
  go_loopw [5] (fun i wr => ∃ k : Nat, k ≤ xs.length ∧ i = .int .i64 (k : Int) ∧ Below w.heap.size w wr)
    (fun i _ => xs.length - (intOf i).toNat)
  case atStart => exact ⟨0, Nat.zero_le _, rfl, Below.refl _ _⟩
  case round =>
    obtain ⟨k, hk, rfl, hbel⟩ := hrel
    by_cases hlt : k < xs.length
    · obtain ⟨b1, off1, rfl⟩ := HR.out.addr hlt
      obtain ⟨b2, off2, rfl⟩ := HQ.out.addr hlt
      have hi0 : (0 : Int) ≤ (k : Int) := by omega
      have hi1 : (k : Int) < (xs.length : Int) := by omega
      have c1 := (HR.out.at hbel hlt).2
      have c2 := (HQ.out.at hbel hlt).2
      generalize xs.getD k 0 = y at c1 c2
      go_wp2
      go_quiet (fail)
      go_wp2
      go_roundw
      case rel => exact ⟨k + 1, by omega, by go_num, below_dn hbel _⟩
      case measure => simp [intOf]; omega
    · obtain rfl : k = xs.length := by omega
      go_wp2
      go_ret
      exact ⟨rfl, hbel⟩
/-- The marks of a row. -/
def marksI (k : Int) : Nat → List Int
  | 0 => []
  | n + 1 => marksI k n ++ [k + (n : Int)]
theorem marksI_len (k : Int) : ∀ n, (marksI k n).length = n
  | 0 => rfl
  | n + 1 => by simp [marksI, marksI_len k n]
theorem marksI_at (k : Int) : ∀ n i, i < n → (marksI k n).getD i 0 = k + (i : Int)
  | 0, i, h => by omega
  | n + 1, i, h => by
    rw [marksI, List.getD_eq_getElem?_getD]
    by_cases hi : i < n
    · rw [List.getElem?_append_left (by rw [marksI_len]; exact hi), ← List.getD_eq_getElem?_getD]; exact marksI_at k n i hi
    · obtain rfl : i = n := by omega
      rw [List.getElem?_append_right (by rw [marksI_len]; exact Nat.le_refl _), marksI_len]; simp
set_option maxHeartbeats 800000 in
theorem markIntS_some (base g cap n k0 : Nat) (xs0 : List Value) (w : World) (hn : n ≤ 2097152) (hk : k0 ≤ 1000000000) (hown : w.ownsRow base 3 1 (.slice (some ⟨g, 0, none⟩) n cap) n xs0) :
    Calls Try.prog 23 #[.slice (some ⟨g, 0, none⟩) n cap, .int .i64 (k0 : Int)] w fun e w' => e = .returned (.int .i64 ((k0 : Int) + (n : Int))) ∧ OwnInt base w' (.slice (some ⟨g, 0, none⟩) n cap) (marksI k0 n) ∧ w.grownBy w' (some g) := by
  go_enter Try.func23, Try.ntmps23
  go_wp2
  go_loopw [1, 5] (fun kk i wr => ∃ (j : Nat) (xs : List Value), j ≤ n ∧ i = .int .i64 (j : Int) ∧ kk = .int .i64 ((k0 : Int) + (j : Int)) ∧ wr.ownsRow base 3 1 (.slice (some ⟨g, 0, none⟩) n cap) n xs ∧ Hid (xs.take j = (marksI k0 j).map (Value.int .i64)) ∧ Hid (w.grownBy wr (some g)))
    (fun _ i _ => n - (intOf i).toNat)
  case atStart => exact ⟨0, _, Nat.zero_le _, rfl, by simp, hown, (by show _ = _; simp [marksI]), gb_refl _ _⟩
  case round =>
    obtain ⟨j, xs, hj, rfl, rfl, ho, HT, HG⟩ := hrel
    have hxl : xs.length = n * 1 := ho.1
    by_cases hlt : j < n
    · have hi0 : (0 : Int) ≤ (j : Int) := by omega
      have hi1 : (j : Int) < (n : Int) := by omega
      obtain ⟨u0, e0⟩ : ∃ u, wr.cell? ⟨g, j, none⟩ = some u := by rw [ho.cellAt j (by omega)]; exact ⟨_, List.getElem?_eq_getElem (by omega)⟩
      have f0 := ho.frozenAt j
      have HS : Hid _ := (ho.stored j (.int .i64 ((k0 : Int) + (j : Int)))).1
      have HG4 : Hid _ := gb_set HG.out j (.int .i64 ((k0 : Int) + (j : Int)))
      have HT4 : Hid ((xs.set j (.int .i64 ((k0 : Int) + (j : Int)))).take (j + 1) = (marksI k0 (j + 1)).map (Value.int .i64)) := by
        show _ = _
        rw [marksI, List.map_append, ← HT.out]
        apply List.ext_getElem?
        intro q
        rw [List.getElem?_take]
        by_cases h1 : q < j
        · rw [if_pos (by omega), List.getElem?_append_left (by simp; omega), List.getElem?_set, if_neg (by omega), List.getElem?_take, if_pos h1]
        · by_cases h2 : q = j
          · subst h2
            rw [if_pos (by omega), List.getElem?_append_right (by simp; omega), List.getElem?_set, if_pos rfl, if_pos (by omega)]
            simp [Nat.min_eq_left (show q ≤ xs.length by omega)]
          · rw [if_neg (by omega)]
            symm
            apply List.getElem?_eq_none
            simp; omega
      clear ho HT HG
      go_wp2
      go_roundw
      case rel => exact ⟨j + 1, _, by omega, by go_num, by go_num, HS.out, HT4, HG4⟩
      case measure => simp [intOf]; omega
    · obtain rfl : j = n := by omega
      have HE : Hid (xs = (marksI k0 j).map (Value.int .i64)) := by
        show _ = _
        have := HT.out
        rw [List.take_of_length_le (by omega)] at this
        exact this
      clear HT
      go_wp2
      go_ret
      exact ⟨rfl, by unfold OwnInt; rw [← HE.out, marksI_len]; exact ho, HG.out⟩
theorem markIntS_nil (k : Int) (w : World) : Calls Try.prog 23 #[.slice none 0 0, .int .i64 k] w fun e w' => e = .returned (.int .i64 k) ∧ w = w' := by
  go_enter Try.func23, Try.ntmps23
  go_wp2
  go_loop [1, 5] (fun kk i => kk = .int .i64 k ∧ i = .int .i64 0) (fun _ _ => 0)
  case atStart => exact ⟨rfl, rfl⟩
  case round =>
    obtain ⟨rfl, rfl⟩ := hrel
    go_wp2
    go_ret
    exact ⟨rfl, rfl⟩
theorem markIntS_any (base k0 : Nat) (v : Value) (xs : List Int) (w : World) (hn : xs.length ≤ 2097152) (hk : k0 ≤ 1000000000) (hown : OwnInt base w v xs) :
    Calls Try.prog 23 #[v, .int .i64 (k0 : Int)] w fun e w' => e = .returned (.int .i64 ((k0 : Int) + (xs.length : Int))) ∧ OwnInt base w' v (marksI k0 xs.length) ∧ w.grownBy w' v.ownBlock := by
  rcases hown.2 with ⟨rfl, h0⟩ | ⟨g, cap, cur, rfl, _⟩
  · refine (markIntS_nil _ w).mono ?_
    rintro e w1 ⟨rfl, rfl⟩
    refine ⟨by rw [h0]; simp, ?_, gb_refl _ _⟩
    rw [h0]; exact ⟨rfl, .inl ⟨rfl, rfl⟩⟩
  · exact markIntS_some base g cap xs.length k0 _ w hn hk hown
end Go.Proofs.Ytlecpjgeaigjkaa
