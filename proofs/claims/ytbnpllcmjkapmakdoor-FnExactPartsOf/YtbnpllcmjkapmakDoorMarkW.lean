/- The contracts of the laws' own helpers on lists of texts: marks, and lists held against each other. -/
import Derived.Test.YtbnpllcmjkapmakDoorProg
import Derived.Test.YtbnpllcmjkapmakDoorPlainDec
import Derived.WalkKit
import Derived.WalkLawsBesides
import Derived.WalkSpells
import Derived.Laws.OwnMore
import Derived.Deep.RegionHeld3
import Derived.Deep.DrawnRows
import Derived.Deep.QuietTactic
import Derived.BigQuiet
namespace Go.Proofs.YtbnpllcmjkapmakDoor
open Go.RowKit Go.PlainAid
attribute [local go_sem ↓] Go.wp_at_zero Go.wp_at_succ

/-- One byte's text (again: for this file alone). -/
theorem conv_mark (w : World) (x : Int) :
    (convert 31 9 (.slice (some ⟨w.heap.size, 0, none⟩) 1 1)).run Tryd.prog (w.alloc (.cells #[.int .u8 x] 5)) = .ok (.string (strOfNums [x])) (w.alloc (.cells #[.int .u8 x] 5)) :=
  conv_own (base := w.heap.size) (n := 1) (xs := [x]) _ 31 9 5 Tryd.underlying31 Tryd.underlying5 Tryd.underlying9
    (World.ownsRow_lit w #[.int .u8 x] 1 (Nat.le_refl _) (by decide) rfl)

/-- A mark's text. -/
def markOf (k : Nat) : ByteArray := strOfNums (109 :: dec k)

set_option maxHeartbeats 800000 in
theorem markText_any (k : Nat) (w : World) (h0 : 0 < k) (hk : k ≤ 1000000000) :
    Calls Tryd.prog 17 #[.int .i64 (k : Int)] w fun e w' => e = .returned (.string (markOf k)) ∧ Below w.heap.size w w' := by
  have hlen := dec_len20 k (by omega)
  have hz : ¬ (k : Int) ≤ 0 := by omega
  go_enter Tryd.func17, Tryd.ntmps17
  go_wp2
  clear hz
  go_loopw [0, 3] (fun i v wr => ∃ (m : Nat) (xs : List Int), i = .int .i64 (m : Int) ∧ v = .string (strOfNums xs) ∧ m ≤ k ∧ dz m ++ xs = dec k ∧ Below w.heap.size w wr)
    (fun i _ _ => (intOf i).toNat)
  case atStart => exact ⟨k, [], rfl, rfl, Nat.le_refl _, by rw [dz_pos h0, List.append_nil], Below.refl _ _⟩
  case round =>
    obtain ⟨m, xs, rfl, rfl, hm, hxs, hbel⟩ := hrel
    have hxl : (strOfNums xs).size ≤ 20 := by rw [strOfNums_size]; rw [← hxs] at hlen; simp at hlen; omega
    have HX : Hid (dz m ++ xs = dec k) := hxs
    have hsz := hbel.size
    clear hxs
    by_cases hgt : 0 < m
    · have hc := conv_mark wr (48 + (m : Int) % 10)
      have hs1 : (strOfNums [48 + (m : Int) % 10]).size = 1 := by rw [strOfNums_size]; simp
      go_wp2
      have hcc := strOfNums_cons (48 + (m : Int) % 10) xs
      have hx : Hid (dz (m / 10) ++ (48 + (m : Int) % 10) :: xs = dec k) := by
        have := HX.out; rw [dz_step hgt] at this; show _ = _; simpa using this
      clear HX hc
      go_roundw
      case rel => exact ⟨m / 10, _, by go_num, by rw [← hcc], by omega, hx.out, hbel.alloc hsz _⟩
      case measure => simp [intOf]; omega
    · obtain rfl : m = 0 := by omega
      have hx : Hid (xs = dec k) := by have := HX.out; rw [dz_zero] at this; exact this
      clear HX
      go_wp2
      go_ret
      exact ⟨by rw [hx.out]; rfl, hbel⟩

/-- A slice of texts reads so. -/
def HasRow (w : World) (v : Value) (xs : List ByteArray) : Prop :=
  ∃ a cap, v = .slice a xs.length cap ∧ (xs = [] ∨ ∃ g, a = some ⟨g, 0, none⟩ ∧ ∀ i (h : i < xs.length), w.cell? ⟨g, i, none⟩ = some (.string (xs[i]'h)))

theorem HasRow.below {w w' : World} {v : Value} {xs : List ByteArray} (h : HasRow w v xs) (hb : Below w.heap.size w w') : HasRow w' v xs := by
  obtain ⟨a, cap, rfl, h⟩ := h
  refine ⟨a, cap, rfl, ?_⟩
  rcases h with h | ⟨g, rfl, hc⟩
  · exact .inl h
  · exact .inr ⟨g, rfl, fun i hi => cell_later hb (hc i hi)⟩
theorem hasRow_of_own {w : World} {base e n : Nat} {v : Value} {xs : List ByteArray} (h : w.ownsRow base e 1 v n (xs.map Value.string)) : HasRow w v xs := by
  have hn : n = xs.length := by have := h.1; simpa using this.symm
  rcases h.2 with ⟨rfl, h0⟩ | ⟨g, cap, cur, rfl, _⟩
  · exact ⟨none, 0, by rw [← hn, h0], .inl (List.length_eq_zero_iff.mp (by omega))⟩
  · subst hn
    refine ⟨_, cap, rfl, .inr ⟨g, rfl, fun i hi => ?_⟩⟩
    rw [h.cellAt i (by omega)]; simp [hi]
theorem own_below {w w' : World} {base e size n : Nat} {v : Value} {xs : List Value} (h : w.ownsRow base e size v n xs) (hb : Below w.heap.size w w') : w'.ownsRow base e size v n xs :=
  h.kept (row := none) ⟨hb.os, hb.tape, hb.output, hb.size, fun k hk _ => hb.block k hk⟩ (by cases v.ownBlock <;> simp)

set_option maxHeartbeats 400000 in
theorem eqS_same (va vb : Value) (xs : List ByteArray) (w : World) (hl : xs.length ≤ 1000000000) (ha : HasRow w va xs) (hb : HasRow w vb xs) :
    Calls Tryd.prog 9 #[va, vb] w fun e w' => e = .returned (.bool true) ∧ Below w.heap.size w w' := by
  obtain ⟨aa, ca, rfl, hA⟩ := ha
  obtain ⟨ab, cb, rfl, hB⟩ := hb
  have HA : Hid (xs = [] ∨ ∃ g, aa = some ⟨g, 0, none⟩ ∧ ∀ i (h : i < xs.length), w.cell? ⟨g, i, none⟩ = some (.string (xs[i]'h))) := hA
  have HB : Hid (xs = [] ∨ ∃ g, ab = some ⟨g, 0, none⟩ ∧ ∀ i (h : i < xs.length), w.cell? ⟨g, i, none⟩ = some (.string (xs[i]'h))) := hB
  clear hA hB
  go_enter Tryd.func9, Tryd.ntmps9
  go_wp2
  go_loopw [5] (fun i wr => ∃ k : Nat, k ≤ xs.length ∧ i = .int .i64 (k : Int) ∧ Below w.heap.size w wr)
    (fun i _ => xs.length - (intOf i).toNat)
  case atStart => exact ⟨0, Nat.zero_le _, rfl, Below.refl _ _⟩
  case round =>
    obtain ⟨k, hk, rfl, hbel⟩ := hrel
    by_cases hlt : k < xs.length
    · have h1 := HA.out
      have h2 := HB.out
      rcases h1 with h1 | ⟨ga, rfl, h1⟩
      · rw [h1] at hlt; simp at hlt
      rcases h2 with h2 | ⟨gb, rfl, h2⟩
      · rw [h2] at hlt; simp at hlt
      have c1 := cell_later hbel (h1 k hlt)
      have c2 := cell_later hbel (h2 k hlt)
      obtain ⟨x, hx⟩ : ∃ x, x = xs[k]'hlt := ⟨_, rfl⟩
      rw [← hx] at c1 c2
      clear h1 h2 hx
      have hi0 : (0 : Int) ≤ (k : Int) := by omega
      have hi1 : (k : Int) < (xs.length : Int) := by omega
      go_wp2
      go_quiet (fail)
      go_wp2
      go_roundw
      case rel => exact ⟨k + 1, by omega, by go_num, below_drewN hbel _⟩
      case measure => simp [intOf]; omega
    · go_wp2
      go_ret
      exact ⟨rfl, hbel⟩

/-- Marks from k on. -/
def marks (k n : Nat) : List ByteArray := (List.range n).map fun j => markOf (k + j)
theorem marks_len (k n : Nat) : (marks k n).length = n := by simp [marks]
theorem marks_succ (k n : Nat) : marks k (n + 1) = marks k n ++ [markOf (k + n)] := by unfold marks; rw [List.range_succ, List.map_append, List.map_singleton]
theorem marks_at (k n i : Nat) (h : i < (marks k n).length) : (marks k n)[i]'h = markOf (k + i) := by simp [marks]

theorem take_set_val {xs : List Value} {ys : List ByteArray} {k : Nat} {x : ByteArray} (hk : k < xs.length) (h : xs.take k = ys.map Value.string) : (xs.set k (.string x)).take (k + 1) = (ys ++ [x]).map Value.string := by
  rw [List.take_succ_eq_append_getElem (by simpa using hk), List.take_set_of_le (Nat.le_refl k), h, List.getElem_set_self, List.map_append, List.map_singleton]

set_option maxHeartbeats 800000 in
theorem markS_any (v : Value) (n k0 base : Nat) (zs : List Value) (w : World) (hn : n ≤ 1000000) (h0 : 0 < k0) (hk0 : k0 ≤ 1000000) (hown : w.ownsRow base 9 1 v n zs) (hbase : base ≤ w.heap.size) :
    Calls Tryd.prog 10 #[v, .int .i64 (k0 : Int)] w fun e w' => e = .returned (.int .i64 ((k0 + n : Nat) : Int)) ∧ w'.ownsRow base 9 1 v n ((marks k0 n).map Value.string) ∧ Below base w w' := by
  obtain ⟨av, cap, rfl⟩ : ∃ a cap, v = .slice a n cap := by
    rcases hown.2 with ⟨rfl, rfl⟩ | ⟨g, cap, cur, rfl, _⟩
    · exact ⟨none, 0, rfl⟩
    · exact ⟨_, cap, rfl⟩
  go_enter Tryd.func10, Tryd.ntmps10
  go_wp2
  go_loopw [1, 5] (fun q i wr => ∃ (j : Nat) (xs : List Value), j ≤ n ∧ i = .int .i64 (j : Int) ∧ q = .int .i64 ((k0 + j : Nat) : Int) ∧ wr.ownsRow base 9 1 (.slice av n cap) n xs ∧ xs.take j = (marks k0 j).map Value.string ∧ Below base w wr)
    (fun _ i _ => n - (intOf i).toNat)
  case atStart => exact ⟨0, zs, Nat.zero_le _, rfl, rfl, hown, by simp [marks], Below.refl _ _⟩
  case round =>
    obtain ⟨j, xs, hj, rfl, rfl, hownr, htk, hbr⟩ := hrel
    have HT : Hid (xs.take j = (marks k0 j).map Value.string) := htk
    clear htk
    have hxl : xs.length = n := by have := hownr.1; simpa using this
    by_cases hlt : j < n
    · rcases hownr.2 with ⟨_, h1⟩ | ⟨g, cap', cur, h1, hg, hb, hc, hcm, hsz, htake⟩
      · exact absurd h1 (by omega)
      · simp only [Value.slice.injEq, true_and] at h1
        obtain ⟨rfl, rfl⟩ := h1
        clear hb hc hcm hsz htake
        have hm := markText_any (k0 + j)
        have HM : Hid _ := hm
        clear hm
        go_wp2_with fail
        refine (HM.out _ (by omega) (by omega)).mono ?_
        rintro e w1 ⟨rfl, hb1⟩
        have hown1 := own_below hownr hb1
        have hbr1 : Below base w w1 := hbr.trans (hb1.mono (by have := hbr.size; omega))
        obtain ⟨u0, hu0⟩ : ∃ u, w1.cell? ⟨g, j, none⟩ = some u := by
          rw [hown1.cellAt j (by omega)]; exact ⟨_, List.getElem?_eq_getElem (by omega)⟩
        have hf0 := hown1.frozenAt j
        have HS := (hown1.stored j (.string (markOf (k0 + j)))).1
        have HB : Below base w (w1.setCell ⟨g, j, none⟩ (.string (markOf (k0 + j)))) := hbr1.setCell hg _
        have hT' := take_set_val (x := markOf (k0 + j)) (by omega) HT.out
        rw [← marks_succ] at hT'
        have HT' : Hid _ := hT'
        clear hT' HT hownr hown1 HM
        go_wp2
        go_roundw
        case rel => exact ⟨j + 1, _, by omega, by go_num, by go_num, HS, HT'.out, HB⟩
        case measure => simp [intOf]; omega
    · obtain rfl : j = n := by omega
      have hx : xs = (marks k0 j).map Value.string := by rw [← HT.out, List.take_of_length_le (by omega)]
      clear HT
      go_wp2
      go_ret
      exact ⟨by go_num, by rw [← hx]; exact hownr, hbr⟩

set_option maxHeartbeats 800000 in
theorem heldS_any (v : Value) (n k0 : Nat) (w : World) (hn : n ≤ 1000000) (h0 : 0 < k0) (hk0 : k0 ≤ 1000000) (ha : HasRow w v (marks k0 n)) :
    Calls Tryd.prog 11 #[v, .int .i64 (k0 : Int)] w fun e w' => e = .returned (.int .i64 ((k0 + n : Nat) : Int)) ∧ Below w.heap.size w w' := by
  obtain ⟨aa, ca, rfl, hA⟩ := ha
  have HA : Hid (marks k0 n = [] ∨ ∃ g, aa = some ⟨g, 0, none⟩ ∧ ∀ i (h : i < (marks k0 n).length), w.cell? ⟨g, i, none⟩ = some (.string ((marks k0 n)[i]'h))) := hA
  clear hA
  rw [marks_len]
  go_enter Tryd.func11, Tryd.ntmps11
  go_wp2
  go_loopw [1, 5] (fun q i wr => ∃ j : Nat, j ≤ n ∧ i = .int .i64 (j : Int) ∧ q = .int .i64 ((k0 + j : Nat) : Int) ∧ Below w.heap.size w wr)
    (fun _ i _ => n - (intOf i).toNat)
  case atStart => exact ⟨0, Nat.zero_le _, rfl, rfl, Below.refl _ _⟩
  case round =>
    obtain ⟨j, hj, rfl, rfl, hbel⟩ := hrel
    by_cases hlt : j < n
    · have h1 := HA.out
      rcases h1 with h1 | ⟨ga, rfl, h1⟩
      · have := congrArg List.length h1; rw [marks_len] at this; simp at this; omega
      have c1 := cell_later hbel (h1 j (by rw [marks_len]; exact hlt))
      rw [marks_at] at c1
      have hm := markText_any (k0 + j)
      have HM : Hid _ := hm
      clear h1 hm HA
      have hi0 : (0 : Int) ≤ (j : Int) := by omega
      have hi1 : (j : Int) < (n : Int) := by omega
      have hp0 : 0 < k0 + j := by omega
      have hp1 : k0 + j ≤ 1000000000 := by omega
      go_wp2
      go_region_held3 (fun w' => w'.cell? ⟨ga, j, none⟩ = some (.string (markOf (k0 + j)))) (first | assumption | go_keep | exact cell_later hb1 (by assumption)) ((go_at_call 17; refine (HM.out _ hp0 hp1).mono ?_; rintro e w1 ⟨rfl, hb1⟩))
      have hB : Below w.heap.size w w1 := hbel.drew.trans (hb1.mono (by have := hbel.size; simpa using this))
      clear HM hb1 c1
      go_wp2
      go_roundw
      case rel => exact ⟨j + 1, by omega, by go_num, by go_num, hB⟩
      case measure => simp [intOf]; omega
    · obtain rfl : j = n := by omega
      go_wp2
      go_ret
      exact ⟨by go_num, hbel⟩

theorem markS_one (v : Value) (n base : Nat) (zs : List Value) (w : World) (hn : n ≤ 1000000) (hown : w.ownsRow base 9 1 v n zs) (hbase : base ≤ w.heap.size) :
    Calls Tryd.prog 10 #[v, .int .i64 1] w fun e w' => e = .returned (.int .i64 (1 + (n : Int))) ∧ w'.ownsRow base 9 1 v n ((marks 1 n).map Value.string) ∧ Below base w w' := by
  have := markS_any v n 1 base zs w hn (by omega) (by omega) hown hbase
  rw [show ((1 : Nat) : Int) = 1 from rfl, show ((1 + n : Nat) : Int) = 1 + (n : Int) by omega] at this
  exact this
theorem heldS_one (v : Value) (n : Nat) (w : World) (hn : n ≤ 1000000) (ha : HasRow w v (marks 1 n)) :
    Calls Tryd.prog 11 #[v, .int .i64 1] w fun e w' => e = .returned (.int .i64 (1 + (n : Int))) ∧ Below w.heap.size w w' := by
  have := heldS_any v n 1 w hn (by omega) (by omega) ha
  rw [show ((1 : Nat) : Int) = 1 from rfl, show ((1 + n : Nat) : Int) = 1 + (n : Int) by omega] at this
  exact this
end Go.Proofs.YtbnpllcmjkapmakDoor
