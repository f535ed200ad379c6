/- The program's ring of words (chapter 21): ringOf, ahead, word. -/
import Derived.Test.YthpkhbcahihbnaaDoorRingp21
import Derived.Test.YthpkhbcahihbnaaDoorOfHi21
import Derived.Test.YthpkhbcahihbnaaDoorRotR21
import Derived.Test.YthpkhbcahihbnaaDoorRowC
import Derived.Test.YthpkhbcahihbnaaDoorSubT
import Derived.WalkKit
import Derived.WalkLawsBesides
import Derived.WalkSpells
import Derived.BigRegion
import Derived.OrdersHeld
import Derived.Deep.RegionHeld
import Derived.Deep.RegionHeld3
namespace Go.Proofs.YthpkhbcahihbnaaDoor
open Go.RowKit Go.PlainAid
set_option maxRecDepth 20000
set_option linter.unusedVariables false
set_option linter.unusedSimpArgs false
def ringTo (t : ByteArray) (k : Nat) : Nat → Nat := fun i => if i < k then be4At (btN t) (4 * i) else 0
theorem ringTo_upd (t : ByteArray) (k : Nat) : upd (ringTo t k) k (be4At (btN t) (4 * k)) = ringTo t (k + 1) := by
  funext i
  unfold upd ringTo
  by_cases h : i = k
  · subst h; rw [if_pos rfl, if_pos (by omega)]
  · rw [if_neg h]
    by_cases h2 : i < k
    · rw [if_pos h2, if_pos (by omega)]
    · rw [if_neg h2, if_neg (by omega)]
theorem hiN4 (b : Nat → Nat) (p : Nat) : hiN b p 4 = be4At b p := by
  have h : hiN b p 4 = (((0 * 256 + b (p + 0)) * 256 + b (p + 1)) * 256 + b (p + 2)) * 256 + b (p + 3) := rfl
  rw [h]
  unfold be4At
  rw [Nat.add_zero]
  omega
theorem zeroRing : (#[.int .u32 0, .int .u32 0, .int .u32 0, .int .u32 0, .int .u32 0, .int .u32 0, .int .u32 0, .int .u32 0, .int .u32 0, .int .u32 0, .int .u32 0, .int .u32 0, .int .u32 0, .int .u32 0, .int .u32 0, .int .u32 0] : Array Value) = rowV .u32 16 (fun _ => 0) := rfl
/-- The words of a block's text. -/
def blkW (t : ByteArray) : List Nat := wordsAt (btN t) 0
theorem blkW_len (t : ByteArray) : (blkW t).length = 16 := wordsAt_len _ _
theorem blkW_lt (t : ByteArray) : ∀ x ∈ blkW t, x < 4294967296 := wordsAt_lt (fun i => btN_lt t i) 0
set_option maxHeartbeats 1600000 in
theorem ringOf_any (t : ByteArray) (w : World) (ht : t.size = 64) :
    Calls Tryd.prog 42 #[.string t] w fun e w' => e = .returned (.pointer (some ⟨w.heap.size, 0, none⟩)) ∧ RowAt w' w.heap.size 86 .u32 16 (ringAt (blkW t) 0) ∧ Below w.heap.size w w' := by
  have h64 : ((t.size : Nat) : Int) = 64 := by omega
  go_enter Tryd.func42, Tryd.ntmps42
  go_wp2
  go_loopw [5] (fun i wr => ∃ k : Nat, k ≤ 16 ∧ i = .int .i64 (k : Int) ∧ Below w.heap.size w wr ∧ Hid (RowAt wr w.heap.size 86 .u32 16 (ringTo t k)))
    (fun i _ => 16 - (intOf i).toNat)
  case atStart =>
    refine ⟨0, Nat.zero_le _, rfl, (Below.refl _ _).alloc (Nat.le_refl _) _, ?_⟩
    have h := heap_alloc_new w (.cells (rowV .u32 16 (fun _ => 0)) 86)
    rw [← zeroRing] at h
    exact RowAt.ext (f := fun _ => 0) (by simpa [RowAt, ← zeroRing] using h) (fun i _ => by unfold ringTo; rw [if_neg (by omega)])
  case round =>
    obtain ⟨k, hk, rfl, hB, HW⟩ := hrel
    by_cases hlt : k < 16
    · have hi0 : (0 : Int) ≤ (k : Int) := by omega
      have hi2 : (k : Int) < 16 := by omega
      have c1 := HW.out.cell (show k < 16 by omega)
      have z1 := HW.out.froz k
      have HZ : Hid ((t.extract (4 * k) (4 * (k + 1))).size = 4) := by show _ = _; rw [sub_size t _ _ (by omega) (by omega)]; omega
      have HC : Hid _ := ofHi_any (t.extract (4 * k) (4 * (k + 1))) wr (by rw [HZ.out]; omega)
      have HE : Hid (hiN (btN (t.extract (4 * k) (4 * (k + 1)))) 0 (t.extract (4 * k) (4 * (k + 1))).size = be4At (btN t) (4 * k)) := by
        show _ = _
        rw [HZ.out, ← hiN4]
        exact hiN_ext 4 (fun j hj => by rw [Nat.zero_add]; exact btN_sub t (4 * k) (4 * (k + 1)) j (by omega))
      rw [HE.out] at HC
      have hlt2 : be4At (btN t) (4 * k) < 4294967296 := be4At_lt (fun i => btN_lt t i) _
      have HS : Hid _ := HW.out.set (show k < 16 by omega) (be4At (btN t) (4 * k))
      have HN := ringTo_upd t k
      have HB : Hid (Below w.heap.size w wr) := hB
      generalize be4At (btN t) (4 * k) = y at HC hlt2 HS HN
      clear hB HZ HE
      have hw : IntKind.u32.wrap (y : Int) = (y : Int) := by rw [IntKind.wrap_u32']; omega
      go_wp2_with fail
      refine Calls.mono HC.out ?_
      rintro e w1 ⟨rfl, rfl⟩
      clear HC
      go_wp2
      go_roundw
      case rel => exact ⟨k + 1, by omega, by go_num, HB.out.setCell (Nat.le_refl _) _, by rw [← HN]; exact HS⟩
      case measure => simp [intOf]; omega
    · obtain rfl : k = 16 := by omega
      have HF : Hid (RowAt wr w.heap.size 86 .u32 16 (ringAt (blkW t) 0)) := HW.out.ext (fun i hi => by
        unfold ringTo
        rw [if_pos hi, ring_first (blkW_len t) hi]
        unfold blkW
        rw [wordsAt_at _ _ hi, Nat.zero_add])
      go_wp2
      go_ret
      exact ⟨rfl, HF.out, hB⟩
theorem st_keep21 {w : World} {g x y : Nat} {u : Value} (v : Value) (hne : x ≠ y) (h : w.cell? ⟨g, y, none⟩ = some u) (hz : w.frozen? ⟨g, x, none⟩ = false) : ((w.setCell ⟨g, x, none⟩ v).drew).cell? ⟨g, y, none⟩ = some u ∧ ((w.setCell ⟨g, x, none⟩ v).drew).frozen? ⟨g, x, none⟩ = false := by
  refine ⟨?_, ?_⟩
  · rw [World.cell?_drew, World.cell?_setCell_other (h := by intro e2; cases e2; exact hne rfl)]; exact h
  · rw [World.frozen?_drew, World.frozen?_setCell]; exact hz
theorem ahead_any (g : Nat) (r b y : Nat) (w : World) (hb : b ≤ r) (hr : r < 64) (h : w.cell? ⟨g, (r - b) % 16, none⟩ = some (.int .u32 (y : Int))) :
    Calls Tryd.prog 55 #[.pointer (some ⟨g, 0, none⟩), .int .i64 (r : Int), .int .i64 (b : Int)] w fun e w' => e = .returned (.int .u32 (y : Int)) ∧ w = w' := by
  have hw : IntKind.i64.wrap ((r : Int) - (b : Int)) = ((r - b : Nat) : Int) := by rw [IntKind.wrap_i64]; omega
  have hd : (r : Int) - (b : Int) = ((r - b : Nat) : Int) := by omega
  have hm : ((r - b : Nat) : Int) % 16 = (((r - b) % 16 : Nat) : Int) := by omega
  have ht : ((r - b : Nat) : Int).tmod 16 = (((r - b) % 16 : Nat) : Int) := by rw [Int.tmod_eq_emod_of_nonneg (by omega)]; omega
  have hj : (r - b) % 16 < 16 := Nat.mod_lt _ (by omega)
  generalize (r - b) % 16 = j at h hm ht hj
  have hj0 : (0 : Int) ≤ (j : Int) := by omega
  have hj1 : (j : Int) < 16 := by omega
  go_enter Tryd.func55, Tryd.ntmps55
  go_wp2
  go_ret
  exact ⟨rfl, rfl⟩
theorem word_low (g : Nat) (ws : List Nat) (r : Nat) (w : World) (hr : r < 16) (h : RowAt w g 86 .u32 16 (ringAt ws r)) :
    Calls Tryd.prog 44 #[.pointer (some ⟨g, 0, none⟩), .int .i64 (r : Int)] w fun e w' => e = .returned (.int .u32 ((wd ws r : Nat) : Int)) ∧ RowAt w' g 86 .u32 16 (ringAt ws (r + 1)) ∧ w.grownBy w' (some g) := by
  have c1 := h.cell (show r % 16 < 16 by omega)
  rw [ring_low ws hr, Nat.mod_eq_of_lt hr] at c1
  have HF : Hid (RowAt w g 86 .u32 16 (ringAt ws (r + 1))) := by rw [ring_same ws hr]; exact h
  have hm : (r : Int) % 16 = (r : Int) := by omega
  have ht : (r : Int).tmod 16 = (r : Int) := by rw [Int.tmod_eq_emod_of_nonneg (by omega)]; omega
  have hr0 : (0 : Int) ≤ (r : Int) := by omega
  have hr1 : (r : Int) < 16 := by omega
  have hr2 : ¬ (16 : Int) ≤ (r : Int) := by omega
  generalize wd ws r = y at c1
  clear h
  go_enter Tryd.func44, Tryd.ntmps44
  go_wp2
  go_ret
  exact ⟨rfl, HF.out, gb_refl _ _⟩
set_option maxHeartbeats 3200000 in
theorem word_high (g : Nat) (ws : List Nat) (r : Nat) (w : World) (hw16 : ws.length = 16) (hwl : ∀ x ∈ ws, x < 4294967296) (hr : 16 ≤ r) (hr6 : r < 64) (h : RowAt w g 86 .u32 16 (ringAt ws r)) :
    Calls Tryd.prog 44 #[.pointer (some ⟨g, 0, none⟩), .int .i64 (r : Int)] w fun e w' => e = .returned (.int .u32 ((wd ws r : Nat) : Int)) ∧ RowAt w' g 86 .u32 16 (ringAt ws (r + 1)) ∧ w.grownBy w' (some g) := by
  have k2 := h.cell (show (r - 2) % 16 < 16 by omega)
  have k15 := h.cell (show (r - 15) % 16 < 16 by omega)
  have k7 := h.cell (show (r - 7) % 16 < 16 by omega)
  have c0 := h.cell (show r % 16 < 16 by omega)
  rw [ring_read ws hr (by omega) (by omega)] at k2 k15 k7
  rw [ring_own ws hr] at c0
  have z0 := h.froz (r % 16)
  have HN : Hid (RowAt (w.setCell ⟨g, r % 16, none⟩ (.int .u32 ((wd ws r : Nat) : Int))) g 86 .u32 16 (ringAt ws (r + 1))) := (h.set (show r % 16 < 16 by omega) (wd ws r)).ext (ring_upd ws hr)
  have A2 : Hid (Calls Tryd.prog 55 #[.pointer (some ⟨g, 0, none⟩), .int .i64 (r : Int), .int .i64 2] w fun e w' => e = .returned (.int .u32 ((wd ws (r - 2) : Nat) : Int)) ∧ w = w') := ahead_any g r 2 _ w (by omega) hr6 k2
  have A15 : Hid (Calls Tryd.prog 55 #[.pointer (some ⟨g, 0, none⟩), .int .i64 (r : Int), .int .i64 15] w fun e w' => e = .returned (.int .u32 ((wd ws (r - 15) : Nat) : Int)) ∧ w = w') := ahead_any g r 15 _ w (by omega) hr6 k15
  have A7 : Hid (∀ wz : World, wz.cell? ⟨g, (r - 7) % 16, none⟩ = some (.int .u32 ((wd ws (r - 7) : Nat) : Int)) → Calls Tryd.prog 55 #[.pointer (some ⟨g, 0, none⟩), .int .i64 (r : Int), .int .i64 7] wz fun e w' => e = .returned (.int .u32 ((wd ws (r - 7) : Nat) : Int)) ∧ wz = w') := fun wz hz => ahead_any g r 7 _ wz (by omega) hr6 hz
  have HWN : Hid (wd ws r = (wd ws (r - 16) + mixA (wd ws (r - 15)) + wd ws (r - 7) + mixB (wd ws (r - 2))) % 4294967296) := wd_new hw16 hr hr6
  have b2 := wd_lt hwl (r - 2)
  have b15 := wd_lt hwl (r - 15)
  have b7 := wd_lt hwl (r - 7)
  have b16 := wd_lt hwl (r - 16)
  have hne : Hid (r % 16 ≠ (r - 7) % 16) := by show _ ≠ _; omega
  have hm : (r : Int) % 16 = ((r % 16 : Nat) : Int) := by omega
  have ht : (r : Int).tmod 16 = ((r % 16 : Nat) : Int) := by rw [Int.tmod_eq_emod_of_nonneg (by omega)]; omega
  have hj : r % 16 < 16 := Nat.mod_lt _ (by omega)
  have hr2 : (16 : Int) ≤ (r : Int) := by omega
  generalize r % 16 = j at c0 z0 HN hne hm ht hj
  have hj0 : (0 : Int) ≤ (j : Int) := by omega
  have hj1 : (j : Int) < 16 := by omega
  generalize (r - 7) % 16 = q at k7 A7 hne
  generalize wd ws r = X at HN HWN
  generalize wd ws (r - 2) = x2 at k2 A2 HWN b2
  generalize wd ws (r - 15) = x15 at k15 A15 HWN b15
  generalize wd ws (r - 7) = x7 at k7 A7 HWN b7
  generalize wd ws (r - 16) = x16 at c0 HWN b16
  have R17 : Hid (∀ wz, Calls Tryd.prog 54 #[.int .u32 (x2 : Int), .int .i64 (-17)] wz fun e w' => e = .returned (.int .u32 ((rotr x2 17 : Nat) : Int)) ∧ wz = w') := fun wz => right_any x2 17 wz b2 (by decide) (by decide)
  have R19 : Hid (∀ wz, Calls Tryd.prog 54 #[.int .u32 (x2 : Int), .int .i64 (-19)] wz fun e w' => e = .returned (.int .u32 ((rotr x2 19 : Nat) : Int)) ∧ wz = w') := fun wz => right_any x2 19 wz b2 (by decide) (by decide)
  have R7 : Hid (∀ wz, Calls Tryd.prog 54 #[.int .u32 (x15 : Int), .int .i64 (-7)] wz fun e w' => e = .returned (.int .u32 ((rotr x15 7 : Nat) : Int)) ∧ wz = w') := fun wz => right_any x15 7 wz b15 (by decide) (by decide)
  have R18 : Hid (∀ wz, Calls Tryd.prog 54 #[.int .u32 (x15 : Int), .int .i64 (-18)] wz fun e w' => e = .returned (.int .u32 ((rotr x15 18 : Nat) : Int)) ∧ wz = w') := fun wz => right_any x15 18 wz b15 (by decide) (by decide)
  have q1 := u32xor (rotr x2 17) (rotr x2 19) (rotr_lt b2 17) (rotr_lt b2 19)
  have q2 : bits .xor .u32 ((rotr x2 17 ^^^ rotr x2 19 : Nat) : Int) ((x2 : Int) / 1024) = ((mixB x2 : Nat) : Int) := by
    rw [show (x2 : Int) / 1024 = ((x2 / 1024 : Nat) : Int) by omega]
    exact u32xor (rotr x2 17 ^^^ rotr x2 19) (x2 / 1024) (xorLt32 (rotr_lt b2 17) (rotr_lt b2 19)) (div_lt32 b2 _)
  have p1 := u32xor (rotr x15 7) (rotr x15 18) (rotr_lt b15 7) (rotr_lt b15 18)
  have p2 : bits .xor .u32 ((rotr x15 7 ^^^ rotr x15 18 : Nat) : Int) ((x15 : Int) / 8) = ((mixA x15 : Nat) : Int) := by
    rw [show (x15 : Int) / 8 = ((x15 / 8 : Nat) : Int) by omega]
    exact u32xor (rotr x15 7 ^^^ rotr x15 18) (x15 / 8) (xorLt32 (rotr_lt b15 7) (rotr_lt b15 18)) (div_lt32 b15 _)
  have lA := mixA_lt b15
  have lB := mixB_lt b2
  clear h
  generalize mixA x15 = mA at p2 HWN lA
  generalize mixB x2 = mB at q2 HWN lB
  have HX : Hid (IntKind.u32.wrap ((x16 : Int) + IntKind.u32.wrap (((mB : Int) + (mA : Int)) % 4294967296 + (x7 : Int))) = (X : Int)) := by show _ = _; rw [HWN.out, IntKind.wrap_u32', IntKind.wrap_u32']; omega
  have HC5 : Hid (((w.setCell ⟨g, j, none⟩ (.int .u32 (X : Int))).drew).cell? ⟨g, j, none⟩ = some (.int .u32 (X : Int))) := by
    show _ = _
    rw [World.cell?_drew]; exact World.cell?_setCell_same _ _ _ c0
  have HS5 : Hid _ := st_keep21 (.int .u32 (X : Int)) hne.out k7 z0
  clear HWN lA lB
  go_enter Tryd.func44, Tryd.ntmps44
  go_wp2_with fail
  refine Calls.mono A2.out ?_
  rintro e w1 ⟨rfl, rfl⟩
  go_wp2_with fail
  refine Calls.mono A15.out ?_
  rintro e w1 ⟨rfl, rfl⟩
  go_wp2_with fail
  refine Calls.mono (R17.out _) ?_
  rintro e w1 ⟨rfl, rfl⟩
  go_wp2_with fail
  refine Calls.mono (R19.out _) ?_
  rintro e w1 ⟨rfl, rfl⟩
  go_wp2_with fail
  refine Calls.mono (R7.out _) ?_
  rintro e w1 ⟨rfl, rfl⟩
  go_wp2_with fail
  refine Calls.mono (R18.out _) ?_
  rintro e w1 ⟨rfl, rfl⟩
  go_wp2
  refine _root_.Go.wp_region_held (S := fun w' : World => w'.cell? ⟨g, q, none⟩ = some (.int .u32 (x7 : Int)) ∧ w'.frozen? ⟨g, j, none⟩ = false) (by kernel_rfl) ?_
  have hS : (fun w' : World => w'.cell? ⟨g, q, none⟩ = some (.int .u32 (x7 : Int)) ∧ w'.frozen? ⟨g, j, none⟩ = false) w.drew := ⟨k7, z0⟩
  refine wpAnyH_take (i := 0) (v := ?_) rfl (by kernel_rfl) (by kernel_rfl) (by kernel_rfl) (fun _ _ _ h => h) (Or.inl ⟨by rfl, ?_⟩) hS ?_
  rotate_left
  · intro w hSw; obtain ⟨y1, y2⟩ := hSw; go_simp; try with_reducible rfl
  simp only [Act.put, List.getElem_toArray, List.getElem_cons_zero, List.setIfInBounds_toArray, List.set_cons_succ, List.set_cons_zero]
  refine wpAnyH_take (i := 1) (v := ?_) rfl (by kernel_rfl) (by kernel_rfl) (by kernel_rfl) (fun _ _ _ h => h) (Or.inl ⟨by rfl, ?_⟩) hS ?_
  rotate_left
  · intro w hSw; obtain ⟨y1, y2⟩ := hSw; go_simp; try with_reducible rfl
  simp only [Act.put, List.getElem_toArray, List.getElem_cons_succ, List.getElem_cons_zero, List.setIfInBounds_toArray, List.set_cons_succ, List.set_cons_zero]
  refine wpAnyH_take (i := 2) (v := ?_) rfl (by kernel_rfl) (by kernel_rfl) (by kernel_rfl) (fun _ _ _ h => h) (Or.inl ⟨by rfl, ?_⟩) hS ?_
  rotate_left
  · intro w hSw; obtain ⟨y1, y2⟩ := hSw; go_simp; try with_reducible rfl
  simp only [Act.put, List.getElem_toArray, List.getElem_cons_succ, List.getElem_cons_zero, List.setIfInBounds_toArray, List.set_cons_succ, List.set_cons_zero]
  refine wpAnyH_take (i := 3) (v := ?_) rfl (by kernel_rfl) (by kernel_rfl) (by kernel_rfl) (fun _ _ _ h => h) (Or.inl ⟨by rfl, ?_⟩) hS ?_
  rotate_left
  · intro w hSw; obtain ⟨y1, y2⟩ := hSw; go_simp; try with_reducible rfl
  simp only [Act.put, List.getElem_toArray, List.getElem_cons_succ, List.getElem_cons_zero, List.setIfInBounds_toArray, List.set_cons_succ, List.set_cons_zero]
  refine wpAnyH_take (i := 4) (v := ?_) rfl (by kernel_rfl) (by kernel_rfl) (by kernel_rfl) (fun _ _ _ h => h) (Or.inl ⟨by rfl, ?_⟩) hS ?_
  rotate_left
  · intro w hSw; obtain ⟨y1, y2⟩ := hSw; go_simp; try with_reducible rfl
  simp only [Act.put, List.getElem_toArray, List.getElem_cons_succ, List.getElem_cons_zero, List.setIfInBounds_toArray, List.set_cons_succ, List.set_cons_zero]
  refine wpAnyH_take (i := 6) (v := ?_) rfl (by kernel_rfl) (by kernel_rfl) (by kernel_rfl) (fun _ _ _ h => h) (Or.inl ⟨by rfl, ?_⟩) hS ?_
  rotate_left
  · intro w hSw; obtain ⟨y1, y2⟩ := hSw; go_simp; try with_reducible rfl
  simp only [Act.put, List.getElem_toArray, List.getElem_cons_succ, List.getElem_cons_zero, List.setIfInBounds_toArray, List.set_cons_succ, List.set_cons_zero]
  refine wpAnyH_take (i := 7) (v := ?_) rfl (by kernel_rfl) (by kernel_rfl) (by kernel_rfl) (fun _ _ _ h => h) (Or.inl ⟨by rfl, ?_⟩) hS ?_
  rotate_left
  · intro w hSw; obtain ⟨y1, y2⟩ := hSw; go_simp; try with_reducible rfl
  simp only [Act.put, List.getElem_toArray, List.getElem_cons_succ, List.getElem_cons_zero, List.setIfInBounds_toArray, List.set_cons_succ, List.set_cons_zero]
  refine wpAnyH_take (i := 8) (v := ?_) rfl (by kernel_rfl) (by kernel_rfl) (by kernel_rfl) (fun _ _ _ h => h) (Or.inl ⟨by rfl, ?_⟩) hS ?_
  rotate_left
  · intro w hSw; obtain ⟨y1, y2⟩ := hSw; go_simp; try with_reducible rfl
  simp only [Act.put, List.getElem_toArray, List.getElem_cons_succ, List.getElem_cons_zero, List.setIfInBounds_toArray, List.set_cons_succ, List.set_cons_zero]
  refine wpAnyH_take (i := 12) (v := ?_) rfl (by kernel_rfl) (by kernel_rfl) (by kernel_rfl) (fun _ _ _ h => h) (Or.inl ⟨by rfl, ?_⟩) hS ?_
  rotate_left
  · intro w hSw; obtain ⟨y1, y2⟩ := hSw; go_simp; try with_reducible rfl
  simp only [Act.put, List.getElem_toArray, List.getElem_cons_succ, List.getElem_cons_zero, List.setIfInBounds_toArray, List.set_cons_succ, List.set_cons_zero]
  refine wpAnyH_ready (rs := [5, 9]) (by kernel_rfl) (by simp) ?_
  refine AllReadyH.cons rfl (fun K hK => ?_) (AllReadyH.cons rfl (fun K hK => ?_) AllReadyH.nil)
  · go_simp
    refine hK.out _ _ ⟨k7, z0⟩ (fun hS => ?_)
    clear hK K
    refine wpAnyH_ready (rs := [9]) (by kernel_rfl) (by simp) ?_
    refine AllReadyH.cons rfl (fun K hK => ?_) AllReadyH.nil
    go_simp
    refine Calls.mono (A7.out _ hS.1) ?_
    rintro e wq ⟨rfl, rfl⟩
    refine hK.out _ _ ⟨k7, z0⟩ (fun hS => ?_)
    clear hK K
    refine wpAnyH_take (i := 10) (v := ?_) rfl (by kernel_rfl) (by kernel_rfl) (by kernel_rfl) (fun _ _ _ h => h) (Or.inl ⟨by rfl, ?_⟩) hS ?_
    rotate_left
    · intro w hSw; obtain ⟨y1, y2⟩ := hSw; go_simp; try with_reducible rfl
    simp only [Act.put, List.getElem_toArray, List.getElem_cons_succ, List.getElem_cons_zero, List.setIfInBounds_toArray, List.set_cons_succ, List.set_cons_zero]
    refine wpAnyH_take (i := 11) (v := ?_) rfl (by kernel_rfl) (by kernel_rfl) (by kernel_rfl) (fun _ _ _ h => h) (Or.inl ⟨by rfl, ?_⟩) hS ?_
    rotate_left
    · intro w hSw; obtain ⟨y1, y2⟩ := hSw; go_simp; try with_reducible rfl
    simp only [Act.put, List.getElem_toArray, List.getElem_cons_succ, List.getElem_cons_zero, List.setIfInBounds_toArray, List.set_cons_succ, List.set_cons_zero]
    refine wpAnyH_take (i := 13) (v := ?_) rfl (by kernel_rfl) (by kernel_rfl) (by kernel_rfl) (fun _ _ _ h => h) (Or.inl ⟨by rfl, ?_⟩) hS ?_
    rotate_left
    · intro w hSw; obtain ⟨y1, y2⟩ := hSw; go_simp; try with_reducible rfl
    simp only [Act.put, List.getElem_toArray, List.getElem_cons_succ, List.getElem_cons_zero, List.setIfInBounds_toArray, List.set_cons_succ, List.set_cons_zero]
    refine wpAnyH_ready (rs := [14]) (by kernel_rfl) (by simp) ?_
    refine AllReadyH.cons rfl (fun K hK => ?_) AllReadyH.nil
    go_simp
    rw [HX.out]
    refine hK.out _ _ HS5.out (fun hS => ?_)
    clear hK K
    clear hS
    refine wpAnyH_done (by kernel_rfl) ?_ _
    have c5 := HC5.out
    go_wp2
    go_ret
    exact ⟨rfl, HN.out.drew, gb_trans (gb_cell _ _ _ _) (gb_drew _ _)⟩
  · go_simp
    refine Calls.mono (A7.out _ hS.1) ?_
    rintro e wq ⟨rfl, rfl⟩
    refine hK.out _ _ ⟨k7, z0⟩ (fun hS => ?_)
    clear hK K
    refine wpAnyH_take (i := 10) (v := ?_) rfl (by kernel_rfl) (by kernel_rfl) (by kernel_rfl) (fun _ _ _ h => h) (Or.inl ⟨by rfl, ?_⟩) hS ?_
    rotate_left
    · intro w hSw; obtain ⟨y1, y2⟩ := hSw; go_simp; try with_reducible rfl
    simp only [Act.put, List.getElem_toArray, List.getElem_cons_succ, List.getElem_cons_zero, List.setIfInBounds_toArray, List.set_cons_succ, List.set_cons_zero]
    refine wpAnyH_ready (rs := [5]) (by kernel_rfl) (by simp) ?_
    refine AllReadyH.cons rfl (fun K hK => ?_) AllReadyH.nil
    go_simp
    refine hK.out _ _ ⟨k7, z0⟩ (fun hS => ?_)
    clear hK K
    refine wpAnyH_take (i := 11) (v := ?_) rfl (by kernel_rfl) (by kernel_rfl) (by kernel_rfl) (fun _ _ _ h => h) (Or.inl ⟨by rfl, ?_⟩) hS ?_
    rotate_left
    · intro w hSw; obtain ⟨y1, y2⟩ := hSw; go_simp; try with_reducible rfl
    simp only [Act.put, List.getElem_toArray, List.getElem_cons_succ, List.getElem_cons_zero, List.setIfInBounds_toArray, List.set_cons_succ, List.set_cons_zero]
    refine wpAnyH_take (i := 13) (v := ?_) rfl (by kernel_rfl) (by kernel_rfl) (by kernel_rfl) (fun _ _ _ h => h) (Or.inl ⟨by rfl, ?_⟩) hS ?_
    rotate_left
    · intro w hSw; obtain ⟨y1, y2⟩ := hSw; go_simp; try with_reducible rfl
    simp only [Act.put, List.getElem_toArray, List.getElem_cons_succ, List.getElem_cons_zero, List.setIfInBounds_toArray, List.set_cons_succ, List.set_cons_zero]
    refine wpAnyH_ready (rs := [14]) (by kernel_rfl) (by simp) ?_
    refine AllReadyH.cons rfl (fun K hK => ?_) AllReadyH.nil
    go_simp
    rw [HX.out]
    refine hK.out _ _ HS5.out (fun hS => ?_)
    clear hK K
    clear hS
    refine wpAnyH_done (by kernel_rfl) ?_ _
    have c5 := HC5.out
    go_wp2
    go_ret
    exact ⟨rfl, HN.out.drew, gb_trans (gb_cell _ _ _ _) (gb_drew _ _)⟩
theorem word_any (g : Nat) (ws : List Nat) (r : Nat) (w : World) (hw16 : ws.length = 16) (hwl : ∀ x ∈ ws, x < 4294967296) (hr6 : r < 64) (h : RowAt w g 86 .u32 16 (ringAt ws r)) :
    Calls Tryd.prog 44 #[.pointer (some ⟨g, 0, none⟩), .int .i64 (r : Int)] w fun e w' => e = .returned (.int .u32 ((wd ws r : Nat) : Int)) ∧ RowAt w' g 86 .u32 16 (ringAt ws (r + 1)) ∧ w.grownBy w' (some g) := by
  by_cases hr : r < 16
  · exact word_low g ws r w hr h
  · exact word_high g ws r w hw16 hwl (by omega) hr6 h
end Go.Proofs.YthpkhbcahihbnaaDoor
