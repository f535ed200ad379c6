/- The contracts of the drawing functions (the specification's own): a cursor over a code in memory. What is drawn is some number in its bounds, some text within its length; the cursor's own block alone turns. -/
import Derived.Test.YtopdjfgomclffaaProg
import Derived.Test.YtopdjfgomclffaaPlain
import Derived.WalkKit
import Derived.WalkLawsBesides
import Derived.WalkSpells
import Derived.Laws.OwnMore
import Derived.Deep.QuietTactic
import Derived.BigQuiet
namespace Go.Proofs.Ytopdjfgomclffaa
open Go.RowKit

/-- 'and' with a mask. -/
theorem and_bd (x m : Int) (h0 : 0 ≤ m) (h1 : m ≤ 4611686018427387903) : 0 ≤ bits .and .i64 x m ∧ bits .and .i64 x m ≤ m := by
  unfold bits
  have e : (BitVec.ofInt 64 m).toNat = m.toNat := by
    rw [BitVec.toNat_ofInt]; omega
  have hle : (BitVec.ofInt 64 x &&& BitVec.ofInt 64 m).toNat ≤ m.toNat := by
    rw [BitVec.toNat_and, e]; exact Nat.and_le_right
  show 0 ≤ IntKind.i64.wrap (((BitVec.ofInt 64 x &&& BitVec.ofInt 64 m).toNat : Nat) : Int) ∧ IntKind.i64.wrap (((BitVec.ofInt 64 x &&& BitVec.ofInt 64 m).toNat : Nat) : Int) ≤ m
  rw [IntWalk.i64_in _ ⟨by omega, by omega⟩]
  omega

/-- The code that came in: its cells lie below B. -/
def CodeIn (B : Nat) (w : World) (a : Option Addr) (len : Nat) : Prop :=
  len ≤ 1048577 ∧ (len = 0 ∨ ∃ b off, a = some ⟨b, off, none⟩ ∧ b < B ∧ ∀ i, i < len → ∃ z, w.cell? ⟨b, off + i, none⟩ = some (.int .u8 z) ∧ 0 ≤ z ∧ z ≤ 255)

/-- A cursor at block g. -/
def Cur (B : Nat) (w : World) (g : Nat) : Prop :=
  B ≤ g ∧ g < w.heap.size ∧ ∃ (a : Option Addr) (len cap i : Nat) (h : Int), i ≤ len ∧ CodeIn B w a len ∧ w.heap[g]? = some (.cells #[.slice a len cap, .int .i64 (i : Int), .int .i64 h] 67 (0, 0))

theorem CodeIn.grown {B g : Nat} {w w' : World} {a : Option Addr} {len : Nat} (h : CodeIn B w a len) (hB : B ≤ g) (hg : w.grownBy w' (some g)) : CodeIn B w' a len := by
  refine ⟨h.1, ?_⟩
  rcases h.2 with h0 | ⟨b, off, rfl, hb, hc⟩
  · exact .inl h0
  · exact .inr ⟨b, off, rfl, hb, fun i hi => by
      obtain ⟨z, hz, h1⟩ := hc i hi
      exact ⟨z, hg.cell hz (by simp; omega), h1⟩⟩
theorem grown_refl (w : World) (r : Option Nat) : w.grownBy w r := ⟨rfl, rfl, rfl, Nat.le_refl _, fun _ _ _ => rfl⟩
theorem grown_trans {w w1 w2 : World} {r : Option Nat} (h : w.grownBy w1 r) (h' : w1.grownBy w2 r) : w.grownBy w2 r :=
  ⟨h'.os.trans h.os, h'.tape.trans h.tape, h'.output.trans h.output, Nat.le_trans h.size h'.size, fun k hk hne => (h'.block k (Nat.lt_of_lt_of_le hk h.size) hne).trans (h.block k hk hne)⟩
theorem grown_drewN (w : World) (n : Nat) (r : Option Nat) : w.grownBy (w.drewN n) r := ⟨rfl, rfl, rfl, Nat.le_refl _, fun _ _ _ => rfl⟩
theorem grown_setCell (w : World) (g j : Nat) (u : Value) : w.grownBy (w.setCell ⟨g, j, none⟩ u) (some g) :=
  ⟨rfl, rfl, rfl, by simp, fun k _ hne => Below.heap_setCell _ _ _ _ (by simpa using hne)⟩
theorem grown_below {w w' : World} (h : Below w.heap.size w w') (r : Option Nat) : w.grownBy w' r :=
  ⟨h.os, h.tape, h.output, h.size, fun k hk _ => h.block k hk⟩
theorem Cur.grown {B g : Nat} {w w' : World} (h : Cur B w g) (hb : Below w.heap.size w w') : Cur B w' g := by
  obtain ⟨h1, h2, a, len, cap, i, hh, h3, h4, h5⟩ := h
  exact ⟨h1, Nat.lt_of_lt_of_le h2 hb.size, a, len, cap, i, hh, h3, h4.grown h1 (grown_below hb _), (hb.block g h2).trans h5⟩

theorem cur_one {B g len cap i : Nat} {h X : Int} {a : Option Addr} {w w' : World} (hB : B ≤ g) (hg : g < w.heap.size) (hi : i ≤ len) (hc : CodeIn B w a len)
    (hb : w.heap[g]? = some (.cells #[.slice a len cap, .int .i64 (i : Int), .int .i64 h] 67 (0, 0)))
    (hh : w'.heap = (w.setCell ⟨g, 2, none⟩ (.int .i64 X)).heap) (ho : w'.os = w.os) (ht : w'.tape = w.tape) (hp : w'.output = w.output) : Cur B w' g ∧ w.grownBy w' (some g) := by
  have hs := grown_setCell w g 2 (.int .i64 X)
  have hgr : w.grownBy w' (some g) := ⟨ho, ht, hp, by rw [hh]; exact hs.size, fun k hk hne => by rw [hh]; exact hs.block k hk hne⟩
  refine ⟨⟨hB, Nat.lt_of_lt_of_le hg hgr.size, a, len, cap, i, X, hi, hc.grown hB hgr, ?_⟩, hgr⟩
  rw [hh, heap_setCell_same w g 2 _ _ _ hb]; rfl
theorem cur_two {B g len cap i : Nat} {h X : Int} {a : Option Addr} {w w' : World} (hB : B ≤ g) (hg : g < w.heap.size) (hi : i < len) (hc : CodeIn B w a len)
    (hb : w.heap[g]? = some (.cells #[.slice a len cap, .int .i64 (i : Int), .int .i64 h] 67 (0, 0)))
    (hh : w'.heap = ((w.setCell ⟨g, 2, none⟩ (.int .i64 X)).setCell ⟨g, 1, none⟩ (.int .i64 ((i : Int) + 1))).heap) (ho : w'.os = w.os) (ht : w'.tape = w.tape) (hp : w'.output = w.output) : Cur B w' g ∧ w.grownBy w' (some g) := by
  have hs := grown_trans (grown_setCell w g 2 (.int .i64 X)) (grown_setCell (w.setCell ⟨g, 2, none⟩ (.int .i64 X)) g 1 (.int .i64 ((i : Int) + 1)))
  have hgr : w.grownBy w' (some g) := ⟨ho, ht, hp, by rw [hh]; exact hs.size, fun k hk hne => by rw [hh]; exact hs.block k hk hne⟩
  refine ⟨⟨hB, Nat.lt_of_lt_of_le hg hgr.size, a, len, cap, i + 1, X, hi, hc.grown hB hgr, ?_⟩, hgr⟩
  rw [hh, heap_setCell_same _ g 1 _ _ _ (heap_setCell_same w g 2 _ _ _ hb)]
  rw [show ((i + 1 : Nat) : Int) = (i : Int) + 1 by omega]; rfl

set_option maxHeartbeats 800000 in
set_option maxRecDepth 20000 in
theorem byte_any (B g : Nat) (w : World) (hc : Cur B w g) :
    Calls Try.prog 48 #[.pointer (some ⟨g, 0, none⟩)] w fun e w' => ∃ x : Int, e = .returned (.int .i64 x) ∧ 0 ≤ x ∧ x ≤ 255 ∧ Cur B w' g ∧ w.grownBy w' (some g) := by
  obtain ⟨hB, hg, a, len, cap, i, h, hi, hcode, hblk⟩ := hc
  have c0 : w.cell? ⟨g, 0, none⟩ = some (.slice a len cap) := by rw [cell_of_row w g 0 _ _ _ hblk]; rfl
  have c1 : w.cell? ⟨g, 1, none⟩ = some (.int .i64 (i : Int)) := by rw [cell_of_row w g 1 _ _ _ hblk]; rfl
  have c2 : w.cell? ⟨g, 2, none⟩ = some (.int .i64 h) := by rw [cell_of_row w g 2 _ _ _ hblk]; rfl
  have f1 : w.frozen? ⟨g, 1, none⟩ = false := frozen_of_row w g 1 _ _ hblk
  have f2 : w.frozen? ⟨g, 2, none⟩ = false := frozen_of_row w g 2 _ _ hblk
  have HBL : Hid (w.heap[g]? = some (.cells #[.slice a len cap, .int .i64 (i : Int), .int .i64 h] 67 (0, 0))) := hblk
  have HCO : Hid (CodeIn B w a len) := hcode
  clear hblk
  have hl := hcode.1
  clear hcode
  by_cases hlt : i < len
  · have hcd := HCO.out
    rcases hcd.2 with h0 | ⟨b, off, rfl, hbB, hcs⟩
    · exact absurd h0 (by omega)
    obtain ⟨z, hz, hz0, hz1⟩ := hcs i hlt
    clear hcd hcs
    have hbg : ¬ b = g := by omega
    have hgb : ¬ g = b := by omega
    have hi0 : (0 : Int) ≤ (i : Int) := by omega
    have hi1 : (i : Int) < (len : Int) := by omega
    have cz : ∀ u, (w.setCell ⟨g, 2, none⟩ u).cell? ⟨b, off + i, none⟩ = some (.int .u8 z) := fun u => by
      rw [World.cell?_of_block (w := w) (Below.heap_setCell _ _ _ _ hbg)]; exact hz
    go_enter Try.func48, Try.ntmps48
    go_wp2
    go_quiet (fail)
    go_wp2
    go_quiet (fail)
    go_wp2
    go_quiet (fail)
    go_wp2
    go_ret
    refine ⟨_, rfl, (and_bd _ 255 (by decide) (by decide)).1, (and_bd _ 255 (by decide) (by decide)).2, ?_⟩
    exact cur_two (X := wrap64 (wrap64 (h * 6364136223846793005) + 1442695040888963407)) hB hg hlt HCO.out HBL.out rfl rfl rfl rfl
  · have hge : decide ((i : Int) < (len : Int)) = false := by simp; omega
    go_enter Try.func48, Try.ntmps48
    go_wp2
    go_quiet (fail)
    go_wp2
    go_quiet (fail)
    go_wp2
    go_ret
    refine ⟨_, rfl, (and_bd _ 255 (by decide) (by decide)).1, (and_bd _ 255 (by decide) (by decide)).2, ?_⟩
    exact cur_one (X := wrap64 (wrap64 (h * 6364136223846793005) + 1442695040888963407)) hB hg hi HCO.out HBL.out rfl rfl rfl rfl

theorem below_any (B g : Nat) (n : Nat) (w : World) (hn : 0 < n) (hn1 : n ≤ 1000000000) (hc : Cur B w g) :
    Calls Try.prog 52 #[.pointer (some ⟨g, 0, none⟩), .int .i64 (n : Int)] w fun e w' => ∃ x : Nat, e = .returned (.int .i64 (x : Int)) ∧ x < n ∧ Cur B w' g ∧ w.grownBy w' (some g) := by
  have hz : ¬ (n : Int) ≤ 0 := by omega
  by_cases h256 : n ≤ 256
  · have h2 : (n : Int) ≤ 256 := by omega
    go_enter Try.func52, Try.ntmps52
    go_wp2_with fail
    refine (byte_any B g _ hc).mono ?_
    rintro e w1 ⟨x, rfl, hx0, hx1, hc1, hg1⟩
    go_wp2
    go_ret
    exact ⟨(x % n).toNat, by rw [show (((x % (n : Int)).toNat : Nat) : Int) = x % (n : Int) from Int.toNat_of_nonneg (Int.emod_nonneg _ (by omega))]; rfl, by have := Int.emod_lt_of_pos x (show (0 : Int) < n by omega); have := Int.emod_nonneg x (show (n : Int) ≠ 0 by omega); omega, hc1, hg1⟩
  · have h2 : ¬ (n : Int) ≤ 256 := by omega
    go_enter Try.func52, Try.ntmps52
    go_wp2_with fail
    refine (byte_any B g _ hc).mono ?_
    rintro e w1 ⟨x, rfl, hx0, hx1, hc1, hg1⟩
    go_wp2_with fail
    refine (byte_any B g _ hc1).mono ?_
    rintro e w2 ⟨y, rfl, hy0, hy1, hc2, hg2⟩
    go_wp2_with fail
    refine (byte_any B g _ hc2).mono ?_
    rintro e w3 ⟨z, rfl, hz0, hz1, hc3, hg3⟩
    go_wp2_with fail
    refine (byte_any B g _ hc3).mono ?_
    rintro e w4 ⟨u, rfl, hu0, hu1, hc4, hg4⟩
    go_wp2
    go_ret
    have hm0 := Int.emod_nonneg (x * 16777216 + y * 65536 + z * 256 + u) (show (n : Int) ≠ 0 by omega)
    have hm1 := Int.emod_lt_of_pos (x * 16777216 + y * 65536 + z * 256 + u) (show (0 : Int) < n by omega)
    exact ⟨((x * 16777216 + y * 65536 + z * 256 + u) % n).toNat, by rw [Int.toNat_of_nonneg hm0]; rfl, by omega, hc4, grown_trans hg1 (grown_trans hg2 (grown_trans hg3 hg4))⟩

theorem once_any (B g : Nat) (n : Nat) (w : World) (hn : 0 < n) (hn1 : n ≤ 1000000000) (hc : Cur B w g) :
    Calls Try.prog 49 #[.pointer (some ⟨g, 0, none⟩), .int .i64 (n : Int)] w fun e w' => ∃ x : Bool, e = .returned (.bool x) ∧ Cur B w' g ∧ w.grownBy w' (some g) := by
  go_enter Try.func49, Try.ntmps49
  go_wp2_with fail
  refine (below_any B g n _ hn hn1 hc).mono ?_
  rintro e w1 ⟨x, rfl, hx, hc1, hg1⟩
  go_wp2
  go_ret
  exact ⟨_, rfl, hc1, hg1⟩

theorem own_grown {w w' : World} {base e size n g : Nat} {v : Value} {xs : List Value} (h : w.ownsRow base e size v n xs) (hg : w.grownBy w' (some g)) (hlt : g < base) : w'.ownsRow base e size v n xs :=
  h.kept hg (by
    rcases h.2 with ⟨rfl, _⟩ | ⟨g', cap, cur, rfl, hb, _⟩
    · exact .inl rfl
    · exact .inr (by simp [Value.ownBlock]; omega))

theorem grown_then {w w1 w2 : World} {g : Nat} (h : w.grownBy w1 (some g)) (hB : Below w.heap.size w1 w2) : w.grownBy w2 (some g) :=
  ⟨hB.os.trans h.os, hB.tape.trans h.tape, hB.output.trans h.output, Nat.le_trans h.size hB.size, fun j hj hne => (hB.block j hj).trans (h.block j hj hne)⟩
theorem Cur.beyond {B g S : Nat} {w w' : World} (h : Cur B w g) (hg : g < S) (hb : Below S w w') : Cur B w' g := by
  obtain ⟨h1, h2, a, len, cap, i, hh, h3, h4, h5⟩ := h
  refine ⟨h1, Nat.lt_of_lt_of_le h2 hb.size, a, len, cap, i, hh, h3, ⟨h4.1, ?_⟩, (hb.block g hg).trans h5⟩
  rcases h4.2 with h0 | ⟨b, off, rfl, hbB, hc⟩
  · exact .inl h0
  · exact .inr ⟨b, off, rfl, hbB, fun j hj => by
      obtain ⟨z, hz, h6⟩ := hc j hj
      exact ⟨z, (hb.cell (p := ⟨b, off + j, none⟩) (show b < S by omega)).trans hz, h6⟩⟩

theorem Try.info5d : (Try.prog.info? 5).map (fun i => (i.zero, i.size, i.bytes)) = some (some (.int .u8 0), 1, 1) := by kernel_rfl

set_option maxRecDepth 100000 in
set_option maxHeartbeats 400000 in
set_option maxRecDepth 20000 in
theorem new_any (a : Option Addr) (len cap : Nat) (w : World) (hc : CodeIn w.heap.size w a len) :
    Calls Try.prog 24 #[.slice a len cap] w fun e w' => ∃ g, e = .returned (.pointer (some ⟨g, 0, none⟩)) ∧ Cur w.heap.size w' g ∧ Below w.heap.size w w' := by
  have hl := hc.1
  have HC : Hid (CodeIn w.heap.size w a len) := hc
  clear hc
  go_enter Try.func24, Try.ntmps24
  go_wp2
  go_loop [3, 4] (fun h i => ∃ (k : Nat) (x : Int), k ≤ len ∧ k ≤ 4000 ∧ i = .int .i64 (k : Int) ∧ h = .int .i64 x ∧ 0 ≤ x ∧ x ≤ 1073741823)
    (fun _ i => len - (intOf i).toNat)
  case atStart => exact ⟨0, 94701 + (len : Int), by omega, by omega, rfl, rfl, by omega, by omega⟩
  case round =>
    obtain ⟨k, x, hk, hk4, rfl, rfl, hx0, hx1⟩ := hrel
    have fin : ∀ x' : Int, Cur w.heap.size (w.alloc (.cells #[.slice a len cap, .int .i64 0, .int .i64 x'] 67)) w.heap.size ∧ Below w.heap.size w (w.alloc (.cells #[.slice a len cap, .int .i64 0, .int .i64 x'] 67)) := fun x' => by
      have hb : Below w.heap.size w (w.alloc (.cells #[.slice a len cap, .int .i64 0, .int .i64 x'] 67)) := (Below.refl _ _).alloc (Nat.le_refl _) _
      exact ⟨⟨Nat.le_refl _, by simp, a, len, cap, 0, x', by omega, HC.out.grown (Nat.le_refl _) (grown_below hb _), heap_alloc_new w _⟩, hb⟩
    have FIN : Hid _ := fin
    clear fin
    by_cases hlt : k < len
    · by_cases h4 : k < 4000
      · have hcd := HC.out
        rcases hcd.2 with h0 | ⟨b, off, rfl, hbB, hcs⟩
        · exact absurd h0 (by omega)
        obtain ⟨z, hz, hz0, hz1⟩ := hcs k hlt
        clear hcd hcs
        have hi0 : (0 : Int) ≤ (k : Int) := by omega
        have hi1 : (k : Int) < (len : Int) := by omega
        have HA : Hid _ := and_bd (x * 131 + z + 7) 1073741823 (by decide) (by decide)
        go_wp2
        go_round
        case rel => exact ⟨k + 1, _, by omega, by omega, by go_num, rfl, HA.out.1, HA.out.2⟩
        case measure => simp [intOf]; omega
      · have hd : decide ((k : Int) < 4000) = false := by simp; omega
        go_wp2
        go_ret
        exact ⟨_, rfl, FIN.out _⟩
    · have hd : decide ((k : Int) < (len : Int)) = false := by simp; omega
      go_wp2
      go_ret
      exact ⟨_, rfl, FIN.out _⟩

set_option maxHeartbeats 800000 in
set_option maxRecDepth 20000 in
theorem longC_any (n : Nat) (x : Int) (w : World) (hn : n ≤ 100000) :
    Calls Try.prog 50 #[.int .i64 (n : Int), .int .u8 x] w fun e w' => ∃ s : ByteArray, e = .returned (.string s) ∧ s.size = n ∧ Below w.heap.size w w' := by
  obtain ⟨i0, hi, hz0, hz1, hz2⟩ := info_parts Try.info5d
  go_enter Try.func50, Try.ntmps50
  go_wp2_with (at_make; refine wpList_make_full _ rfl _ _ 22 rfl w.heap.size 5 i0 (.int .u8 0) 1 Try.underlying22 hi hz0 hz1 .i64 .i64 _ _ n rfl rfl rfl rfl (by rw [hz2]; omega) (by unfold maxLen; omega) (Nat.le_refl _) ?_; intro w2 hown2 hgrow2)
  have hB2 : Below w.heap.size w w2 := (Below.refl _ _).grown hgrow2 (Nat.le_refl _) (by simp)
  clear hgrow2
  go_loopw [6] (fun i wr => ∃ (k : Nat) (xs : List Value), k ≤ n ∧ i = .int .i64 (k : Int) ∧ wr.ownsRow w.heap.size 5 1 (.slice (some ⟨w.heap.size, 0, none⟩) n n) n xs ∧ xs.take k = (List.replicate k x).map (Value.int .u8) ∧ Below w.heap.size w wr)
    (fun i _ => n - (intOf i).toNat)
  case atStart => exact ⟨0, _, Nat.zero_le _, rfl, hown2, by simp, hB2⟩
  case round =>
    obtain ⟨k, xs, hk, rfl, hownr, htk, hbr⟩ := hrel
    have HT : Hid (xs.take k = (List.replicate k x).map (Value.int .u8)) := htk
    clear htk
    have hxl : xs.length = n := by have := hownr.1; simpa using this
    by_cases hlt : k < n
    · obtain ⟨u0, hu0⟩ : ∃ u, wr.cell? ⟨w.heap.size, k, none⟩ = some u := by
        rw [hownr.cellAt k (by omega)]; exact ⟨_, List.getElem?_eq_getElem (by omega)⟩
      have hf0 := hownr.frozenAt k
      have HS := (hownr.stored k (.int .u8 x)).1
      have HB : Below w.heap.size w (wr.setCell ⟨w.heap.size, k, none⟩ (.int .u8 x)) := hbr.setCell (Nat.le_refl _) _
      have hi0 : (0 : Int) ≤ (k : Int) := by omega
      have hi1 : (k : Int) < (n : Int) := by omega
      have HT' : Hid ((xs.set k (.int .u8 x)).take (k + 1) = (List.replicate (k + 1) x).map (Value.int .u8)) := by
        show _ = _
        rw [List.take_succ_eq_append_getElem (by simp; omega), List.take_set_of_le (Nat.le_refl k), HT.out, List.getElem_set_self, List.replicate_succ', List.map_append, List.map_singleton]
      clear HT hownr
      go_wp2
      go_roundw
      case rel => exact ⟨k + 1, _, by omega, by go_num, HS, HT'.out, HB⟩
      case measure => simp [intOf]; omega
    · obtain rfl : k = n := by omega
      have hx : xs = (List.replicate k x).map (Value.int .u8) := by rw [← HT.out, List.take_of_length_le (by omega)]
      subst hx
      have hc := conv_own wr 22 9 5 Try.underlying22 Try.underlying5 Try.underlying9 (P := Try.prog) hownr
      clear HT
      go_wp2
      go_ret
      exact ⟨_, rfl, by rw [strOfNums_size]; simp, hbr⟩

/-- One of a list's numbers. -/
theorem pickInt_any (B g gl m cap : Nat) (zs : List Int) (w : World) (hm : 0 < m) (hm1 : m ≤ 256) (hz : zs.length = m) (hgl : gl ≠ g) (hcells : ∀ i, i < m → w.cell? ⟨gl, i, none⟩ = some (.int .i64 (zs.getD i 0))) (hc : Cur B w g) :
    Calls Try.prog 47 #[.pointer (some ⟨g, 0, none⟩), .slice (some ⟨gl, 0, none⟩) m cap] w fun e w' => ∃ z ∈ zs, e = .returned (.int .i64 z) ∧ Cur B w' g ∧ w.grownBy w' (some g) := by
  have HC : Hid (∀ i, i < m → w.cell? ⟨gl, i, none⟩ = some (.int .i64 (zs.getD i 0))) := hcells
  clear hcells
  go_enter Try.func47, Try.ntmps47
  go_wp2_with fail
  refine (below_any B g m _ hm (by omega) hc).mono ?_
  rintro e w1 ⟨x, rfl, hx, hc1, hg1⟩
  have hcx := hg1.cell (HC.out x hx) (by simpa using hgl)
  have hi0 : (0 : Int) ≤ (x : Int) := by omega
  have hi1 : (x : Int) < (m : Int) := by omega
  obtain ⟨z, hzd⟩ : ∃ z, z = zs.getD x 0 := ⟨_, rfl⟩
  rw [← hzd] at hcx
  have hmem : z ∈ zs := by rw [hzd, List.getD_eq_getElem?_getD, List.getElem?_eq_getElem (by omega)]; exact List.getElem_mem _
  clear hzd HC
  go_wp2
  go_ret
  exact ⟨z, hmem, rfl, hc1, hg1⟩
end Go.Proofs.Ytopdjfgomclffaa
