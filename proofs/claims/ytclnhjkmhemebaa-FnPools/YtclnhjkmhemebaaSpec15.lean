/- The contracts of chapter 15's functions, the specification's: PlaceOf, CidOf, Given, PoolOk, Leased. -/
import Derived.Test.YtclnhjkmhemebaaPool15
import Derived.Test.YtclnhjkmhemebaaTermW
import Derived.Test.YtclnhjkmhemebaaRowB
import Derived.WalkKit
import Derived.WalkLawsBesides
import Derived.WalkSpells
import Derived.OwnWalk
import Derived.Laws.OwnMore
import Derived.Laws.Rows
import Derived.Deep.QuietTactic
import Derived.BigQuiet
import Derived.Deep.AppendLies
namespace Go.Proofs.Ytclnhjkmhemebaa
open Go.RowKit
set_option linter.unusedVariables false
theorem specInB_any (x lo hi : Int) (w : World) :
    Calls Try.prog 83 #[.int .i64 x, .int .i64 lo, .int .i64 hi] w fun e w' => e = .returned (.bool (inB x lo hi)) ∧ Below w.heap.size w w' :=
  (specIn_any x lo hi w).mono fun _ _ h => ⟨h.1, h.2 ▸ Below.refl _ _⟩
set_option maxHeartbeats 400000 in
theorem specPlace_any (a : Option Addr) (cap : Nat) (ls : List Ls) (c : Int) (w : World) (hl : ls.length ≤ 1048576) (hr : RowLs w.heap.size w a ls) :
    Calls Try.prog 26 #[.slice a ls.length cap, .int .i64 c] w fun e w' => e = .returned (.int .i64 (placeL ls c)) ∧ w = w' := by
  have HR : Hid (RowLs w.heap.size w a ls) := hr
  clear hr
  obtain ⟨V, HV⟩ : ∃ V, Hid (placeL ls c = V) := ⟨_, rfl⟩
  rw [HV.out]
  go_enter Try.func26, Try.ntmps26
  go_wp2
  go_loop [5] (fun i => ∃ k : Nat, k ≤ ls.length ∧ i = .int .i64 (k : Int) ∧ Hid (placeL (ls.drop k) c = V)) (fun i => ls.length - (intOf i).toNat)
  case atStart => exact ⟨0, Nat.zero_le _, rfl, HV⟩
  case round =>
    obtain ⟨k, hk, rfl, HK⟩ := hrel
    by_cases hlt : k < ls.length
    · obtain ⟨b, off, rfl⟩ := HR.out.addr hlt
      obtain ⟨hb, c0, c1⟩ := HR.out.at (Below.refl _ _) hlt
      have hi0 : (0 : Int) ≤ (k : Int) := by omega
      have hi1 : (k : Int) < (ls.length : Int) := by omega
      have HD : Hid (placeL (ls.drop k) c = if (ls.getD k Ls.zero).c = c then (ls.getD k Ls.zero).p else placeL (ls.drop (k + 1)) c) := by show _ = _; rw [drop_cons hlt, placeL]
      generalize ls.getD k Ls.zero = y at c0 c1 HD
      by_cases hc : y.c = c
      · have HE : Hid (y.p = V) := by show _ = _; rw [← HK.out, HD.out, if_pos hc]
        clear HD HK
        go_wp2
        go_ret
        exact ⟨by rw [HE.out]; rfl, rfl⟩
      · have hc' : (y.c == c) = false := by simp [hc]
        have HE : Hid (placeL (ls.drop (k + 1)) c = V) := by show _ = _; rw [← HK.out, HD.out, if_neg hc]
        clear HD HK hc
        go_wp2
        go_round
        case rel => exact ⟨k + 1, by omega, by go_num, HE⟩
        case measure => simp [intOf]; omega
    · obtain rfl : k = ls.length := by omega
      have HE : Hid (0 = V) := by show _ = _; rw [← HK.out, List.drop_length, placeL]
      clear HK
      go_wp2
      go_ret
      exact ⟨by rw [← HE.out]; rfl, rfl⟩
set_option maxHeartbeats 400000 in
theorem specCid_any (a : Option Addr) (cap : Nat) (ls : List Ls) (p : Int) (w : World) (hl : ls.length ≤ 1048576) (hr : RowLs w.heap.size w a ls) :
    Calls Try.prog 28 #[.slice a ls.length cap, .int .i64 p] w fun e w' => e = .returned (.int .i64 (cidL ls p)) ∧ w = w' := by
  have HR : Hid (RowLs w.heap.size w a ls) := hr
  clear hr
  obtain ⟨V, HV⟩ : ∃ V, Hid (cidL ls p = V) := ⟨_, rfl⟩
  rw [HV.out]
  go_enter Try.func28, Try.ntmps28
  go_wp2
  go_loop [5] (fun i => ∃ k : Nat, k ≤ ls.length ∧ i = .int .i64 (k : Int) ∧ Hid (cidL (ls.drop k) p = V)) (fun i => ls.length - (intOf i).toNat)
  case atStart => exact ⟨0, Nat.zero_le _, rfl, HV⟩
  case round =>
    obtain ⟨k, hk, rfl, HK⟩ := hrel
    by_cases hlt : k < ls.length
    · obtain ⟨b, off, rfl⟩ := HR.out.addr hlt
      obtain ⟨hb, c0, c1⟩ := HR.out.at (Below.refl _ _) hlt
      have hi0 : (0 : Int) ≤ (k : Int) := by omega
      have hi1 : (k : Int) < (ls.length : Int) := by omega
      have HD : Hid (cidL (ls.drop k) p = if (ls.getD k Ls.zero).p = p then (ls.getD k Ls.zero).c else cidL (ls.drop (k + 1)) p) := by show _ = _; rw [drop_cons hlt, cidL]
      generalize ls.getD k Ls.zero = y at c0 c1 HD
      by_cases hc : y.p = p
      · have HE : Hid (y.c = V) := by show _ = _; rw [← HK.out, HD.out, if_pos hc]
        clear HD HK
        go_wp2
        go_ret
        exact ⟨by rw [HE.out]; rfl, rfl⟩
      · have hc' : (y.p == p) = false := by simp [hc]
        have HE : Hid (cidL (ls.drop (k + 1)) p = V) := by show _ = _; rw [← HK.out, HD.out, if_neg hc]
        clear HD HK hc
        go_wp2
        go_round
        case rel => exact ⟨k + 1, by omega, by go_num, HE⟩
        case measure => simp [intOf]; omega
    · obtain rfl : k = ls.length := by omega
      have HE : Hid (-1 = V) := by show _ = _; rw [← HK.out, List.drop_length, cidL]
      clear HK
      go_wp2
      go_ret
      exact ⟨by rw [← HE.out]; rfl, rfl⟩
theorem below_appLs {B : Nat} {w wr w2 : World} {o : Obj} {v : Value} {n : Nat} {xs : List Value} (hb : Below B w wr) (hs : B ≤ w.heap.size) (hown : wr.ownsRow B 103 2 v n xs) (hg : (wr.alloc o).grownBy w2 v.ownBlock) : Below B w w2 :=
  (hb.alloc (Nat.le_trans hs hb.size) o).grown hg (by have := hb.size; simp; omega) (fun k hk => (World.ownsRow.lt hown k hk).1)
theorem own_someLs {B : Nat} {w : World} {v : Value} {ls : List Ls} (h : OwnLs B w v ls) (hn : v ≠ .slice none 0 0) : ∃ g cap, v = .slice (some ⟨g, 0, none⟩) ls.length cap := by
  rcases h.2 with ⟨rfl, _⟩ | ⟨g, cap, cur, rfl, _⟩
  · exact absurd rfl hn
  · exact ⟨g, cap, rfl⟩
theorem given_next {ls : List Ls} {c : Int} {k : Nat} (h : k < ls.length) : givenL (ls.take (k + 1)) c = givenL (ls.take k) c ++ (if (ls.getD k Ls.zero).c = c then [] else [ls.getD k Ls.zero]) := by
  unfold givenL
  rw [take_next h, List.filter_append]
  congr 1
  generalize ls.getD k Ls.zero = y
  by_cases e : y.c = c <;> simp [e]
theorem given_le (ls : List Ls) (c : Int) : (givenL ls c).length ≤ ls.length := List.length_filter_le _ _
set_option maxHeartbeats 800000 in
set_option maxRecDepth 20000 in
theorem specGivenN_any (a : Option Addr) (cap : Nat) (ls : List Ls) (c : Int) (w : World) (hl : ls.length ≤ 1048576) (hr : RowLs w.heap.size w a ls) :
    Calls Try.prog 29 #[.slice a ls.length cap, .int .i64 c] w fun e w' => ∃ v, e = .returned v ∧ (∃ g cap, v = .slice (some ⟨g, 0, none⟩) (givenL ls c).length cap) ∧ OwnLs w.heap.size w' v (givenL ls c) ∧ Below w.heap.size w w' := by
  obtain ⟨i0, hi, hz0, hz1, hz2⟩ := info_parts infoLs
  have HR : Hid (RowLs w.heap.size w a ls) := hr
  clear hr
  go_enter Try.func29, Try.ntmps29
  go_wp2
  go_loopw [5, 6] (fun v i wr => ∃ (k : Nat) (xs : List Ls), k ≤ ls.length ∧ i = .int .i64 (k : Int) ∧ OwnLs w.heap.size wr v xs ∧ Hid (givenL (ls.take k) c = xs) ∧ Hid (v ≠ .slice none 0 0) ∧ Below w.heap.size w wr)
    (fun _ i _ => ls.length - (intOf i).toNat)
  case atStart => exact ⟨0, [], Nat.zero_le _, rfl, own_newLs w (Nat.le_refl _), (by show _ = _; rfl), (by show _ ≠ _; simp), (Below.refl _ _).alloc (Nat.le_refl _) _⟩
  case round =>
    obtain ⟨k, xs, hk, rfl, hown, HX, HNN, hbel⟩ := hrel
    by_cases hlt : k < ls.length
    · obtain ⟨b, off, rfl⟩ := HR.out.addr hlt
      obtain ⟨hb, c0, c1⟩ := HR.out.at hbel hlt
      have hi0 : (0 : Int) ≤ (k : Int) := by omega
      have hi1 : (k : Int) < (ls.length : Int) := by omega
      have HN : Hid _ := given_next (c := c) hlt
      have hxl : xs.length ≤ 1048576 := by have := given_le (ls.take k) c; rw [HX.out] at this; simp at this; omega
      generalize ls.getD k Ls.zero = y at c0 c1 HN
      by_cases hc : y.c = c
      · have HE : Hid (givenL (ls.take (k + 1)) c = xs) := by show _ = _; rw [HN.out, if_pos hc, HX.out]; simp
        clear HN HX
        go_wp2
        go_roundw
        case rel => exact ⟨k + 1, xs, by omega, by go_num, hown, HE, HNN, hbel⟩
        case measure => simp [intOf]; omega
      · have hc' : (y.c != c) = true := by simp [hc]
        have HE : Hid (givenL (ls.take (k + 1)) c = xs ++ [y]) := by show _ = _; rw [HN.out, if_neg hc, HX.out]
        clear HN HX hc
        go_wp2_with (at_builtin; refine wpList_append_own _ rfl _ _ 24 rfl w.heap.size 103 i0 _ 2 16 Try.underlying24 hi hz0 hz1 hz2 rfl (by decide) _ _ _ rfl (World.ownsRow.alloc hown _) ⟨wr.heap.size, 0, none⟩ 1 1 y.cells rfl rfl ?c1 ?c2 ?c3 ?c4 ?c5 ?_)
        case c1 => exact World.news_of_block (cs := #[.int .i64 y.p, .int .i64 y.c]) (t := 103) (fr := (0, 0)) (heap_alloc_new wr _)
        case c2 => exact cellsLs_one [y]
        case c3 => unfold maxLen; omega
        case c4 => omega
        case c5 => have := hbel.size; simp; omega
        intro v' w2 hown' hgrow hnn
        have HN2 : Hid (v' ≠ .slice none 0 0) := hnn
        clear hnn
        have HB2 : Hid (Below w.heap.size w w2) := below_appLs hbel (Nat.le_refl _) hown hgrow
        have HO : Hid (OwnLs w.heap.size w2 v' (xs ++ [y])) := by show OwnLs _ _ _ _; unfold OwnLs; rw [cellsLs_append, show cellsLs [y] = y.cells by simp [cellsLs]]; simpa using hown'
        clear hown' hgrow hown hbel c0 c1
        go_wp2
        go_roundw
        case rel => exact ⟨k + 1, xs ++ [y], by omega, by go_num, HO.out, HE, HN2, HB2.out⟩
        case measure => simp [intOf]; omega
    · obtain rfl : k = ls.length := by omega
      have HE : Hid (givenL ls c = xs) := by show _ = _; rw [← HX.out, List.take_length]
      clear HX
      go_wp2
      go_ret
      exact ⟨_, rfl, by rw [HE.out]; exact own_someLs hown HNN.out, by rw [HE.out]; exact hown, hbel⟩
theorem specGiven_any (a : Option Addr) (cap : Nat) (ls : List Ls) (c : Int) (w : World) (hl : ls.length ≤ 1048576) (hr : RowLs w.heap.size w a ls) :
    Calls Try.prog 29 #[.slice a ls.length cap, .int .i64 c] w fun e w' => ∃ v, e = .returned v ∧ OwnLs w.heap.size w' v (givenL ls c) ∧ Below w.heap.size w w' :=
  (specGivenN_any a cap ls c w hl hr).mono fun _ _ ⟨v, h1, _, h3, h4⟩ => ⟨v, h1, h3, h4⟩
end Go.Proofs.Ytclnhjkmhemebaa
