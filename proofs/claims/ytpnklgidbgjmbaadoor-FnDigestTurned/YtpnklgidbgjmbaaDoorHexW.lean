/- The contracts of Hex (chapter 1). -/
import Derived.Test.YtpnklgidbgjmbaaDoorProg
import Derived.Test.YtpnklgidbgjmbaaDoorPlainRead
import Derived.Test.YtpnklgidbgjmbaaDoorVarW
import Derived.WalkKit
import Derived.WalkLawsBesides
import Derived.WalkSpells
import Derived.Deep.RegionHeld3
import Derived.Deep.DrawnRows
import Derived.Deep.AppendLies
namespace Go.Proofs.YtpnklgidbgjmbaaDoor
open Go.RowKit Go.PlainAid
attribute [local go_sem ↓] Go.wp_at_zero Go.wp_at_succ

/-- One figure. -/
def fig (x : Int) : Int := if x < 10 then 48 + x else 87 + x
def hexN : List Int → List Int
  | [] => []
  | b :: l => fig (b / 16) :: fig (b % 16) :: hexN l
theorem hexN_snoc : ∀ (l : List Int) (b : Int), hexN (l ++ [b]) = hexN l ++ [fig (b / 16), fig (b % 16)]
  | [], b => rfl
  | x :: l, b => by simp [hexN, hexN_snoc l b]
theorem hexN_len : ∀ (l : List Int), (hexN l).length = 2 * l.length
  | [] => rfl
  | x :: l => by simp [hexN, hexN_len l]; omega
theorem hex_next {s : ByteArray} {k : Nat} (h : k < s.size) : hexN (nums (tk s 0 (k + 1))) = hexN (nums (tk s 0 k)) ++ [fig (bt s k / 16), fig (bt s k % 16)] := by
  have hn : nums (tk s 0 (k + 1)) = nums (tk s 0 k) ++ [bt s k] := by
    rw [tk_succ s 0 k (by omega)]; unfold nums; rw [List.map_append, List.map_singleton, get_bt]; simp
  rw [hn, hexN_snoc]
theorem nums_len (s : ByteArray) (k : Nat) (h : k ≤ s.size) : (nums (tk s 0 k)).length = k := by unfold nums; rw [List.length_map, tk_len s 0 k (by omega)]

theorem tdiv16 {x : Int} (h0 : 0 ≤ x) (h1 : x ≤ 255) : IntKind.u8.wrap (x.tdiv 16) = x / 16 := by
  rw [Int.tdiv_eq_ediv_of_nonneg h0]; exact IntWalk.u8_in _ ⟨by omega, by omega⟩
theorem tmod16 {x : Int} (h0 : 0 ≤ x) : x.tmod 16 = x % 16 := Int.tmod_eq_emod_of_nonneg h0

theorem tdiv16i {x : Int} (h0 : 0 ≤ x) (_h1 : x ≤ 255) : IntKind.i64.wrap (x.tdiv 16) = x / 16 := by
  rw [Int.tdiv_eq_ediv_of_nonneg h0]; exact IntWalk.i64_in _ ⟨by omega, by omega⟩

theorem figure_any (x : Int) (w : World) (h0 : 0 ≤ x) (h1 : x < 16) :
    Calls Tryd.prog 65 #[.int .i64 x] w fun e w' => e = .returned (.int .u8 (fig x)) ∧ w = w' := by
  by_cases h : x < 10
  · have hf : Hid (fig x = 48 + x) := by unfold fig; exact if_pos h
    go_enter Tryd.func65, Tryd.ntmps65
    go_wp2
    go_ret
    exact ⟨by rw [hf.out]; rfl, rfl⟩
  · have hf : Hid (fig x = 87 + x) := by unfold fig; exact if_neg h
    go_enter Tryd.func65, Tryd.ntmps65
    go_wp2
    go_ret
    exact ⟨by rw [hf.out]; go_num, rfl⟩

structure InHex (x : Int) : Prop where
  lo : 0 ≤ x
  hi : x < 16
theorem figure_of (x : Int) (w : World) (h : InHex x) :
    Calls Tryd.prog 65 #[.int .i64 x] w fun e w' => e = .returned (.int .u8 (fig x)) ∧ w = w' := figure_any x w h.lo h.hi
theorem below_app2 {B : Nat} {w wr w1 : World} {v : Value} {e size n : Nat} {xs : List Value} {o : Obj} (hown : wr.ownsRow B e size v n xs) (hbel : Below B w wr) (hB : B ≤ wr.heap.size) (hg : (wr.alloc o).drew.grownBy w1 v.ownBlock) : Below B w w1 :=
  ((hbel.alloc hB o).drew).grown hg (by simp; omega) (fun k hk => (hown.lt k hk).1)
theorem own_hex {B : Nat} {w : World} {v : Value} {e k : Nat} {s : ByteArray} (hk : k < s.size) (h : w.ownsRow B e 1 v (2 * k + 2) ((hexN (nums (tk s 0 k))).map (Value.int .u8) ++ [.int .u8 (fig (bt s k / 16)), .int .u8 (fig (bt s k % 16))])) :
    w.ownsRow B e 1 v (2 * (k + 1)) ((hexN (nums (tk s 0 (k + 1)))).map (Value.int .u8)) := by
  rw [hex_next hk, List.map_append]; exact h

/-- The figures' text, asked at a place. -/
theorem figs_at (x : Int) (h0 : 0 ≤ x) (h1 : x < 16) (w : World) :
    (Instr.index 9 (.string ⟨#[48, 49, 50, 51, 52, 53, 54, 55, 56, 57, 97, 98, 99, 100, 101, 102]⟩) (.int .u8 x)).run Tryd.prog w = .ok (.int .u8 (fig x)) w := by
  obtain ⟨n, rfl⟩ : ∃ n : Nat, x = (n : Int) := ⟨x.toNat, by omega⟩
  have : n < 16 := by omega
  rcases (show n = 0 ∨ n = 1 ∨ n = 2 ∨ n = 3 ∨ n = 4 ∨ n = 5 ∨ n = 6 ∨ n = 7 ∨ n = 8 ∨ n = 9 ∨ n = 10 ∨ n = 11 ∨ n = 12 ∨ n = 13 ∨ n = 14 ∨ n = 15 by omega) with rfl | rfl | rfl | rfl | rfl | rfl | rfl | rfl | rfl | rfl | rfl | rfl | rfl | rfl | rfl | rfl <;> rfl

set_option maxHeartbeats 800000 in
theorem implHex_yes (s : ByteArray) (w : World) (hs : s.size ≤ 20000) :
    Calls Tryd.prog 35 #[.string s] w fun e w' => e = .returned (.tuple #[.string (strOfNums (hexN (nums (tk s 0 s.size)))), .bool true]) ∧ Below w.heap.size w w' := by
  obtain ⟨i0, hi, hz0, hz1, hz2⟩ := info_parts Tryd.info5
  have h' : ¬ (20000 : Int) < (s.size : Int) := by omega
  go_enter Tryd.func35, Tryd.ntmps35
  go_wp2_with (at_make; refine wpList_make_own _ rfl _ _ 22 rfl w.heap.size 5 i0 (.int .u8 0) 1 Tryd.underlying22 hi hz0 hz1 .i64 .i64 _ (2 * s.size) rfl rfl (by omega) (by rw [hz2]; omega) (by unfold maxLen; omega) (Nat.le_refl _) ?_; intro w0 hown0 hgrow0)
  have hb0 : Below w.heap.size w w0 := (Below.refl _ _).grown hgrow0 (Nat.le_refl _) (by simp)
  clear hgrow0
  go_loopw [4, 5] (fun v i wr => ∃ k : Nat, k ≤ s.size ∧ i = .int .i64 k ∧ wr.ownsRow w.heap.size 5 1 v (2 * k) ((hexN (nums (tk s 0 k))).map (Value.int .u8)) ∧ Below w.heap.size w wr)
    (fun _ i _ => s.size - (intOf i).toNat)
  case atStart => exact ⟨0, Nat.zero_le _, rfl, hown0, hb0⟩
  case round =>
    obtain ⟨k, hk, rfl, hown, hbel⟩ := hrel
    have hg := get_bt s
    by_cases hlt : k < s.size
    · have hb0 := bt_nonneg s k
      have hb1 := bt_le s k
      have hq := figs_at (bt s k / 16) (by omega) (by omega)
      have hr := figs_at (bt s k % 16) (by omega) (by omega)
      have hqt := tdiv16 hb0 hb1
      have hrt := tmod16 hb0
      have hi0 : (0 : Int) ≤ (k : Int) := by omega
      have hi1 : (k : Int) < (s.size : Int) := by omega
      have hsz := hbel.size
      go_wp2
      go_region_held3 (fun _ => True) (trivial) ((refine step_append_lies _ (by rfl) _ _ _ (by rfl) w.heap.size 5 i0 _ 1 1 Tryd.underlying22 hi hz0 hz1 hz2 rfl (by omega) _ (2 * k) _ (by rfl) ((hown.alloc _).drew) ⟨wr.heap.size, 0, none⟩ 2 2 [.int .u8 (fig (bt s k / 16)), .int .u8 (fig (bt s k % 16))] (by rfl) (by rfl) (World.news_of_block (cs := #[.int .u8 (fig (bt s k / 16)), .int .u8 (fig (bt s k % 16))]) (t := 5) (fr := (0, 0)) (heap_alloc_new wr _)) (by simp [Value.oneCell']) (by omega) (by unfold maxLen; omega) (by omega) (by simp; omega) (wr.heap.size + 1) (by simp) ?_; intro gg cap w1 hown1 hgrow hat hgl))
      all_goals
        have hB := below_app2 hown hbel hsz hgrow
        have ho := own_hex hlt hown1
        clear hown1 hgrow hat hgl hown hbel hq hr hqt hrt
        go_wp2
        go_roundw
        case rel => exact ⟨k + 1, by omega, by go_num, ho, hB⟩
        case measure => simp [intOf]; omega
    · obtain rfl : k = s.size := by omega
      have hc := conv_own wr 22 9 5 Tryd.underlying22 Tryd.underlying5 Tryd.underlying9 (P := Tryd.prog) hown
      go_wp2
      go_ret2
      exact ⟨rfl, hbel⟩

theorem implHex_no (s : ByteArray) (w : World) (hm : s.size ≤ 1048576) (hs : 20000 < s.size) :
    Calls Tryd.prog 35 #[.string s] w fun e w' => e = .returned (.tuple #[.string ByteArray.empty, .bool false]) ∧ Below w.heap.size w w' := by
  have h' : (20000 : Int) < (s.size : Int) := by omega
  go_enter Tryd.func35, Tryd.ntmps35
  go_wp2
  go_ret2
  exact ⟨rfl, Below.refl _ _⟩
theorem specHex_no (s : ByteArray) (w : World) (hm : s.size ≤ 1048576) (hs : 20000 < s.size) :
    Calls Tryd.prog 51 #[.string s] w fun e w' => e = .returned (.tuple #[.string ByteArray.empty, .bool false]) ∧ Below w.heap.size w w' := by
  have h' : (20000 : Int) < (s.size : Int) := by omega
  go_enter Tryd.func51, Tryd.ntmps51
  go_wp2
  go_ret2
  exact ⟨rfl, Below.refl _ _⟩

set_option maxHeartbeats 1600000 in
theorem specHex_yes (s : ByteArray) (w : World) (hs : s.size ≤ 20000) :
    Calls Tryd.prog 51 #[.string s] w fun e w' => e = .returned (.tuple #[.string (strOfNums (hexN (nums (tk s 0 s.size)))), .bool true]) ∧ Below w.heap.size w w' := by
  obtain ⟨i0, hi, hz0, hz1, hz2⟩ := info_parts Tryd.info5
  have h' : ¬ (20000 : Int) < (s.size : Int) := by omega
  go_enter Tryd.func51, Tryd.ntmps51
  go_wp2
  go_loopw [4, 5] (fun v i wr => ∃ k : Nat, k ≤ s.size ∧ i = .int .i64 k ∧ wr.ownsRow w.heap.size 5 1 v (2 * k) ((hexN (nums (tk s 0 k))).map (Value.int .u8)) ∧ Below w.heap.size w wr)
    (fun _ i _ => s.size - (intOf i).toNat)
  case atStart => exact ⟨0, Nat.zero_le _, rfl, World.ownsRow_made _ _ _ (Nat.le_refl _) (by decide) rfl, (Below.refl _ _).alloc (Nat.le_refl _) _⟩
  case round =>
    obtain ⟨k, hk, rfl, hown, hbel⟩ := hrel
    have hg := get_bt s
    by_cases hlt : k < s.size
    · have hb0 := bt_nonneg s k
      have hb1 := bt_le s k
      have hi0 : (0 : Int) ≤ (k : Int) := by omega
      have hi1 : (k : Int) < (s.size : Int) := by omega
      have hbw : IntKind.i64.wrap (bt s k) = bt s k := IntWalk.i64_in _ ⟨by omega, by omega⟩
      have hqt := tdiv16i hb0 hb1
      have hrt := tmod16 hb0
      have hqq : InHex (bt s k / 16) := ⟨by omega, by omega⟩
      have hrr : InHex (bt s k % 16) := ⟨by omega, by omega⟩
      have hsz := hbel.size
      go_wp2
      go_region_held3 (fun _ => True) (trivial) (first | (go_at_call 65; refine (figure_of _ _ ?_).mono ?_; (first | exact hqq | exact hrr); rintro e w' ⟨rfl, rfl⟩) | (refine step_append_lies _ (by rfl) _ _ _ (by rfl) w.heap.size 5 i0 _ 1 1 Tryd.underlying22 hi hz0 hz1 hz2 rfl (by omega) _ (2 * k) _ (by rfl) ((hown.alloc _).drew) ⟨wr.heap.size, 0, none⟩ 2 2 [.int .u8 (fig (bt s k / 16)), .int .u8 (fig (bt s k % 16))] (by rfl) (by rfl) (World.news_of_block (cs := #[.int .u8 (fig (bt s k / 16)), .int .u8 (fig (bt s k % 16))]) (t := 5) (fr := (0, 0)) (heap_alloc_new wr _)) (by simp [Value.oneCell']) (by omega) (by unfold maxLen; omega) (by omega) (by simp; omega) (wr.heap.size + 1) (by simp) ?_; intro gg cap w1 hown1 hgrow hat hgl))
      all_goals
        have hB := below_app2 hown hbel hsz hgrow
        have ho := own_hex hlt hown1
        clear hown1 hgrow hat hgl hown hbel hqt hrt
        go_wp2
        go_roundw
        case rel => exact ⟨k + 1, by omega, by go_num, ho, hB⟩
        case measure => simp [intOf]; omega
    · obtain rfl : k = s.size := by omega
      have hc := conv_own wr 22 9 5 Tryd.underlying22 Tryd.underlying5 Tryd.underlying9 (P := Tryd.prog) hown
      go_wp2
      go_ret2
      exact ⟨rfl, hbel⟩
end Go.Proofs.YtpnklgidbgjmbaaDoor
