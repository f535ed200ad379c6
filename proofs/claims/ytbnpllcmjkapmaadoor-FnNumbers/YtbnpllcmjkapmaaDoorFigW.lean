/- The contract of the program's own reader of figures (chapter 1), for both bases. -/
import Derived.Test.YtbnpllcmjkapmaaDoorProg
import Derived.Test.YtbnpllcmjkapmaaDoorPlainRead
import Derived.Test.YtbnpllcmjkapmaaDoorPlain
import Derived.WalkKit
import Derived.WalkMore
import Derived.WalkLawsBesides
import Derived.WalkSpells
namespace Go.Proofs.YtbnpllcmjkapmaaDoor
open Go.RowKit Go.PlainAid
theorem Tryd.info3 : (Tryd.prog.info? 3).map (fun i => (i.zero, i.size, i.bytes)) = some (some (.int .i64 0), 1, 8) := by kernel_rfl

/-- What a figure is worth; -1 where it is none. -/
def hvb (base x : Int) : Int := if 48 ≤ x ∧ x ≤ 57 then x - 48 else if base = 16 ∧ 97 ≤ x ∧ x ≤ 102 then x - 87 else -1
theorem hvb_dig {base x : Int} (h0 : 48 ≤ x) (h1 : x ≤ 57) : hvb base x = x - 48 := by unfold hvb; rw [if_pos ⟨h0, h1⟩]
theorem hvb_let {x : Int} (h0 : 97 ≤ x) (h1 : x ≤ 102) : hvb 16 x = x - 87 := by unfold hvb; rw [if_neg (by omega), if_pos ⟨rfl, h0, h1⟩]
theorem hvb_no {base x : Int} (h : ¬ (48 ≤ x ∧ x ≤ 57)) (h' : ¬ (base = 16 ∧ 97 ≤ x ∧ x ≤ 102)) : hvb base x = -1 := by unfold hvb; rw [if_neg h, if_neg h']

/-- The values of the first k bytes. -/
def vals (base : Int) (s : ByteArray) (k : Nat) : List Int := (List.range k).map fun j => hvb base (bt s j)
theorem vals_succ (base : Int) (s : ByteArray) (k : Nat) : vals base s (k + 1) = vals base s k ++ [hvb base (bt s k)] := by
  unfold vals; rw [List.range_succ, List.map_append, List.map_singleton]
theorem vals_len (base : Int) (s : ByteArray) (k : Nat) : (vals base s k).length = k := by simp [vals]

def AllFig (base : Int) (s : ByteArray) : Prop := ∀ k, k < s.size → 0 ≤ hvb base (bt s k)

theorem own_val {B : Nat} {w : World} {v : Value} {e k : Nat} {base x : Int} {s : ByteArray} (hx : hvb base (bt s k) = x) (h : w.ownsRow B e 1 v (k + 1) ((vals base s k).map (Value.int .i64) ++ [.int .i64 x])) :
    w.ownsRow B e 1 v (k + 1) ((vals base s (k + 1)).map (Value.int .i64)) := by
  rw [vals_succ, List.map_append, hx]; exact h

theorem own_form {B : Nat} {w : World} {v : Value} {e size n : Nat} {xs : List Value} (h : w.ownsRow B e size v n xs) : ∃ a cap, v = .slice a n cap := by
  rcases h.2 with ⟨rfl, rfl⟩ | ⟨g, cap, cur, rfl, _⟩
  · exact ⟨none, 0, rfl⟩
  · exact ⟨_, cap, rfl⟩

set_option maxHeartbeats 800000 in
theorem figures_any (s : ByteArray) (base : Int) (w : World) (hs : s.size ≤ 1048576) (hbase : base = 10 ∨ base = 16) :
    Calls Tryd.prog 18 #[.string s, .int .i64 base] w fun e w' =>
      ((∃ v, e = .returned (.tuple #[v, .bool true]) ∧ w'.ownsRow w.heap.size 3 1 v s.size ((vals base s s.size).map (Value.int .i64))) ∧ AllFig base s ∨ e = .returned (.tuple #[.slice none 0 0, .bool false]) ∧ ¬ AllFig base s) ∧ Below w.heap.size w w' := by
  obtain ⟨i0, hi, hz0, hz1, hz2⟩ := info_parts Tryd.info3
  have HBA : Hid (base = 10 ∨ base = 16) := hbase
  clear hbase
  go_enter Tryd.func18, Tryd.ntmps18
  go_wp2
  go_step3
  go_wp2_with (at_make; refine wpList_make_own _ rfl _ _ 40 rfl w.heap.size 3 i0 (.int .i64 0) 1 Tryd.underlying40 hi hz0 hz1 .i64 .i64 _ s.size rfl rfl (by omega) (by rw [hz2]; omega) (by unfold maxLen; omega) (Nat.le_refl _) ?_; intro w0 hown0 hgrow0)
  go_step3
  go_wp2
  have hb0 : Below w.heap.size w w0 := (Below.refl _ _).grown hgrow0 (Nat.le_refl _) (by simp)
  clear hgrow0
  go_loopw [6, 7] (fun v i wr => ∃ k : Nat, k ≤ s.size ∧ i = .int .i64 k ∧ wr.ownsRow w.heap.size 3 1 v k ((vals base s k).map (Value.int .i64)) ∧ Below w.heap.size w wr ∧ ∀ j, j < k → 0 ≤ hvb base (bt s j))
    (fun _ i _ => s.size - (intOf i).toNat)
  case atStart => exact ⟨0, Nat.zero_le _, rfl, hown0, hb0, fun j hj => absurd hj (by omega)⟩
  case round =>
    obtain ⟨k, hk, rfl, hown, hbel, hall⟩ := hrel
    have HA : Hid (∀ j, j < k → 0 ≤ hvb base (bt s j)) := hall
    clear hall
    have hg := get_bt s
    have hsz := hbel.size
    by_cases hlt : k < s.size
    · have hb0 := bt_nonneg s k
      have hb1 := bt_le s k
      by_cases hd : 48 ≤ bt s k ∧ bt s k ≤ 57
      · obtain ⟨hd0, hd1⟩ := hd
        go_wp2_with (at_builtin; refine wpList_append_own _ rfl _ _ 40 rfl w.heap.size 3 i0 (.int .i64 0) 1 8 Tryd.underlying40 hi hz0 hz1 hz2 rfl (by decide) _ _ _ rfl (hown.alloc _) ⟨wr.heap.size, 0, none⟩ 1 1 [.int .i64 (bt s k - 48)] rfl rfl ?c1 ?c2 ?c3 ?c4 ?c5 ?_)
        case c1 => exact cell_one_new _ _ _
        case c2 => intro u hu; simp at hu; subst hu; rfl
        case c3 => unfold maxLen; omega
        case c4 => omega
        case c5 => simp; omega
        · intro v' w1 hown' hgrow _
          have hB := below_app hown hbel hsz hgrow
          have ho := own_val (hvb_dig hd0 hd1) hown'
          have HA' : Hid (∀ j, j < k + 1 → 0 ≤ hvb base (bt s j)) := fun j hj => by
            by_cases e : j = k
            · rw [e, (hvb_dig hd0 hd1)]; omega
            · exact HA.out j (by omega)
          clear hown' hgrow hown hbel HA
          go_wp2
          go_roundw
          case rel => exact ⟨k + 1, by omega, by go_num, ho, hB, HA'.out⟩
          case measure => simp [intOf]; omega
      · have hnd : Hid (¬ (48 ≤ bt s k ∧ bt s k ≤ 57)) := hd
        by_cases hl : base = 16 ∧ 97 ≤ bt s k ∧ bt s k ≤ 102
        · obtain ⟨rfl, hl0, hl1⟩ := hl
          have hd2 : decide (bt s k ≤ 57) = false := by simp; omega
          go_wp2_with (at_builtin; refine wpList_append_own _ rfl _ _ 40 rfl w.heap.size 3 i0 (.int .i64 0) 1 8 Tryd.underlying40 hi hz0 hz1 hz2 rfl (by decide) _ _ _ rfl (hown.alloc _) ⟨wr.heap.size, 0, none⟩ 1 1 [.int .i64 (bt s k - 97 + 10)] rfl rfl ?c1l ?c2l ?c3l ?c4l ?c5l ?_)
          case c2l => first | rfl | (intro u hu; simp at hu; subst hu; rfl)
          case c3l => unfold maxLen; omega
          case c4l => omega
          case c5l => first | omega | (simp; omega)
          · intro v' w1 hown' hgrow _
            have hB := below_app hown hbel hsz hgrow
            have ho := own_val (show hvb 16 (bt s k) = bt s k - 97 + 10 by rw [hvb_let hl0 hl1]; omega) hown'
            have HA' : Hid (∀ j, j < k + 1 → 0 ≤ hvb 16 (bt s j)) := fun j hj => by
              by_cases e : j = k
              · rw [e, (show hvb 16 (bt s k) = bt s k - 97 + 10 by rw [hvb_let hl0 hl1]; omega)]; omega
              · exact HA.out j (by omega)
            clear hown' hgrow hown hbel HA
            go_wp2
            go_roundw
            case rel => exact ⟨k + 1, by omega, by go_num, ho, hB, HA'.out⟩
            case measure => simp [intOf]; omega
        · have hno : ¬ AllFig base s := fun hA => by
            have h1 := hA k hlt
            rw [hvb_no hd hl] at h1; omega
          obtain ⟨av, cap, rfl⟩ := own_form hown
          clear HA
          rcases HBA.out with h10 | h16
          · have hb16 : (base == 16) = false := by rw [h10]; rfl
            by_cases hd3 : 48 ≤ bt s k
            · have hd2 : decide (bt s k ≤ 57) = false := by simp; omega
              clear hl hd h10
              go_wp2
              (try rw [Exit.noGoto_ret])
              go_ret2
              exact ⟨Or.inr ⟨rfl, hno⟩, hbel⟩
            · have hd2 : decide (48 ≤ bt s k) = false := by simp; omega
              clear hl hd h10
              go_wp2
              (try rw [Exit.noGoto_ret])
              go_ret2
              exact ⟨Or.inr ⟨rfl, hno⟩, hbel⟩
          · subst h16
            by_cases hd3 : 48 ≤ bt s k
            · have hd2 : decide (bt s k ≤ 57) = false := by simp; omega
              by_cases hd4 : 97 ≤ bt s k
              · have hd5 : decide (bt s k ≤ 102) = false := by simp; omega
                clear hl hd
                go_wp2
                (try rw [Exit.noGoto_ret])
                go_ret2
                exact ⟨Or.inr ⟨rfl, hno⟩, hbel⟩
              · have hd5 : decide (97 ≤ bt s k) = false := by simp; omega
                clear hl hd
                go_wp2
                (try rw [Exit.noGoto_ret])
                go_ret2
                exact ⟨Or.inr ⟨rfl, hno⟩, hbel⟩
            · have hd2 : decide (48 ≤ bt s k) = false := by simp; omega
              have hd5 : decide (97 ≤ bt s k) = false := by simp; omega
              clear hl hd
              go_wp2
              (try rw [Exit.noGoto_ret])
              go_ret2
              exact ⟨Or.inr ⟨rfl, hno⟩, hbel⟩
    · obtain rfl : k = s.size := by omega
      obtain ⟨av, cap, rfl⟩ := own_form hown
      go_wp2
      (try rw [Exit.noGoto_ret])
      go_ret2
      exact ⟨Or.inl ⟨⟨_, rfl, hown⟩, HA.out⟩, hbel⟩
end Go.Proofs.YtbnpllcmjkapmaaDoor
