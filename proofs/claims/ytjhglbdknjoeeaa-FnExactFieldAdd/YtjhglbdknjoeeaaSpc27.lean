/- The specification's numbers of a curve (chapter 27): l27Sum, l27Diff. -/
import Derived.Test.YtjhglbdknjoeeaaLessP
import Derived.Test.YtjhglbdknjoeeaaRowS
import Derived.Test.YtjhglbdknjoeeaaCar27
import Derived.Laws.OwnMore
import Derived.Laws.MakeOwn
import Derived.Deep.QuietTactic
import Derived.BigQuiet
import Derived.WalkKit
import Derived.WalkLawsBesides
import Derived.WalkSpells
import Derived.BigRegion
import Derived.Laws.ShiftsVar
import Derived.Lib.Strings
import Derived.Below
import Derived.OwnWalk
import Derived.PlainAid
import Derived.Great.Walk
namespace Go.Proofs.Ytjhglbdknjoeeaa
open Go.RowKit Go.PlainAid
set_option maxRecDepth 20000
set_option linter.unusedVariables false
set_option linter.unusedSimpArgs false
/-- The first k places done, the others 0. -/
def fillTo (z : List Int) (k : Nat) : List Int := z.take k ++ List.replicate (16 - k) 0
theorem fillTo_zero {z : List Int} (h : z.length = 16) : fillTo z 0 = List.replicate 16 0 := rfl
theorem fillTo_all {z : List Int} (h : z.length = 16) : fillTo z 16 = z := by
  unfold fillTo
  rw [List.take_of_length_le (by omega)]; simp
theorem fillTo_next {z : List Int} (h : z.length = 16) {k : Nat} (hk : k < 16) : (fillTo z k).set k (z.getD k 0) = fillTo z (k + 1) := by
  unfold fillTo
  have ht : (z.take k).length = k := by rw [List.length_take]; omega
  rw [show 16 - k = (16 - (k + 1)) + 1 by omega, List.replicate_succ, List.set_append_right _ _ (by rw [ht]; omega), ht, Nat.sub_self, take_snoc (by omega)]
  simp
set_option maxHeartbeats 1600000 in
theorem sl27Sum_any (a b : Option Addr) (ca cb : Nat) (l m : List Int) (w : World) (hl : l.length = 16) (hm : m.length = 16) (ra : RowI w.heap.size w a l) (rb : RowI w.heap.size w b m) (bl : within (-LIM) LIM l) (bm : within (-LIM) LIM m) :
    Calls Try.prog 69 #[.slice a 16 ca, .slice b 16 cb] w fun e w' => ∃ g cap, e = .returned (.slice (some ⟨g, 0, none⟩) 16 cap) ∧ RowS w.heap.size w' g 16 cap (zipA (fun x y => 1 * x + 1 * y) l m) ∧ Below w.heap.size w w' := by
  obtain ⟨i0, hi, hz0, hz1, hz2⟩ := info_parts infoIntS
  have RA : Hid (RowI w.heap.size w a l) := ra
  have RB : Hid (RowI w.heap.size w b m) := rb
  have hlm : l.length = m.length := by omega
  obtain ⟨b1, o1, rfl⟩ := ra.addr (show 0 < l.length by omega)
  obtain ⟨b2, o2, rfl⟩ := rb.addr (show 0 < m.length by omega)
  clear ra rb
  have HBL : Hid (within (-LIM) LIM l) := bl
  have HBM : Hid (within (-LIM) LIM m) := bm
  clear bl bm
  go_enter Try.func69, Try.ntmps69
  go_wp2_with (at_make; refine wpList_make_full _ rfl _ _ 24 rfl w.heap.size 3 i0 (.int .i64 0) 1 Try.underlying24 hi hz0 hz1 .i64 .i64 _ _ 16 rfl rfl rfl rfl (by rw [hz2]; omega) (by unfold maxLen; omega) (Nat.le_refl _) ?_; intro w2 hown2 hgrow2)
  have hB2 : Below w.heap.size w w2 := (Below.refl _ _).grown hgrow2 (Nat.le_refl _) (by simp)
  rw [made_ints] at hown2
  have HO : Hid (RowS w.heap.size w2 w.heap.size 16 16 (List.replicate 16 0)) := hown2
  have HB : Hid (Below w.heap.size w w2) := hB2
  clear hown2 hgrow2 hB2
  have hzl : (zipA (fun x y => 1 * x + 1 * y) l m).length = 16 := by rw [zipA_len _ hlm, hl]
  go_loopw [6] (fun i wr => ∃ k : Nat, k ≤ 16 ∧ i = .int .i64 (k : Int) ∧ Hid (Below w.heap.size w wr) ∧ Hid (RowS w.heap.size wr w.heap.size 16 16 (fillTo (zipA (fun x y => 1 * x + 1 * y) l m) k)))
    (fun i _ => 16 - (intOf i).toNat)
  case atStart => exact ⟨0, Nat.zero_le _, rfl, HB, by show RowS _ _ _ _ _ _; rw [fillTo_zero hzl]; exact HO.out⟩
  case round =>
    clear HB HO
    obtain ⟨k, hk, rfl, HB, HO⟩ := hrel
    by_cases hlt : k < 16
    · have hi0 : (0 : Int) ≤ (k : Int) := by omega
      have hi1 : (k : Int) < 16 := by omega
      have c1 := (RA.out.at HB.out (show k < l.length by omega)).2
      have c2 := (RB.out.at HB.out (show k < m.length by omega)).2
      have c3 := HO.out.cell hlt
      have z3 := HO.out.froz k
      have hb1 := HBL.out k (by omega)
      have hb2 := HBM.out k (by omega)
      have hLIM : LIM = 140737488355328 := rfl
      rw [hLIM] at hb1 hb2
      have HN := fillTo_next hzl hlt
      rw [zipA_at _ k hlm (by omega)] at HN
      have HE : Hid (1 * l.getD k 0 + 1 * m.getD k 0 = l.getD k 0 + m.getD k 0) := by show _ = _; omega
      simp only [HE.out] at HN
      have hw : IntKind.i64.wrap (l.getD k 0 + m.getD k 0) = l.getD k 0 + m.getD k 0 := by rw [w64_wrap]; exact w64_id (by omega) (by omega)
      have HO2 : Hid (RowS w.heap.size (wr.setCell ⟨w.heap.size, k, none⟩ (.int .i64 (l.getD k 0 + m.getD k 0))) w.heap.size 16 16 (fillTo (zipA (fun x y => 1 * x + 1 * y) l m) (k + 1))) := by rw [← HN]; exact HO.out.set k _
      have HB2 : Hid (Below w.heap.size w (wr.setCell ⟨w.heap.size, k, none⟩ (.int .i64 (l.getD k 0 + m.getD k 0)))) := HB.out.setCell (Nat.le_refl _) _
      clear HN HE hb1 hb2 hLIM HO HB
      generalize l.getD k 0 = x at c1 hw HO2 HB2
      generalize m.getD k 0 = y at c2 hw HO2 HB2
      go_wp2
      go_region
      all_goals
        go_wp2
        go_roundw
        case rel => exact ⟨k + 1, by omega, by go_num, HB2.out.drew, RowS.drew HO2.out⟩
        case measure => simp [intOf]; omega
    · obtain rfl : k = 16 := by omega
      have hf := fillTo_all hzl
      rw [hf] at HO
      go_wp2
      go_ret
      exact ⟨_, _, rfl, HO.out, HB.out⟩
set_option maxHeartbeats 1600000 in
theorem sl27Diff_any (a b : Option Addr) (ca cb : Nat) (l m : List Int) (w : World) (hl : l.length = 16) (hm : m.length = 16) (ra : RowI w.heap.size w a l) (rb : RowI w.heap.size w b m) (bl : within (-LIM) LIM l) (bm : within (-LIM) LIM m) :
    Calls Try.prog 70 #[.slice a 16 ca, .slice b 16 cb] w fun e w' => ∃ g cap, e = .returned (.slice (some ⟨g, 0, none⟩) 16 cap) ∧ RowS w.heap.size w' g 16 cap (zipA (fun x y => 1 * x + (-1) * y) l m) ∧ Below w.heap.size w w' := by
  obtain ⟨i0, hi, hz0, hz1, hz2⟩ := info_parts infoIntS
  have RA : Hid (RowI w.heap.size w a l) := ra
  have RB : Hid (RowI w.heap.size w b m) := rb
  have hlm : l.length = m.length := by omega
  obtain ⟨b1, o1, rfl⟩ := ra.addr (show 0 < l.length by omega)
  obtain ⟨b2, o2, rfl⟩ := rb.addr (show 0 < m.length by omega)
  clear ra rb
  have HBL : Hid (within (-LIM) LIM l) := bl
  have HBM : Hid (within (-LIM) LIM m) := bm
  clear bl bm
  go_enter Try.func70, Try.ntmps70
  go_wp2_with (at_make; refine wpList_make_full _ rfl _ _ 24 rfl w.heap.size 3 i0 (.int .i64 0) 1 Try.underlying24 hi hz0 hz1 .i64 .i64 _ _ 16 rfl rfl rfl rfl (by rw [hz2]; omega) (by unfold maxLen; omega) (Nat.le_refl _) ?_; intro w2 hown2 hgrow2)
  have hB2 : Below w.heap.size w w2 := (Below.refl _ _).grown hgrow2 (Nat.le_refl _) (by simp)
  rw [made_ints] at hown2
  have HO : Hid (RowS w.heap.size w2 w.heap.size 16 16 (List.replicate 16 0)) := hown2
  have HB : Hid (Below w.heap.size w w2) := hB2
  clear hown2 hgrow2 hB2
  have hzl : (zipA (fun x y => 1 * x + (-1) * y) l m).length = 16 := by rw [zipA_len _ hlm, hl]
  go_loopw [6] (fun i wr => ∃ k : Nat, k ≤ 16 ∧ i = .int .i64 (k : Int) ∧ Hid (Below w.heap.size w wr) ∧ Hid (RowS w.heap.size wr w.heap.size 16 16 (fillTo (zipA (fun x y => 1 * x + (-1) * y) l m) k)))
    (fun i _ => 16 - (intOf i).toNat)
  case atStart => exact ⟨0, Nat.zero_le _, rfl, HB, by show RowS _ _ _ _ _ _; rw [fillTo_zero hzl]; exact HO.out⟩
  case round =>
    clear HB HO
    obtain ⟨k, hk, rfl, HB, HO⟩ := hrel
    by_cases hlt : k < 16
    · have hi0 : (0 : Int) ≤ (k : Int) := by omega
      have hi1 : (k : Int) < 16 := by omega
      have c1 := (RA.out.at HB.out (show k < l.length by omega)).2
      have c2 := (RB.out.at HB.out (show k < m.length by omega)).2
      have c3 := HO.out.cell hlt
      have z3 := HO.out.froz k
      have hb1 := HBL.out k (by omega)
      have hb2 := HBM.out k (by omega)
      have hLIM : LIM = 140737488355328 := rfl
      rw [hLIM] at hb1 hb2
      have HN := fillTo_next hzl hlt
      rw [zipA_at _ k hlm (by omega)] at HN
      have HE : Hid (1 * l.getD k 0 + (-1) * m.getD k 0 = l.getD k 0 - m.getD k 0) := by show _ = _; omega
      simp only [HE.out] at HN
      have hw : IntKind.i64.wrap (l.getD k 0 - m.getD k 0) = l.getD k 0 - m.getD k 0 := by rw [w64_wrap]; exact w64_id (by omega) (by omega)
      have HO2 : Hid (RowS w.heap.size (wr.setCell ⟨w.heap.size, k, none⟩ (.int .i64 (l.getD k 0 - m.getD k 0))) w.heap.size 16 16 (fillTo (zipA (fun x y => 1 * x + (-1) * y) l m) (k + 1))) := by rw [← HN]; exact HO.out.set k _
      have HB2 : Hid (Below w.heap.size w (wr.setCell ⟨w.heap.size, k, none⟩ (.int .i64 (l.getD k 0 - m.getD k 0)))) := HB.out.setCell (Nat.le_refl _) _
      clear HN HE hb1 hb2 hLIM HO HB
      generalize l.getD k 0 = x at c1 hw HO2 HB2
      generalize m.getD k 0 = y at c2 hw HO2 HB2
      go_wp2
      go_region
      all_goals
        go_wp2
        go_roundw
        case rel => exact ⟨k + 1, by omega, by go_num, HB2.out.drew, RowS.drew HO2.out⟩
        case measure => simp [intOf]; omega
    · obtain rfl : k = 16 := by omega
      have hf := fillTo_all hzl
      rw [hf] at HO
      go_wp2
      go_ret
      exact ⟨_, _, rfl, HO.out, HB.out⟩
end Go.Proofs.Ytjhglbdknjoeeaa
