/- The specification's numbers of a curve (chapter 27): l27Carry. -/
import Derived.Test.YtjhglbdknjoeeaaScoP
import Derived.Test.YtjhglbdknjoeeaaRowS
import Derived.Test.YtjhglbdknjoeeaaCar27
import Derived.Test.YtjhglbdknjoeeaaSpc27
import Derived.Laws.OwnMore
import Derived.Laws.MakeOwn
import Derived.Deep.QuietTactic
import Derived.BigQuiet
import Derived.WalkKit
import Derived.WalkLawsBesides
import Derived.WalkSpells
import Derived.BigRegion
import Derived.Laws.ShiftsVar
import Derived.Lib.Strings
import Derived.Below
import Derived.OwnWalk
import Derived.PlainAid
import Derived.Great.Walk
namespace Go.Proofs.Ytjhglbdknjoeeaa
open Go.RowKit Go.PlainAid
set_option maxRecDepth 20000
set_option linter.unusedVariables false
set_option linter.unusedSimpArgs false
set_option maxHeartbeats 1600000 in
theorem scarry_any (B g cap : Nat) (l : List Int) (w : World) (h : RowS B w g 16 cap l) (bl : within (-LIM) LIM l) :
    Calls Try.prog 95 #[.slice (some ⟨g, 0, none⟩) 16 cap] w fun e w' => e = .returned (.tuple #[]) ∧ RowS B w' g 16 cap (scar l) ∧ w.grownBy w' (some g) := by
  have hl := h.len
  have HBL : Hid (within (-LIM) LIM l) := bl
  have H0 : Hid (RowS B w g 16 cap (sck l 0)) := by show RowS _ _ _ _ _ _; rw [(sck_start l).1]; exact h
  have hgB := h.lt.1
  clear h bl
  go_enter Try.func95, Try.ntmps95
  go_wp2
  go_loopw [2] (fun i wr => ∃ k : Nat, k ≤ 16 ∧ i = .int .i64 (k : Int) ∧ Hid (w.grownBy wr (some g)) ∧ Hid (RowS B wr g 16 cap (if k = 16 then scar l else sck l k)))
    (fun i _ => 16 - (intOf i).toNat)
  case atStart => exact ⟨0, Nat.zero_le _, rfl, gb_refl _ _, H0⟩
  case round =>
    clear H0
    obtain ⟨k, hk, rfl, HG, HR⟩ := hrel
    by_cases hlt : k < 16
    · rw [if_neg (by omega)] at HR
      have hi0 : (0 : Int) ≤ (k : Int) := by omega
      have hi1 : (k : Int) < 16 := by omega
      have c1 := HR.out.cell hlt
      rw [sck_at hl hlt] at c1
      have z1 := HR.out.froz k
      have hx := HBL.out k (by omega)
      have hc := sco_bd hl HBL.out k (by omega)
      have hLIM : LIM = 140737488355328 := rfl
      rw [hLIM] at hx hc
      have hw1 : IntKind.i64.wrap (l.getD k 0 + sco l k + 65536) = l.getD k 0 + sco l k + 65536 := by rw [w64_wrap]; exact w64_id (by omega) (by omega)
      have hqq : (l.getD k 0 + sco l k + 65536) / 65536 = (l.getD k 0 + sco l k) / 65536 + 1 := by omega
      have hsh : IntKind.i64.wrap (((l.getD k 0 + sco l k) / 65536 + 1) * 65536) = ((l.getD k 0 + sco l k) / 65536 + 1) * 65536 := by rw [w64_wrap]; exact w64_id (by omega) (by omega)
      have hmod : IntKind.i64.wrap (l.getD k 0 + sco l k + 65536 - ((l.getD k 0 + sco l k) / 65536 + 1) * 65536) = (l.getD k 0 + sco l k) % 65536 := by rw [w64_wrap, w64_id (by omega) (by omega)]; omega
      by_cases h15 : k < 15
      · have hi2 : (k : Int) < 15 := by omega
        have hk1 : ((k : Int) + 1) = ((k + 1 : Nat) : Int) := by omega
        have hwk : IntKind.i64.wrap ((k : Int) + 1) = ((k + 1 : Nat) : Int) := by rw [← hk1, w64_wrap]; exact w64_id (by omega) (by omega)
        have hk0 : (0 : Int) ≤ ((k + 1 : Nat) : Int) := by omega
        have hk2 : ((k + 1 : Nat) : Int) < 16 := by omega
        have c2 := HR.out.cell (i := k + 1) (by omega)
        rw [sck_next hl h15] at c2
        have z2 := HR.out.froz (k + 1)
        have hn := HBL.out (k + 1) (by omega)
        rw [hLIM] at hn
        have hw2 : IntKind.i64.wrap (l.getD (k + 1) 0 + ((l.getD k 0 + sco l k) / 65536 + 1)) = l.getD (k + 1) 0 + ((l.getD k 0 + sco l k) / 65536 + 1) := by rw [w64_wrap]; exact w64_id (by omega) (by omega)
        have hw3 : IntKind.i64.wrap (l.getD (k + 1) 0 + ((l.getD k 0 + sco l k) / 65536 + 1) - 1) = l.getD (k + 1) 0 + (l.getD k 0 + sco l k) / 65536 := by rw [w64_wrap, w64_id (by omega) (by omega)]; omega
        have HT : Hid _ := ((HR.out.set k (l.getD k 0 + sco l k + 65536)).set (k + 1) (l.getD (k + 1) 0 + (l.getD k 0 + sco l k) / 65536)).set k ((l.getD k 0 + sco l k) % 65536)
        have HGT : Hid _ := gb_set (gb_set (gb_set HG.out k (.int .i64 (l.getD k 0 + sco l k + 65536))) (k + 1) (.int .i64 (l.getD (k + 1) 0 + (l.getD k 0 + sco l k) / 65536))) k (.int .i64 ((l.getD k 0 + sco l k) % 65536))
        rw [sck_step hl h15] at HT
        have hne : ¬ k = k + 1 := by omega
        have hne2 : ¬ k + 1 = k := by omega
        clear HR HG hx hc hLIM hn hk1
        generalize l.getD k 0 + sco l k = y at c1 hw1 hqq hsh hmod hw2 hw3 HT HGT
        generalize l.getD (k + 1) 0 = y2 at c2 hw2 hw3 HT HGT
        generalize y % 65536 = ym at hmod HT HGT
        generalize y / 65536 = yq at hqq hsh hmod hw2 hw3 HT HGT
        go_wp2
        go_roundw
        case rel => exact ⟨k + 1, by omega, by go_num, HGT, by rw [if_neg (by omega)]; exact HT⟩
        case measure => simp [intOf]; omega
      · obtain rfl : k = 15 := by omega
        have c2 := HR.out.cell (i := 0) (by omega)
        have z2 := HR.out.froz 0
        have hh := sck_head hl
        have hL := sck_last hl (l.getD 15 0 + sco l 15 + 65536)
        have hw2 : IntKind.i64.wrap ((l.getD 15 0 + sco l 15) / 65536 + 1 - 1) = (l.getD 15 0 + sco l 15) / 65536 := by rw [w64_wrap, w64_id (by omega) (by omega)]; omega
        have hw2b : IntKind.i64.wrap ((l.getD 15 0 + sco l 15) / 65536) = (l.getD 15 0 + sco l 15) / 65536 := by rw [w64_wrap]; exact w64_id (by omega) (by omega)
        have hw3 : IntKind.i64.wrap (38 * ((l.getD 15 0 + sco l 15) / 65536)) = 38 * ((l.getD 15 0 + sco l 15) / 65536) := by rw [w64_wrap]; exact w64_id (by omega) (by omega)
        have hw4 : IntKind.i64.wrap ((sck l 15).getD 0 0 + 38 * ((l.getD 15 0 + sco l 15) / 65536)) = (sck l 15).getD 0 0 + 38 * ((l.getD 15 0 + sco l 15) / 65536) := by rw [w64_wrap]; exact w64_id (by omega) (by omega)
        have HT : Hid _ := ((HR.out.set 15 (l.getD 15 0 + sco l 15 + 65536)).set 0 ((sck l 15).getD 0 0 + 38 * ((l.getD 15 0 + sco l 15) / 65536))).set 15 ((l.getD 15 0 + sco l 15) % 65536)
        have HGT : Hid _ := gb_set (gb_set (gb_set HG.out 15 (.int .i64 (l.getD 15 0 + sco l 15 + 65536))) 0 (.int .i64 ((sck l 15).getD 0 0 + 38 * ((l.getD 15 0 + sco l 15) / 65536)))) 15 (.int .i64 ((l.getD 15 0 + sco l 15) % 65536))
        rw [hL] at HT
        clear HR HG hx hc hLIM hh hL
        generalize (sck l 15).getD 0 0 = hd at c2 hw4 HT HGT
        generalize l.getD 15 0 + sco l 15 = y at c1 hw1 hqq hsh hmod hw2 hw2b hw3 hw4 HT HGT
        generalize y % 65536 = ym at hmod HT HGT
        generalize y / 65536 = yq at hqq hsh hmod hw2 hw2b hw3 hw4 HT HGT
        go_wp2
        go_roundw
        case rel => exact ⟨16, by omega, rfl, HGT, by rw [if_pos rfl]; exact HT⟩
        case measure => simp [intOf]
    · obtain rfl : k = 16 := by omega
      rw [if_pos rfl] at HR
      go_wp2
      go_end0
      exact ⟨rfl, HR.out, HG.out⟩
end Go.Proofs.Ytjhglbdknjoeeaa
