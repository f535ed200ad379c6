/- '==' on Leases; laws.sameLeases, at two rows that are the same. -/
import Derived.Test.YtclnhjkmhemebaaRowLs
import Derived.Test.YtclnhjkmhemebaaRowB
import Derived.WalkKit
import Derived.WalkLawsBesides
import Derived.WalkSpells
import Derived.Laws.Rows
import Derived.Laws.StructEq
import Derived.Deep.QuietTactic
import Derived.BigQuiet
namespace Go.Proofs.Ytclnhjkmhemebaa
open Go.RowKit
set_option linter.unusedVariables false
theorem lsFields : Try.prog.underlying 103 = some (.struct (Try.prog.fieldsOf 103)) := by kernel_rfl
theorem lsHeld : Try.prog.stoodInHeld 103 = false := by kernel_rfl
theorem lsGuard : Try.prog.eqGuardType Try.prog.depth 103 = false := by kernel_rfl
theorem ls_eql (x y : Ls) (w : World) : (Op.equalIn 10000 103 (.agg #[.int .i64 x.p, .int .i64 x.c]) (.agg #[.int .i64 y.p, .int .i64 y.c])).run Try.prog w = .ok (decide (x = y)) w := by
  rw [show (10000 : Nat) = 9999 + 1 from rfl, run_equalIn_agg _ _ _ _ _ lsFields lsHeld]
  simp only [Program.fieldsOf, Try.underlying103]
  have e := ls_eq x y
  by_cases h0 : x.p = y.p <;> by_cases h1 : x.c = y.c <;> go_simp <;> simp [e, h0, h1]
set_option maxHeartbeats 800000 in
theorem sameLs_same (a b : Option Addr) (ca cb : Nat) (ns : List Ls) (w : World) (hl : ns.length ≤ 2097152) (hra : RowLs w.heap.size w a ns) (hrb : RowLs w.heap.size w b ns) :
    Calls Try.prog 24 #[.slice a ns.length ca, .slice b ns.length cb] w fun e w' => e = .returned (.bool true) ∧ Below w.heap.size w w' := by
  have HRA : Hid (RowLs w.heap.size w a ns) := hra
  have HRB : Hid (RowLs w.heap.size w b ns) := hrb
  clear hra hrb
  go_enter Try.func24, Try.ntmps24
  go_wp2
  go_loopw [5] (fun i wr => ∃ k : Nat, k ≤ ns.length ∧ i = .int .i64 (k : Int) ∧ Below w.heap.size w wr)
    (fun i _ => ns.length - (intOf i).toNat)
  case atStart => exact ⟨0, Nat.zero_le _, rfl, Below.refl _ _⟩
  case round =>
    obtain ⟨k, hk, rfl, hbel⟩ := hrel
    by_cases hlt : k < ns.length
    · obtain ⟨ab, aoff, rfl⟩ := HRA.out.addr hlt
      obtain ⟨bb, boff, rfl⟩ := HRB.out.addr hlt
      obtain ⟨hb, c0, c1⟩ := HRA.out.at hbel hlt
      obtain ⟨hb', d0, d1⟩ := HRB.out.at hbel hlt
      have hi0 : (0 : Int) ≤ (k : Int) := by omega
      have hi1 : (k : Int) < (ns.length : Int) := by omega
      generalize ns.getD k Ls.zero = y at c0 d0 c1 d1
      have hgd := lsGuard
      have hel := ls_eql y y
      have hdy : decide (y = y) = true := by simp
      go_wp2
      go_quiet (fail)
      go_wp2
      go_roundw
      case rel => exact ⟨k + 1, by omega, by go_num, below_dnB hbel _⟩
      case measure => simp [intOf]; omega
    · obtain rfl : k = ns.length := by omega
      go_wp2
      go_ret
      exact ⟨rfl, hbel⟩
end Go.Proofs.Ytclnhjkmhemebaa
