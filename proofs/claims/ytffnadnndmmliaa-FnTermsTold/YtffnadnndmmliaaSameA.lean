/- laws.sameArena, at two arenas that are the same. -/
import Derived.Test.YtffnadnndmmliaaTermAt
import Derived.WalkKit
import Derived.WalkLawsBesides
import Derived.WalkSpells
import Derived.Laws.Rows
namespace Go.Proofs.Ytffnadnndmmliaa
open Go.RowKit
set_option linter.unusedVariables false
set_option maxHeartbeats 800000 in
theorem sameA_same (a b : Option Addr) (ca cb : Nat) (ns : List Nd) (w : World) (hl : ns.length ≤ 1048576) (hra : RowN w.heap.size w a ns) (hrb : RowN w.heap.size w b ns) :
    Calls Try.prog 29 #[.agg #[.slice a ns.length ca], .agg #[.slice b ns.length cb]] w fun e w' => e = .returned (.bool true) ∧ Below w.heap.size w w' := by
  have HRA : Hid (RowN w.heap.size w a ns) := hra
  have HRB : Hid (RowN w.heap.size w b ns) := hrb
  clear hra hrb
  have hb0 : Below w.heap.size w (w.alloc (.cells #[.slice a ns.length ca] 28)) := (Below.refl _ _).alloc (Nat.le_refl _) _
  have HB1 : Hid (Below w.heap.size w ((w.alloc (.cells #[.slice a ns.length ca] 28)).alloc (.cells #[.slice b ns.length cb] 28))) := hb0.alloc hb0.size _
  have HA1 : Hid (((w.alloc (.cells #[.slice a ns.length ca] 28)).alloc (.cells #[.slice b ns.length cb] 28)).cell? ⟨w.heap.size, 0, none⟩ = some (.slice a ns.length ca)) := (cell_of_row _ _ 0 _ _ _ ((heap_alloc_old _ _ (by simp)).trans (heap_alloc_new w _))).trans rfl
  have HA2 : Hid (((w.alloc (.cells #[.slice a ns.length ca] 28)).alloc (.cells #[.slice b ns.length cb] 28)).cell? ⟨w.heap.size + 1, 0, none⟩ = some (.slice b ns.length cb)) := by
    have h := heap_alloc_new (w.alloc (.cells #[.slice a ns.length ca] 28)) (.cells #[.slice b ns.length cb] 28)
    rw [show (w.alloc (.cells #[.slice a ns.length ca] 28)).heap.size = w.heap.size + 1 by simp] at h
    exact (cell_of_row _ _ 0 _ _ _ h).trans rfl
  clear hb0
  go_enter Try.func29, Try.ntmps29
  go_wp2
  go_loopw [5] (fun i wr => ∃ k : Nat, k ≤ ns.length ∧ i = .int .i64 (k : Int) ∧ Below w.heap.size w wr ∧ wr.cell? ⟨w.heap.size, 0, none⟩ = some (.slice a ns.length ca) ∧ wr.cell? ⟨w.heap.size + 1, 0, none⟩ = some (.slice b ns.length cb))
    (fun i _ => ns.length - (intOf i).toNat)
  case atStart => exact ⟨0, Nat.zero_le _, rfl, HB1.out, HA1.out, HA2.out⟩
  case round =>
    obtain ⟨k, hk, rfl, hbel, e0, e1⟩ := hrel
    by_cases hlt : k < ns.length
    · obtain ⟨ab, aoff, rfl⟩ := HRA.out.addr hlt
      obtain ⟨bb, boff, rfl⟩ := HRB.out.addr hlt
      obtain ⟨hb, c0, c1, c2, c3⟩ := HRA.out.at hbel hlt
      obtain ⟨hb', d0, d1, d2, d3⟩ := HRB.out.at hbel hlt
      have hi0 : (0 : Int) ≤ (k : Int) := by omega
      have hi1 : (k : Int) < (ns.length : Int) := by omega
      generalize ns.getD k Nd.zero = y at c0 c1 c2 c3 d0 d1 d2 d3
      have hgd := nodeGuard
      have hel := node_eql y y
      have hdy : decide (y = y) = true := by simp
      have HE0 : Hid (wr.cell? ⟨w.heap.size, 0, none⟩ = some (.slice (some ⟨ab, aoff, none⟩) ns.length ca)) := e0
      have HE1 : Hid (wr.cell? ⟨w.heap.size + 1, 0, none⟩ = some (.slice (some ⟨bb, boff, none⟩) ns.length cb)) := e1
      go_wp2
      go_quiet (fail)
      go_wp2
      go_roundw
      case rel => exact ⟨k + 1, by omega, by go_num, below_dn hbel _, HE0.out, HE1.out⟩
      case measure => simp [intOf]; omega
    · obtain rfl : k = ns.length := by omega
      go_wp2
      go_ret
      exact ⟨rfl, hbel⟩
end Go.Proofs.Ytffnadnndmmliaa
