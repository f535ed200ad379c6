/- The contracts of chapter 16's functions on ways and packets, the specification's: PacketOk, FitsRoute, RouteOf, RoutesOk. -/
import Derived.Test.YtagjdhiicpglaaaWay16
import Derived.Test.YtagjdhiicpglaaaTermW
import Derived.Test.YtagjdhiicpglaaaHeldQ
import Derived.WalkKit
import Derived.WalkLawsBesides
import Derived.WalkSpells
import Derived.OwnWalk
import Derived.Laws.OwnMore
import Derived.Laws.Rows
import Derived.Laws.ResultCell
import Derived.Deep.QuietTactic
import Derived.BigQuiet
namespace Go.Proofs.Ytagjdhiicpglaaa
open Go.RowKit
set_option linter.unusedVariables false
set_option maxHeartbeats 800000 in
theorem specPkOk_any (p : Nd) (w : World) :
    Calls Try.prog 13 #[.agg #[.int .i64 p.k, .int .i64 p.n, .int .i64 p.a, .int .i64 p.b]] w fun e w' => e = .returned (.bool (pkOk p)) ∧ Below w.heap.size w w' := by
  have HB : Hid (Below w.heap.size w (w.alloc (.cells #[.int .i64 p.k, .int .i64 p.n, .int .i64 p.a, .int .i64 p.b] 27))) := (Below.refl _ _).alloc (Nat.le_refl _) _
  unfold pkOk
  obtain ⟨d0, h0⟩ : ∃ d, inB p.k 0 255 = d := ⟨_, rfl⟩
  obtain ⟨d1, h1⟩ : ∃ d, inB p.n 0 255 = d := ⟨_, rfl⟩
  obtain ⟨d2, h2⟩ : ∃ d, inB p.a 1 9 = d := ⟨_, rfl⟩
  obtain ⟨d3, h3⟩ : ∃ d, inB p.b 0 999 = d := ⟨_, rfl⟩
  rw [h0, h1, h2, h3]
  cases d0 <;> cases d1 <;> cases d2 <;> cases d3
  all_goals
    go_enter Try.func13, Try.ntmps13
    go_wp2_with fail
    repeat (go_at_call 19; refine (specIn_any _ _ _ _).mono ?_; rintro e w' ⟨rfl, rfl⟩; (first | rw [h0] | rw [h1] | rw [h2] | rw [h3]); go_wp2_with fail)
    go_ret
    exact ⟨rfl, HB.out⟩
theorem res_cellR {P : Program} {fn : Func} {p u : Tmp} {ty : TypeId} (h : fn.results = #[.cell p ty, .tmp u]) (tmps : Array Value) (w : World) (g : Nat) (t : TypeId) (cs : Array Value) (fr : Nat × Nat) (d : TypeDesc)
    (hp : tmps.getD p undef = .pointer (some ⟨g, 0, none⟩)) (hg : w.heap[g]? = some (.cells cs t fr))
    (hu : P.underlying ty = some d) (hd : (match d with | .struct _ | .array _ _ => true | _ => false) = true) (hi : (P.info? ty).map (·.size) = some cs.size) :
    (results fn tmps).run P w = .ok (.tuple #[.agg cs, tmps.getD u undef]) w := by
  rw [results_cell_tmp h, hp]
  simp [asAddr, run_loadVar_row w g t ty cs fr d hg hu hd hi]
theorem best_no {rs : List Rt} {d : Int} {k : Nat} {bz : Int} (hb : bestN rs d k = bz) (h : fitB (rs.getD k Rt.zero) d = false) : bestN rs d (k + 1) = bz := by
  rw [bestN, if_neg (fun c => by rw [h] at c; cases c.1), hb]
theorem best_first {rs : List Rt} {d : Int} {k : Nat} {bz : Int} (hb : bestN rs d k = bz) (h : fitB (rs.getD k Rt.zero) d = true) (hz : bz < 0) : bestN rs d (k + 1) = k := by
  rw [bestN, if_pos ⟨h, .inl (by rw [hb]; exact hz)⟩]
theorem best_more {rs : List Rt} {d : Int} {k j : Nat} (hb : bestN rs d k = (j : Int)) (h : fitB (rs.getD k Rt.zero) d = true) (hz : (rs.getD j Rt.zero).b < (rs.getD k Rt.zero).b) : bestN rs d (k + 1) = k := by
  rw [bestN, if_pos ⟨h, .inr (by rw [hb]; exact hz)⟩]
theorem best_less {rs : List Rt} {d : Int} {k j : Nat} (hb : bestN rs d k = (j : Int)) (hz : (rs.getD k Rt.zero).b ≤ (rs.getD j Rt.zero).b) : bestN rs d (k + 1) = j := by
  rw [bestN, if_neg (fun c => by rcases c.2 with h | h; (rw [hb] at h; omega); (rw [hb] at h; simp only [Int.toNat_natCast] at h; omega)), hb]
end Go.Proofs.Ytagjdhiicpglaaa

namespace Go.Proofs.Ytagjdhiicpglaaa
open Go.RowKit
set_option linter.unusedVariables false
theorem rts_next (rs : List Rt) (f k : Nat) : rtsFrom rs (f + 1) k = (rtOk rs k && rtsFrom rs f (k + 1)) := rfl
theorem rtIn_hit {rs : List Rt} {r : Rt} : ∀ {k m : Nat}, m < k → (rs.getD m Rt.zero).n = r.n → (rs.getD m Rt.zero).b = r.b → rtIn rs r k = true
  | 0, m, h, _, _ => by omega
  | k + 1, m, h, e, e' => by
    rw [rtIn]
    rcases Nat.eq_or_lt_of_le (Nat.le_of_lt_succ h) with rfl | h1
    · rw [decide_eq_true e, decide_eq_true e']; simp
    · rw [rtIn_hit h1 e e']; rfl
theorem wrap_pow {n : Nat} (h : n ≤ 8) : wrap64 (2 ^ n) = 2 ^ n ∧ (2 : Int) ^ n ≠ 0 := by
  rcases (show n = 0 ∨ n = 1 ∨ n = 2 ∨ n = 3 ∨ n = 4 ∨ n = 5 ∨ n = 6 ∨ n = 7 ∨ n = 8 by omega) with rfl | rfl | rfl | rfl | rfl | rfl | rfl | rfl | rfl <;> exact ⟨by unfold wrap64; omega, by decide⟩
def rtA (r : Rt) : Bool := inB r.b 0 8 && (inB r.n 0 255 && (inB r.t 0 9 && decide (r.n % 2 ^ shB r = 0)))
theorem rtOk_bad {rs : List Rt} {k : Nat} (h : rtA (rs.getD k Rt.zero) = false) : rtOk rs k = false := by
  unfold rtOk; unfold rtA at h; rw [h]; rfl
theorem rtOk_twice {rs : List Rt} {k : Nat} (h : rtIn rs (rs.getD k Rt.zero) k = true) : rtOk rs k = false := by
  unfold rtOk; rw [h]; simp
theorem rtOk_yes {rs : List Rt} {k : Nat} (h : rtA (rs.getD k Rt.zero) = true) (h2 : rtIn rs (rs.getD k Rt.zero) k = false) : rtOk rs k = true := by
  unfold rtOk; unfold rtA at h; rw [h, h2]; rfl
end Go.Proofs.Ytagjdhiicpglaaa
