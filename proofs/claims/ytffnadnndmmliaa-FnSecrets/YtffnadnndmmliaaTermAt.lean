/- The contracts of chapter 3's reading functions, the specification's: l03At, NodeOk, ArenaOk. -/
import Derived.Test.YtffnadnndmmliaaPlainTerm
import Derived.WalkKit
import Derived.WalkLawsBesides
import Derived.WalkSpells
import Derived.Deep.RegionHeld3
import Derived.Deep.QuietTactic
import Derived.BigQuiet
import Derived.Laws.StructEq
namespace Go.Proofs.Ytffnadnndmmliaa
open Go.RowKit

theorem below_dn {B : Nat} {w w' : World} (h : Below B w w') (n : Nat) : Below B w (w'.drewN n) := ⟨h.os, h.tape, h.output, h.size, h.block⟩
/-- A node's cells at a place, in a later world. -/
theorem RowN.at {B : Nat} {w w' : World} {b off : Nat} {ns : List Nd} (h : RowN B w (some ⟨b, off, none⟩) ns) (hb : Below B w w') {i : Nat} (hi : i < ns.length) :
    b < B ∧ w'.cell? ⟨b, off + i * 4, none⟩ = some (.int .i64 (ns.getD i Nd.zero).k) ∧ w'.cell? ⟨b, off + i * 4 + 1, none⟩ = some (.int .i64 (ns.getD i Nd.zero).n) ∧
    w'.cell? ⟨b, off + i * 4 + 2, none⟩ = some (.int .i64 (ns.getD i Nd.zero).a) ∧ w'.cell? ⟨b, off + i * 4 + 3, none⟩ = some (.int .i64 (ns.getD i Nd.zero).b) := by
  rcases h with h0 | ⟨b', off', e, hlt, hc⟩
  · rw [h0] at hi; simp at hi
  · cases e
    obtain ⟨c0, c1, c2, c3⟩ := hc i hi
    exact ⟨hlt, (hb.cell hlt).trans c0, (hb.cell hlt).trans c1, (hb.cell hlt).trans c2, (hb.cell hlt).trans c3⟩
theorem RowN.addr {B : Nat} {w : World} {a : Option Addr} {ns : List Nd} (h : RowN B w a ns) {i : Nat} (hi : i < ns.length) : ∃ b off, a = .some ⟨b, off, none⟩ := by
  rcases h with h0 | ⟨b', off', e, _⟩
  · rw [h0] at hi; simp at hi
  · exact ⟨b', off', e⟩
theorem nd_eq (x y : Nd) : x = y ↔ x.k = y.k ∧ x.n = y.n ∧ x.a = y.a ∧ x.b = y.b := by
  obtain ⟨a, b, c, d⟩ := x; obtain ⟨e, f, g, h⟩ := y; simp

theorem nodeFields : Try.prog.underlying 45 = some (.struct (Try.prog.fieldsOf 45)) := by kernel_rfl
theorem nodeHeld : Try.prog.stoodInHeld 45 = false := by kernel_rfl
theorem nodeGuard : Try.prog.eqGuardType Try.prog.depth 45 = false := by kernel_rfl
/-- '==' on nodes. -/
theorem node_eql (x y : Nd) (w : World) : (Op.equalIn 10000 45 (.agg #[.int .i64 x.k, .int .i64 x.n, .int .i64 x.a, .int .i64 x.b]) (.agg #[.int .i64 y.k, .int .i64 y.n, .int .i64 y.a, .int .i64 y.b])).run Try.prog w = .ok (decide (x = y)) w := by
  rw [show (10000 : Nat) = 9999 + 1 from rfl, run_equalIn_agg _ _ _ _ _ nodeFields nodeHeld]
  simp only [Program.fieldsOf, Try.underlying45]
  have e := nd_eq x y
  by_cases h0 : x.k = y.k <;> by_cases h1 : x.n = y.n <;> by_cases h2 : x.a = y.a <;> by_cases h3 : x.b = y.b <;> go_simp <;> simp [e, h0, h1, h2, h3]
set_option maxHeartbeats 800000 in
theorem specAt_any (a : Option Addr) (cap : Nat) (ns : List Nd) (x : Nd) (w : World) (hl : ns.length ≤ 1048576) (hr : RowN w.heap.size w a ns) :
    Calls Try.prog 106 #[.slice a ns.length cap, .agg #[.int .i64 x.k, .int .i64 x.n, .int .i64 x.a, .int .i64 x.b]] w fun e w' => e = .returned (.int .i64 (findN ns x)) ∧ Below w.heap.size w w' := by
  have HR : Hid (RowN w.heap.size w a ns) := hr
  clear hr
  go_enter Try.func106, Try.ntmps106
  go_wp2
  go_loopw [5] (fun i wr => ∃ k : Nat, k ≤ ns.length ∧ i = .int .i64 (k : Int) ∧ Hid (findFrom x (ns.drop k) k = findN ns x) ∧ Below w.heap.size w wr ∧ wr.heap[w.heap.size]? = some (.cells #[.int .i64 x.k, .int .i64 x.n, .int .i64 x.a, .int .i64 x.b] 45 (0, 0)))
    (fun i _ => ns.length - (intOf i).toNat)
  case atStart => exact ⟨0, Nat.zero_le _, rfl, rfl, (Below.refl _ _).alloc (Nat.le_refl _) _, heap_alloc_new w _⟩
  case round =>
    obtain ⟨k, hk, rfl, HF, hbel, hown⟩ := hrel
    have HO : Hid (wr.heap[w.heap.size]? = some (.cells #[.int .i64 x.k, .int .i64 x.n, .int .i64 x.a, .int .i64 x.b] 45 (0, 0))) := hown
    by_cases hlt : k < ns.length
    · obtain ⟨b, off, rfl⟩ := HR.out.addr hlt
      obtain ⟨hb, c0, c1, c2, c3⟩ := HR.out.at hbel hlt
      have d0 : wr.cell? ⟨w.heap.size, 0, none⟩ = some (.int .i64 x.k) := by rw [cell_of_row wr w.heap.size 0 _ _ _ hown]; rfl
      have d1 : wr.cell? ⟨w.heap.size, 1, none⟩ = some (.int .i64 x.n) := by rw [cell_of_row wr w.heap.size 1 _ _ _ hown]; rfl
      have d2 : wr.cell? ⟨w.heap.size, 2, none⟩ = some (.int .i64 x.a) := by rw [cell_of_row wr w.heap.size 2 _ _ _ hown]; rfl
      have d3 : wr.cell? ⟨w.heap.size, 3, none⟩ = some (.int .i64 x.b) := by rw [cell_of_row wr w.heap.size 3 _ _ _ hown]; rfl
      have hfd := find_drop ns x k hlt
      have hEQ := nd_eq (ns.getD k Nd.zero) x
      have HFD : Hid (_ = _) := hfd
      have HEQ : Hid (_ ↔ _) := hEQ
      clear hfd hEQ hown
      have hi0 : (0 : Int) ≤ (k : Int) := by omega
      have hi1 : (k : Int) < (ns.length : Int) := by omega
      generalize ns.getD k Nd.zero = y at c0 c1 c2 c3 HFD HEQ
      have hgd := nodeGuard
      have hel := node_eql y x
      by_cases hyx : y = x
      · have hdy : decide (y = x) = true := by simp [hyx]
        have HV : Hid (findN ns x = (k : Int)) := by show _ = _; rw [← HF.out, HFD.out, if_pos hyx]
        clear hyx
        go_wp2
        go_quiet (fail)
        go_wp2
        go_ret
        exact ⟨by rw [HV.out]; rfl, below_dn hbel _⟩
      · have hdy : decide (y = x) = false := by simp [hyx]
        have HV : Hid (findFrom x (ns.drop (k + 1)) (k + 1) = findN ns x) := by show _ = _; rw [← HF.out, HFD.out, if_neg hyx]
        clear hyx
        go_wp2
        go_quiet (fail)
        go_wp2
        go_roundw
        case rel => exact ⟨k + 1, by omega, by go_num, HV, below_dn hbel _, HO.out⟩
        case measure => simp [intOf]; omega
    · obtain rfl : k = ns.length := by omega
      go_wp2
      go_ret
      exact ⟨by rw [← HF.out, find_end]; rfl, hbel⟩
end Go.Proofs.Ytffnadnndmmliaa
