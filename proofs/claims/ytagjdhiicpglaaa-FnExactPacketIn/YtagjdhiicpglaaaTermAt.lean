/- The contracts of chapter 3's reading functions, the specification's: l03At, NodeOk, ArenaOk. -/
import Derived.Test.YtagjdhiicpglaaaTermW
import Derived.WalkKit
import Derived.WalkLawsBesides
import Derived.WalkSpells
import Derived.Deep.RegionHeld3
import Derived.Deep.QuietTactic
import Derived.BigQuiet
import Derived.Laws.StructEq
namespace Go.Proofs.Ytagjdhiicpglaaa
open Go.RowKit

theorem below_dn {B : Nat} {w w' : World} (h : Below B w w') (n : Nat) : Below B w (w'.drewN n) := ⟨h.os, h.tape, h.output, h.size, h.block⟩
/-- A node's cells at a place, in a later world. -/
theorem RowN.at {B : Nat} {w w' : World} {b off : Nat} {ns : List Nd} (h : RowN B w (some ⟨b, off, none⟩) ns) (hb : Below B w w') {i : Nat} (hi : i < ns.length) :
    b < B ∧ w'.cell? ⟨b, off + i * 4, none⟩ = some (.int .i64 (ns.getD i Nd.zero).k) ∧ w'.cell? ⟨b, off + i * 4 + 1, none⟩ = some (.int .i64 (ns.getD i Nd.zero).n) ∧
    w'.cell? ⟨b, off + i * 4 + 2, none⟩ = some (.int .i64 (ns.getD i Nd.zero).a) ∧ w'.cell? ⟨b, off + i * 4 + 3, none⟩ = some (.int .i64 (ns.getD i Nd.zero).b) := by
  rcases h with h0 | ⟨b', off', e, hlt, hc⟩
  · rw [h0] at hi; simp at hi
  · cases e
    obtain ⟨c0, c1, c2, c3⟩ := hc i hi
    exact ⟨hlt, (hb.cell hlt).trans c0, (hb.cell hlt).trans c1, (hb.cell hlt).trans c2, (hb.cell hlt).trans c3⟩
theorem RowN.addr {B : Nat} {w : World} {a : Option Addr} {ns : List Nd} (h : RowN B w a ns) {i : Nat} (hi : i < ns.length) : ∃ b off, a = .some ⟨b, off, none⟩ := by
  rcases h with h0 | ⟨b', off', e, _⟩
  · rw [h0] at hi; simp at hi
  · exact ⟨b', off', e⟩
theorem nd_eq (x y : Nd) : x = y ↔ x.k = y.k ∧ x.n = y.n ∧ x.a = y.a ∧ x.b = y.b := by
  obtain ⟨a, b, c, d⟩ := x; obtain ⟨e, f, g, h⟩ := y; simp

theorem nodeFields : Try.prog.underlying 52 = some (.struct (Try.prog.fieldsOf 52)) := by kernel_rfl
theorem nodeHeld : Try.prog.stoodInHeld 52 = false := by kernel_rfl
theorem nodeGuard : Try.prog.eqGuardType Try.prog.depth 52 = false := by kernel_rfl
/-- '==' on nodes. -/
theorem node_eql (x y : Nd) (w : World) : (Op.equalIn 10000 52 (.agg #[.int .i64 x.k, .int .i64 x.n, .int .i64 x.a, .int .i64 x.b]) (.agg #[.int .i64 y.k, .int .i64 y.n, .int .i64 y.a, .int .i64 y.b])).run Try.prog w = .ok (decide (x = y)) w := by
  rw [show (10000 : Nat) = 9999 + 1 from rfl, run_equalIn_agg _ _ _ _ _ nodeFields nodeHeld]
  simp only [Program.fieldsOf, Try.underlying52]
  have e := nd_eq x y
  by_cases h0 : x.k = y.k <;> by_cases h1 : x.n = y.n <;> by_cases h2 : x.a = y.a <;> by_cases h3 : x.b = y.b <;> go_simp <;> simp [e, h0, h1, h2, h3]
end Go.Proofs.Ytagjdhiicpglaaa
