/- The contracts of chapter 3's reading functions, the specification's: l03At, NodeOk, ArenaOk. -/
import Derived.Test.YtiojbefgafekaaaTermW
import Derived.WalkKit
import Derived.WalkLawsBesides
import Derived.WalkSpells
import Derived.Deep.RegionHeld3
import Derived.Deep.QuietTactic
import Derived.BigQuiet
import Derived.Laws.StructEq
namespace Go.Proofs.Ytiojbefgafekaaa
open Go.RowKit

theorem below_dn {B : Nat} {w w' : World} (h : Below B w w') (n : Nat) : Below B w (w'.drewN n) := ⟨h.os, h.tape, h.output, h.size, h.block⟩
/-- A node's cells at a place, in a later world. -/
theorem RowN.at {B : Nat} {w w' : World} {b off : Nat} {ns : List Nd} (h : RowN B w (some ⟨b, off, none⟩) ns) (hb : Below B w w') {i : Nat} (hi : i < ns.length) :
    b < B ∧ w'.cell? ⟨b, off + i * 4, none⟩ = some (.int .i64 (ns.getD i Nd.zero).k) ∧ w'.cell? ⟨b, off + i * 4 + 1, none⟩ = some (.int .i64 (ns.getD i Nd.zero).n) ∧
    w'.cell? ⟨b, off + i * 4 + 2, none⟩ = some (.int .i64 (ns.getD i Nd.zero).a) ∧ w'.cell? ⟨b, off + i * 4 + 3, none⟩ = some (.int .i64 (ns.getD i Nd.zero).b) := by
  rcases h with h0 | ⟨b', off', e, hlt, hc⟩
  · rw [h0] at hi; simp at hi
  · cases e
    obtain ⟨c0, c1, c2, c3⟩ := hc i hi
    exact ⟨hlt, (hb.cell hlt).trans c0, (hb.cell hlt).trans c1, (hb.cell hlt).trans c2, (hb.cell hlt).trans c3⟩
theorem RowN.addr {B : Nat} {w : World} {a : Option Addr} {ns : List Nd} (h : RowN B w a ns) {i : Nat} (hi : i < ns.length) : ∃ b off, a = .some ⟨b, off, none⟩ := by
  rcases h with h0 | ⟨b', off', e, _⟩
  · rw [h0] at hi; simp at hi
  · exact ⟨b', off', e⟩
theorem nd_eq (x y : Nd) : x = y ↔ x.k = y.k ∧ x.n = y.n ∧ x.a = y.a ∧ x.b = y.b := by
  obtain ⟨a, b, c, d⟩ := x; obtain ⟨e, f, g, h⟩ := y; simp

end Go.Proofs.Ytiojbefgafekaaa
