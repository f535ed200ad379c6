/- The header of an arena behind a pointer as it is read. -/
import Derived.Test.YtlmkkkpjcpopkaaArenaO
namespace Go.Proofs.Ytlmkkkpjcpopkaa
open Go.RowKit
set_option linter.unusedVariables false
theorem OwnN.blk {B : Nat} {w : World} {a : Option Addr} {n cap : Nat} {ns : List Nd} (h : OwnN B w (.slice a n cap) ns) (hm : ns ≠ []) {b off : Nat} (e : a = some ⟨b, off, none⟩) : (Value.slice a n cap).ownBlock = some b := by
  subst e
  rcases h.2 with ⟨h0, _⟩ | ⟨g, c, cur, hv, _⟩
  · cases h0
  · simp only [Value.slice.injEq, Option.some.injEq, Addr.mk.injEq] at hv
    obtain ⟨⟨rfl, -⟩, -⟩ := hv
    rfl
theorem OwnN.off {B : Nat} {w : World} {a : Option Addr} {n cap : Nat} {ns : List Nd} (h : OwnN B w (.slice a n cap) ns) (hm : ns ≠ []) {b off : Nat} (e : a = some ⟨b, off, none⟩) : off = 0 := by
  subst e
  rcases h.2 with ⟨h0, _⟩ | ⟨g, c, cur, hv, _⟩
  · cases h0
  · simp only [Value.slice.injEq, Option.some.injEq, Addr.mk.injEq] at hv
    exact hv.1.2.1
/-- The header of the arena as it is read. -/
theorem hdr_of {D : Nat → Prop} {w : World} {g : Nat} {ns : List Nd} (h : ArD D w g ns) : ∃ a c, w.heap[g]? = some (.cells #[.slice a ns.length c] 26 (0, 0)) ∧ AddrN a c ∧ OldN w g ns a ns := by
  obtain ⟨h1, h2, v, h3, h4, h5, h6⟩ := h
  obtain ⟨a, c, rfl, ha, hr⟩ := h4.row
  exact ⟨a, c, h3, ha, _, h3, hr, fun b off e hm => ⟨fun eb => h5 (by rw [OwnN.blk h4 hm e, eb]), fun _ => ⟨OwnN.off h4 hm e, List.prefix_refl _⟩⟩⟩
theorem hdr_far {D : Nat → Prop} {w : World} {g : Nat} {ns : List Nd} {a : Option Addr} {n c : Nat} (h : ArD D w g ns) (hv : w.heap[g]? = some (.cells #[.slice a n c] 26 (0, 0))) : ∀ b off, a = some ⟨b, off, none⟩ → ns ≠ [] → ¬ D b := fun b off e hm => by
  obtain ⟨h1, h2, v, h3, h4, h5, h6⟩ := h
  obtain rfl : v = .slice a n c := by rw [h3] at hv; simpa using hv
  exact h6 b (OwnN.blk h4 hm e)
end Go.Proofs.Ytlmkkkpjcpopkaa
