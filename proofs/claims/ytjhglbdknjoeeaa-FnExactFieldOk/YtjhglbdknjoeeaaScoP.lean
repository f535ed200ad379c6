/- Bounds of what is carried, plain mathematics. -/
import Derived.Test.YtjhglbdknjoeeaaLessP
namespace Go.Proofs.Ytjhglbdknjoeeaa
theorem sco_bd {l : List Int} (h : l.length = 16) (hw : within (-LIM) LIM l) : ∀ k, k ≤ 16 → -LIM ≤ sco l k ∧ sco l k ≤ LIM
  | 0, _ => by rw [(sck_start l).2]; decide
  | k + 1, hk => by
    have ih := sco_bd h hw k (by omega)
    have hx := hw k (by omega)
    rw [(sco_next h (show k < 16 by omega)).1]
    unfold LIM at *
    omega
theorem sck_head {l : List Int} (h : l.length = 16) : 0 ≤ (sck l 15).getD 0 0 ∧ (sck l 15).getD 0 0 < 65536 := by
  have hp : ∀ b ∈ b16.take 15, 0 < b := by decide
  have hle : ∀ b ∈ b16.take 15, b ≤ 65536 := by decide
  have hq : (l.take 15).length = (b16.take 15).length := by rw [List.length_take, h]; rfl
  have ok := lcar_ok (bs := b16.take 15) 0 hp hq
  have hf := sck_fst h (show 15 ≤ 16 by omega)
  unfold sck
  generalize (lcar (b16.take 15) 0 (l.take 15)).1 = p at ok hf
  cases p with
  | nil => cases hf
  | cons x p => exact lok_small hle ok x (by simp)
end Go.Proofs.Ytjhglbdknjoeeaa
namespace Go.Proofs.Ytjhglbdknjoeeaa
theorem scar_in {l : List Int} (h : l.length = 16) (hw : within (-LIM) LIM l) : within (-LIM) LIM (scar l) := by
  obtain ⟨m, q, e, k, _, g⟩ := scar_fst h
  have hb := v16_bd h hw
  rw [e]
  have hl := lok_len k
  have hh := addH_head (d := 38 * q) hl
  have hi := lok16_in k
  intro j hj
  rw [addH_len] at hj
  have hx := hi j hj
  unfold LIM
  by_cases h0 : j = 0
  · subst h0
    rw [hh.1]
    omega
  · rw [hh.2 j (by omega)]
    omega
/-- The turns of carry, one behind another. -/
def scarN (l : List Int) : Nat → List Int
  | 0 => l
  | k + 1 => scar (scarN l k)
theorem scarN_len {l : List Int} (h : l.length = 16) : ∀ k, (scarN l k).length = 16
  | 0 => h
  | k + 1 => scar_len (scarN_len h k)
theorem scarN_in {l : List Int} (h : l.length = 16) (hw : within (-LIM) LIM l) : ∀ k, within (-LIM) LIM (scarN l k)
  | 0 => hw
  | k + 1 => scar_in (scarN_len h k) (scarN_in h hw k)
def lessN (l : List Int) : Nat → List Int
  | 0 => l
  | k + 1 => lessIf (lessN l k)
theorem lessN_ok {l : List Int} (h : lok b16 l) : ∀ k, lok b16 (lessN l k)
  | 0 => h
  | k + 1 => lessIf_ok (lessN_ok h k)
theorem whole_is {l : List Int} (h : l.length = 16) (hw : within (-LIM) LIM l) : lessN (scarN l 3) 2 = canon (v16 l) := by
  have e := two_less (three_turns h hw)
  have m := three_mod h
  show lessIf (lessIf (scar (scar (scar l)))) = _
  rw [e]
  exact canon_mod m
end Go.Proofs.Ytjhglbdknjoeeaa
