/- Drawn keys and texts (chapter 22): l22Key, l22Text, DrawHmac. -/
import Derived.Test.YtopdjfgomclffaaCodeW
import Derived.Test.YtopdjfgomclffaaCurW
import Derived.WalkKit
import Derived.WalkLawsBesides
import Derived.WalkSpells
import Derived.BigRegion
namespace Go.Proofs.Ytopdjfgomclffaa
open Go.RowKit
set_option maxRecDepth 20000
set_option linter.unusedVariables false
theorem grownThen22 {w w1 w2 : World} {r : Option Nat} (h : Below w.heap.size w w1) (h2 : w1.grownBy w2 r) : w.grownBy w2 r :=
  ⟨h2.os.trans h.os, h2.tape.trans h.tape, h2.output.trans h.output, Nat.le_trans h.size h2.size, fun k hk hne => (h2.block k (Nat.lt_of_lt_of_le hk h.size) hne).trans (h.block k hk)⟩
theorem pick4_any (B g gl m cap : Nat) (zs : List ByteArray) (w : World) (hm : 0 < m) (hm1 : m ≤ 256) (hz : zs.length = m) (hgl : gl ≠ g) (hcells : ∀ i, i < m → w.cell? ⟨gl, i, none⟩ = some (.string (zs.getD i ⟨#[]⟩))) (hc : Cur B w g) :
    Calls Try.prog 53 #[.pointer (some ⟨g, 0, none⟩), .slice (some ⟨gl, 0, none⟩) m cap] w fun e w' => ∃ z ∈ zs, e = .returned (.string z) ∧ Cur B w' g ∧ w.grownBy w' (some g) := by
  have HC : Hid (∀ i, i < m → w.cell? ⟨gl, i, none⟩ = some (.string (zs.getD i ⟨#[]⟩))) := hcells
  clear hcells
  go_enter Try.func53, Try.ntmps53
  go_wp2_with fail
  refine (below_any B g m _ hm (by omega) hc).mono ?_
  rintro e w1 ⟨x, rfl, hx, hc1, hg1⟩
  have hcx := hg1.cell (HC.out x hx) (by simpa using hgl)
  have hi0 : (0 : Int) ≤ (x : Int) := by omega
  have hi1 : (x : Int) < (m : Int) := by omega
  obtain ⟨z, hzd⟩ : ∃ z, z = zs.getD x ⟨#[]⟩ := ⟨_, rfl⟩
  rw [← hzd] at hcx
  have hmem : z ∈ zs := by rw [hzd, List.getD_eq_getElem?_getD, List.getElem?_eq_getElem (by omega)]; exact List.getElem_mem _
  clear hzd HC
  go_wp2
  go_ret
  exact ⟨z, hmem, rfl, hc1, hg1⟩
def t22 : List ByteArray := [⟨#[]⟩, ⟨#[97]⟩, ⟨#[72, 105, 32, 84, 104, 101, 114, 101]⟩, ⟨#[119, 104, 97, 116, 32, 100, 111, 32, 121, 97, 32, 119, 97, 110, 116, 32, 102, 111, 114, 32, 110, 111, 116, 104, 105, 110, 103, 63]⟩]
def c22 : Array Value := #[.string ⟨#[]⟩, .string ⟨#[97]⟩, .string ⟨#[72, 105, 32, 84, 104, 101, 114, 101]⟩, .string ⟨#[119, 104, 97, 116, 32, 100, 111, 32, 121, 97, 32, 119, 97, 110, 116, 32, 102, 111, 114, 32, 110, 111, 116, 104, 105, 110, 103, 63]⟩]
theorem t22_size : ∀ z ∈ t22, z.size ≤ 28 := by decide
theorem app22 (a b : ByteArray) : (a ++ b).size = a.size + b.size := ByteArray.size_append
set_option maxHeartbeats 800000 in
theorem text22_any (B g : Nat) (w : World) (hc : Cur B w g) :
    Calls Try.prog 39 #[.pointer (some ⟨g, 0, none⟩)] w fun e w' => ∃ s : ByteArray, e = .returned (.string s) ∧ s.size ≤ 100 ∧ Cur B w' g ∧ w.grownBy w' (some g) := by
  have hgl : g < w.heap.size := hc.2.1
  have hrow := heap_alloc_new w (.cells c22 9)
  have hbA : Below w.heap.size w (w.alloc (.cells c22 9)) := (Below.refl _ _).alloc (Nat.le_refl _) _
  have hc2 := hc.grown hbA
  have HCL : Hid (∀ i, i < 4 → (w.alloc (.cells c22 9)).cell? ⟨w.heap.size, i, none⟩ = some (.string (t22.getD i ⟨#[]⟩))) := fun i hi => by
    rw [cell_of_row _ _ i _ _ _ hrow]
    rcases (show i = 0 ∨ i = 1 ∨ i = 2 ∨ i = 3 by omega) with rfl | rfl | rfl | rfl <;> rfl
  have HU : Hid (c22 = #[.string ⟨#[]⟩, .string ⟨#[97]⟩, .string ⟨#[72, 105, 32, 84, 104, 101, 114, 101]⟩, .string ⟨#[119, 104, 97, 116, 32, 100, 111, 32, 121, 97, 32, 119, 97, 110, 116, 32, 102, 111, 114, 32, 110, 111, 116, 104, 105, 110, 103, 63]⟩]) := rfl
  clear hrow hc
  go_enter Try.func39, Try.ntmps39
  go_wp2_with fail
  rw [← HU.out]
  generalize w.alloc (.cells c22 9) = w2 at hc2 hbA HCL ⊢
  refine (pick4_any B g w.heap.size 4 _ t22 _ (by omega) (by omega) rfl (by omega) HCL.out hc2).mono ?_
  rintro e w3 ⟨z, hz, rfl, hc3, hg3⟩
  have hbz := t22_size z hz
  have HG3 : Hid (w.grownBy w3 (some g)) := grownThen22 hbA hg3
  clear hz HCL hc2 hbA hg3
  go_wp2_with fail
  refine (below_any B g 70 _ (by omega) (by omega) hc3).mono ?_
  rintro e w4 ⟨k, rfl, hk, hc4, hg4⟩
  have HG4 : Hid (w.grownBy w4 (some g)) := grown_trans HG3.out hg4
  clear hg4 hc3
  go_wp2_with fail
  refine (longC_any k _ _ (by omega)).mono ?_
  rintro e w5 ⟨s, rfl, hs, hb5⟩
  have HE : Hid (Cur B w5 g ∧ w.grownBy w5 (some g)) := ⟨hc4.grown hb5, grown_trans HG4.out (grown_below hb5 _)⟩
  have hz2 := app22 z s
  clear hb5 hc4
  go_wp2
  go_ret
  exact ⟨z ++ s, rfl, by omega, HE.out.1, HE.out.2⟩
end Go.Proofs.Ytopdjfgomclffaa
