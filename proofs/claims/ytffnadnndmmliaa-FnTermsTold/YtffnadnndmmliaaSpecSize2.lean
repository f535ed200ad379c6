/- The contract of chapter 3's SizeOf, the specification's; sizeWith, the program's. -/
import Derived.Test.YtffnadnndmmliaaSpecSize
import Derived.Test.YtffnadnndmmliaaImplOk
import Derived.WalkKit
import Derived.WalkLawsBesides
import Derived.WalkSpells
import Derived.Deep.QuietTactic
import Derived.BigQuiet
namespace Go.Proofs.Ytffnadnndmmliaa
open Go.RowKit
set_option linter.unusedVariables false

theorem specSize_any (a : Option Addr) (cap : Nat) (ns : List Nd) (k : Int) (w : World) (hl : ns.length ≤ 1048576) (hr : RowN w.heap.size w a ns) :
    Calls Try.prog 36 #[.agg #[.slice a ns.length cap], .int .i64 k] w fun e w' => e = .returned (.int .i64 (sizeN ns k)) ∧ Below w.heap.size w w' := by
  cases h : inB k 0 ((ns.length : Int) - 1) with
  | false =>
    rw [sizeN_out h]
    clear hr
    go_enter Try.func36, Try.ntmps36
    go_wp2_with fail
    refine (specIn_any _ _ _ _).mono ?_
    rintro e w' ⟨rfl, rfl⟩
    rw [h]
    go_wp2
    go_ret
    exact ⟨rfl, (Below.refl _ _).alloc (Nat.le_refl _) _⟩
  | true =>
    have hb := inB_true h
    obtain ⟨K, rfl⟩ : ∃ K : Nat, k = (K : Int) := ⟨k.toNat, by omega⟩
    have hK : K < ns.length := by omega
    rw [sizeN_in ns K hK]
    have hb0 : Below w.heap.size w (w.alloc (.cells #[.slice a ns.length cap] 28)) := (Below.refl _ _).alloc (Nat.le_refl _) _
    have HS : Hid _ := specSizes_any a cap ns K _ hl hK (hr.grown hb0)
    have HB : Hid _ := hb0
    have HV : Hid ((sizesN ns (K + 1)).getD K 0 = szv ns K) := szv_at ns (K + 1) K (by omega)
    have H : Hid _ := h
    have hk0 : (0 : Int) ≤ (K : Int) := by omega
    clear hr hb0 hb h
    go_enter Try.func36, Try.ntmps36
    go_wp2_with fail
    refine (specIn_any _ _ _ _).mono ?_
    rintro e w' ⟨rfl, rfl⟩
    rw [H.out]
    go_wp2_with fail
    refine Calls.mono HS.out ?_
    rintro e w1 ⟨v, rfl, ho, hb1⟩
    obtain ⟨g, cp, rfl, hg, hgl, hcells⟩ := own_ints ho (by omega)
    have hc := hcells K (by omega)
    rw [HV.out] at hc
    have hB1 : Below w.heap.size w w1 := HB.out.trans (hb1.mono HB.out.size)
    have hk1 : (K : Int) < ((K + 1 : Nat) : Int) := by omega
    have hk2 : (K : Int) < (K : Int) + 1 := by omega
    clear ho hcells hb1 HS HB HV
    go_wp2
    go_ret
    exact ⟨rfl, hB1⟩

/-- sizeWith of an atom. -/
theorem sizeWith_atom (v x : Value) (w : World) :
    Calls Try.prog 96 #[.iface 154 v, x] w fun e w' => e = .returned (.int .i64 1) ∧ Below w.heap.size w w' := by
  have ho := as_atomTerm_oneTerm
  have ht := as_atomTerm_twoTerm
  go_enter Try.func96, Try.ntmps96
  go_wp2
  go_ret
  exact ⟨rfl, Below.refl _ _⟩
/-- .. of a term with one. -/
theorem sizeWith_one (k : Int) (p g n cap : Nat) (x1 : Int) (w : World) (hp : p < n) (hg : g < w.heap.size) (h0 : 0 ≤ x1) (h1 : x1 ≤ 100000) (hc : w.cell? ⟨g, p, none⟩ = some (.int .i64 x1)) :
    Calls Try.prog 96 #[.iface 156 (.agg #[.int .i64 k, .int .i64 (p : Int)]), .slice (some ⟨g, 0, none⟩) n cap] w fun e w' => e = .returned (.int .i64 (if 100000 < 1 + x1 then 100000 else 1 + x1)) ∧ Below w.heap.size w w' := by
  have ho := as_oneTerm_oneTerm
  have hp0 : (0 : Int) ≤ (p : Int) := by omega
  have hp1 : (p : Int) < (n : Int) := by omega
  by_cases h : 100000 < 1 + x1
  · rw [if_pos h]
    go_enter Try.func96, Try.ntmps96
    go_wp2
    go_ret
    exact ⟨rfl, (Below.refl _ _).alloc (Nat.le_refl _) _⟩
  · rw [if_neg h]
    go_enter Try.func96, Try.ntmps96
    go_wp2
    go_ret
    exact ⟨rfl, (Below.refl _ _).alloc (Nat.le_refl _) _⟩
end Go.Proofs.Ytffnadnndmmliaa
