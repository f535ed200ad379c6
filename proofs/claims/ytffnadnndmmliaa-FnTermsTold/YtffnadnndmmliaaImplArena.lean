/- The contract of chapter 3's ArenaOk, the program's. -/
import Derived.Test.YtffnadnndmmliaaImplOk
import Derived.Test.YtffnadnndmmliaaPlacesW
import Derived.WalkKit
import Derived.WalkLawsBesides
import Derived.WalkSpells
import Derived.Deep.RegionHeld3
namespace Go.Proofs.Ytffnadnndmmliaa
open Go.RowKit Go.Maps
set_option linter.unusedVariables false

theorem implArena_long (a : Option Addr) (cap : Nat) (ns : List Nd) (w : World) (hl : ns.length ≤ 1048576) (h : 3000 < ns.length) :
    Calls Try.prog 30 #[.agg #[.slice a ns.length cap]] w fun e w' => e = .returned (.bool (arenaB ns)) ∧ Below w.heap.size w w' := by
  have HV : Hid (arenaB ns = false) := by show _ = _; unfold arenaB; rw [decide_eq_false (by omega)]; rfl
  have h' : (3000 : Int) < (ns.length : Int) := by omega
  go_enter Try.func30, Try.ntmps30
  go_wp2
  go_ret
  exact ⟨by rw [HV.out]; rfl, (Below.refl _ _).alloc (Nat.le_refl _) _⟩
theorem not_all {ns : List Nd} {k : Nat} (hk : k < ns.length) (h : nodeB (ns.getD k Nd.zero) (k : Int) = false) : allFrom ns ns 0 = false := by
  cases e : allFrom ns ns 0 with
  | false => rfl
  | true => have := ((arena_iff ns).1 e).1 k hk; rw [h] at this; exact absurd this (by simp)
theorem all_count {ns : List Nd} (h : ∀ i, i < ns.length → nodeB (ns.getD i Nd.zero) (i : Int) = true) : allFrom ns ns 0 = ((dcN ns ns.length : Int) == (ns.length : Int)) := by
  rw [Bool.eq_iff_iff, arena_iff, beq_iff_eq]
  constructor
  · intro h2; omega
  · intro h2; exact ⟨h, by omega⟩
theorem placesLen_any (a : Option Addr) (cap : Nat) (ns : List Nd) (w : World) (hl : ns.length ≤ 1048576) (hf : ∀ y ∈ ns, y.Fits) (hr : RowN w.heap.size w a ns) :
    Calls Try.prog 97 #[.slice a ns.length cap] w.drew fun e w' => e = .returned (.map (some w.heap.size)) ∧ (∀ ty, (Builtin.len_ #[102] ty #[.map (some w.heap.size)]).run Try.prog w' = .ok (.int .i64 ((dcN ns ns.length : Nat) : Int)) w') ∧ Hid (Below w.heap.size w w') := by
  refine (placesOf_any a cap ns w.drew hl hf (hr.grown (Below.refl _ _).drew)).mono ?_
  rintro e w' ⟨D, he, ho, hp, hb⟩
  refine ⟨he, fun ty => ?_, ((Below.refl _ _).drew).trans hb⟩
  have := ho.len Try.underlying102 ty
  rw [hp.size] at this
  exact this
set_option maxHeartbeats 1600000 in
theorem implArena_short (a : Option Addr) (cap : Nat) (ns : List Nd) (w : World) (h : ns.length ≤ 3000) (hf : ∀ y ∈ ns, y.Fits) (hr : RowN w.heap.size w a ns) :
    Calls Try.prog 30 #[.agg #[.slice a ns.length cap]] w fun e w' => e = .returned (.bool (arenaB ns)) ∧ Below w.heap.size w w' := by
  have HV : Hid (arenaB ns = allFrom ns ns 0) := by show _ = _; unfold arenaB; rw [decide_eq_true (by omega)]; rfl
  have h' : ¬ (3000 : Int) < (ns.length : Int) := by omega
  have HR : Hid (RowN w.heap.size w a ns) := hr
  have HF : Hid (∀ y ∈ ns, y.Fits) := hf
  clear hr hf
  go_enter Try.func30, Try.ntmps30
  go_wp2
  go_loopw [11] (fun i wr => ∃ k : Nat, k ≤ ns.length ∧ i = .int .i64 (k : Int) ∧ Hid (∀ j, j < k → nodeB (ns.getD j Nd.zero) (j : Int) = true) ∧ Below w.heap.size w wr ∧ wr.cell? ⟨w.heap.size, 0, none⟩ = some (.slice a ns.length cap) ∧ w.heap.size < wr.heap.size)
    (fun i _ => ns.length - (intOf i).toNat)
  case atStart => exact ⟨0, Nat.zero_le _, rfl, (fun j hj => by omega), (Below.refl _ _).alloc (Nat.le_refl _) _, by rw [cell_of_row _ w.heap.size 0 _ _ _ (heap_alloc_new w _)]; rfl, by simp⟩
  case round =>
    obtain ⟨k, hk, rfl, HA, hbel, hown, hsz⟩ := hrel
    by_cases hlt : k < ns.length
    · have hi0 : (0 : Int) ≤ (k : Int) := by omega
      have hi1 : (k : Int) < (ns.length : Int) := by omega
      obtain ⟨d, HD⟩ : ∃ d, Hid (nodeB (ns.getD k Nd.zero) (k : Int) = d) := ⟨_, rfl⟩
      cases d
      · have HE : Hid (allFrom ns ns 0 = false) := not_all hlt HD.out
        go_wp2_with fail
        refine (implOk_yes a cap ns k _ (by omega) hlt (HR.out.grown hbel)).mono ?_
        rintro e w1 ⟨rfl, hb1⟩
        rw [HD.out]
        go_wp2
        go_ret
        exact ⟨by rw [HV.out, HE.out]; rfl, hbel.trans (hb1.mono hbel.size)⟩
      · have HE : Hid (∀ j, j < k + 1 → nodeB (ns.getD j Nd.zero) (j : Int) = true) := fun j hj => by
          by_cases e : j = k
          · subst e; exact HD.out
          · exact HA.out j (by omega)
        go_wp2_with fail
        refine (implOk_yes a cap ns k _ (by omega) hlt (HR.out.grown hbel)).mono ?_
        rintro e w1 ⟨rfl, hb1⟩
        rw [HD.out]
        have hc1 := (hb1.cell (p := ⟨w.heap.size, 0, none⟩) hsz).trans hown
        have hs1 := Nat.lt_of_lt_of_le hsz hb1.size
        have hB1 : Below w.heap.size w w1 := hbel.trans (hb1.mono hbel.size)
        clear hb1 hbel hown hsz
        go_wp2
        go_roundw
        case rel => exact ⟨k + 1, by omega, by go_num, HE, hB1, hc1, hs1⟩
        case measure => simp [intOf]; omega
    · obtain rfl : k = ns.length := by omega
      have HC : Hid _ := all_count HA.out
      clear HA
      have HP : Hid _ := placesLen_any a cap ns wr (by omega) HF.out (HR.out.grown hbel)
      have HB : Hid (Below w.heap.size w wr) := hbel
      clear hbel HR HF hlt
      generalize dcN ns ns.length = dc at HP HC
      go_wp2
      go_region_with (go_at_call 97; refine Calls.mono HP.out ?_; rintro e w6 ⟨rfl, hlen, hb6⟩; have hc6 := (hb6.out.cell (p := ⟨w.heap.size, 0, none⟩) hsz).trans hown)
      all_goals
        go_wp2
        go_ret
        exact ⟨by rw [HV.out, HC.out]; rfl, HB.out.trans (hb6.out.mono HB.out.size)⟩
theorem implArena_any (a : Option Addr) (cap : Nat) (ns : List Nd) (w : World) (hl : ns.length ≤ 1048576) (hf : ∀ y ∈ ns, y.Fits) (hr : RowN w.heap.size w a ns) :
    Calls Try.prog 30 #[.agg #[.slice a ns.length cap]] w fun e w' => e = .returned (.bool (arenaB ns)) ∧ Below w.heap.size w w' := by
  by_cases h : ns.length ≤ 3000
  · exact implArena_short a cap ns w h hf hr
  · exact implArena_long a cap ns w hl (by omega)
end Go.Proofs.Ytffnadnndmmliaa
