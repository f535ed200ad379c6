/- The contracts of chapter 3's NodeOk and placeFor, the program's. -/
import Derived.Test.YtffnadnndmmliaaImplR
import Derived.WalkKit
import Derived.WalkLawsBesides
import Derived.WalkSpells
import Derived.Test.YtffnadnndmmliaaSpecSize
import Derived.Deep.QuietTactic
import Derived.BigQuiet
import Derived.Test.YtffnadnndmmliaaPlacesW
import Derived.Deep.RegionHeld3
namespace Go.Proofs.Ytffnadnndmmliaa
open Go.RowKit
set_option linter.unusedVariables false

theorem implOk_no (a : Option Addr) (cap : Nat) (ns : List Nd) (k : Int) (w : World) (hl : ns.length ≤ 1048576) (h : inB k 0 ((ns.length : Int) - 1) = false) :
    Calls Try.prog 37 #[.agg #[.slice a ns.length cap], .int .i64 k] w fun e w' => e = .returned (.bool false) ∧ Below w.heap.size w w' := by
  go_enter Try.func37, Try.ntmps37
  go_wp2_with fail
  refine (ahead_any _ _ _).mono ?_
  rintro e w' ⟨rfl, rfl⟩
  rw [h]
  go_wp2
  go_ret
  exact ⟨rfl, (Below.refl _ _).alloc (Nat.le_refl _) _⟩
theorem implOk_yes (a : Option Addr) (cap : Nat) (ns : List Nd) (i : Nat) (w : World) (hl : ns.length ≤ 1048576) (hi : i < ns.length) (hr : RowN w.heap.size w a ns) :
    Calls Try.prog 37 #[.agg #[.slice a ns.length cap], .int .i64 (i : Int)] w fun e w' => e = .returned (.bool (nodeB (ns.getD i Nd.zero) i)) ∧ Below w.heap.size w w' := by
  have H : Hid (inB (i : Int) 0 ((ns.length : Int) - 1) = true) := by show _ = _; unfold inB; simp; omega
  obtain ⟨b, off, rfl⟩ := hr.addr hi
  obtain ⟨hb, c0, c1, c2, c3⟩ := hr.at (Below.refl _ _) hi
  have hi0 : (0 : Int) ≤ (i : Int) := by omega
  have hi1 : (i : Int) < (ns.length : Int) := by omega
  clear hr
  generalize ns.getD i Nd.zero = y at c0 c1 c2 c3 ⊢
  go_enter Try.func37, Try.ntmps37
  go_wp2_with fail
  refine (ahead_any _ _ _).mono ?_
  rintro e w' ⟨rfl, rfl⟩
  rw [H.out]
  go_wp2_with fail
  refine (right_any y i _).mono ?_
  rintro e w' ⟨v, rfl, hb1⟩
  go_wp2
  go_ret
  exact ⟨rfl, ((Below.refl _ _).alloc (Nat.le_refl _) _).trans (hb1.mono (by simp))⟩
theorem implOk_any (a : Option Addr) (cap : Nat) (ns : List Nd) (k : Int) (w : World) (hl : ns.length ≤ 1048576) (hr : RowN w.heap.size w a ns) :
    Calls Try.prog 37 #[.agg #[.slice a ns.length cap], .int .i64 k] w fun e w' => e = .returned (.bool (okAt ns k)) ∧ Below w.heap.size w w' := by
  cases h : inB k 0 ((ns.length : Int) - 1) with
  | false =>
    have e : okAt ns k = false := by unfold okAt; rw [h]; rfl
    rw [e]
    exact implOk_no a cap ns k w hl h
  | true =>
    have h' := h
    unfold inB at h'
    simp at h'
    obtain ⟨i, rfl⟩ : ∃ i : Nat, k = (i : Int) := ⟨k.toNat, by omega⟩
    have e : okAt ns (i : Int) = nodeB (ns.getD i Nd.zero) i := by unfold okAt; rw [h]; simp
    rw [e]
    exact implOk_yes a cap ns i w hl (by omega) hr

/-- Where a node comes to stand among e nodes, f the first that is it. -/
def placeB (x : Nd) (e f mx : Int) : Int := if nodeB x e = true then (if 0 ≤ f then f else if mx ≤ e then -1 else e) else -1
theorem placeFor_any (x : Nd) (e f mx : Int) (w : World) :
    Calls Try.prog 157 #[.agg #[.int .i64 x.k, .int .i64 x.n, .int .i64 x.a, .int .i64 x.b], .int .i64 e, .int .i64 f, .int .i64 mx] w fun r w' => r = .returned (.int .i64 (placeB x e f mx)) ∧ Below w.heap.size w w' := by
  obtain ⟨d, HD⟩ : ∃ d, Hid (nodeB x e = d) := ⟨_, rfl⟩
  have HP : Hid (placeB x e f mx = if d = true then (if 0 ≤ f then f else if mx ≤ e then -1 else e) else -1) := by show _ = _; unfold placeB; rw [HD.out]
  cases d
  · go_enter Try.func157, Try.ntmps157
    go_wp2_with fail
    refine (right_any x e _).mono ?_
    rintro r w1 ⟨v, rfl, hb1⟩
    rw [HD.out]
    go_wp2
    go_ret
    exact ⟨by rw [HP.out]; rfl, ((Below.refl _ _).alloc (Nat.le_refl _) _).trans (hb1.mono (by simp))⟩
  · by_cases h0 : 0 ≤ f
    · have HQ : Hid (placeB x e f mx = f) := by show _ = _; rw [HP.out, if_pos rfl, if_pos h0]
      go_enter Try.func157, Try.ntmps157
      go_wp2_with fail
      refine (right_any x e _).mono ?_
      rintro r w1 ⟨v, rfl, hb1⟩
      rw [HD.out]
      go_wp2
      go_ret
      exact ⟨by rw [HQ.out]; rfl, ((Below.refl _ _).alloc (Nat.le_refl _) _).trans (hb1.mono (by simp))⟩
    · by_cases h1 : mx ≤ e
      · have HQ : Hid (placeB x e f mx = -1) := by show _ = _; rw [HP.out, if_pos rfl, if_neg h0, if_pos h1]
        go_enter Try.func157, Try.ntmps157
        go_wp2_with fail
        refine (right_any x e _).mono ?_
        rintro r w1 ⟨v, rfl, hb1⟩
        rw [HD.out]
        go_wp2
        go_ret
        exact ⟨by rw [HQ.out]; rfl, ((Below.refl _ _).alloc (Nat.le_refl _) _).trans (hb1.mono (by simp))⟩
      · have HQ : Hid (placeB x e f mx = e) := by show _ = _; rw [HP.out, if_pos rfl, if_neg h0, if_neg h1]
        go_enter Try.func157, Try.ntmps157
        go_wp2_with fail
        refine (right_any x e _).mono ?_
        rintro r w1 ⟨v, rfl, hb1⟩
        rw [HD.out]
        go_wp2
        go_ret
        exact ⟨by rw [HQ.out]; rfl, ((Below.refl _ _).alloc (Nat.le_refl _) _).trans (hb1.mono (by simp))⟩
/-- Put where there is room for as many as mx tells. -/
def putAm (mx : Nat) (ns : List Nd) (x : Nd) : List Nd := if nodeB x ns.length = true ∧ findN ns x = -1 ∧ ns.length < mx then ns ++ [x] else ns
def putKm (mx : Nat) (ns : List Nd) (x : Nd) : Int := if nodeB x ns.length = true then (if findN ns x = -1 ∧ ns.length < mx then (ns.length : Int) else findN ns x) else -1
theorem putAm_is (ns : List Nd) (x : Nd) : putAm 3000 ns x = putA ns x := rfl
theorem putKm_is (ns : List Nd) (x : Nd) : putKm 3000 ns x = putK ns x := rfl
/-- placeFor, at the first place of the node: as Put says. -/
theorem placeB_put (mx : Nat) (ns : List Nd) (x : Nd) : placeB x ns.length (findN ns x) (mx : Int) = putKm mx ns x := by
  unfold placeB putKm
  cases nodeB x (ns.length : Int)
  · rfl
  · have := findN_range ns x
    simp only [if_true]
    by_cases h0 : 0 ≤ findN ns x
    · rw [if_pos h0, if_neg (by omega)]
    · rw [if_neg h0]
      by_cases h1 : (mx : Int) ≤ ns.length
      · rw [if_pos h1, if_neg (by omega)]; omega
      · rw [if_neg h1, if_pos (by omega)]
end Go.Proofs.Ytffnadnndmmliaa

namespace Go.Proofs.Ytffnadnndmmliaa
open Go.RowKit
set_option linter.unusedVariables false

theorem specSize_any (a : Option Addr) (cap : Nat) (ns : List Nd) (k : Int) (w : World) (hl : ns.length ≤ 1048576) (hr : RowN w.heap.size w a ns) :
    Calls Try.prog 36 #[.agg #[.slice a ns.length cap], .int .i64 k] w fun e w' => e = .returned (.int .i64 (sizeN ns k)) ∧ Below w.heap.size w w' := by
  cases h : inB k 0 ((ns.length : Int) - 1) with
  | false =>
    rw [sizeN_out h]
    clear hr
    go_enter Try.func36, Try.ntmps36
    go_wp2_with fail
    refine (specIn_any _ _ _ _).mono ?_
    rintro e w' ⟨rfl, rfl⟩
    rw [h]
    go_wp2
    go_ret
    exact ⟨rfl, (Below.refl _ _).alloc (Nat.le_refl _) _⟩
  | true =>
    have hb := inB_true h
    obtain ⟨K, rfl⟩ : ∃ K : Nat, k = (K : Int) := ⟨k.toNat, by omega⟩
    have hK : K < ns.length := by omega
    rw [sizeN_in ns K hK]
    have hb0 : Below w.heap.size w (w.alloc (.cells #[.slice a ns.length cap] 28)) := (Below.refl _ _).alloc (Nat.le_refl _) _
    have HS : Hid _ := specSizes_any a cap ns K _ hl hK (hr.grown hb0)
    have HB : Hid _ := hb0
    have HV : Hid ((sizesN ns (K + 1)).getD K 0 = szv ns K) := szv_at ns (K + 1) K (by omega)
    have H : Hid _ := h
    have hk0 : (0 : Int) ≤ (K : Int) := by omega
    clear hr hb0 hb h
    go_enter Try.func36, Try.ntmps36
    go_wp2_with fail
    refine (specIn_any _ _ _ _).mono ?_
    rintro e w' ⟨rfl, rfl⟩
    rw [H.out]
    go_wp2_with fail
    refine Calls.mono HS.out ?_
    rintro e w1 ⟨v, rfl, ho, hb1⟩
    obtain ⟨g, cp, rfl, hg, hgl, hcells⟩ := own_ints ho (by omega)
    have hc := hcells K (by omega)
    rw [HV.out] at hc
    have hB1 : Below w.heap.size w w1 := HB.out.trans (hb1.mono HB.out.size)
    have hk1 : (K : Int) < ((K + 1 : Nat) : Int) := by omega
    have hk2 : (K : Int) < (K : Int) + 1 := by omega
    clear ho hcells hb1 HS HB HV
    go_wp2
    go_ret
    exact ⟨rfl, hB1⟩

/-- sizeWith of an atom. -/
theorem sizeWith_atom (v x : Value) (w : World) :
    Calls Try.prog 96 #[.iface 154 v, x] w fun e w' => e = .returned (.int .i64 1) ∧ Below w.heap.size w w' := by
  have ho := as_atomTerm_oneTerm
  have ht := as_atomTerm_twoTerm
  go_enter Try.func96, Try.ntmps96
  go_wp2
  go_ret
  exact ⟨rfl, Below.refl _ _⟩
/-- .. of a term with one. -/
theorem sizeWith_one (k : Int) (p g n cap : Nat) (x1 : Int) (w : World) (hp : p < n) (hg : g < w.heap.size) (h0 : 0 ≤ x1) (h1 : x1 ≤ 100000) (hc : w.cell? ⟨g, p, none⟩ = some (.int .i64 x1)) :
    Calls Try.prog 96 #[.iface 156 (.agg #[.int .i64 k, .int .i64 (p : Int)]), .slice (some ⟨g, 0, none⟩) n cap] w fun e w' => e = .returned (.int .i64 (if 100000 < 1 + x1 then 100000 else 1 + x1)) ∧ Below w.heap.size w w' := by
  have ho := as_oneTerm_oneTerm
  have hp0 : (0 : Int) ≤ (p : Int) := by omega
  have hp1 : (p : Int) < (n : Int) := by omega
  by_cases h : 100000 < 1 + x1
  · rw [if_pos h]
    go_enter Try.func96, Try.ntmps96
    go_wp2
    go_ret
    exact ⟨rfl, (Below.refl _ _).alloc (Nat.le_refl _) _⟩
  · rw [if_neg h]
    go_enter Try.func96, Try.ntmps96
    go_wp2
    go_ret
    exact ⟨rfl, (Below.refl _ _).alloc (Nat.le_refl _) _⟩
end Go.Proofs.Ytffnadnndmmliaa

namespace Go.Proofs.Ytffnadnndmmliaa
open Go.RowKit Go.Maps
set_option linter.unusedVariables false

theorem implArena_long (a : Option Addr) (cap : Nat) (ns : List Nd) (w : World) (hl : ns.length ≤ 1048576) (h : 3000 < ns.length) :
    Calls Try.prog 30 #[.agg #[.slice a ns.length cap]] w fun e w' => e = .returned (.bool (arenaB ns)) ∧ Below w.heap.size w w' := by
  have HV : Hid (arenaB ns = false) := by show _ = _; unfold arenaB; rw [decide_eq_false (by omega)]; rfl
  have h' : (3000 : Int) < (ns.length : Int) := by omega
  go_enter Try.func30, Try.ntmps30
  go_wp2
  go_ret
  exact ⟨by rw [HV.out]; rfl, (Below.refl _ _).alloc (Nat.le_refl _) _⟩
theorem not_all {ns : List Nd} {k : Nat} (hk : k < ns.length) (h : nodeB (ns.getD k Nd.zero) (k : Int) = false) : allFrom ns ns 0 = false := by
  cases e : allFrom ns ns 0 with
  | false => rfl
  | true => have := ((arena_iff ns).1 e).1 k hk; rw [h] at this; exact absurd this (by simp)
theorem all_count {ns : List Nd} (h : ∀ i, i < ns.length → nodeB (ns.getD i Nd.zero) (i : Int) = true) : allFrom ns ns 0 = ((dcN ns ns.length : Int) == (ns.length : Int)) := by
  rw [Bool.eq_iff_iff, arena_iff, beq_iff_eq]
  constructor
  · intro h2; omega
  · intro h2; exact ⟨h, by omega⟩
theorem placesLen_any (a : Option Addr) (cap : Nat) (ns : List Nd) (w : World) (hl : ns.length ≤ 1048576) (hf : ∀ y ∈ ns, y.Fits) (hr : RowN w.heap.size w a ns) :
    Calls Try.prog 97 #[.slice a ns.length cap] w.drew fun e w' => e = .returned (.map (some w.heap.size)) ∧ (∀ ty, (Builtin.len_ #[102] ty #[.map (some w.heap.size)]).run Try.prog w' = .ok (.int .i64 ((dcN ns ns.length : Nat) : Int)) w') ∧ Hid (Below w.heap.size w w') := by
  refine (placesOf_any a cap ns w.drew hl hf (hr.grown (Below.refl _ _).drew)).mono ?_
  rintro e w' ⟨D, he, ho, hp, hb⟩
  refine ⟨he, fun ty => ?_, ((Below.refl _ _).drew).trans hb⟩
  have := ho.len Try.underlying102 ty
  rw [hp.size] at this
  exact this
set_option maxHeartbeats 1600000 in
theorem implArena_short (a : Option Addr) (cap : Nat) (ns : List Nd) (w : World) (h : ns.length ≤ 3000) (hf : ∀ y ∈ ns, y.Fits) (hr : RowN w.heap.size w a ns) :
    Calls Try.prog 30 #[.agg #[.slice a ns.length cap]] w fun e w' => e = .returned (.bool (arenaB ns)) ∧ Below w.heap.size w w' := by
  have HV : Hid (arenaB ns = allFrom ns ns 0) := by show _ = _; unfold arenaB; rw [decide_eq_true (by omega)]; rfl
  have h' : ¬ (3000 : Int) < (ns.length : Int) := by omega
  have HR : Hid (RowN w.heap.size w a ns) := hr
  have HF : Hid (∀ y ∈ ns, y.Fits) := hf
  clear hr hf
  go_enter Try.func30, Try.ntmps30
  go_wp2
  go_loopw [11] (fun i wr => ∃ k : Nat, k ≤ ns.length ∧ i = .int .i64 (k : Int) ∧ Hid (∀ j, j < k → nodeB (ns.getD j Nd.zero) (j : Int) = true) ∧ Below w.heap.size w wr ∧ wr.cell? ⟨w.heap.size, 0, none⟩ = some (.slice a ns.length cap) ∧ w.heap.size < wr.heap.size)
    (fun i _ => ns.length - (intOf i).toNat)
  case atStart => exact ⟨0, Nat.zero_le _, rfl, (fun j hj => by omega), (Below.refl _ _).alloc (Nat.le_refl _) _, by rw [cell_of_row _ w.heap.size 0 _ _ _ (heap_alloc_new w _)]; rfl, by simp⟩
  case round =>
    obtain ⟨k, hk, rfl, HA, hbel, hown, hsz⟩ := hrel
    by_cases hlt : k < ns.length
    · have hi0 : (0 : Int) ≤ (k : Int) := by omega
      have hi1 : (k : Int) < (ns.length : Int) := by omega
      obtain ⟨d, HD⟩ : ∃ d, Hid (nodeB (ns.getD k Nd.zero) (k : Int) = d) := ⟨_, rfl⟩
      cases d
      · have HE : Hid (allFrom ns ns 0 = false) := not_all hlt HD.out
        go_wp2_with fail
        refine (implOk_yes a cap ns k _ (by omega) hlt (HR.out.grown hbel)).mono ?_
        rintro e w1 ⟨rfl, hb1⟩
        rw [HD.out]
        go_wp2
        go_ret
        exact ⟨by rw [HV.out, HE.out]; rfl, hbel.trans (hb1.mono hbel.size)⟩
      · have HE : Hid (∀ j, j < k + 1 → nodeB (ns.getD j Nd.zero) (j : Int) = true) := fun j hj => by
          by_cases e : j = k
          · subst e; exact HD.out
          · exact HA.out j (by omega)
        go_wp2_with fail
        refine (implOk_yes a cap ns k _ (by omega) hlt (HR.out.grown hbel)).mono ?_
        rintro e w1 ⟨rfl, hb1⟩
        rw [HD.out]
        have hc1 := (hb1.cell (p := ⟨w.heap.size, 0, none⟩) hsz).trans hown
        have hs1 := Nat.lt_of_lt_of_le hsz hb1.size
        have hB1 : Below w.heap.size w w1 := hbel.trans (hb1.mono hbel.size)
        clear hb1 hbel hown hsz
        go_wp2
        go_roundw
        case rel => exact ⟨k + 1, by omega, by go_num, HE, hB1, hc1, hs1⟩
        case measure => simp [intOf]; omega
    · obtain rfl : k = ns.length := by omega
      have HC : Hid _ := all_count HA.out
      clear HA
      have HP : Hid _ := placesLen_any a cap ns wr (by omega) HF.out (HR.out.grown hbel)
      have HB : Hid (Below w.heap.size w wr) := hbel
      clear hbel HR HF hlt
      generalize dcN ns ns.length = dc at HP HC
      go_wp2
      go_region_with (go_at_call 97; refine Calls.mono HP.out ?_; rintro e w6 ⟨rfl, hlen, hb6⟩; have hc6 := (hb6.out.cell (p := ⟨w.heap.size, 0, none⟩) hsz).trans hown)
      all_goals
        go_wp2
        go_ret
        exact ⟨by rw [HV.out, HC.out]; rfl, HB.out.trans (hb6.out.mono HB.out.size)⟩
theorem implArena_any (a : Option Addr) (cap : Nat) (ns : List Nd) (w : World) (hl : ns.length ≤ 1048576) (hf : ∀ y ∈ ns, y.Fits) (hr : RowN w.heap.size w a ns) :
    Calls Try.prog 30 #[.agg #[.slice a ns.length cap]] w fun e w' => e = .returned (.bool (arenaB ns)) ∧ Below w.heap.size w w' := by
  by_cases h : ns.length ≤ 3000
  · exact implArena_short a cap ns w h hf hr
  · exact implArena_long a cap ns w hl (by omega)
end Go.Proofs.Ytffnadnndmmliaa
