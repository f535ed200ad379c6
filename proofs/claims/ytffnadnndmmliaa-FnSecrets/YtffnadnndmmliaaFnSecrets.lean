/- For every code: secrets of one side are not those of the other one, those of one epoch not those of the next; who has a later one does not have the one ahead by it. No condition. -/
import Derived.Test.YtffnadnndmmliaaRows
import Derived.Test.YtffnadnndmmliaaSecP6
import Derived.Test.YtffnadnndmmliaaImplS6
import Derived.Test.YtffnadnndmmliaaLawInts
import Derived.Test.YtffnadnndmmliaaLawArena2
import Derived.Test.YtffnadnndmmliaaLawKeep
import Derived.Test.YtffnadnndmmliaaCodeW
import Derived.Test.YtffnadnndmmliaaDrawAny
import Derived.Test.YtffnadnndmmliaaMakeA
import Derived.WalkKit
import Derived.ProofKit
import Derived.OpenShut
import Derived.ShutString
import Derived.ChangeOld
import Derived.PlainAid
import Derived.Deep.RegionWith
import Derived.Deep.DeepCutAuto
namespace Go.Proofs.Ytffnadnndmmliaa
namespace fnSecrets
open Go.ChangeShapes Go.WideShapes Go.ChangeAt Go.RowKit Go.PlainAid
open Go.ChangeMaps (open_string shut_string)
set_option linter.unusedVariables false

theorem own : ownKnob Try.prog.godebug = none := by kernel_rfl

theorem wf_of {x : Int} (h : -1000 ≤ x ∧ x ≤ 1000) : (Lit.int .i64 x).wf = true := by
  have h1 : IntKind.i64.min = -9223372036854775808 := rfl
  have h2 : IntKind.i64.max = 9223372036854775807 := rfl
  simp [Lit.wf, h1, h2]; omega
/-- The arena ahead of the secrets. -/
structure At4 (w : World) (gA : Nat) (N : Int) (a : Option Addr) (c : Nat) (wc : World) : Prop where
  bx : Box gA (.slice a 1 c) wc
  own : ∃ lo hi, Own lo hi (.slice a 1 c) [A6 N] wc ∧ gA < lo
  bel : Below w.heap.size w wc
set_option maxHeartbeats 12800000 in
set_option maxRecDepth 20000 in
theorem walk (a0 : Option Addr) (len0 cap0 : Nat) (w : World) (hcode : len0 ≤ 1048576 → CodeIn w.heap.size w a0 len0) :
    Calls Try.prog 7 #[.slice a0 len0 cap0] w fun e w' => e = .returned (.bool true) ∧ Below w.heap.size w w' := by
  by_cases hbig : len0 ≤ 1048576
  · have HC : Hid (CodeIn w.heap.size w a0 len0) := hcode hbig
    have hd : decide ((1048576 : Int) < (len0 : Int)) = false := by simp; omega
    clear hcode hbig
    have hb0 : Below w.heap.size w (w.alloc (.cells #[.slice none 0 0] 28)) := (Below.refl _ _).alloc (Nat.le_refl _) _
    have BX : Box w.heap.size (.slice none 0 0) (w.alloc (.cells #[.slice none 0 0] 28)) := Box.made
    have HC0 : Hid (CodeIn (w.alloc (.cells #[.slice none 0 0] 28)).heap.size (w.alloc (.cells #[.slice none 0 0] 28)) a0 len0) := codeIn_later HC.out hb0
    have HB0 : Hid (Below w.heap.size w (w.alloc (.cells #[.slice none 0 0] 28))) := hb0
    clear HC hb0
    go_enter Try.func7, Try.ntmps7
    go_wp2_with fail
    refine (big_any _ _ _ _).mono ?_
    rintro e wz ⟨rfl, rfl⟩
    rw [hd]
    clear hd
    go_wp2_with fail
    obtain ⟨gA, HGA⟩ : ∃ g, Hid (w.heap.size = g) := ⟨_, rfl⟩
    have hgw : w.heap.size ≤ gA := by rw [HGA.out]; exact Nat.le_refl _
    rw [HGA.out] at BX ⊢
    generalize w.alloc (.cells #[.slice none 0 0] 28) = w0 at BX HC0 HB0 ⊢
    have hglt := BX.lt
    have q0 := BX.c
    have q1 := BX.fr
    have HCD : Hid (CodeIn w0.drew.heap.size w0.drew a0 len0) := HC0.out
    have BXD : Box gA (.slice none 0 0) w0.drew := ⟨BX.row⟩
    have HBD : Hid (Below w.heap.size w w0.drew) := HB0.out.drew
    clear HC0 HB0
    have HAT : Hid (∀ (wz : World) (p0 : Nat), p0 < 10000 → Calls Try.prog 42 #[.agg #[.slice none 0 0], .int .i64 (10000 + (p0 : Int))] wz fun e w' => ∃ a c, e = .returned (.tuple #[.agg #[.slice a 1 c], .int .i64 0]) ∧ OwnN wz.heap.size w' (.slice a 1 c) [A6 (10000 + (p0 : Int))] ∧ Below wz.heap.size wz w') := fun wz p0 hp => by
      have ea := a6 (N := 10000 + (p0 : Int)) (by omega) (by omega)
      have h := specAtom_any none 0 [] (10000 + (p0 : Int)) wz (by simp) (.inl ⟨rfl, rfl⟩) (.inl rfl)
      rw [show (⟨1, 10000 + (p0 : Int), 0, 0⟩ : Nd) = A6 (10000 + (p0 : Int)) from rfl, ea.1, ea.2] at h
      refine h.mono ?_
      rintro e w' ⟨v, rfl, ho, hb⟩
      obtain ⟨a, c, rfl, -, -⟩ := ho.row
      exact ⟨a, c, rfl, ho, hb⟩
    have HMK : Hid (∀ (p0 : Nat) (a2 : Option Addr) (c2 : Nat) (w1 w2 : World), Below w0.drew.heap.size w0.drew w1 → Below w1.heap.size w1 w2 → Box gA (.slice none 0 0) w2 → OwnN w1.heap.size w2 (.slice a2 1 c2) [A6 (10000 + (p0 : Int))] → At4 w gA (10000 + (p0 : Int)) a2 c2 (w2.setCell ⟨gA, 0, none⟩ (.slice a2 1 c2))) := fun p0 a2 c2 w1 w2 hb1 hb2 BX2 ho2 =>
      ⟨BX2.set _, ⟨_, _, (Own.made ho2).set (Nat.lt_of_lt_of_le hglt hb1.size), Nat.lt_of_lt_of_le hglt hb1.size⟩, ((HBD.out.trans (hb1.mono HBD.out.size)).trans (hb2.mono (Nat.le_trans HBD.out.size hb1.size))).setCell hgw _⟩
    go_cut [4] (fun s4 wc => s4 = .int .i64 0 ∧ ∃ (N : Int) (a : Option Addr) (c : Nat), Hid (10000 ≤ N ∧ N ≤ 19999) ∧ Hid (At4 w gA N a c wc))
    case first =>
      go_region_with (first | (go_at_call 24; refine (places_any a0 len0 cap0 _ HCD.out).mono ?_; rintro e w1 ⟨gp, cp, ps, rfl, hpl, hpb, hg1, hg2, hcl, hb1⟩; have hp0 := hcl 0 (by omega); have hpm := hpb (ps.getD 0 0) (by rw [List.getD_eq_getElem?_getD, List.getElem?_eq_getElem (by omega)]; exact List.getElem_mem _); have q2 := (BXD.next hb1).c; clear hcl hpb; generalize ps.getD 0 0 = p0 at hp0 hpm; have hwr : IntKind.i64.wrap (10000 + (p0 : Int)) = 10000 + (p0 : Int) := (by rw [IntKind.wrap_i64]; omega)) | (go_at_call 42; refine (HAT.out _ p0 hpm).mono ?_; rintro e w2 ⟨a2, c2, rfl, ho2, hb2⟩; have BX2 := (BXD.next hb1).next hb2; have q3 := BX2.c; have q4 := BX2.fr; have HEND : Hid (At4 w gA (10000 + (p0 : Int)) a2 c2 (w2.setCell ⟨gA, 0, none⟩ (.slice a2 1 c2))) := HMK.out _ _ _ _ _ hb1 hb2 BX2 ho2))
      all_goals
        go_wp2_with fail
        go_meet
        exact ⟨rfl, 10000 + (p0 : Int), a2, c2, (show _ ∧ _ by omega), HEND⟩
    case rest =>
      obtain ⟨rfl, N, a4, c4, HN, H4⟩ := hcut
      clear q0 q1 BX BXD HCD HBD hglt HAT HMK
      obtain ⟨L0, HL0⟩ : ∃ L, Hid (L = [A6 N]) := ⟨_, rfl⟩
      obtain ⟨L1, HL1, HIx⟩ : ∃ L, Hid (L = A6 N :: [⟨1, 1, 0, 0⟩, ⟨4, 0, 0, 1⟩]) ∧ Hid (∀ (a : Option Addr) (cap : Nat) (w : World), AddrN a cap → RowN w.heap.size w a L0 → Calls Try.prog 43 #[.agg #[.slice a L0.length cap], .int .i64 0, .int .i64 1] w fun e w' => ∃ v, e = .returned (.tuple #[.agg #[v], .int .i64 2]) ∧ OwnC w.heap.size w' v L ∧ Below w.heap.size w w') :=
        ⟨_, rfl, fun a cap w ha hr => by
          have hfit : ∀ y ∈ L0, y.Fits := by rw [HL0.out]; exact all_fits (okT HN.out.1 (by have := HN.out.2; omega) (by kernel_rfl)) (by show 1 ≤ 3000; decide)
          have h := implSide_any a cap L0 0 1 w (by rw [HL0.out]; show 1 ≤ 1048576; decide) hfit (wf_of (by omega)) (wf_of (by omega)) ha hr
          have e1 : sideA L0 0 1 = A6 N :: [⟨1, 1, 0, 0⟩, ⟨4, 0, 0, 1⟩] := by rw [HL0.out]; exact (s6_0 HN.out.1).1
          have e2 : sideK L0 0 1 = 2 := by rw [HL0.out]; exact (s6_0 HN.out.1).2
          rw [e1, e2, keptA_pos (by decide)] at h
          exact h⟩
      obtain ⟨L2, HL2, HIy⟩ : ∃ L, Hid (L = A6 N :: [⟨1, 1, 0, 0⟩, ⟨4, 0, 0, 1⟩, ⟨1, 2, 0, 0⟩, ⟨4, 0, 0, 3⟩]) ∧ Hid (∀ (a : Option Addr) (cap : Nat) (w : World), AddrN a cap → RowN w.heap.size w a L1 → Calls Try.prog 43 #[.agg #[.slice a L1.length cap], .int .i64 0, .int .i64 2] w fun e w' => ∃ v, e = .returned (.tuple #[.agg #[v], .int .i64 4]) ∧ OwnC w.heap.size w' v L ∧ Below w.heap.size w w') :=
        ⟨_, rfl, fun a cap w ha hr => by
          have hfit : ∀ y ∈ L1, y.Fits := by rw [HL1.out]; exact all_fits (okT HN.out.1 (by have := HN.out.2; omega) (by kernel_rfl)) (by show 3 ≤ 3000; decide)
          have h := implSide_any a cap L1 0 2 w (by rw [HL1.out]; show 3 ≤ 1048576; decide) hfit (wf_of (by omega)) (wf_of (by omega)) ha hr
          have e1 : sideA L1 0 2 = A6 N :: [⟨1, 1, 0, 0⟩, ⟨4, 0, 0, 1⟩, ⟨1, 2, 0, 0⟩, ⟨4, 0, 0, 3⟩] := by rw [HL1.out]; exact (s6_1 HN.out.1).1
          have e2 : sideK L1 0 2 = 4 := by rw [HL1.out]; exact (s6_1 HN.out.1).2
          rw [e1, e2, keptA_pos (by decide)] at h
          exact h⟩
      obtain ⟨L3, HL3, HIe⟩ : ∃ L, Hid (L = A6 N :: [⟨1, 1, 0, 0⟩, ⟨4, 0, 0, 1⟩, ⟨1, 2, 0, 0⟩, ⟨4, 0, 0, 3⟩, ⟨1, 30, 0, 0⟩, ⟨4, 0, 0, 5⟩]) ∧ Hid (∀ (a : Option Addr) (cap : Nat) (w : World), AddrN a cap → RowN w.heap.size w a L2 → Calls Try.prog 41 #[.agg #[.slice a L2.length cap], .int .i64 0, .int .i64 1] w fun e w' => ∃ v, e = .returned (.tuple #[.agg #[v], .int .i64 6]) ∧ OwnC w.heap.size w' v L ∧ Below w.heap.size w w') :=
        ⟨_, rfl, fun a cap w ha hr => by
          have hfit : ∀ y ∈ L2, y.Fits := by rw [HL2.out]; exact all_fits (okT HN.out.1 (by have := HN.out.2; omega) (by kernel_rfl)) (by show 5 ≤ 3000; decide)
          have h := implEpoch_any a cap L2 0 1 w (by rw [HL2.out]; show 5 ≤ 1048576; decide) hfit (wf_of (by omega)) (wf_of (by omega)) ha hr
          have e1 : epochA L2 0 1 = A6 N :: [⟨1, 1, 0, 0⟩, ⟨4, 0, 0, 1⟩, ⟨1, 2, 0, 0⟩, ⟨4, 0, 0, 3⟩, ⟨1, 30, 0, 0⟩, ⟨4, 0, 0, 5⟩] := by rw [HL2.out]; exact (ep6_e HN.out.1 (by have := HN.out.2; omega)).1
          have e2 : epochK L2 0 1 = 6 := by rw [HL2.out]; exact (ep6_e HN.out.1 (by have := HN.out.2; omega)).2
          rw [e1, e2, keptA_pos (by decide)] at h
          exact h⟩
      obtain ⟨L4, HL4, HIf⟩ : ∃ L, Hid (L = A6 N :: [⟨1, 1, 0, 0⟩, ⟨4, 0, 0, 1⟩, ⟨1, 2, 0, 0⟩, ⟨4, 0, 0, 3⟩, ⟨1, 30, 0, 0⟩, ⟨4, 0, 0, 5⟩, ⟨4, 0, 6, 5⟩]) ∧ Hid (∀ (a : Option Addr) (cap : Nat) (w : World), AddrN a cap → RowN w.heap.size w a L3 → Calls Try.prog 41 #[.agg #[.slice a L3.length cap], .int .i64 0, .int .i64 2] w fun e w' => ∃ v, e = .returned (.tuple #[.agg #[v], .int .i64 7]) ∧ OwnC w.heap.size w' v L ∧ Below w.heap.size w w') :=
        ⟨_, rfl, fun a cap w ha hr => by
          have hfit : ∀ y ∈ L3, y.Fits := by rw [HL3.out]; exact all_fits (okT HN.out.1 (by have := HN.out.2; omega) (by kernel_rfl)) (by show 7 ≤ 3000; decide)
          have h := implEpoch_any a cap L3 0 2 w (by rw [HL3.out]; show 7 ≤ 1048576; decide) hfit (wf_of (by omega)) (wf_of (by omega)) ha hr
          have e1 : epochA L3 0 2 = A6 N :: [⟨1, 1, 0, 0⟩, ⟨4, 0, 0, 1⟩, ⟨1, 2, 0, 0⟩, ⟨4, 0, 0, 3⟩, ⟨1, 30, 0, 0⟩, ⟨4, 0, 0, 5⟩, ⟨4, 0, 6, 5⟩] := by rw [HL3.out]; exact (ep6_f HN.out.1 (by have := HN.out.2; omega)).1
          have e2 : epochK L3 0 2 = 7 := by rw [HL3.out]; exact (ep6_f HN.out.1 (by have := HN.out.2; omega)).2
          rw [e1, e2, keptA_pos (by decide)] at h
          exact h⟩
      obtain ⟨L5, HL5, HIz⟩ : ∃ L, Hid (L = A6 N :: [⟨1, 1, 0, 0⟩, ⟨4, 0, 0, 1⟩, ⟨1, 2, 0, 0⟩, ⟨4, 0, 0, 3⟩, ⟨1, 30, 0, 0⟩, ⟨4, 0, 0, 5⟩, ⟨4, 0, 6, 5⟩]) ∧ Hid (∀ (a : Option Addr) (cap : Nat) (w : World), AddrN a cap → RowN w.heap.size w a L4 → Calls Try.prog 41 #[.agg #[.slice a L4.length cap], .int .i64 6, .int .i64 1] w fun e w' => ∃ v, e = .returned (.tuple #[.agg #[v], .int .i64 7]) ∧ OwnC w.heap.size w' v L ∧ Below w.heap.size w w') :=
        ⟨_, rfl, fun a cap w ha hr => by
          have hfit : ∀ y ∈ L4, y.Fits := by rw [HL4.out]; exact all_fits (okT HN.out.1 (by have := HN.out.2; omega) (by kernel_rfl)) (by show 8 ≤ 3000; decide)
          have h := implEpoch_any a cap L4 6 1 w (by rw [HL4.out]; show 8 ≤ 1048576; decide) hfit (wf_of (by omega)) (wf_of (by omega)) ha hr
          have e1 : epochA L4 6 1 = A6 N :: [⟨1, 1, 0, 0⟩, ⟨4, 0, 0, 1⟩, ⟨1, 2, 0, 0⟩, ⟨4, 0, 0, 3⟩, ⟨1, 30, 0, 0⟩, ⟨4, 0, 0, 5⟩, ⟨4, 0, 6, 5⟩] := by rw [HL4.out]; exact (ep6_z HN.out.1 (by have := HN.out.2; omega)).1
          have e2 : epochK L4 6 1 = 7 := by rw [HL4.out]; exact (ep6_z HN.out.1 (by have := HN.out.2; omega)).2
          rw [e1, e2, keptA_pos (by decide)] at h
          exact h⟩
      obtain ⟨L6, HL6, HIp⟩ : ∃ L, Hid (L = A6 N :: [⟨1, 1, 0, 0⟩, ⟨4, 0, 0, 1⟩, ⟨1, 2, 0, 0⟩, ⟨4, 0, 0, 3⟩, ⟨1, 30, 0, 0⟩, ⟨4, 0, 0, 5⟩, ⟨4, 0, 6, 5⟩, ⟨1, 20, 0, 0⟩, ⟨4, 0, 0, 8⟩, ⟨3, 0, 6, 0⟩, ⟨4, 0, 9, 10⟩]) ∧ Hid (∀ (a : Option Addr) (cap : Nat) (w : World), AddrN a cap → RowN w.heap.size w a L5 → Calls Try.prog 44 #[.agg #[.slice a L5.length cap], .int .i64 0, .int .i64 6] w fun e w' => ∃ v, e = .returned (.tuple #[.agg #[v], .int .i64 11]) ∧ OwnC w.heap.size w' v L ∧ Below w.heap.size w w') :=
        ⟨_, rfl, fun a cap w ha hr => by
          have hfit : ∀ y ∈ L5, y.Fits := by rw [HL5.out]; exact all_fits (okT HN.out.1 (by have := HN.out.2; omega) (by kernel_rfl)) (by show 8 ≤ 3000; decide)
          have h := implApp_any a cap L5 0 6 w (by rw [HL5.out]; show 8 ≤ 1048576; decide) hfit (wf_of (by omega)) (wf_of (by omega)) ha hr
          have e1 : overA L5 4 0 20 6 = A6 N :: [⟨1, 1, 0, 0⟩, ⟨4, 0, 0, 1⟩, ⟨1, 2, 0, 0⟩, ⟨4, 0, 0, 3⟩, ⟨1, 30, 0, 0⟩, ⟨4, 0, 0, 5⟩, ⟨4, 0, 6, 5⟩, ⟨1, 20, 0, 0⟩, ⟨4, 0, 0, 8⟩, ⟨3, 0, 6, 0⟩, ⟨4, 0, 9, 10⟩] := by rw [HL5.out]; exact (o6_7 HN.out.1).1
          have e2 : overK L5 4 0 20 6 = 11 := by rw [HL5.out]; exact (o6_7 HN.out.1).2
          rw [e1, e2, keptA_pos (by decide)] at h
          exact h⟩
      obtain ⟨L7, HL7, HIq⟩ : ∃ L, Hid (L = A6 N :: [⟨1, 1, 0, 0⟩, ⟨4, 0, 0, 1⟩, ⟨1, 2, 0, 0⟩, ⟨4, 0, 0, 3⟩, ⟨1, 30, 0, 0⟩, ⟨4, 0, 0, 5⟩, ⟨4, 0, 6, 5⟩, ⟨1, 20, 0, 0⟩, ⟨4, 0, 0, 8⟩, ⟨3, 0, 6, 0⟩, ⟨4, 0, 9, 10⟩, ⟨3, 0, 7, 0⟩, ⟨4, 0, 9, 12⟩]) ∧ Hid (∀ (a : Option Addr) (cap : Nat) (w : World), AddrN a cap → RowN w.heap.size w a L6 → Calls Try.prog 44 #[.agg #[.slice a L6.length cap], .int .i64 0, .int .i64 7] w fun e w' => ∃ v, e = .returned (.tuple #[.agg #[v], .int .i64 13]) ∧ OwnC w.heap.size w' v L ∧ Below w.heap.size w w') :=
        ⟨_, rfl, fun a cap w ha hr => by
          have hfit : ∀ y ∈ L6, y.Fits := by rw [HL6.out]; exact all_fits (okT HN.out.1 (by have := HN.out.2; omega) (by kernel_rfl)) (by show 12 ≤ 3000; decide)
          have h := implApp_any a cap L6 0 7 w (by rw [HL6.out]; show 12 ≤ 1048576; decide) hfit (wf_of (by omega)) (wf_of (by omega)) ha hr
          have e1 : overA L6 4 0 20 7 = A6 N :: [⟨1, 1, 0, 0⟩, ⟨4, 0, 0, 1⟩, ⟨1, 2, 0, 0⟩, ⟨4, 0, 0, 3⟩, ⟨1, 30, 0, 0⟩, ⟨4, 0, 0, 5⟩, ⟨4, 0, 6, 5⟩, ⟨1, 20, 0, 0⟩, ⟨4, 0, 0, 8⟩, ⟨3, 0, 6, 0⟩, ⟨4, 0, 9, 10⟩, ⟨3, 0, 7, 0⟩, ⟨4, 0, 9, 12⟩] := by rw [HL6.out]; exact (o6_9 HN.out.1).1
          have e2 : overK L6 4 0 20 7 = 13 := by rw [HL6.out]; exact (o6_9 HN.out.1).2
          rw [e1, e2, keptA_pos (by decide)] at h
          exact h⟩
      obtain ⟨L8, HL8, HIm⟩ : ∃ L, Hid (L = A6 N :: [⟨1, 1, 0, 0⟩, ⟨4, 0, 0, 1⟩, ⟨1, 2, 0, 0⟩, ⟨4, 0, 0, 3⟩, ⟨1, 30, 0, 0⟩, ⟨4, 0, 0, 5⟩, ⟨4, 0, 6, 5⟩, ⟨1, 20, 0, 0⟩, ⟨4, 0, 0, 8⟩, ⟨3, 0, 6, 0⟩, ⟨4, 0, 9, 10⟩, ⟨3, 0, 7, 0⟩, ⟨4, 0, 9, 12⟩, ⟨1, 11, 0, 0⟩, ⟨4, 0, 0, 14⟩, ⟨9, 0, 15, 10⟩]) ∧ Hid (∀ (a : Option Addr) (cap : Nat) (w : World), AddrN a cap → RowN w.heap.size w a L7 → Calls Try.prog 45 #[.agg #[.slice a L7.length cap], .int .i64 0, .int .i64 1, .int .i64 6] w fun e w' => ∃ v, e = .returned (.tuple #[.agg #[v], .int .i64 16]) ∧ OwnC w.heap.size w' v L ∧ Below w.heap.size w w') :=
        ⟨_, rfl, fun a cap w ha hr => by
          have hfit : ∀ y ∈ L7, y.Fits := by rw [HL7.out]; exact all_fits (okT HN.out.1 (by have := HN.out.2; omega) (by kernel_rfl)) (by show 14 ≤ 3000; decide)
          have h := implDone_any a cap L7 0 1 6 w (by rw [HL7.out]; show 14 ≤ 1048576; decide) hfit (wf_of (by omega)) (wf_of (by omega)) (wf_of (by omega)) ha hr
          have e1 : overA L7 9 0 (IntKind.i64.wrap (10 + 1)) 6 = A6 N :: [⟨1, 1, 0, 0⟩, ⟨4, 0, 0, 1⟩, ⟨1, 2, 0, 0⟩, ⟨4, 0, 0, 3⟩, ⟨1, 30, 0, 0⟩, ⟨4, 0, 0, 5⟩, ⟨4, 0, 6, 5⟩, ⟨1, 20, 0, 0⟩, ⟨4, 0, 0, 8⟩, ⟨3, 0, 6, 0⟩, ⟨4, 0, 9, 10⟩, ⟨3, 0, 7, 0⟩, ⟨4, 0, 9, 12⟩, ⟨1, 11, 0, 0⟩, ⟨4, 0, 0, 14⟩, ⟨9, 0, 15, 10⟩] := by rw [HL7.out]; exact (o6_11 HN.out.1).1
          have e2 : overK L7 9 0 (IntKind.i64.wrap (10 + 1)) 6 = 16 := by rw [HL7.out]; exact (o6_11 HN.out.1).2
          rw [e1, e2, keptA_pos (by decide)] at h
          exact h⟩
      obtain ⟨L9, HL9, HIn⟩ : ∃ L, Hid (L = A6 N :: [⟨1, 1, 0, 0⟩, ⟨4, 0, 0, 1⟩, ⟨1, 2, 0, 0⟩, ⟨4, 0, 0, 3⟩, ⟨1, 30, 0, 0⟩, ⟨4, 0, 0, 5⟩, ⟨4, 0, 6, 5⟩, ⟨1, 20, 0, 0⟩, ⟨4, 0, 0, 8⟩, ⟨3, 0, 6, 0⟩, ⟨4, 0, 9, 10⟩, ⟨3, 0, 7, 0⟩, ⟨4, 0, 9, 12⟩, ⟨1, 11, 0, 0⟩, ⟨4, 0, 0, 14⟩, ⟨9, 0, 15, 10⟩, ⟨1, 12, 0, 0⟩, ⟨4, 0, 0, 17⟩, ⟨9, 0, 18, 10⟩]) ∧ Hid (∀ (a : Option Addr) (cap : Nat) (w : World), AddrN a cap → RowN w.heap.size w a L8 → Calls Try.prog 45 #[.agg #[.slice a L8.length cap], .int .i64 0, .int .i64 2, .int .i64 6] w fun e w' => ∃ v, e = .returned (.tuple #[.agg #[v], .int .i64 19]) ∧ OwnC w.heap.size w' v L ∧ Below w.heap.size w w') :=
        ⟨_, rfl, fun a cap w ha hr => by
          have hfit : ∀ y ∈ L8, y.Fits := by rw [HL8.out]; exact all_fits (okT HN.out.1 (by have := HN.out.2; omega) (by kernel_rfl)) (by show 17 ≤ 3000; decide)
          have h := implDone_any a cap L8 0 2 6 w (by rw [HL8.out]; show 17 ≤ 1048576; decide) hfit (wf_of (by omega)) (wf_of (by omega)) (wf_of (by omega)) ha hr
          have e1 : overA L8 9 0 (IntKind.i64.wrap (10 + 2)) 6 = A6 N :: [⟨1, 1, 0, 0⟩, ⟨4, 0, 0, 1⟩, ⟨1, 2, 0, 0⟩, ⟨4, 0, 0, 3⟩, ⟨1, 30, 0, 0⟩, ⟨4, 0, 0, 5⟩, ⟨4, 0, 6, 5⟩, ⟨1, 20, 0, 0⟩, ⟨4, 0, 0, 8⟩, ⟨3, 0, 6, 0⟩, ⟨4, 0, 9, 10⟩, ⟨3, 0, 7, 0⟩, ⟨4, 0, 9, 12⟩, ⟨1, 11, 0, 0⟩, ⟨4, 0, 0, 14⟩, ⟨9, 0, 15, 10⟩, ⟨1, 12, 0, 0⟩, ⟨4, 0, 0, 17⟩, ⟨9, 0, 18, 10⟩] := by rw [HL8.out]; exact (o6_13 HN.out.1).1
          have e2 : overK L8 9 0 (IntKind.i64.wrap (10 + 2)) 6 = 19 := by rw [HL8.out]; exact (o6_13 HN.out.1).2
          rw [e1, e2, keptA_pos (by decide)] at h
          exact h⟩
      obtain ⟨L10, HL10, HIh⟩ : ∃ L, Hid (L = A6 N :: [⟨1, 1, 0, 0⟩, ⟨4, 0, 0, 1⟩, ⟨1, 2, 0, 0⟩, ⟨4, 0, 0, 3⟩, ⟨1, 30, 0, 0⟩, ⟨4, 0, 0, 5⟩, ⟨4, 0, 6, 5⟩, ⟨1, 20, 0, 0⟩, ⟨4, 0, 0, 8⟩, ⟨3, 0, 6, 0⟩, ⟨4, 0, 9, 10⟩, ⟨3, 0, 7, 0⟩, ⟨4, 0, 9, 12⟩, ⟨1, 11, 0, 0⟩, ⟨4, 0, 0, 14⟩, ⟨9, 0, 15, 10⟩, ⟨1, 12, 0, 0⟩, ⟨4, 0, 0, 17⟩, ⟨9, 0, 18, 10⟩, ⟨2, 0, 2, 4⟩, ⟨3, 0, 0, 0⟩, ⟨4, 0, 20, 21⟩]) ∧ Hid (∀ (a : Option Addr) (cap : Nat) (w : World), AddrN a cap → RowN w.heap.size w a L9 → Calls Try.prog 46 #[.agg #[.slice a L9.length cap], .int .i64 2, .int .i64 4, .int .i64 0] w fun e w' => ∃ v, e = .returned (.tuple #[.agg #[v], .int .i64 22]) ∧ OwnC w.heap.size w' v L ∧ Below w.heap.size w w') :=
        ⟨_, rfl, fun a cap w ha hr => by
          have hfit : ∀ y ∈ L9, y.Fits := by rw [HL9.out]; exact all_fits (okT HN.out.1 (by have := HN.out.2; omega) (by kernel_rfl)) (by show 20 ≤ 3000; decide)
          have h := implHand_any a cap L9 2 4 0 w (by rw [HL9.out]; show 20 ≤ 1048576; decide) hfit (wf_of (by omega)) (wf_of (by omega)) (wf_of (by omega)) ha hr
          have e1 : handA L9 2 4 0 = A6 N :: [⟨1, 1, 0, 0⟩, ⟨4, 0, 0, 1⟩, ⟨1, 2, 0, 0⟩, ⟨4, 0, 0, 3⟩, ⟨1, 30, 0, 0⟩, ⟨4, 0, 0, 5⟩, ⟨4, 0, 6, 5⟩, ⟨1, 20, 0, 0⟩, ⟨4, 0, 0, 8⟩, ⟨3, 0, 6, 0⟩, ⟨4, 0, 9, 10⟩, ⟨3, 0, 7, 0⟩, ⟨4, 0, 9, 12⟩, ⟨1, 11, 0, 0⟩, ⟨4, 0, 0, 14⟩, ⟨9, 0, 15, 10⟩, ⟨1, 12, 0, 0⟩, ⟨4, 0, 0, 17⟩, ⟨9, 0, 18, 10⟩, ⟨2, 0, 2, 4⟩, ⟨3, 0, 0, 0⟩, ⟨4, 0, 20, 21⟩] := by rw [HL9.out]; exact (h6 HN.out.1).1
          have e2 : handK L9 2 4 0 = 22 := by rw [HL9.out]; exact (h6 HN.out.1).2
          rw [e1, e2, keptA_pos (by decide)] at h
          exact h⟩
      have BA : Box gA (.slice a4 L0.length c4) wc := by rw [HL0.out]; exact H4.out.bx
      obtain ⟨lo, hi, OA1, -⟩ := H4.out.own
      have hAd := OA1.rowIs
      have OA : Own lo hi (.slice a4 L0.length c4) L0 wc := by rw [HL0.out]; exact OA1
      have HB : Hid (Below w.heap.size w wc) := H4.out.bel
      clear H4 OA1
      have q0 := BA.c
      go_wp2_with fail
      clear q0
      refine (HIx.out _ _ _ hAd OA.rowAt).mono ?_
      rintro e wq1 ⟨v, rfl, ho, hb⟩
      obtain ⟨aq0, cq0, pq0, rfl, hA2, ho⟩ := ho
      have hlo := BA.lt
      clear OA hAd
      have OA0 := Own.made ho
      replace BA := BA.next hb
      replace HB : Hid (Below w.heap.size w wq1) := HB.out.trans (hb.mono HB.out.size)
      clear ho hb HIx
      have q0 := BA.c
      have q1 := BA.fr
      replace BA := BA.set (.slice aq0 L1.length cq0)
      have OA : Own _ _ _ _ (wq1.setCell ⟨gA, 0, none⟩ (.slice aq0 L1.length cq0)) := OA0.set hlo
      replace HB : Hid (Below w.heap.size w (wq1.setCell ⟨gA, 0, none⟩ (.slice aq0 L1.length cq0))) := HB.out.setCell hgw _
      have hAd := hA2
      clear OA0 hA2 hlo
      have q2 := BA.c
      go_wp2_with fail
      clear q0 q1 q2
      generalize wq1.setCell ⟨gA, 0, none⟩ (.slice aq0 L1.length cq0) = wr1 at BA OA HB ⊢
      refine (HIy.out _ _ _ hAd OA.rowAt).mono ?_
      rintro e wq2 ⟨v, rfl, ho, hb⟩
      obtain ⟨aq1, cq1, pq1, rfl, hA2, ho⟩ := ho
      have hlo := BA.lt
      clear OA hAd
      have OA0 := Own.made ho
      replace BA := BA.next hb
      replace HB : Hid (Below w.heap.size w wq2) := HB.out.trans (hb.mono HB.out.size)
      clear ho hb HIy
      have q0 := BA.c
      have q1 := BA.fr
      replace BA := BA.set (.slice aq1 L2.length cq1)
      have OA : Own _ _ _ _ (wq2.setCell ⟨gA, 0, none⟩ (.slice aq1 L2.length cq1)) := OA0.set hlo
      replace HB : Hid (Below w.heap.size w (wq2.setCell ⟨gA, 0, none⟩ (.slice aq1 L2.length cq1))) := HB.out.setCell hgw _
      have hAd := hA2
      clear OA0 hA2 hlo
      have q2 := BA.c
      go_wp2_with fail
      clear q0 q1 q2
      generalize wq2.setCell ⟨gA, 0, none⟩ (.slice aq1 L2.length cq1) = wr2 at BA OA HB ⊢
      refine (HIe.out _ _ _ hAd OA.rowAt).mono ?_
      rintro e wq3 ⟨v, rfl, ho, hb⟩
      obtain ⟨aq2, cq2, pq2, rfl, hA2, ho⟩ := ho
      have hlo := BA.lt
      clear OA hAd
      have OA0 := Own.made ho
      replace BA := BA.next hb
      replace HB : Hid (Below w.heap.size w wq3) := HB.out.trans (hb.mono HB.out.size)
      clear ho hb HIe
      have q0 := BA.c
      have q1 := BA.fr
      replace BA := BA.set (.slice aq2 L3.length cq2)
      have OA : Own _ _ _ _ (wq3.setCell ⟨gA, 0, none⟩ (.slice aq2 L3.length cq2)) := OA0.set hlo
      replace HB : Hid (Below w.heap.size w (wq3.setCell ⟨gA, 0, none⟩ (.slice aq2 L3.length cq2))) := HB.out.setCell hgw _
      have hAd := hA2
      clear OA0 hA2 hlo
      have q2 := BA.c
      go_wp2_with fail
      clear q0 q1 q2
      generalize wq3.setCell ⟨gA, 0, none⟩ (.slice aq2 L3.length cq2) = wr3 at BA OA HB ⊢
      refine (HIf.out _ _ _ hAd OA.rowAt).mono ?_
      rintro e wq4 ⟨v, rfl, ho, hb⟩
      obtain ⟨aq3, cq3, pq3, rfl, hA2, ho⟩ := ho
      have hlo := BA.lt
      clear OA hAd
      have OA0 := Own.made ho
      replace BA := BA.next hb
      replace HB : Hid (Below w.heap.size w wq4) := HB.out.trans (hb.mono HB.out.size)
      clear ho hb HIf
      have q0 := BA.c
      have q1 := BA.fr
      replace BA := BA.set (.slice aq3 L4.length cq3)
      have OA : Own _ _ _ _ (wq4.setCell ⟨gA, 0, none⟩ (.slice aq3 L4.length cq3)) := OA0.set hlo
      replace HB : Hid (Below w.heap.size w (wq4.setCell ⟨gA, 0, none⟩ (.slice aq3 L4.length cq3))) := HB.out.setCell hgw _
      have hAd := hA2
      clear OA0 hA2 hlo
      have q2 := BA.c
      go_wp2_with fail
      clear q0 q1 q2
      generalize wq4.setCell ⟨gA, 0, none⟩ (.slice aq3 L4.length cq3) = wr4 at BA OA HB ⊢
      refine (HIz.out _ _ _ hAd OA.rowAt).mono ?_
      rintro e wq5 ⟨v, rfl, ho, hb⟩
      obtain ⟨aq4, cq4, pq4, rfl, hA2, ho⟩ := ho
      have hlo := BA.lt
      clear OA hAd
      have OA0 := Own.made ho
      replace BA := BA.next hb
      replace HB : Hid (Below w.heap.size w wq5) := HB.out.trans (hb.mono HB.out.size)
      clear ho hb HIz
      have q0 := BA.c
      have q1 := BA.fr
      replace BA := BA.set (.slice aq4 L5.length cq4)
      have OA : Own _ _ _ _ (wq5.setCell ⟨gA, 0, none⟩ (.slice aq4 L5.length cq4)) := OA0.set hlo
      replace HB : Hid (Below w.heap.size w (wq5.setCell ⟨gA, 0, none⟩ (.slice aq4 L5.length cq4))) := HB.out.setCell hgw _
      have hAd := hA2
      clear OA0 hA2 hlo
      have q2 := BA.c
      go_wp2_with fail
      clear q0 q1 q2
      generalize wq5.setCell ⟨gA, 0, none⟩ (.slice aq4 L5.length cq4) = wr5 at BA OA HB ⊢
      refine (HIp.out _ _ _ hAd OA.rowAt).mono ?_
      rintro e wq6 ⟨v, rfl, ho, hb⟩
      obtain ⟨aq5, cq5, pq5, rfl, hA2, ho⟩ := ho
      have hlo := BA.lt
      clear OA hAd
      have OA0 := Own.made ho
      replace BA := BA.next hb
      replace HB : Hid (Below w.heap.size w wq6) := HB.out.trans (hb.mono HB.out.size)
      clear ho hb HIp
      have q0 := BA.c
      have q1 := BA.fr
      replace BA := BA.set (.slice aq5 L6.length cq5)
      have OA : Own _ _ _ _ (wq6.setCell ⟨gA, 0, none⟩ (.slice aq5 L6.length cq5)) := OA0.set hlo
      replace HB : Hid (Below w.heap.size w (wq6.setCell ⟨gA, 0, none⟩ (.slice aq5 L6.length cq5))) := HB.out.setCell hgw _
      have hAd := hA2
      clear OA0 hA2 hlo
      have q2 := BA.c
      go_wp2_with fail
      clear q0 q1 q2
      generalize wq6.setCell ⟨gA, 0, none⟩ (.slice aq5 L6.length cq5) = wr6 at BA OA HB ⊢
      refine (HIq.out _ _ _ hAd OA.rowAt).mono ?_
      rintro e wq7 ⟨v, rfl, ho, hb⟩
      obtain ⟨aq6, cq6, pq6, rfl, hA2, ho⟩ := ho
      have hlo := BA.lt
      clear OA hAd
      have OA0 := Own.made ho
      replace BA := BA.next hb
      replace HB : Hid (Below w.heap.size w wq7) := HB.out.trans (hb.mono HB.out.size)
      clear ho hb HIq
      have q0 := BA.c
      have q1 := BA.fr
      replace BA := BA.set (.slice aq6 L7.length cq6)
      have OA : Own _ _ _ _ (wq7.setCell ⟨gA, 0, none⟩ (.slice aq6 L7.length cq6)) := OA0.set hlo
      replace HB : Hid (Below w.heap.size w (wq7.setCell ⟨gA, 0, none⟩ (.slice aq6 L7.length cq6))) := HB.out.setCell hgw _
      have hAd := hA2
      clear OA0 hA2 hlo
      have q2 := BA.c
      go_wp2_with fail
      clear q0 q1 q2
      generalize wq7.setCell ⟨gA, 0, none⟩ (.slice aq6 L7.length cq6) = wr7 at BA OA HB ⊢
      refine (HIm.out _ _ _ hAd OA.rowAt).mono ?_
      rintro e wq8 ⟨v, rfl, ho, hb⟩
      obtain ⟨aq7, cq7, pq7, rfl, hA2, ho⟩ := ho
      have hlo := BA.lt
      clear OA hAd
      have OA0 := Own.made ho
      replace BA := BA.next hb
      replace HB : Hid (Below w.heap.size w wq8) := HB.out.trans (hb.mono HB.out.size)
      clear ho hb HIm
      have q0 := BA.c
      have q1 := BA.fr
      replace BA := BA.set (.slice aq7 L8.length cq7)
      have OA : Own _ _ _ _ (wq8.setCell ⟨gA, 0, none⟩ (.slice aq7 L8.length cq7)) := OA0.set hlo
      replace HB : Hid (Below w.heap.size w (wq8.setCell ⟨gA, 0, none⟩ (.slice aq7 L8.length cq7))) := HB.out.setCell hgw _
      have hAd := hA2
      clear OA0 hA2 hlo
      have q2 := BA.c
      go_wp2_with fail
      clear q0 q1 q2
      generalize wq8.setCell ⟨gA, 0, none⟩ (.slice aq7 L8.length cq7) = wr8 at BA OA HB ⊢
      refine (HIn.out _ _ _ hAd OA.rowAt).mono ?_
      rintro e wq9 ⟨v, rfl, ho, hb⟩
      obtain ⟨aq8, cq8, pq8, rfl, hA2, ho⟩ := ho
      have hlo := BA.lt
      clear OA hAd
      have OA0 := Own.made ho
      replace BA := BA.next hb
      replace HB : Hid (Below w.heap.size w wq9) := HB.out.trans (hb.mono HB.out.size)
      clear ho hb HIn
      have q0 := BA.c
      have q1 := BA.fr
      replace BA := BA.set (.slice aq8 L9.length cq8)
      have OA : Own _ _ _ _ (wq9.setCell ⟨gA, 0, none⟩ (.slice aq8 L9.length cq8)) := OA0.set hlo
      replace HB : Hid (Below w.heap.size w (wq9.setCell ⟨gA, 0, none⟩ (.slice aq8 L9.length cq8))) := HB.out.setCell hgw _
      have hAd := hA2
      clear OA0 hA2 hlo
      have q2 := BA.c
      go_wp2_with fail
      clear q0 q1 q2
      generalize wq9.setCell ⟨gA, 0, none⟩ (.slice aq8 L9.length cq8) = wr9 at BA OA HB ⊢
      refine (HIh.out _ _ _ hAd OA.rowAt).mono ?_
      rintro e wq10 ⟨v, rfl, ho, hb⟩
      obtain ⟨aq9, cq9, pq9, rfl, hA2, ho⟩ := ho
      have hlo := BA.lt
      clear OA hAd
      have OA0 := Own.made ho
      replace BA := BA.next hb
      replace HB : Hid (Below w.heap.size w wq10) := HB.out.trans (hb.mono HB.out.size)
      clear ho hb HIh
      have q0 := BA.c
      have q1 := BA.fr
      replace BA := BA.set (.slice aq9 L10.length cq9)
      have OA : Own _ _ _ _ (wq10.setCell ⟨gA, 0, none⟩ (.slice aq9 L10.length cq9)) := OA0.set hlo
      replace HB : Hid (Below w.heap.size w (wq10.setCell ⟨gA, 0, none⟩ (.slice aq9 L10.length cq9))) := HB.out.setCell hgw _
      have hAd := hA2
      clear OA0 hA2 hlo
      have q2 := BA.c
      go_wp2_with fail
      clear q0 q1 q2
      generalize wq10.setCell ⟨gA, 0, none⟩ (.slice aq9 L10.length cq9) = wr10 at BA OA HB ⊢
      have hLl : L10.length ≤ 1048576 := by rw [HL10.out]; show 23 ≤ 1048576; decide
      have HAR : Hid (arenaB L10 = true) := by show _ = _; rw [HL10.out]; unfold arenaB; rw [show allFrom _ _ 0 = true from okT HN.out.1 (by have := HN.out.2; omega) (by kernel_rfl)]; rfl
      refine (specArena_any _ _ _ _ (by omega) OA.rowAt).mono ?_
      rintro e we ⟨rfl, hb⟩
      rw [HAR.out]
      replace BA := BA.next hb
      replace OA := OA.next hb
      replace HB : Hid (Below w.heap.size w we) := HB.out.trans (hb.mono HB.out.size)
      clear hb
      have q0 := BA.c
      have hb : Below we.heap.size we (we.alloc (.cells #[.int .i64 7] 3)) := (Below.refl _ _).alloc (Nat.le_refl _) _
      have RI : RowI (we.alloc (.cells #[.int .i64 7] 3)).heap.size (we.alloc (.cells #[.int .i64 7] 3)) (some ⟨we.heap.size, 0, none⟩) [7] := by
        have hr := heap_alloc_new we (.cells #[.int .i64 7] 3)
        refine .inr ⟨_, 0, rfl, by simp, fun j hj => ?_⟩
        have hj3 : j < 1 := hj
        obtain rfl : j = 0 := by omega
        exact (cell_of_row _ _ 0 _ _ _ hr).trans rfl
      go_wp2_with fail
      clear q0
      replace BA := BA.next hb
      replace OA := OA.next hb
      replace HB : Hid (Below w.heap.size w (we.alloc (.cells #[.int .i64 7] 3))) := HB.out.trans (hb.mono HB.out.size)
      clear hb
      refine (specDerives_any _ _ _ _ L10 [7] 6 _ (by omega) (by simp) OA.rowAt RI).mono ?_
      rintro e wf0 ⟨bs, hbs, rfl, hb⟩
      rw [show derB bs 6 = false from by rw [HL10.out] at hbs; exact der6_f HN.out.1 (by have := HN.out.2; omega) hbs]
      replace BA := BA.next hb
      replace OA := OA.next hb
      replace HB : Hid (Below w.heap.size w wf0) := HB.out.trans (hb.mono HB.out.size)
      clear hb hbs RI
      have q0 := BA.c
      have hb : Below wf0.heap.size wf0 (wf0.alloc (.cells #[.int .i64 6] 3)) := (Below.refl _ _).alloc (Nat.le_refl _) _
      have RI : RowI (wf0.alloc (.cells #[.int .i64 6] 3)).heap.size (wf0.alloc (.cells #[.int .i64 6] 3)) (some ⟨wf0.heap.size, 0, none⟩) [6] := by
        have hr := heap_alloc_new wf0 (.cells #[.int .i64 6] 3)
        refine .inr ⟨_, 0, rfl, by simp, fun j hj => ?_⟩
        have hj3 : j < 1 := hj
        obtain rfl : j = 0 := by omega
        exact (cell_of_row _ _ 0 _ _ _ hr).trans rfl
      go_wp2_with fail
      clear q0
      replace BA := BA.next hb
      replace OA := OA.next hb
      replace HB : Hid (Below w.heap.size w (wf0.alloc (.cells #[.int .i64 6] 3))) := HB.out.trans (hb.mono HB.out.size)
      clear hb
      refine (specDerives_any _ _ _ _ L10 [6] 7 _ (by omega) (by simp) OA.rowAt RI).mono ?_
      rintro e wf1 ⟨bs, hbs, rfl, hb⟩
      rw [show derB bs 7 = true from by rw [HL10.out] at hbs; exact der6_e HN.out.1 (by have := HN.out.2; omega) hbs]
      replace BA := BA.next hb
      replace OA := OA.next hb
      replace HB : Hid (Below w.heap.size w wf1) := HB.out.trans (hb.mono HB.out.size)
      clear hb hbs RI
      have q0 := BA.c
      have hb : Below wf1.heap.size wf1 (wf1.alloc (.cells #[.int .i64 2] 3)) := (Below.refl _ _).alloc (Nat.le_refl _) _
      have RI : RowI (wf1.alloc (.cells #[.int .i64 2] 3)).heap.size (wf1.alloc (.cells #[.int .i64 2] 3)) (some ⟨wf1.heap.size, 0, none⟩) [2] := by
        have hr := heap_alloc_new wf1 (.cells #[.int .i64 2] 3)
        refine .inr ⟨_, 0, rfl, by simp, fun j hj => ?_⟩
        have hj3 : j < 1 := hj
        obtain rfl : j = 0 := by omega
        exact (cell_of_row _ _ 0 _ _ _ hr).trans rfl
      go_wp2_with fail
      clear q0
      replace BA := BA.next hb
      replace OA := OA.next hb
      replace HB : Hid (Below w.heap.size w (wf1.alloc (.cells #[.int .i64 2] 3))) := HB.out.trans (hb.mono HB.out.size)
      clear hb
      refine (specDerives_any _ _ _ _ L10 [2] 4 _ (by omega) (by simp) OA.rowAt RI).mono ?_
      rintro e wf2 ⟨bs, hbs, rfl, hb⟩
      rw [show derB bs 4 = false from by rw [HL10.out] at hbs; exact der6_x HN.out.1 (by have := HN.out.2; omega) hbs]
      replace BA := BA.next hb
      replace OA := OA.next hb
      replace HB : Hid (Below w.heap.size w wf2) := HB.out.trans (hb.mono HB.out.size)
      clear hb hbs RI
      have q0 := BA.c
      have hb : Below wf2.heap.size wf2 (wf2.alloc (.cells #[.int .i64 16, .int .i64 11] 3)) := (Below.refl _ _).alloc (Nat.le_refl _) _
      have RI : RowI (wf2.alloc (.cells #[.int .i64 16, .int .i64 11] 3)).heap.size (wf2.alloc (.cells #[.int .i64 16, .int .i64 11] 3)) (some ⟨wf2.heap.size, 0, none⟩) [16, 11] := by
        have hr := heap_alloc_new wf2 (.cells #[.int .i64 16, .int .i64 11] 3)
        refine .inr ⟨_, 0, rfl, by simp, fun j hj => ?_⟩
        have hj3 : j < 2 := hj
        rcases (show j = 0 ∨ j = 1 by omega) with rfl | rfl
        · exact (cell_of_row _ _ 0 _ _ _ hr).trans rfl
        · exact (cell_of_row _ _ 1 _ _ _ hr).trans rfl
      go_wp2_with fail
      clear q0
      replace BA := BA.next hb
      replace OA := OA.next hb
      replace HB : Hid (Below w.heap.size w (wf2.alloc (.cells #[.int .i64 16, .int .i64 11] 3))) := HB.out.trans (hb.mono HB.out.size)
      clear hb
      refine (specDerives_any _ _ _ _ L10 [16, 11] 0 _ (by omega) (by simp) OA.rowAt RI).mono ?_
      rintro e wf3 ⟨bs, hbs, rfl, hb⟩
      rw [show derB bs 0 = false from by rw [HL10.out] at hbs; exact der6_m HN.out.1 (by have := HN.out.2; omega) hbs]
      replace BA := BA.next hb
      replace OA := OA.next hb
      replace HB : Hid (Below w.heap.size w wf3) := HB.out.trans (hb.mono HB.out.size)
      clear hb hbs RI
      go_wp2
      go_ret
      exact ⟨rfl, HB.out⟩
  · have hd : decide ((1048576 : Int) < (len0 : Int)) = true := by simp; omega
    clear hcode
    go_enter Try.func7, Try.ntmps7
    go_wp2_with fail
    refine (big_any _ _ _ _).mono ?_
    rintro e w1 ⟨rfl, rfl⟩
    rw [hd]
    go_wp2
    go_ret
    exact ⟨rfl, Below.refl _ _⟩

theorem laidOut : laidOutB Try.prog = true := by kernel_rfl
set_option maxRecDepth 100000 in
theorem lifted (os : Os) (started : os.Started) (H : Type) (enc : TypeId × Value → H) :
    ReturnsInHanded {} Try.checked os 7 .any (Rows.fnSecretsSpec.pre6 enc Try.prog Try.f7 Rows.fnSecretsRow.domain false) (Rows.fnSecretsSpec.post enc Try.prog Try.f7 false true false false) := by
  refine returnsInHanded_of_change (C := Try.checked) own started (by kernel_rfl) Try.func7
    (ChangeSpec.witness6 (enc := enc) (C := Try.checked) false ⟨#[], #[.slice none 0 0], []⟩ 8 (by kernel_rfl) (by kernel_rfl) (by kernel_rfl) (by kernel_rfl)) ?_
  intro W base args ds gs before hval0 hW hcnd _
  have hval : ∀ (j : Nat) t v, Try.f7.params[j]? = some t → args[j]? = some v → Value.okWide Try.prog W .any base t v := hval0
  have hW' := hW
  obtain ⟨p, q, hA0, hV, rfl, hfz, hnd⟩ := hW
  have hA : DataW.TrodAll enc Try.prog W 0 (fun _ => true) true Try.f7.params.toList args.toList ds p := hA0
  rw [Try.params7] at hA hval
  obtain ⟨v0, vs0, d0, ds0, p0, q0, hargs, rfl, rfl, h0, r0⟩ := trodAll_cons hA
  obtain ⟨rfl, rfl, rfl⟩ := trodAll_nil r0
  obtain rfl : args = #[v0] := by cases args; simp_all
  obtain ⟨rfl, rfl⟩ := trodVars_none hV
  obtain ⟨a0, len0, cap0, rfl⟩ := okWide_slice Try.underlying35 (hval 0 35 v0 rfl rfl)
  have k0 := h0
  have lt0 : ∀ x ∈ p0, x.block < W.heap.size := by obtain ⟨m, hm⟩ := k0; exact DataW.trod_lt m _ _ _ hm
  clear hA0 hval0
  refine (walk a0 len0 cap0  W (code_of h0)).mono fun e W' ⟨he, bel⟩ => ?_
  subst he
  exact ⟨_, rfl, _, _, _, [], _, [], hW', trodAll_mk1 (shut_bool Try.underlying4 _), (trodAll_cons_mk (Below.trod laidOut (by kernel_rfl) (of_decide_eq_true (by kernel_rfl)) k0 bel lt0) trodAll_mk0), rfl, bel.frame _, fun h => by cases h⟩

theorem over : Rows.fnSecretsRow.holds Try.pinned (OpenSpec.ofChange Rows.fnSecretsSpec) :=
  OpenClaim.holds_of_wide 7 Try.f7 rfl rfl rfl rfl rfl rfl rfl ⟨rfl, rfl, rfl, rfl, rfl⟩ rfl rfl rfl rfl rfl (by kernel_rfl) Try.func7 (by kernel_rfl)
    (of_decide_eq_true (by kernel_rfl)) (by unfold Func.isWrapper; first | (rw [if_pos (by decide +kernel)]; kernel_rfl) | (rw [if_neg (by decide +kernel)]; exact ⟨rfl, rfl⟩))
    (fun os started H enc _ => lifted os started H enc)
end fnSecrets

theorem fnSecrets_holds : Rows.FnSecretsSaid := fnSecrets.over
#print axioms fnSecrets_holds
end Go.Proofs.Ytffnadnndmmliaa
