/- For every arena and list of places: Reach of the program answers as the specification's Reach does, writes into no argument, keeps nothing of one, owns its answer's memory, behind another call too; and the arguments read as before. No condition. -/
import Derived.Test.YtcmmbehnihelcaaRows
import Derived.Test.YtcmmbehnihelcaaArgArena
import Derived.Test.YtcmmbehnihelcaaLawKeep
import Derived.Test.YtcmmbehnihelcaaRegionA
import Derived.Test.YtcmmbehnihelcaaLawInts2
import Derived.Test.YtcmmbehnihelcaaLawBools
import Derived.Test.YtcmmbehnihelcaaSpecReach5
import Derived.Test.YtcmmbehnihelcaaImplReach
import Derived.WalkKit
import Derived.ProofKit
import Derived.OpenShut
import Derived.ShutString
import Derived.ChangeOld
import Derived.PlainAid
import Derived.Deep.RegionHeld3
namespace Go.Proofs.Ytcmmbehnihelcaa
namespace fnExactReach
open Go.ChangeShapes Go.WideShapes Go.ChangeAt Go.RowKit Go.PlainAid
open Go.ChangeMaps (open_string shut_string)
set_option linter.unusedVariables false

theorem own : ownKnob Try.prog.godebug = none := by kernel_rfl

set_option maxHeartbeats 3200000 in
set_option maxRecDepth 20000 in
theorem walk (a0 : Option Addr) (cp : Nat) (ns : List Nd) (la : Option Addr) (lc : Nat) (xs : List Int) (w0 : ns.length ≤ maxLen) (f0 : ∀ y ∈ ns, y.Fits) (w1 : xs.length ≤ maxLen) (f1 : ∀ x ∈ xs, -9223372036854775808 ≤ x ∧ x ≤ 9223372036854775807) (w : World) (hr : RowN w.heap.size w a0 ns) (hx : RowI w.heap.size w la xs) :
    Calls Try.prog 6 #[.agg #[.slice a0 ns.length cp], .slice la xs.length lc] w fun e w' => e = .returned (.bool true) ∧ Below w.heap.size w w' := by
  have HR : Hid (RowN w.heap.size w a0 ns) := hr
  have HF : Hid (∀ y ∈ ns, y.Fits) := f0
  have HX : Hid (RowI w.heap.size w la xs) := hx
  have HXF : Hid (∀ x ∈ xs, -9223372036854775808 ≤ x ∧ x ≤ 9223372036854775807) := f1
  clear hr f0 hx f1
  have B0 : Below w.heap.size w (w.alloc (.cells #[.slice a0 ns.length cp] 51)) := (Below.refl _ _).alloc (Nat.le_refl _) _
  by_cases hs_xs : xs.length ≤ 1048576
  rotate_left
  · have hs' : (1048576 : Int) < (xs.length : Int) := by omega
    have HA : Hid _ := B0
    clear w0 w1 B0 HR HF HX HXF
    go_enter Try.func6, Try.ntmps6
    go_wp2
    go_ret
    exact ⟨rfl, HA.out⟩
  have hs'_xs : ¬ (1048576 : Int) < (xs.length : Int) := by omega
  by_cases hl : ns.length ≤ 1048576
  rotate_left
  · have hl' : (1048576 : Int) - (ns.length : Int) < 0 := by omega
    have H : Hid _ := szArena_big a0 ns.length cp (w.alloc (.cells #[.slice a0 ns.length cp] 51)) (by omega) w0
    have HA : Hid _ := B0
    clear w0 w1 B0 HR HF HX HXF
    go_enter Try.func6, Try.ntmps6
    go_wp2_with fail
    refine Calls.mono H.out ?_
    rintro e w1 ⟨rfl, hb1⟩
    go_wp2
    go_ret
    exact ⟨rfl, HA.out.trans (hb1.mono HA.out.size)⟩
  have hl' : ¬ (1048576 : Int) - (ns.length : Int) < 0 := by omega
  clear w0 w1
  obtain ⟨bs, HS, HI, HL⟩ : ∃ (bs : List Bool), Hid (∀ (a : Option Addr) (cap : Nat) (la : Option Addr) (lc : Nat) (w : World), AddrN a cap → RowN w.heap.size w a ns → RowI w.heap.size w la xs → Calls Try.prog 17 #[.agg #[.slice a ns.length cap], .slice la xs.length lc] w fun e w' => ∃ v, e = .returned v ∧ OwnBool w.heap.size w' v bs ∧ Below w.heap.size w w') ∧ Hid (∀ (a : Option Addr) (cap : Nat) (la : Option Addr) (lc : Nat) (w : World), AddrN a cap → RowN w.heap.size w a ns → RowI w.heap.size w la xs → Calls Try.prog 11 #[.agg #[.slice a ns.length cap], .slice la xs.length lc] w fun e w' => ∃ v, e = .returned v ∧ OwnBool w.heap.size w' v bs ∧ Below w.heap.size w w') ∧ Hid (bs.length ≤ 1048577) := by
    obtain ⟨bs, hbs⟩ := IsR.some ns xs
    refine ⟨bs, fun a cap la lc w ha hr hx => (specReach_any cap lc a la ns xs w hl hs_xs hr hx).mono ?_, fun a cap la lc w ha hr hx => (implReach_any cap lc a la ns xs w hl hs_xs HF.out HXF.out hr hx).mono ?_, Nat.le_trans hbs.len (by omega)⟩
    · rintro e w' ⟨v, cs, h1, h2, h3, h4⟩; rw [hbs.one h2]; exact ⟨v, h1, h3, h4⟩
    · rintro e w' ⟨v, cs, h1, h2, h3, h4⟩; rw [hbs.one h2]; exact ⟨v, h1, h3, h4⟩
  clear HF HXF
  have A0 : Var w.heap.size (.slice a0 ns.length cp) (w.alloc (.cells #[.slice a0 ns.length cp] 51)) := Var.made
  have I0 : In w.heap.size a0 ns (w.alloc (.cells #[.slice a0 ns.length cp] 51)) := ⟨by simp, HR.out.later B0⟩
  have J0 : InI w.heap.size la xs (w.alloc (.cells #[.slice a0 ns.length cp] 51)) := ⟨by simp, HX.out.later B0⟩
  have HB0 : Hid _ := B0
  clear B0 HR HX
  go_enter Try.func6, Try.ntmps6
  go_wp2_with fail
  generalize w.alloc (.cells #[.slice a0 ns.length cp] 51) = wA at A0 I0 J0 HB0 ⊢
  refine (szArena_any a0 ns.length cp _ hl).mono ?_
  rintro e w1 ⟨rfl, hb⟩
  have A1 := A0.next hb
  have I1 := I0.next hb
  have J1 := J0.next hb
  have HB1 : Hid (Below w.heap.size w w1) := HB0.out.trans (hb.mono HB0.out.size)
  clear A0 I0 J0 HB0
  clear hb
  have hw1 := A1.lt
  have c := A1.c
  go_wp2_with fail
  refine (toArena_any a0 cp ns w1 hl I1.all).mono ?_
  rintro e w2 ⟨v2, rfl, ho2, hb⟩
  obtain ⟨a2, cap2, rfl, hA2, hr2⟩ := ho2.row
  have hsV := hb.size
  have A2 := A1.next hb
  have I2 := I1.next hb
  have J2 := J1.next hb
  have HB2 : Hid (Below w.heap.size w w2) := HB1.out.trans (hb.mono HB1.out.size)
  clear A1 I1 J1 HB1
  clear ho2 hb c
  go_wp2_with fail
  refine (toIntS_any la lc xs w2 hs_xs J2.all).mono ?_
  rintro e w2i ⟨v2i, rfl, ho2i, hb⟩
  obtain ⟨a2i, cap2i, rfl, hA2i, hr2i⟩ := ho2i.row
  have hsVi := hb.size
  replace hr2 := hr2.grown hb
  have A2i := A2.next hb
  have I2i := I2.next hb
  have J2i := J2.next hb
  have HB2i : Hid (Below w.heap.size w w2i) := HB2.out.trans (hb.mono HB2.out.size)
  clear A2 I2 J2 HB2
  clear ho2i hb
  go_wp2_with fail
  refine (HS.out a2 cap2 a2i cap2i w2i hA2 hr2 hr2i).mono ?_
  rintro e w3 ⟨v3, rfl, ho3, hb⟩
  obtain ⟨a3, cap3, rfl, hA3, -⟩ := ho3.row
  have hsW := hb.size
  have A3 := A2i.next hb
  have I3 := I2i.next hb
  have J3 := J2i.next hb
  have HB3 : Hid (Below w.heap.size w w3) := HB2i.out.trans (hb.mono HB2i.out.size)
  clear A2i I2i J2i HB2i
  clear hb hA2 hr2 hA2i hr2i HS
  have OW3 := OwnY.made ho3
  clear ho3
  have c := A3.c
  go_wp2_with fail
  refine (toArena_any a0 cp ns w3 hl I3.all).mono ?_
  rintro e w4 ⟨v4, rfl, ho4, hb⟩
  obtain ⟨a4, cap4, rfl, hA4, -⟩ := ho4.row
  have hsX := hb.size
  have A4 := A3.next hb
  have I4 := I3.next hb
  have J4 := J3.next hb
  have OW4 := OW3.next hb
  have HB4 : Hid (Below w.heap.size w w4) := HB3.out.trans (hb.mono HB3.out.size)
  clear A3 I3 J3 OW3 HB3
  clear hb c
  have OX4 := Own.made ho4
  clear ho4
  have hbq : Below w4.heap.size w4 (w4.alloc (.cells #[.slice a4 ns.length cap4] 26)) := (Below.refl _ _).alloc (Nat.le_refl _) _
  have BX5 : Var w4.heap.size (.slice a4 ns.length cap4) (w4.alloc (.cells #[.slice a4 ns.length cap4] 26)) := Var.made
  have hbX : w4.heap.size < (w4.alloc (.cells #[.slice a4 ns.length cap4] 26)).heap.size := by simp
  have A5 := A4.next hbq
  have I5 := I4.next hbq
  have J5 := J4.next hbq
  have OW5 := OW4.next hbq
  have OX5 := OX4.next hbq
  have HB5 : Hid (Below w.heap.size w (w4.alloc (.cells #[.slice a4 ns.length cap4] 26))) := HB4.out.trans (hbq.mono HB4.out.size)
  clear hbq A4 I4 J4 OW4 OX4 HB4
  go_wp2_with fail
  generalize w4.alloc (.cells #[.slice a4 ns.length cap4] 26) = w5 at BX5 hbX A5 I5 J5 OW5 OX5 HB5 ⊢
  refine (toIntS_any la lc xs w5 hs_xs J5.all).mono ?_
  rintro e w5i ⟨v5i, rfl, ho5i, hb⟩
  obtain ⟨a5i, cap5i, rfl, hA5i, -⟩ := ho5i.row
  have hsZ := hb.size
  have A5i := A5.next hb
  have I5i := I5.next hb
  have J5i := J5.next hb
  have OW5i := OW5.next hb
  have OX5i := OX5.next hb
  have BX5i := BX5.next hb
  have HB5i : Hid (Below w.heap.size w w5i) := HB5.out.trans (hb.mono HB5.out.size)
  clear A5 I5 J5 OW5 OX5 BX5 HB5
  clear hb
  have OZ5i := OwnZ.made ho5i
  clear ho5i
  have q0 := BX5i.c
  go_wp2_with fail
  clear q0
  refine (HI.out a4 cap4 a5i cap5i w5i hA4 OX5i.rowAt OZ5i.rowAt).mono ?_
  rintro e w6 ⟨v6, rfl, ho6, hb⟩
  obtain ⟨a6, cap6, rfl, hA6, -⟩ := ho6.row
  have hsG := hb.size
  have A6 := A5i.next hb
  have I6 := I5i.next hb
  have J6 := J5i.next hb
  have OW6 := OW5i.next hb
  have OX6 := OX5i.next hb
  have BX6 := BX5i.next hb
  have OZ6 := OZ5i.next hb
  have HB6 : Hid (Below w.heap.size w w6) := HB5i.out.trans (hb.mono HB5i.out.size)
  clear A5i I5i J5i OW5i OX5i BX5i OZ5i HB5i
  clear hb
  have OG6 := OwnY.made ho6
  clear ho6
  go_wp2_with fail
  refine (eqBoolS_same a6 a3 cap6 cap3 bs w6 (by have := HL.out; omega) OG6.rowAt OW6.rowAt).mono ?_
  rintro e w7 ⟨rfl, hb⟩
  have A7 := A6.next hb
  have I7 := I6.next hb
  have J7 := J6.next hb
  have OW7 := OW6.next hb
  have OX7 := OX6.next hb
  have BX7 := BX6.next hb
  have OZ7 := OZ6.next hb
  have OG7 := OG6.next hb
  have HB7 : Hid (Below w.heap.size w w7) := HB6.out.trans (hb.mono HB6.out.size)
  clear A6 I6 J6 OW6 OX6 BX6 OZ6 OG6 HB6
  clear hb
  have hx5 := BX7.c
  have hc5 := A7.c
  have hs5 : w4.heap.size < w7.drew.heap.size := BX7.lt
  have hsw5 : w.heap.size < w7.drew.heap.size := A7.lt
  have HRA5 : Hid (RowN w7.drew.heap.size w7.drew a0 ns) := I7.all
  have HRX5 : Hid (RowN w7.drew.heap.size w7.drew a4 ns) := OX7.rowAt
  have HK7 : Hid _ := And.intro A7 (And.intro I7 (And.intro J7 (And.intro OW7 (And.intro OX7 (And.intro BX7 (And.intro OZ7 OG7))))))
  clear A7 I7 J7 OW7 OX7 BX7 OZ7 OG7
  go_wp2_with fail
  go_region_held3 (fun w' => w'.cell? ⟨w4.heap.size, 0, none⟩ = some (.slice a4 ns.length cap4) ∧ w'.cell? ⟨w.heap.size, 0, none⟩ = some (.slice a0 ns.length cp)) (first | exact ⟨hx5, hc5⟩ | assumption | exact two_kept (by assumption) hs5 hsw5 hb6 | exact two_kept (by assumption) hs6 hsw6 hb7) (first | (go_at_call 35; refine (toArena_any a0 cp ns _ hl ?_).mono ?_; exact HRA5.out; rintro e wa ⟨vz, rfl, hoz, hb6⟩; obtain ⟨az, capz, rfl, hAz, hrz⟩ := hoz.row; have hs6 := Nat.lt_of_lt_of_le hs5 hb6.size; have hsw6 := Nat.lt_of_lt_of_le hsw5 hb6.size) | (go_at_call 38; refine (eqArena_same a4 az cap4 capz ns _ ?_ ?_ ?_).mono ?_; omega; exact HRX5.out.grown hb6; exact hrz; rintro e w8 ⟨rfl, hb7⟩))
  have hbT : Below w7.heap.size w7 w8 := ((Below.refl _ _).drew).trans (hb6.trans (hb7.mono hb6.size))
  obtain ⟨A7, I7, J7, OW7, OX7, BX7, OZ7, OG7⟩ := HK7.out
  have A8 := A7.next hbT
  have I8 := I7.next hbT
  have J8 := J7.next hbT
  have OW8 := OW7.next hbT
  have OX8 := OX7.next hbT
  have BX8 := BX7.next hbT
  have OZ8 := OZ7.next hbT
  have OG8 := OG7.next hbT
  have HB8 : Hid (Below w.heap.size w w8) := HB7.out.trans (hbT.mono HB7.out.size)
  clear A7 I7 J7 OW7 OX7 BX7 OZ7 OG7 HB7
  clear hoz hrz hb6 hAz hc5 hx5 hb7 hbT HRA5 HRX5 HK7 hs5 hsw5 hs6 hsw6
  go_wp2_with fail
  refine (toIntS_any la lc xs w8 hs_xs J8.all).mono ?_
  rintro e w8i ⟨v8, rfl, ho8, hb⟩
  obtain ⟨a8, cap8, rfl, hA8, hr8⟩ := ho8.row
  have A8i := A8.next hb
  have I8i := I8.next hb
  have J8i := J8.next hb
  have OW8i := OW8.next hb
  have OX8i := OX8.next hb
  have BX8i := BX8.next hb
  have OZ8i := OZ8.next hb
  have OG8i := OG8.next hb
  have HB8i : Hid (Below w.heap.size w w8i) := HB8.out.trans (hb.mono HB8.out.size)
  clear A8 I8 J8 OW8 OX8 BX8 OZ8 OG8 HB8
  clear ho8 hb
  go_wp2_with fail
  refine (eqIntS_same a5i a8 cap5i cap8 xs w8i (by omega) OZ8i.rowAt hr8).mono ?_
  rintro e w8j ⟨rfl, hb⟩
  have A8j := A8i.next hb
  have I8j := I8i.next hb
  have J8j := J8i.next hb
  have OW8j := OW8i.next hb
  have OX8j := OX8i.next hb
  have BX8j := BX8i.next hb
  have OZ8j := OZ8i.next hb
  have OG8j := OG8i.next hb
  have HB8j : Hid (Below w.heap.size w w8j) := HB8i.out.trans (hb.mono HB8i.out.size)
  clear A8i I8i J8i OW8i OX8i BX8i OZ8i OG8i HB8i
  clear hb hr8 hA8
  have q0 := BX8j.c
  go_wp2_with fail
  refine (markArena_any w3.heap.size 1 (.slice a4 ns.length cap4) ns w8j (by omega) (by omega) OX8j.own).mono ?_
  rintro e w8k ⟨rfl, hox, hgr⟩
  have hbk := OX8j.block
  clear hox q0
  have A8k := A8j.mark hgr (fun h => by have := hbk _ h; omega)
  have I8k := I8j.mark hgr (fun g hg => by have := hbk g hg; omega)
  have J8k := J8j.mark hgr (fun g hg => by have := hbk g hg; omega)
  have OW8k := OW8j.mark hgr (fun g hg => by have := hbk g hg; omega)
  have OZ8k := OZ8j.mark hgr (fun g hg => by have := hbk g hg; omega)
  have OG8k := OG8j.mark hgr (fun g hg => by have := hbk g hg; omega)
  have HB8k : Hid (Below w.heap.size w w8k) := HB8j.out.grown hgr HB8j.out.size (fun k hk => by have := hbk k hk; omega)
  clear hgr hbk HB8j A8j I8j J8j OW8j OX8j BX8j OZ8j OG8j
  have hkz : (0 : Int) ≤ 1 + 4 * (ns.length : Int) := by omega
  go_wp2_with fail
  refine (markIntS_from w5.heap.size (1 + 4 * (ns.length : Int)) (.slice a5i xs.length cap5i) xs w8k (by omega) (by omega) (by omega) OZ8k.own).mono ?_
  rintro e w9 ⟨rfl, hgr⟩
  have hbk := OZ8k.block
  clear hkz
  have A9 := A8k.mark hgr (fun h => by have := hbk _ h; omega)
  have I9 := I8k.mark hgr (fun g hg => by have := hbk g hg; omega)
  have J9 := J8k.mark hgr (fun g hg => by have := hbk g hg; omega)
  have OW9 := OW8k.mark hgr (fun g hg => by have := hbk g hg; omega)
  have OG9 := OG8k.mark hgr (fun g hg => by have := hbk g hg; omega)
  have HB9 : Hid (Below w.heap.size w w9) := HB8k.out.grown hgr HB8k.out.size (fun k hk => by have := hbk k hk; omega)
  clear hgr hbk HB8k A8k I8k J8k OW8k OZ8k OG8k
  have hk0 : ¬ (1 : Int) + 4 * (ns.length : Int) + (xs.length : Int) < 0 := by omega
  go_wp2_with fail
  refine (eqBoolS_same a6 a3 cap6 cap3 bs w9 (by have := HL.out; omega) OG9.rowAt OW9.rowAt).mono ?_
  rintro e w10 ⟨rfl, hb⟩
  have A10 := A9.next hb
  have I10 := I9.next hb
  have J10 := J9.next hb
  have OW10 := OW9.next hb
  have OG10 := OG9.next hb
  have HB10 : Hid (Below w.heap.size w w10) := HB9.out.trans (hb.mono HB9.out.size)
  clear A9 I9 J9 OW9 OG9 HB9
  clear hb hk0
  go_wp2_with fail
  refine (markBoolS_any w5i.heap.size 1 (.slice a6 bs.length cap6) bs w10 (by have := HL.out; omega) (by omega) OG10.own).mono ?_
  rintro e w11 ⟨rfl, hox, hgr⟩
  have hbk := OG10.block
  have OM11 : OwnY w5i.heap.size w6.heap.size (.slice a6 bs.length cap6) (marksB 1 bs.length) w11 := ⟨hox, Nat.le_trans OG10.le hgr.size, OG10.lt⟩
  clear hox
  have A11 := A10.mark hgr (fun h => by have := hbk _ h; omega)
  have I11 := I10.mark hgr (fun g hg => by have := hbk g hg; omega)
  have J11 := J10.mark hgr (fun g hg => by have := hbk g hg; omega)
  have OW11 := OW10.mark hgr (fun g hg => by have := hbk g hg; omega)
  have HB11 : Hid (Below w.heap.size w w11) := HB10.out.grown hgr HB10.out.size (fun k hk => by have := hbk k hk; omega)
  clear hgr hbk HB10 A10 I10 J10 OW10 OG10
  go_wp2_with fail
  refine (heldBoolS_any a6 cap6 bs.length 1 w11 (by have := HL.out; omega) (by omega) OM11.rowAt).mono ?_
  rintro e w12 ⟨rfl, hb⟩
  have A12 := A11.next hb
  have I12 := I11.next hb
  have J12 := J11.next hb
  have OW12 := OW11.next hb
  have OM12 := OM11.next hb
  have HB12 : Hid (Below w.heap.size w w12) := HB11.out.trans (hb.mono HB11.out.size)
  clear A11 I11 J11 OW11 OM11 HB11
  clear hb
  have hk0 : ¬ (1 : Int) + (bs.length : Int) < 0 := by omega
  have c := A12.c
  go_wp2_with fail
  refine (toArena_any a0 cp ns w12 hl I12.all).mono ?_
  rintro e w13 ⟨v13, rfl, ho13, hb⟩
  obtain ⟨a13, cap13, rfl, hA13, hr13⟩ := ho13.row
  have A13 := A12.next hb
  have I13 := I12.next hb
  have J13 := J12.next hb
  have OW13 := OW12.next hb
  have OM13 := OM12.next hb
  have HB13 : Hid (Below w.heap.size w w13) := HB12.out.trans (hb.mono HB12.out.size)
  clear A12 I12 J12 OW12 OM12 HB12
  clear hb c ho13
  go_wp2_with fail
  refine (toIntS_any la lc xs w13 hs_xs J13.all).mono ?_
  rintro e w13i ⟨v13i, rfl, ho13i, hb⟩
  obtain ⟨a13i, cap13i, rfl, hA13i, hr13i⟩ := ho13i.row
  replace hr13 := hr13.grown hb
  have A13i := A13.next hb
  have I13i := I13.next hb
  have J13i := J13.next hb
  have OW13i := OW13.next hb
  have OM13i := OM13.next hb
  have HB13i : Hid (Below w.heap.size w w13i) := HB13.out.trans (hb.mono HB13.out.size)
  clear A13 I13 J13 OW13 OM13 HB13
  clear ho13i hb
  go_wp2_with fail
  refine (HI.out a13 cap13 a13i cap13i w13i hA13 hr13 hr13i).mono ?_
  rintro e w14 ⟨v14, rfl, ho14, hb⟩
  obtain ⟨a14, cap14, rfl, hA14, -⟩ := ho14.row
  have A14 := A13i.next hb
  have I14 := I13i.next hb
  have J14 := J13i.next hb
  have OW14 := OW13i.next hb
  have OM14 := OM13i.next hb
  have HB14 : Hid (Below w.heap.size w w14) := HB13i.out.trans (hb.mono HB13i.out.size)
  clear A13i I13i J13i OW13i OM13i HB13i
  clear hb hA13 hr13 hA13i hr13i HI
  have OH14 := OwnY.made ho14
  clear ho14
  go_wp2_with fail
  refine (eqBoolS_same a14 a3 cap14 cap3 bs w14 (by have := HL.out; omega) OH14.rowAt OW14.rowAt).mono ?_
  rintro e w15 ⟨rfl, hb⟩
  have A15 := A14.next hb
  have I15 := I14.next hb
  have J15 := J14.next hb
  have OW15 := OW14.next hb
  have OM15 := OM14.next hb
  have OH15 := OH14.next hb
  have HB15 : Hid (Below w.heap.size w w15) := HB14.out.trans (hb.mono HB14.out.size)
  clear A14 I14 J14 OW14 OM14 OH14 HB14
  clear hb
  go_wp2_with fail
  refine (heldBoolS_any a6 cap6 bs.length 1 w15 (by have := HL.out; omega) (by omega) OM15.rowAt).mono ?_
  rintro e w16 ⟨rfl, hb⟩
  have HB16 : Hid (Below w.heap.size w w16) := HB15.out.trans (hb.mono HB15.out.size)
  clear hb HB15 A15 I15 J15 OW15 OM15 OH15
  go_wp2
  go_ret
  exact ⟨rfl, HB16.out⟩

theorem laidOut : laidOutB Try.prog = true := by kernel_rfl
set_option maxRecDepth 100000 in
theorem lifted (os : Os) (started : os.Started) (H : Type) (enc : TypeId × Value → H) :
    ReturnsInHanded {} Try.checked os 6 .any (Rows.fnExactReachSpec.pre6 enc Try.prog Try.f6 Rows.fnExactReachRow.domain false) (Rows.fnExactReachSpec.post enc Try.prog Try.f6 false true false false) := by
  refine returnsInHanded_of_change (C := Try.checked) own started (by kernel_rfl) Try.func6
    (ChangeSpec.witness6 (enc := enc) (C := Try.checked) false ⟨#[], #[.agg #[.slice none 0 0], .slice none 0 0], []⟩ 8 (by kernel_rfl) (by kernel_rfl) (by kernel_rfl) (by kernel_rfl)) ?_
  intro W base args ds gs before hval0 hW hcnd _
  have hval : ∀ (j : Nat) t v, Try.f6.params[j]? = some t → args[j]? = some v → Value.okWide Try.prog W .any base t v := hval0
  have hW' := hW
  obtain ⟨p, q, hA0, hV, rfl, hfz, hnd⟩ := hW
  have hA : DataW.TrodAll enc Try.prog W 0 (fun _ => true) true Try.f6.params.toList args.toList ds p := hA0
  rw [Try.params6] at hA hval
  obtain ⟨v0, vs0, d0, ds0, p0, q0, hargs, rfl, rfl, h0, r0⟩ := trodAll_cons hA
  obtain ⟨v1, vs1, d1, ds1, p1, q1, rfl, rfl, rfl, h1, r1⟩ := trodAll_cons r0
  obtain ⟨rfl, rfl, rfl⟩ := trodAll_nil r1
  obtain rfl : args = #[v0, v1] := by cases args; simp_all
  obtain ⟨rfl, rfl⟩ := trodVars_none hV
  have k0 := h0
  have lt0 : ∀ x ∈ p0, x.block < W.heap.size := by obtain ⟨m, hm⟩ := k0; exact DataW.trod_lt m _ _ _ hm
  obtain ⟨a0, c0, n0, rfl, w0, rn0, f0⟩ := arena_of (hval 0 51 v0 rfl rfl) h0
  have k1 := h1
  have lt1 : ∀ x ∈ p1, x.block < W.heap.size := by obtain ⟨m, hm⟩ := k1; exact DataW.trod_lt m _ _ _ hm
  obtain ⟨a1, len1, c1, rfl⟩ := okWide_slice Try.underlying27 (hval 1 27 v1 rfl rfl)
  obtain ⟨n1, rfl, w1, rn1, f1⟩ := ints_of h1
  clear hA0 hval0
  refine (walk a0 c0 n0 a1 c1 n1 w0 f0 w1 f1 W rn0 rn1).mono fun e W' ⟨he, bel⟩ => ?_
  subst he
  exact ⟨_, rfl, _, _, _, [], _, [], hW', trodAll_mk1 (shut_bool Try.underlying4 _), (trodAll_cons_mk (Below.trod laidOut (by kernel_rfl) (of_decide_eq_true (by kernel_rfl)) k0 bel lt0) (trodAll_cons_mk (Below.trod laidOut (by kernel_rfl) (of_decide_eq_true (by kernel_rfl)) k1 bel lt1) trodAll_mk0)), rfl, bel.frame _, fun h => by cases h⟩

theorem over : Rows.fnExactReachRow.holds Try.pinned (OpenSpec.ofChange Rows.fnExactReachSpec) :=
  OpenClaim.holds_of_wide 6 Try.f6 rfl rfl rfl rfl rfl rfl rfl ⟨rfl, rfl, rfl, rfl, rfl⟩ rfl rfl rfl rfl rfl (by kernel_rfl) Try.func6 (by kernel_rfl)
    (of_decide_eq_true (by kernel_rfl)) (by unfold Func.isWrapper; first | (rw [if_pos (by decide +kernel)]; kernel_rfl) | (rw [if_neg (by decide +kernel)]; exact ⟨rfl, rfl⟩))
    (fun os started H enc _ => lifted os started H enc)
end fnExactReach

theorem fnExactReach_holds : Rows.FnExactReachSaid := fnExactReach.over
#print axioms fnExactReach_holds
end Go.Proofs.Ytcmmbehnihelcaa
