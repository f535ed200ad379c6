/- For all numbers of limbs, right or not: FieldInv of the program answers as the specification's FieldInv does, writes into no argument, keeps nothing of one, owns its answer's memory; the argument reads as before. No condition. -/
import Derived.Test.YtjhglbdknjoeeaaRows
import Derived.Test.YtjhglbdknjoeeaaLawF
import Derived.Test.YtjhglbdknjoeeaaSfo27
import Derived.WalkKit
import Derived.ProofKit
import Derived.OpenShut
import Derived.ShutString
import Derived.ChangeOld
import Derived.PlainAid
import Derived.Deep.RegionHeld3
namespace Go.Proofs.Ytjhglbdknjoeeaa
namespace fnExactFieldInv
open Go.ChangeShapes Go.WideShapes Go.ChangeAt Go.RowKit Go.PlainAid
open Go.ChangeMaps (open_string shut_string)
set_option linter.unusedVariables false

theorem own : ownKnob Try.prog.godebug = none := by kernel_rfl

set_option maxHeartbeats 3200000 in
set_option maxRecDepth 20000 in
theorem walk (a0 : Option Addr) (c0 : Nat) (n0 : List Int) (w0 : n0.length ≤ maxLen) (f0 : ∀ x ∈ n0, -9223372036854775808 ≤ x ∧ x ≤ 9223372036854775807) (w : World) (rn0 : RowI w.heap.size w a0 n0) :
    Calls Try.prog 13 #[.agg #[.slice a0 n0.length c0]] w fun e w' => e = .returned (.bool true) ∧ Below w.heap.size w w' := by
  have HF : Hid (∀ x ∈ n0, -9223372036854775808 ≤ x ∧ x ≤ 9223372036854775807) := f0
  clear f0
  have hB0 : Below w.heap.size w (w.alloc (.cells #[.slice a0 n0.length c0] 48)) := below_alloc _ _
  by_cases h0 : n0.length ≤ 1048576
  rotate_left
  · have hl0 : (1048576 : Int) - (n0.length : Int) < 0 := by omega
    have H : Hid _ := szField_big a0 n0.length c0 1048576 (w.alloc (.cells #[.slice a0 n0.length c0] 48)) (by omega) (by omega) w0
    have HB : Hid _ := hB0
    clear w0 hB0 rn0
    go_enter Try.func13, Try.ntmps13
    go_wp2_with fail
    refine Calls.mono H.out ?_
    rintro e w1 ⟨rfl, hb⟩
    go_wp2
    go_ret
    exact ⟨rfl, HB.out.trans (hb.mono HB.out.size)⟩
  clear w0
  obtain ⟨R0, HS, HI, HL⟩ : ∃ (R0 : List Int), Hid (∀ (a : Option Addr) (cap : Nat) (w1 : World), AddrN a cap → RowI w1.heap.size w1 a n0 → Calls Try.prog 32 #[.agg #[.slice a n0.length cap]] w1 fun e w' => ∃ v, e = .returned (.agg #[v]) ∧ OwnInt w1.heap.size w' v R0 ∧ Below w1.heap.size w1 w') ∧ Hid (∀ (a : Option Addr) (cap : Nat) (w1 : World), AddrN a cap → RowI w1.heap.size w1 a n0 → Calls Try.prog 20 #[.agg #[.slice a n0.length cap]] w1 fun e w' => ∃ v, e = .returned (.agg #[v]) ∧ OwnInt w1.heap.size w' v R0 ∧ Below w1.heap.size w1 w') ∧ Hid (R0.length ≤ 2097152) := ⟨invF n0, fun a cap w1 ha hr => specFieldInv_any a cap n0 w1 hr h0, fun a cap w1 ha hr => implFieldInv_any a cap n0 w1 hr, invF_len n0⟩
  have hRL := HL.out
  have A0 : VarZ w.heap.size (.slice a0 n0.length c0) (w.alloc (.cells #[.slice a0 n0.length c0] 48)) := VarZ.made
  have I0 : InI w.heap.size a0 n0 (w.alloc (.cells #[.slice a0 n0.length c0] 48)) := ⟨hB0.size, rn0.later hB0⟩
  have HB : Hid (Below w.heap.size w (w.alloc (.cells #[.slice a0 n0.length c0] 48))) := hB0
  clear hB0 rn0
  have hl0 : ¬ (1048576 : Int) - (n0.length : Int) < 0 := by omega
  go_enter Try.func13, Try.ntmps13
  have eA0 := A0.c
  go_wp2_with fail
  generalize (w.alloc (.cells #[.slice a0 n0.length c0] 48)) = z0 at A0 I0 HB eA0 ⊢
  refine (szField_any a0 n0.length c0 1048576 z0 (by omega) (by omega)).mono ?_
  have hst : w.heap.size < z0.heap.size := A0.lt
  rintro e z1 ⟨rfl, hb⟩
  clear eA0
  replace A0 := A0.next hb
  replace I0 := I0.next hb
  replace HB : Hid (Below w.heap.size w z1) := HB.out.trans (hb.mono HB.out.size)
  have hsz1 := hb.size
  clear hb
  have eA0 := A0.c
  go_wp2_with fail
  refine (toField_any a0 c0 n0 z1 h0 I0.all).mono ?_
  rintro e z2 ⟨v, rfl, ho, hb⟩
  obtain ⟨qV, kV, rfl, hAV, -⟩ := ho.row
  have OV := OwnZ.made ho
  clear ho
  clear eA0
  replace A0 := A0.next hb
  replace I0 := I0.next hb
  replace HB : Hid (Below w.heap.size w z2) := HB.out.trans (hb.mono HB.out.size)
  have hsz2 := hb.size
  clear hb
  have eA0 := A0.c
  go_wp2_with fail
  refine (HS.out _ _ z2 hAV OV.rowAt).mono ?_
  rintro e z3 ⟨v, rfl, ho, hb⟩
  obtain ⟨qW, kW, rfl, hAW, -⟩ := ho.row
  have OW := OwnZ.made ho
  clear ho
  clear eA0
  replace A0 := A0.next hb
  replace I0 := I0.next hb
  replace OV := OV.next hb
  replace HB : Hid (Below w.heap.size w z3) := HB.out.trans (hb.mono HB.out.size)
  have hsz3 := hb.size
  clear hb
  clear OV
  have hb : Below z3.heap.size z3 (z3.alloc (.cells #[.slice qW R0.length kW] 26)) := below_alloc _ _
  have BW : VarZ z3.heap.size (.slice qW R0.length kW) (z3.alloc (.cells #[.slice qW R0.length kW] 26)) := VarZ.made
  replace A0 := A0.next hb
  replace I0 := I0.next hb
  replace OW := OW.next hb
  replace HB : Hid (Below w.heap.size w (z3.alloc (.cells #[.slice qW R0.length kW] 26))) := HB.out.trans (hb.mono HB.out.size)
  have hgtBW : z3.heap.size < (z3.alloc (.cells #[.slice qW R0.length kW] 26)).heap.size := BW.lt
  clear hb
  have eA0 := A0.c
  have eBW := BW.c
  go_wp2_with fail
  generalize (z3.alloc (.cells #[.slice qW R0.length kW] 26)) = z4 at HB hgtBW A0 I0 OW BW eA0 eBW ⊢
  refine (toField_any a0 c0 n0 z4 h0 I0.all).mono ?_
  rintro e z5 ⟨v, rfl, ho, hb⟩
  obtain ⟨qX, kX, rfl, hAX, -⟩ := ho.row
  have OX := OwnZ.made ho
  clear ho
  clear eA0 eBW
  replace A0 := A0.next hb
  replace I0 := I0.next hb
  replace OW := OW.next hb
  replace BW := BW.next hb
  replace HB : Hid (Below w.heap.size w z5) := HB.out.trans (hb.mono HB.out.size)
  have hsz5 := hb.size
  clear hb
  have hb : Below z5.heap.size z5 (z5.alloc (.cells #[.slice qX n0.length kX] 26)) := below_alloc _ _
  have BX : VarZ z5.heap.size (.slice qX n0.length kX) (z5.alloc (.cells #[.slice qX n0.length kX] 26)) := VarZ.made
  replace A0 := A0.next hb
  replace I0 := I0.next hb
  replace OW := OW.next hb
  replace BW := BW.next hb
  replace OX := OX.next hb
  replace HB : Hid (Below w.heap.size w (z5.alloc (.cells #[.slice qX n0.length kX] 26))) := HB.out.trans (hb.mono HB.out.size)
  have hgtBX : z5.heap.size < (z5.alloc (.cells #[.slice qX n0.length kX] 26)).heap.size := BX.lt
  clear hb
  have eA0 := A0.c
  have eBW := BW.c
  have eBX := BX.c
  go_wp2_with fail
  generalize (z5.alloc (.cells #[.slice qX n0.length kX] 26)) = z6 at HB hgtBX A0 I0 OW BW OX BX eA0 eBW eBX ⊢
  refine (HI.out _ _ z6 hAX OX.rowAt).mono ?_
  rintro e z7 ⟨v, rfl, ho, hb⟩
  obtain ⟨qG, kG, rfl, hAG, -⟩ := ho.row
  have OG := OwnZ.made ho
  clear ho
  clear eA0 eBW eBX
  replace A0 := A0.next hb
  replace I0 := I0.next hb
  replace OW := OW.next hb
  replace BW := BW.next hb
  replace OX := OX.next hb
  replace BX := BX.next hb
  replace HB : Hid (Below w.heap.size w z7) := HB.out.trans (hb.mono HB.out.size)
  have hsz7 := hb.size
  clear hb
  have hb : Below z7.heap.size z7 (z7.alloc (.cells #[.slice qG R0.length kG] 26)) := below_alloc _ _
  have BG : VarZ z7.heap.size (.slice qG R0.length kG) (z7.alloc (.cells #[.slice qG R0.length kG] 26)) := VarZ.made
  replace A0 := A0.next hb
  replace I0 := I0.next hb
  replace OW := OW.next hb
  replace BW := BW.next hb
  replace OX := OX.next hb
  replace BX := BX.next hb
  replace OG := OG.next hb
  replace HB : Hid (Below w.heap.size w (z7.alloc (.cells #[.slice qG R0.length kG] 26))) := HB.out.trans (hb.mono HB.out.size)
  have hgtBG : z7.heap.size < (z7.alloc (.cells #[.slice qG R0.length kG] 26)).heap.size := BG.lt
  clear hb
  have eA0 := A0.c
  have eBW := BW.c
  have eBX := BX.c
  have eBG := BG.c
  go_wp2_with fail
  generalize (z7.alloc (.cells #[.slice qG R0.length kG] 26)) = z8 at HB hgtBG A0 I0 OW BW OX BX OG BG eA0 eBW eBX eBG ⊢
  refine (eqField_same _ _ _ _ R0 z8 HL.out OG.rowAt OW.rowAt).mono ?_
  rintro e z9 ⟨rfl, hb⟩
  clear eA0 eBW eBX eBG
  replace A0 := A0.next hb
  replace I0 := I0.next hb
  replace OW := OW.next hb
  replace BW := BW.next hb
  replace OX := OX.next hb
  replace BX := BX.next hb
  replace OG := OG.next hb
  replace BG := BG.next hb
  replace HB : Hid (Below w.heap.size w z9) := HB.out.trans (hb.mono HB.out.size)
  have hsz9 := hb.size
  clear hb
  have eA0 := A0.c
  have eBW := BW.c
  have eBX := BX.c
  have eBG := BG.c
  go_wp2_with fail
  have HBd : Hid (Below w.heap.size w z9.drew) := HB.out.drew
  have hI5 : RowI z9.drew.heap.size z9.drew a0 n0 := I0.all
  have hO5 : RowI z9.drew.heap.size z9.drew qX n0 := OX.rowAt
  have hX5 : z5.heap.size < z9.drew.heap.size := BX.lt
  have hA5 : w.heap.size < z9.drew.heap.size := A0.lt
  have hXc := eBX
  have hAc := eA0
  go_region_held3 (fun w' => w'.cell? ⟨z5.heap.size, 0, none⟩ = some (.slice qX n0.length kX) ∧ w'.cell? ⟨w.heap.size, 0, none⟩ = some (.slice a0 n0.length c0)) (first | exact ⟨eBX, eA0⟩ | assumption | exact two_keptZ (by assumption) hX5 hA5 hb6 | exact two_keptZ (by assumption) hX6 hA6 hb7) (first | (go_at_call 50; refine (toField_any a0 c0 n0 _ h0 ?_).mono ?_; exact hI5; rintro e y6 ⟨v6, rfl, ho6, hb6⟩; obtain ⟨q6, k6, rfl, hA6', hr6⟩ := ho6.row; have hX6 := Nat.lt_of_lt_of_le hX5 hb6.size; have hA6 := Nat.lt_of_lt_of_le hA5 hb6.size) | (go_at_call 51; refine (eqField_same qX q6 kX k6 n0 _ ?_ ?_ ?_).mono ?_; omega; exact hO5.grown hb6; exact hr6; rintro e y7 ⟨rfl, hb7⟩))
  have hb : Below z9.heap.size z9 y7 := by have h := hb6.trans (hb7.mono hb6.size); exact ⟨h.os, h.tape, h.output, h.size, h.block⟩
  replace A0 := A0.next (w := z9) (w' := y7) hb
  replace I0 := I0.next (w := z9) (w' := y7) hb
  replace OW := OW.next (w := z9) (w' := y7) hb
  replace BW := BW.next (w := z9) (w' := y7) hb
  replace OX := OX.next (w := z9) (w' := y7) hb
  replace BX := BX.next (w := z9) (w' := y7) hb
  replace OG := OG.next (w := z9) (w' := y7) hb
  replace BG := BG.next (w := z9) (w' := y7) hb
  replace HB : Hid (Below w.heap.size w y7) := HB.out.trans (hb.mono HB.out.size)
  have hszy := hb.size
  clear hb hb6 hb7 HBd hI5 hO5 hX5 hA5 hXc hAc ho6 hr6 hX6 hA6 eA0 eBW eBX eBG
  generalize hyy : y7 = z10 at HB hszy A0 I0 OW BW OX BX OG BG ⊢
  clear hyy
  have eA0 := A0.c
  have eBW := BW.c
  have eBX := BX.c
  have eBG := BG.c
  go_wp2_with fail
  refine (markField_any _ 1 (.slice qX n0.length kX) n0 z10 (by omega) (by omega) OX.own).mono ?_
  rintro e z11 ⟨rfl, hox, hgr⟩
  have hbk := OX.block
  clear eA0 eBW eBX eBG
  clear hox
  replace A0 := A0.mark hgr (fun e => by have h1 := hbk _ e; have h2 := A0.lt; omega)
  replace I0 := I0.mark hgr (fun g hg => by have := hbk g hg; omega)
  replace OW := OW.mark hgr (fun g hg => by have := hbk g hg; omega)
  replace BW := BW.mark hgr (fun e => by have h1 := hbk _ e; have h2 := BW.lt; omega)
  replace BX := BX.mark hgr (fun e => by have h1 := hbk _ e; have h2 := BX.lt; omega)
  replace OG := OG.mark hgr (fun g hg => by have := hbk g hg; omega)
  replace BG := BG.mark hgr (fun e => by have h1 := hbk _ e; have h2 := BG.lt; omega)
  replace HB : Hid (Below w.heap.size w z11) := HB.out.grown hgr HB.out.size (fun k hk => by have := hbk k hk; omega)
  have hsz11 := hgr.size
  clear hgr hbk OX
  have hk0 : ¬ (1 : Int) + (n0.length : Int) < 0 := by omega
  have eA0 := A0.c
  have eBW := BW.c
  have eBX := BX.c
  have eBG := BG.c
  go_wp2_with fail
  refine (eqField_same _ _ _ _ R0 z11 HL.out OG.rowAt OW.rowAt).mono ?_
  rintro e z12 ⟨rfl, hb⟩
  clear eA0 eBW eBX eBG
  replace A0 := A0.next hb
  replace I0 := I0.next hb
  replace OW := OW.next hb
  replace BW := BW.next hb
  replace BX := BX.next hb
  replace OG := OG.next hb
  replace BG := BG.next hb
  replace HB : Hid (Below w.heap.size w z12) := HB.out.trans (hb.mono HB.out.size)
  have hsz12 := hb.size
  clear hb
  have eA0 := A0.c
  have eBW := BW.c
  have eBX := BX.c
  have eBG := BG.c
  go_wp2_with fail
  refine (markField_any _ 1 (.slice qG R0.length kG) R0 z12 (by omega) (by omega) OG.own).mono ?_
  rintro e z13 ⟨rfl, hox, hgr⟩
  have hbk := OG.block
  clear eA0 eBW eBX eBG
  have OM : OwnZ _ _ (.slice qG R0.length kG) (marksI 1 R0.length) z13 := ⟨hox, Nat.le_trans OG.le hgr.size, OG.lt⟩
  clear hox
  replace A0 := A0.mark hgr (fun e => by have h1 := hbk _ e; have h2 := A0.lt; omega)
  replace I0 := I0.mark hgr (fun g hg => by have := hbk g hg; omega)
  replace OW := OW.mark hgr (fun g hg => by have := hbk g hg; omega)
  replace BW := BW.mark hgr (fun e => by have h1 := hbk _ e; have h2 := BW.lt; omega)
  replace BX := BX.mark hgr (fun e => by have h1 := hbk _ e; have h2 := BX.lt; omega)
  replace BG := BG.mark hgr (fun e => by have h1 := hbk _ e; have h2 := BG.lt; omega)
  replace HB : Hid (Below w.heap.size w z13) := HB.out.grown hgr HB.out.size (fun k hk => by have := hbk k hk; omega)
  have hsz13 := hgr.size
  clear hgr hbk OG
  have eA0 := A0.c
  have eBW := BW.c
  have eBX := BX.c
  have eBG := BG.c
  go_wp2_with fail
  refine (heldField_any qG kG R0.length 1 z13 (by omega) (by omega) OM.rowAt).mono ?_
  rintro e z14 ⟨rfl, hb⟩
  clear eA0 eBW eBX eBG
  replace A0 := A0.next hb
  replace I0 := I0.next hb
  replace OW := OW.next hb
  replace BW := BW.next hb
  replace BX := BX.next hb
  replace BG := BG.next hb
  replace OM := OM.next hb
  replace HB : Hid (Below w.heap.size w z14) := HB.out.trans (hb.mono HB.out.size)
  have hsz14 := hb.size
  clear hb
  have hk1 : ¬ (1 : Int) + (R0.length : Int) < 0 := by omega
  have eA0 := A0.c
  have eBW := BW.c
  have eBX := BX.c
  have eBG := BG.c
  go_wp2_with fail
  refine (toField_any a0 c0 n0 z14 h0 I0.all).mono ?_
  rintro e z15 ⟨v, rfl, ho, hb⟩
  obtain ⟨qY, kY, rfl, hAY, -⟩ := ho.row
  have OY := OwnZ.made ho
  clear ho
  clear eA0 eBW eBX eBG
  replace A0 := A0.next hb
  replace I0 := I0.next hb
  replace OW := OW.next hb
  replace BW := BW.next hb
  replace BX := BX.next hb
  replace BG := BG.next hb
  replace OM := OM.next hb
  replace HB : Hid (Below w.heap.size w z15) := HB.out.trans (hb.mono HB.out.size)
  have hsz15 := hb.size
  clear hb
  have eA0 := A0.c
  have eBW := BW.c
  have eBX := BX.c
  have eBG := BG.c
  go_wp2_with fail
  refine (HI.out _ _ z15 hAY OY.rowAt).mono ?_
  rintro e z16 ⟨v, rfl, ho, hb⟩
  obtain ⟨qH, kH, rfl, hAH, -⟩ := ho.row
  have OH := OwnZ.made ho
  clear ho
  clear eA0 eBW eBX eBG
  replace A0 := A0.next hb
  replace I0 := I0.next hb
  replace OW := OW.next hb
  replace BW := BW.next hb
  replace BX := BX.next hb
  replace BG := BG.next hb
  replace OM := OM.next hb
  replace OY := OY.next hb
  replace HB : Hid (Below w.heap.size w z16) := HB.out.trans (hb.mono HB.out.size)
  have hsz16 := hb.size
  clear hb
  clear OY
  have hb : Below z16.heap.size z16 (z16.alloc (.cells #[.slice qH R0.length kH] 26)) := below_alloc _ _
  have BH : VarZ z16.heap.size (.slice qH R0.length kH) (z16.alloc (.cells #[.slice qH R0.length kH] 26)) := VarZ.made
  replace A0 := A0.next hb
  replace I0 := I0.next hb
  replace OW := OW.next hb
  replace BW := BW.next hb
  replace BX := BX.next hb
  replace BG := BG.next hb
  replace OM := OM.next hb
  replace OH := OH.next hb
  replace HB : Hid (Below w.heap.size w (z16.alloc (.cells #[.slice qH R0.length kH] 26))) := HB.out.trans (hb.mono HB.out.size)
  have hgtBH : z16.heap.size < (z16.alloc (.cells #[.slice qH R0.length kH] 26)).heap.size := BH.lt
  clear hb
  have eA0 := A0.c
  have eBW := BW.c
  have eBX := BX.c
  have eBG := BG.c
  have eBH := BH.c
  go_wp2_with fail
  generalize (z16.alloc (.cells #[.slice qH R0.length kH] 26)) = z17 at HB hgtBH A0 I0 OW BW BX BG OM OH BH eA0 eBW eBX eBG eBH ⊢
  refine (eqField_same _ _ _ _ R0 z17 HL.out OH.rowAt OW.rowAt).mono ?_
  rintro e z18 ⟨rfl, hb⟩
  clear eA0 eBW eBX eBG eBH
  replace A0 := A0.next hb
  replace I0 := I0.next hb
  replace OW := OW.next hb
  replace BW := BW.next hb
  replace BX := BX.next hb
  replace BG := BG.next hb
  replace OM := OM.next hb
  replace OH := OH.next hb
  replace BH := BH.next hb
  replace HB : Hid (Below w.heap.size w z18) := HB.out.trans (hb.mono HB.out.size)
  have hsz18 := hb.size
  clear hb
  have eA0 := A0.c
  have eBW := BW.c
  have eBX := BX.c
  have eBG := BG.c
  have eBH := BH.c
  go_wp2_with fail
  refine (heldField_any qG kG R0.length 1 z18 (by omega) (by omega) OM.rowAt).mono ?_
  rintro e z19 ⟨rfl, hb⟩
  clear eA0 eBW eBX eBG eBH
  replace A0 := A0.next hb
  replace I0 := I0.next hb
  replace OW := OW.next hb
  replace BW := BW.next hb
  replace BX := BX.next hb
  replace BG := BG.next hb
  replace OM := OM.next hb
  replace OH := OH.next hb
  replace BH := BH.next hb
  replace HB : Hid (Below w.heap.size w z19) := HB.out.trans (hb.mono HB.out.size)
  have hsz19 := hb.size
  clear hb
  go_wp2
  go_ret
  exact ⟨rfl, HB.out⟩

theorem laidOut : laidOutB Try.prog = true := by kernel_rfl
set_option maxRecDepth 100000 in
theorem lifted (os : Os) (started : os.Started) (H : Type) (enc : TypeId × Value → H) :
    ReturnsInHanded {} Try.checked os 13 .any (Rows.fnExactFieldInvSpec.pre6 enc Try.prog Try.f13 Rows.fnExactFieldInvRow.domain false) (Rows.fnExactFieldInvSpec.post enc Try.prog Try.f13 false true false false) := by
  refine returnsInHanded_of_change (C := Try.checked) own started (by kernel_rfl) Try.func13
    (ChangeSpec.witness6 (enc := enc) (C := Try.checked) false ⟨#[], #[.agg #[.slice none 0 0]], []⟩ 8 (by kernel_rfl) (by kernel_rfl) (by kernel_rfl) (by kernel_rfl)) ?_
  intro W base args ds gs before hval0 hW hcnd _
  have hval : ∀ (j : Nat) t v, Try.f13.params[j]? = some t → args[j]? = some v → Value.okWide Try.prog W .any base t v := hval0
  have hW' := hW
  obtain ⟨p, q, hA0, hV, rfl, hfz, hnd⟩ := hW
  have hA : DataW.TrodAll enc Try.prog W 0 (fun _ => true) true Try.f13.params.toList args.toList ds p := hA0
  rw [Try.params13] at hA hval
  obtain ⟨v0, vs0, d0, ds0, p0, q0, hargs, rfl, rfl, h0, r0⟩ := trodAll_cons hA
  obtain ⟨rfl, rfl, rfl⟩ := trodAll_nil r0
  obtain rfl : args = #[v0] := by cases args; simp_all
  obtain ⟨rfl, rfl⟩ := trodVars_none hV
  have k0 := h0
  have lt0 : ∀ x ∈ p0, x.block < W.heap.size := by obtain ⟨m, hm⟩ := k0; exact DataW.trod_lt m _ _ _ hm
  obtain ⟨a0, c0, n0, rfl, w0, rn0, f0⟩ := box_of (hval 0 48 v0 rfl rfl) h0
  clear hA0 hval0
  refine (walk a0 c0 n0 w0 f0 W rn0).mono fun e W' ⟨he, bel⟩ => ?_
  subst he
  exact ⟨_, rfl, _, _, _, [], _, [], hW', trodAll_mk1 (shut_bool Try.underlying4 _), (trodAll_cons_mk (Below.trod laidOut (by kernel_rfl) (of_decide_eq_true (by kernel_rfl)) k0 bel lt0) trodAll_mk0), rfl, bel.frame _, fun h => by cases h⟩

theorem over : Rows.fnExactFieldInvRow.holds Try.pinned (OpenSpec.ofChange Rows.fnExactFieldInvSpec) :=
  OpenClaim.holds_of_wide 13 Try.f13 rfl rfl rfl rfl rfl rfl rfl ⟨rfl, rfl, rfl, rfl, rfl⟩ rfl rfl rfl rfl rfl (by kernel_rfl) Try.func13 (by kernel_rfl)
    (of_decide_eq_true (by kernel_rfl)) (by unfold Func.isWrapper; first | (rw [if_pos (by decide +kernel)]; kernel_rfl) | (rw [if_neg (by decide +kernel)]; exact ⟨rfl, rfl⟩))
    (fun os started H enc _ => lifted os started H enc)
end fnExactFieldInv

theorem fnExactFieldInv_holds : Rows.FnExactFieldInvSaid := fnExactFieldInv.over
#print axioms fnExactFieldInv_holds
end Go.Proofs.Ytjhglbdknjoeeaa
