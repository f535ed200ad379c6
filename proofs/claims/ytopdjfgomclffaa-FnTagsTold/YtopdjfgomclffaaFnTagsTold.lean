/- For every code: drawn numbers of limbs, right or not, sums and products of drawn ones, and tags are what the specification says. No condition. -/
import Derived.Test.YtopdjfgomclffaaRows
import Derived.Test.YtopdjfgomclffaaDb25
import Derived.Test.YtopdjfgomclffaaDr25
import Derived.Test.YtopdjfgomclffaaLof25
import Derived.Test.YtopdjfgomclffaaFld25
import Derived.Test.YtopdjfgomclffaaSad25
import Derived.Test.YtopdjfgomclffaaSmu25
import Derived.Test.YtopdjfgomclffaaLok25
import Derived.Test.YtopdjfgomclffaaFie25
import Derived.Test.YtopdjfgomclffaaSlo25
import Derived.Test.YtopdjfgomclffaaLtx25
import Derived.Test.YtopdjfgomclffaaStx25
import Derived.Test.YtopdjfgomclffaaPol25
import Derived.Test.YtopdjfgomclffaaSpl25
import Derived.Test.YtopdjfgomclffaaSameJ
import Derived.Test.YtopdjfgomclffaaCodeW
import Derived.Deep.RegionHeld
import Derived.OrdersHeld
import Derived.WalkKit
import Derived.ProofKit
import Derived.OpenShut
import Derived.ShutString
import Derived.OpenVars
import Derived.BigRegion
import Derived.ChangeOld
import Derived.PlainAid
namespace Go.Proofs.Ytopdjfgomclffaa
namespace fnTagsTold
open Go.ChangeShapes Go.WideShapes Go.ChangeAt Go.RowKit Go.PlainAid
open Go.ChangeMaps (open_string shut_string)
set_option linter.unusedVariables false

theorem own : ownKnob Try.prog.godebug = none := by kernel_rfl

set_option linter.unusedSimpArgs false
set_option maxRecDepth 20000
/-- The four boxes that the last region reads. -/
def S4 (P Q C D : Nat) (vp vq vc vd : Value) (w : World) : Prop := Bx P w vp ∧ Bx Q w vq ∧ Bx C w vc ∧ Bx D w vd
theorem S4.next {P Q C D : Nat} {vp vq vc vd : Value} {w w' : World} (h : S4 P Q C D vp vq vc vd w) (hb : Below w.heap.size w w') : S4 P Q C D vp vq vc vd w' :=
  ⟨h.1.next hb, h.2.1.next hb, h.2.2.1.next hb, h.2.2.2.next hb⟩
theorem ofLP_len (t : ByteArray) : (ofLP t).length ≤ 5 := by
  unfold ofLP
  split
  · rw [canonP_len]; omega
  · exact Nat.zero_le _
set_option maxHeartbeats 30000000 in
theorem walk (a0 : Option Addr) (len0 cap0 : Nat) (w : World) (hcode : len0 ≤ 1048576 → CodeIn w.heap.size w a0 len0) :
    Calls Try.prog 4 #[.slice a0 len0 cap0] w fun e w' => e = .returned (.bool true) ∧ Below w.heap.size w w' := by
  by_cases hl : len0 ≤ 1048576
  · have hd : decide ((1048576 : Int) < (len0 : Int)) = false := by simp; omega
    have HC : Hid (CodeIn w.heap.size w a0 len0) := hcode hl
    clear hcode
    go_enter Try.func4, Try.ntmps4
    go_wp2_with fail
    refine (big_any a0 len0 cap0 _).mono ?_
    rintro e w1 ⟨rfl, rfl⟩
    go_wp2_with fail
    refine (drawLimbsOf_any a0 len0 cap0 _ HC.out).mono ?_
    rintro e w1 ⟨t, rfl, hts, hb⟩
    have HB : Hid (Below w.heap.size w w1) := hb
    have I1 : Hid (∀ wz : World, _) := fun wz => implLimbsOf_any t wz (by omega)
    have S1 : Hid (∀ wz : World, _) := fun wz => specLimbsOf_any t wz (by omega)
    have hlp := ofLP_len t
    generalize ofLP t = lp at I1 S1 hlp
    generalize ofOkP t = ob at I1 S1
    clear hb
    go_wp2_with fail
    refine Calls.mono (I1.out _) ?_
    rintro e w2 ⟨v, rfl, ho, hb⟩
    obtain ⟨xp, yp, rfl, -, hrp⟩ := ho.row
    have hbn : Below w2.heap.size w2 (w2.alloc (.cells #[.slice xp lp.length yp] 26)) := (Below.refl _ _).alloc (Nat.le_refl _) _
    have hxp : Bx w2.heap.size (w2.alloc (.cells #[.slice xp lp.length yp] 26)) (.slice xp lp.length yp) := heap_alloc_new w2 _
    replace HB : Hid (Below w.heap.size w (w2.alloc (.cells #[.slice xp lp.length yp] 26))) := (HB.out.trans (hb.mono HB.out.size)).trans (hbn.mono (HB.out.trans (hb.mono HB.out.size)).size)
    replace hrp := hrp.grown hbn
    clear ho hb hbn I1
    go_upto_region 5 with fail
    generalize w2.alloc (.cells #[.slice xp lp.length yp] 26) = w3 at hxp HB hrp ⊢
    generalize w2.heap.size = P at hxp ⊢
    go_wp2_with fail
    refine Calls.mono (S1.out _) ?_
    rintro e w4 ⟨v, rfl, ho, hb⟩
    obtain ⟨xq, yq, rfl, -, hrq⟩ := ho.row
    have hbn : Below w4.heap.size w4 (w4.alloc (.cells #[.slice xq lp.length yq] 26)) := (Below.refl _ _).alloc (Nat.le_refl _) _
    have hxq : Bx w4.heap.size (w4.alloc (.cells #[.slice xq lp.length yq] 26)) (.slice xq lp.length yq) := heap_alloc_new w4 _
    replace HB : Hid (Below w.heap.size w (w4.alloc (.cells #[.slice xq lp.length yq] 26))) := (HB.out.trans (hb.mono HB.out.size)).trans (hbn.mono (HB.out.trans (hb.mono HB.out.size)).size)
    replace hrq := hrq.grown hbn
    replace hxp := (hxp.next hb).next hbn
    replace hrp := (hrp.grown hb).grown hbn
    clear ho hb hbn S1
    go_upto_region 6 with fail
    generalize w4.alloc (.cells #[.slice xq lp.length yq] 26) = w5 at hxp hxq HB hrp hrq ⊢
    generalize w4.heap.size = Q at hxq ⊢
    go_wp2_with fail
    refine (drawAdd_any a0 len0 cap0 _ (codeIn_later HC.out HB.out)).mono ?_
    rintro e w6 ⟨ga, ya, gb, yb, n0, n1, rfl, hl0, hl1, hrc, hrd, hb⟩
    replace HB : Hid (Below w.heap.size w w6) := HB.out.trans (hb.mono HB.out.size)
    replace hxp := hxp.next hb
    replace hxq := hxq.next hb
    replace hrp := hrp.grown hb
    replace hrq := hrq.grown hb
    clear hb
    go_upto_region 7 with fail
    have ha1 : Bx w6.heap.size (w6.alloc (.cells #[.slice (some ⟨ga, 0, none⟩) n0.length ya] 26)) (.slice (some ⟨ga, 0, none⟩) n0.length ya) := heap_alloc_new w6 _
    have hb1 : Below w6.heap.size w6 (w6.alloc (.cells #[.slice (some ⟨ga, 0, none⟩) n0.length ya] 26)) := (Below.refl _ _).alloc (Nat.le_refl _) _
    have hs1 : (w6.alloc (.cells #[.slice (some ⟨ga, 0, none⟩) n0.length ya] 26)).heap.size = w6.heap.size + 1 := by simp
    generalize w6.alloc (.cells #[.slice (some ⟨ga, 0, none⟩) n0.length ya] 26) = w7 at ha1 hb1 hs1 ⊢
    have ha2 : Bx w7.heap.size (w7.alloc (.cells #[.slice (some ⟨gb, 0, none⟩) n1.length yb] 26)) (.slice (some ⟨gb, 0, none⟩) n1.length yb) := heap_alloc_new w7 _
    have hb2 : Below w7.heap.size w7 (w7.alloc (.cells #[.slice (some ⟨gb, 0, none⟩) n1.length yb] 26)) := (Below.refl _ _).alloc (Nat.le_refl _) _
    rw [hs1] at ha2
    generalize w7.alloc (.cells #[.slice (some ⟨gb, 0, none⟩) n1.length yb] 26) = w8 at ha2 hb2 ⊢
    have hbb : Below w6.heap.size w6 w8 := hb1.trans (hb2.mono (by omega))
    replace HB : Hid (Below w.heap.size w w8) := HB.out.trans (hbb.mono HB.out.size)
    have HS : Hid (S4 P Q w6.heap.size (w6.heap.size + 1) (.slice xp lp.length yp) (.slice xq lp.length yq) (.slice (some ⟨ga, 0, none⟩) n0.length ya) (.slice (some ⟨gb, 0, none⟩) n1.length yb) w8) := ⟨hxp.next hbb, hxq.next hbb, ha1.next hb2, ha2⟩
    have HRP : Hid (RowI w8.heap.size w8 xp lp) := hrp.grown hbb
    have HRQ : Hid (RowI w8.heap.size w8 xq lp) := hrq.grown hbb
    have HRC : Hid (RowI w8.heap.size w8 (some ⟨ga, 0, none⟩) n0) := hrc.grown hbb
    have HRD : Hid (RowI w8.heap.size w8 (some ⟨gb, 0, none⟩) n1) := hrd.grown hbb
    clear ha1 hb1 hs1 ha2 hb2 hbb hxp hxq hrp hrq hrc hrd
    generalize w6.heap.size = C at HS ⊢
    go_wp2_with fail
    refine (drawPoly_any a0 len0 cap0 _ (codeIn_later HC.out HB.out)).mono ?_
    rintro e w9 ⟨ky, tx, rfl, hk1, hk2, hb⟩
    replace HB : Hid (Below w.heap.size w w9) := HB.out.trans (hb.mono HB.out.size)
    replace HS : Hid (S4 _ _ _ _ _ _ _ _ w9) := S4.next HS.out hb
    replace HRP : Hid (RowI w9.heap.size w9 xp lp) := HRP.out.grown hb
    replace HRQ : Hid (RowI w9.heap.size w9 xq lp) := HRQ.out.grown hb
    replace HRC : Hid (RowI w9.heap.size w9 (some ⟨ga, 0, none⟩) n0) := HRC.out.grown hb
    replace HRD : Hid (RowI w9.heap.size w9 (some ⟨gb, 0, none⟩) n1) := HRD.out.grown hb
    have IP : Hid (∀ wz : World, _) := fun wz => implPoly_any ky tx wz (by omega)
    have SP : Hid (∀ wz : World, _) := fun wz => specPoly_any ky tx wz (by omega)
    clear hb HC
    generalize polyT ky tx = pt at IP SP
    generalize decide (ky.size = 32) = pb' at IP SP
    go_wp2_with fail
    refine Calls.mono (IP.out _) ?_
    rintro e w10 ⟨rfl, hb⟩
    replace HB : Hid (Below w.heap.size w w10) := HB.out.trans (hb.mono HB.out.size)
    replace HS : Hid (S4 _ _ _ _ _ _ _ _ w10) := S4.next HS.out hb
    replace HRP : Hid (RowI w10.heap.size w10 xp lp) := HRP.out.grown hb
    replace HRQ : Hid (RowI w10.heap.size w10 xq lp) := HRQ.out.grown hb
    replace HRC : Hid (RowI w10.heap.size w10 (some ⟨ga, 0, none⟩) n0) := HRC.out.grown hb
    replace HRD : Hid (RowI w10.heap.size w10 (some ⟨gb, 0, none⟩) n1) := HRD.out.grown hb
    clear hb IP
    go_wp2_with fail
    refine Calls.mono (SP.out _) ?_
    rintro e w11 ⟨rfl, hb⟩
    replace HB : Hid (Below w.heap.size w w11) := HB.out.trans (hb.mono HB.out.size)
    replace HS : Hid (S4 _ _ _ _ _ _ _ _ w11) := S4.next HS.out hb
    have rp0 := HRP.out.grown hb
    have rq0 := HRQ.out.grown hb
    have rc0 := HRC.out.grown hb
    have rd0 := HRD.out.grown hb
    clear hb SP HRP HRQ HRC HRD
    have HSL : Hid (∀ (wz : World) (a b : Option Addr) (ca cb : Nat), RowI wz.heap.size wz a lp → RowI wz.heap.size wz b lp → _) := fun wz a b ca cb h1 h2 => sameI_same a b ca cb lp wz (by omega) h1 h2
    have Hiadd : Hid (∀ wz : World, RowI wz.heap.size wz (some ⟨ga, 0, none⟩) n0 → RowI wz.heap.size wz (some ⟨gb, 0, none⟩) n1 → _) := fun wz h1 h2 => implAddLimbs_any (some ⟨ga, 0, none⟩) (some ⟨gb, 0, none⟩) ya yb n0 n1 wz h1 h2
    have Hsadd : Hid (∀ wz : World, RowI wz.heap.size wz (some ⟨ga, 0, none⟩) n0 → RowI wz.heap.size wz (some ⟨gb, 0, none⟩) n1 → _) := fun wz h1 h2 => specAddLimbs_any (some ⟨ga, 0, none⟩) (some ⟨gb, 0, none⟩) ya yb n0 n1 wz h1 h2 (by omega) (by omega)
    have Himul : Hid (∀ wz : World, RowI wz.heap.size wz (some ⟨ga, 0, none⟩) n0 → RowI wz.heap.size wz (some ⟨gb, 0, none⟩) n1 → _) := fun wz h1 h2 => implMulLimbs_any (some ⟨ga, 0, none⟩) (some ⟨gb, 0, none⟩) ya yb n0 n1 wz h1 h2
    have Hsmul : Hid (∀ wz : World, RowI wz.heap.size wz (some ⟨ga, 0, none⟩) n0 → RowI wz.heap.size wz (some ⟨gb, 0, none⟩) n1 → _) := fun wz h1 h2 => specMulLimbs_any (some ⟨ga, 0, none⟩) (some ⟨gb, 0, none⟩) ya yb n0 n1 wz h1 h2 (by omega) (by omega)
    have hla := twoP_len n0 n1 (lval pb n0 + lval pb n1)
    have hlm := twoP_len n0 n1 (lval pb n0 * lval pb n1)
    have Hiok : Hid (∀ wz : World, RowI wz.heap.size wz (some ⟨ga, 0, none⟩) n0 → _) := fun wz h1 => implLimbsOk_any (some ⟨ga, 0, none⟩) ya n0 wz h1
    have Hsok : Hid (∀ wz : World, RowI wz.heap.size wz (some ⟨ga, 0, none⟩) n0 → _) := fun wz h1 => specLimbsOk_any (some ⟨ga, 0, none⟩) ya n0 wz h1 (by omega)
    have Hitx : Hid (∀ wz : World, RowI wz.heap.size wz (some ⟨ga, 0, none⟩) n0 → _) := fun wz h1 => implLimbsText_any (some ⟨ga, 0, none⟩) ya n0 wz h1
    have Hstx : Hid (∀ wz : World, RowI wz.heap.size wz (some ⟨ga, 0, none⟩) n0 → _) := fun wz h1 => specLimbsText_any (some ⟨ga, 0, none⟩) ya n0 wz h1 (by omega)
    generalize twoP n0 n1 (lval pb n0 + lval pb n1) = la at Hiadd Hsadd hla
    generalize twoP n0 n1 (lval pb n0 * lval pb n1) = lm at Himul Hsmul hlm
    generalize okP n0 = okk at Hiok Hsok
    generalize txtP n0 = txx at Hitx Hstx
    have HASM1 : Hid (∀ (wz : World) (a b : Option Addr) (ca cb : Nat), RowI wz.heap.size wz a la → RowI wz.heap.size wz b la → _) := fun wz a b ca cb h1 h2 => sameI_same a b ca cb la wz hla h1 h2
    have HASM2 : Hid (∀ (wz : World) (a b : Option Addr) (ca cb : Nat), RowI wz.heap.size wz a lm → RowI wz.heap.size wz b lm → _) := fun wz a b ca cb h1 h2 => sameI_same a b ca cb lm wz hlm h1 h2
    clear hla hlm hk1 hk2 hts
    go_upto_region 10 with fail
    refine _root_.Go.wp_region_held (S := S4 P Q C (C + 1) (.slice xp lp.length yp) (.slice xq lp.length yq) (.slice (some ⟨ga, 0, none⟩) n0.length ya) (.slice (some ⟨gb, 0, none⟩) n1.length yb)) (by kernel_rfl) ?_
    have hdr : Below w11.heap.size w11 w11.drew := (Below.refl _ _).drew
    have hS : S4 P Q C (C + 1) (.slice xp lp.length yp) (.slice xq lp.length yq) (.slice (some ⟨ga, 0, none⟩) n0.length ya) (.slice (some ⟨gb, 0, none⟩) n1.length yb) w11.drew := S4.next HS.out hdr
    have hB : Below w.heap.size w w11.drew := HB.out.drew
    have rp := rp0.grown hdr
    have rq := rq0.grown hdr
    have rc := rc0.grown hdr
    have rd := rd0.grown hdr
    clear hdr rp0 rq0 rc0 rd0 HS HB
    show wpAnyH _ _ _ _ _ _ _ _ w11.drew
    generalize w11.drew = v0 at hS hB rp rq rc rd ⊢
    refine wpAnyH_take (i := 0) (v := ?_) rfl (by kernel_rfl) (by kernel_rfl) (by kernel_rfl) (fun _ _ _ h => h) (Or.inl ⟨by rfl, ?_⟩) hS ?_
    rotate_left
    · intro w hSw; obtain ⟨hp, hq, hc, hd⟩ := hSw; have cp := hp.cell; have cq := hq.cell; have cc := hc.cell; have cd := hd.cell; clear hp hq hc hd; go_simp; try with_reducible rfl
    try simp only [Act.put, List.getElem_toArray, List.getElem_cons_zero, List.setIfInBounds_toArray, List.set_cons_succ, List.set_cons_zero]
    refine wpAnyH_take (i := 1) (v := ?_) rfl (by kernel_rfl) (by kernel_rfl) (by kernel_rfl) (fun _ _ _ h => h) (Or.inl ⟨by rfl, ?_⟩) hS ?_
    rotate_left
    · intro w hSw; obtain ⟨hp, hq, hc, hd⟩ := hSw; have cp := hp.cell; have cq := hq.cell; have cc := hc.cell; have cd := hd.cell; clear hp hq hc hd; go_simp; try with_reducible rfl
    try simp only [Act.put, List.getElem_toArray, List.getElem_cons_succ, List.getElem_cons_zero, List.setIfInBounds_toArray, List.set_cons_succ, List.set_cons_zero]
    refine wpAnyH_take (i := 2) (v := ?_) rfl (by kernel_rfl) (by kernel_rfl) (by kernel_rfl) (fun _ _ _ h => h) (Or.inl ⟨by rfl, ?_⟩) hS ?_
    rotate_left
    · intro w hSw; obtain ⟨hp, hq, hc, hd⟩ := hSw; have cp := hp.cell; have cq := hq.cell; have cc := hc.cell; have cd := hd.cell; clear hp hq hc hd; go_simp; try with_reducible rfl
    try simp only [Act.put, List.getElem_toArray, List.getElem_cons_succ, List.getElem_cons_zero, List.setIfInBounds_toArray, List.set_cons_succ, List.set_cons_zero]
    refine wpAnyH_take (i := 3) (v := ?_) rfl (by kernel_rfl) (by kernel_rfl) (by kernel_rfl) (fun _ _ _ h => h) (Or.inl ⟨by rfl, ?_⟩) hS ?_
    rotate_left
    · intro w hSw; obtain ⟨hp, hq, hc, hd⟩ := hSw; have cp := hp.cell; have cq := hq.cell; have cc := hc.cell; have cd := hd.cell; clear hp hq hc hd; go_simp; try with_reducible rfl
    try simp only [Act.put, List.getElem_toArray, List.getElem_cons_succ, List.getElem_cons_zero, List.setIfInBounds_toArray, List.set_cons_succ, List.set_cons_zero]
    refine wpAnyH_take (i := 4) (v := ?_) rfl (by kernel_rfl) (by kernel_rfl) (by kernel_rfl) (fun _ _ _ h => h) (Or.inl ⟨by rfl, ?_⟩) hS ?_
    rotate_left
    · intro w hSw; obtain ⟨hp, hq, hc, hd⟩ := hSw; have cp := hp.cell; have cq := hq.cell; have cc := hc.cell; have cd := hd.cell; clear hp hq hc hd; go_simp; try with_reducible rfl
    try simp only [Act.put, List.getElem_toArray, List.getElem_cons_succ, List.getElem_cons_zero, List.setIfInBounds_toArray, List.set_cons_succ, List.set_cons_zero]
    refine wpAnyH_take (i := 5) (v := ?_) rfl (by kernel_rfl) (by kernel_rfl) (by kernel_rfl) (fun _ _ _ h => h) (Or.inl ⟨by rfl, ?_⟩) hS ?_
    rotate_left
    · intro w hSw; obtain ⟨hp, hq, hc, hd⟩ := hSw; have cp := hp.cell; have cq := hq.cell; have cc := hc.cell; have cd := hd.cell; clear hp hq hc hd; go_simp; try with_reducible rfl
    try simp only [Act.put, List.getElem_toArray, List.getElem_cons_succ, List.getElem_cons_zero, List.setIfInBounds_toArray, List.set_cons_succ, List.set_cons_zero]
    refine wpAnyH_take (i := 6) (v := ?_) rfl (by kernel_rfl) (by kernel_rfl) (by kernel_rfl) (fun _ _ _ h => h) (Or.inl ⟨by rfl, ?_⟩) hS ?_
    rotate_left
    · intro w hSw; obtain ⟨hp, hq, hc, hd⟩ := hSw; have cp := hp.cell; have cq := hq.cell; have cc := hc.cell; have cd := hd.cell; clear hp hq hc hd; go_simp; try with_reducible rfl
    try simp only [Act.put, List.getElem_toArray, List.getElem_cons_succ, List.getElem_cons_zero, List.setIfInBounds_toArray, List.set_cons_succ, List.set_cons_zero]
    refine wpAnyH_take (i := 7) (v := ?_) rfl (by kernel_rfl) (by kernel_rfl) (by kernel_rfl) (fun _ _ _ h => h) (Or.inl ⟨by rfl, ?_⟩) hS ?_
    rotate_left
    · intro w hSw; obtain ⟨hp, hq, hc, hd⟩ := hSw; have cp := hp.cell; have cq := hq.cell; have cc := hc.cell; have cd := hd.cell; clear hp hq hc hd; go_simp; try with_reducible rfl
    try simp only [Act.put, List.getElem_toArray, List.getElem_cons_succ, List.getElem_cons_zero, List.setIfInBounds_toArray, List.set_cons_succ, List.set_cons_zero]
    refine wpAnyH_ready (rs := [8]) (by kernel_rfl) (by simp) ?_
    refine AllReadyH.cons rfl (fun K hK => ?_) AllReadyH.nil
    go_simp
    refine Calls.mono (HSL.out v0 _ _ _ _ rp rq) ?_
    rintro e v1 ⟨rfl, hb⟩
    replace rp := rp.grown hb
    replace rq := rq.grown hb
    replace rc := rc.grown hb
    replace rd := rd.grown hb
    replace hB := hB.trans (hb.mono hB.size)
    have hS1 := S4.next hS hb
    clear hb
    refine hK.out _ _ hS1 (fun hS => ?_)
    clear hK K hS1
    try simp only [Act.put, List.getElem_toArray, List.getElem_cons_succ, List.getElem_cons_zero, List.setIfInBounds_toArray, List.set_cons_succ, List.set_cons_zero]
    refine wpAnyH_take (i := 9) (v := ?_) rfl (by kernel_rfl) (by kernel_rfl) (by kernel_rfl) (fun _ _ _ h => h) (Or.inl ⟨by rfl, ?_⟩) hS ?_
    rotate_left
    · intro w hSw; obtain ⟨hp, hq, hc, hd⟩ := hSw; have cp := hp.cell; have cq := hq.cell; have cc := hc.cell; have cd := hd.cell; clear hp hq hc hd; go_simp; try with_reducible rfl
    try simp only [Act.put, List.getElem_toArray, List.getElem_cons_succ, List.getElem_cons_zero, List.setIfInBounds_toArray, List.set_cons_succ, List.set_cons_zero]
    refine wpAnyH_take (i := 10) (v := ?_) rfl (by kernel_rfl) (by kernel_rfl) (by kernel_rfl) (fun _ _ _ h => h) (Or.inl ⟨by rfl, ?_⟩) hS ?_
    rotate_left
    · intro w hSw; obtain ⟨hp, hq, hc, hd⟩ := hSw; have cp := hp.cell; have cq := hq.cell; have cc := hc.cell; have cd := hd.cell; clear hp hq hc hd; go_simp; try with_reducible rfl
    try simp only [Act.put, List.getElem_toArray, List.getElem_cons_succ, List.getElem_cons_zero, List.setIfInBounds_toArray, List.set_cons_succ, List.set_cons_zero]
    refine wpAnyH_take (i := 11) (v := ?_) rfl (by kernel_rfl) (by kernel_rfl) (by kernel_rfl) (fun _ _ _ h => h) (Or.inl ⟨by rfl, ?_⟩) hS ?_
    rotate_left
    · intro w hSw; obtain ⟨hp, hq, hc, hd⟩ := hSw; have cp := hp.cell; have cq := hq.cell; have cc := hc.cell; have cd := hd.cell; clear hp hq hc hd; go_simp; try with_reducible rfl
    try simp only [Act.put, List.getElem_toArray, List.getElem_cons_succ, List.getElem_cons_zero, List.setIfInBounds_toArray, List.set_cons_succ, List.set_cons_zero]
    refine wpAnyH_take (i := 12) (v := ?_) rfl (by kernel_rfl) (by kernel_rfl) (by kernel_rfl) (fun _ _ _ h => h) (Or.inl ⟨by rfl, ?_⟩) hS ?_
    rotate_left
    · intro w hSw; obtain ⟨hp, hq, hc, hd⟩ := hSw; have cp := hp.cell; have cq := hq.cell; have cc := hc.cell; have cd := hd.cell; clear hp hq hc hd; go_simp; try with_reducible rfl
    try simp only [Act.put, List.getElem_toArray, List.getElem_cons_succ, List.getElem_cons_zero, List.setIfInBounds_toArray, List.set_cons_succ, List.set_cons_zero]
    refine wpAnyH_take (i := 15) (v := ?_) rfl (by kernel_rfl) (by kernel_rfl) (by kernel_rfl) (fun _ _ _ h => h) (Or.inl ⟨by rfl, ?_⟩) hS ?_
    rotate_left
    · intro w hSw; obtain ⟨hp, hq, hc, hd⟩ := hSw; have cp := hp.cell; have cq := hq.cell; have cc := hc.cell; have cd := hd.cell; clear hp hq hc hd; go_simp; try with_reducible rfl
    try simp only [Act.put, List.getElem_toArray, List.getElem_cons_succ, List.getElem_cons_zero, List.setIfInBounds_toArray, List.set_cons_succ, List.set_cons_zero]
    refine wpAnyH_take (i := 16) (v := ?_) rfl (by kernel_rfl) (by kernel_rfl) (by kernel_rfl) (fun _ _ _ h => h) (Or.inl ⟨by rfl, ?_⟩) hS ?_
    rotate_left
    · intro w hSw; obtain ⟨hp, hq, hc, hd⟩ := hSw; have cp := hp.cell; have cq := hq.cell; have cc := hc.cell; have cd := hd.cell; clear hp hq hc hd; go_simp; try with_reducible rfl
    try simp only [Act.put, List.getElem_toArray, List.getElem_cons_succ, List.getElem_cons_zero, List.setIfInBounds_toArray, List.set_cons_succ, List.set_cons_zero]
    refine wpAnyH_ready (rs := [13]) (by kernel_rfl) (by simp) ?_
    refine AllReadyH.cons rfl (fun K hK => ?_) AllReadyH.nil
    go_simp
    refine Calls.mono (Hiadd.out v1 rc rd) ?_
    rintro e v2 ⟨vv, rfl, ho, hb⟩
    obtain ⟨x1, y1, rfl, -, r1⟩ := ho.row
    clear ho
    replace rp := rp.grown hb
    replace rq := rq.grown hb
    replace rc := rc.grown hb
    replace rd := rd.grown hb
    replace hB := hB.trans (hb.mono hB.size)
    have hS1 := S4.next hS hb
    clear hb
    refine hK.out _ _ hS1 (fun hS => ?_)
    clear hK K hS1
    try simp only [Act.put, List.getElem_toArray, List.getElem_cons_succ, List.getElem_cons_zero, List.setIfInBounds_toArray, List.set_cons_succ, List.set_cons_zero]
    refine wpAnyH_take (i := 14) (v := ?_) rfl (by kernel_rfl) (by kernel_rfl) (by kernel_rfl) (fun _ _ _ h => h) (Or.inl ⟨by rfl, ?_⟩) hS ?_
    rotate_left
    · intro w hSw; skip; go_simp; rw [run_fieldL]; exact rfl
    try simp only [Act.put, List.getElem_toArray, List.getElem_cons_succ, List.getElem_cons_zero, List.setIfInBounds_toArray, List.set_cons_succ, List.set_cons_zero]
    refine wpAnyH_ready (rs := [17]) (by kernel_rfl) (by simp) ?_
    refine AllReadyH.cons rfl (fun K hK => ?_) AllReadyH.nil
    go_simp
    refine Calls.mono (Hsadd.out v2 rc rd) ?_
    rintro e v3 ⟨vv, rfl, ho, hb⟩
    obtain ⟨x2, y2, rfl, -, r2⟩ := ho.row
    clear ho
    replace rp := rp.grown hb
    replace rq := rq.grown hb
    replace rc := rc.grown hb
    replace rd := rd.grown hb
    replace r1 := r1.grown hb
    replace hB := hB.trans (hb.mono hB.size)
    have hS1 := S4.next hS hb
    clear hb
    refine hK.out _ _ hS1 (fun hS => ?_)
    clear hK K hS1
    try simp only [Act.put, List.getElem_toArray, List.getElem_cons_succ, List.getElem_cons_zero, List.setIfInBounds_toArray, List.set_cons_succ, List.set_cons_zero]
    refine wpAnyH_take (i := 18) (v := ?_) rfl (by kernel_rfl) (by kernel_rfl) (by kernel_rfl) (fun _ _ _ h => h) (Or.inl ⟨by rfl, ?_⟩) hS ?_
    rotate_left
    · intro w hSw; skip; go_simp; rw [run_fieldL]; exact rfl
    try simp only [Act.put, List.getElem_toArray, List.getElem_cons_succ, List.getElem_cons_zero, List.setIfInBounds_toArray, List.set_cons_succ, List.set_cons_zero]
    refine wpAnyH_ready (rs := [19]) (by kernel_rfl) (by simp) ?_
    refine AllReadyH.cons rfl (fun K hK => ?_) AllReadyH.nil
    go_simp
    refine Calls.mono (HASM1.out v3 _ _ _ _ r1 r2) ?_
    rintro e v4 ⟨rfl, hb⟩
    clear r1
    clear r2
    replace rp := rp.grown hb
    replace rq := rq.grown hb
    replace rc := rc.grown hb
    replace rd := rd.grown hb
    replace hB := hB.trans (hb.mono hB.size)
    have hS1 := S4.next hS hb
    clear hb
    refine hK.out _ _ hS1 (fun hS => ?_)
    clear hK K hS1
    try simp only [Act.put, List.getElem_toArray, List.getElem_cons_succ, List.getElem_cons_zero, List.setIfInBounds_toArray, List.set_cons_succ, List.set_cons_zero]
    refine wpAnyH_take (i := 20) (v := ?_) rfl (by kernel_rfl) (by kernel_rfl) (by kernel_rfl) (fun _ _ _ h => h) (Or.inl ⟨by rfl, ?_⟩) hS ?_
    rotate_left
    · intro w hSw; obtain ⟨hp, hq, hc, hd⟩ := hSw; have cp := hp.cell; have cq := hq.cell; have cc := hc.cell; have cd := hd.cell; clear hp hq hc hd; go_simp; try with_reducible rfl
    try simp only [Act.put, List.getElem_toArray, List.getElem_cons_succ, List.getElem_cons_zero, List.setIfInBounds_toArray, List.set_cons_succ, List.set_cons_zero]
    refine wpAnyH_take (i := 21) (v := ?_) rfl (by kernel_rfl) (by kernel_rfl) (by kernel_rfl) (fun _ _ _ h => h) (Or.inl ⟨by rfl, ?_⟩) hS ?_
    rotate_left
    · intro w hSw; obtain ⟨hp, hq, hc, hd⟩ := hSw; have cp := hp.cell; have cq := hq.cell; have cc := hc.cell; have cd := hd.cell; clear hp hq hc hd; go_simp; try with_reducible rfl
    try simp only [Act.put, List.getElem_toArray, List.getElem_cons_succ, List.getElem_cons_zero, List.setIfInBounds_toArray, List.set_cons_succ, List.set_cons_zero]
    refine wpAnyH_take (i := 22) (v := ?_) rfl (by kernel_rfl) (by kernel_rfl) (by kernel_rfl) (fun _ _ _ h => h) (Or.inl ⟨by rfl, ?_⟩) hS ?_
    rotate_left
    · intro w hSw; obtain ⟨hp, hq, hc, hd⟩ := hSw; have cp := hp.cell; have cq := hq.cell; have cc := hc.cell; have cd := hd.cell; clear hp hq hc hd; go_simp; try with_reducible rfl
    try simp only [Act.put, List.getElem_toArray, List.getElem_cons_succ, List.getElem_cons_zero, List.setIfInBounds_toArray, List.set_cons_succ, List.set_cons_zero]
    refine wpAnyH_take (i := 23) (v := ?_) rfl (by kernel_rfl) (by kernel_rfl) (by kernel_rfl) (fun _ _ _ h => h) (Or.inl ⟨by rfl, ?_⟩) hS ?_
    rotate_left
    · intro w hSw; obtain ⟨hp, hq, hc, hd⟩ := hSw; have cp := hp.cell; have cq := hq.cell; have cc := hc.cell; have cd := hd.cell; clear hp hq hc hd; go_simp; try with_reducible rfl
    try simp only [Act.put, List.getElem_toArray, List.getElem_cons_succ, List.getElem_cons_zero, List.setIfInBounds_toArray, List.set_cons_succ, List.set_cons_zero]
    refine wpAnyH_take (i := 26) (v := ?_) rfl (by kernel_rfl) (by kernel_rfl) (by kernel_rfl) (fun _ _ _ h => h) (Or.inl ⟨by rfl, ?_⟩) hS ?_
    rotate_left
    · intro w hSw; obtain ⟨hp, hq, hc, hd⟩ := hSw; have cp := hp.cell; have cq := hq.cell; have cc := hc.cell; have cd := hd.cell; clear hp hq hc hd; go_simp; try with_reducible rfl
    try simp only [Act.put, List.getElem_toArray, List.getElem_cons_succ, List.getElem_cons_zero, List.setIfInBounds_toArray, List.set_cons_succ, List.set_cons_zero]
    refine wpAnyH_take (i := 27) (v := ?_) rfl (by kernel_rfl) (by kernel_rfl) (by kernel_rfl) (fun _ _ _ h => h) (Or.inl ⟨by rfl, ?_⟩) hS ?_
    rotate_left
    · intro w hSw; obtain ⟨hp, hq, hc, hd⟩ := hSw; have cp := hp.cell; have cq := hq.cell; have cc := hc.cell; have cd := hd.cell; clear hp hq hc hd; go_simp; try with_reducible rfl
    try simp only [Act.put, List.getElem_toArray, List.getElem_cons_succ, List.getElem_cons_zero, List.setIfInBounds_toArray, List.set_cons_succ, List.set_cons_zero]
    refine wpAnyH_ready (rs := [24]) (by kernel_rfl) (by simp) ?_
    refine AllReadyH.cons rfl (fun K hK => ?_) AllReadyH.nil
    go_simp
    refine Calls.mono (Himul.out v4 rc rd) ?_
    rintro e v5 ⟨vv, rfl, ho, hb⟩
    obtain ⟨x3, y3, rfl, -, r3⟩ := ho.row
    clear ho
    replace rp := rp.grown hb
    replace rq := rq.grown hb
    replace rc := rc.grown hb
    replace rd := rd.grown hb
    replace hB := hB.trans (hb.mono hB.size)
    have hS1 := S4.next hS hb
    clear hb
    refine hK.out _ _ hS1 (fun hS => ?_)
    clear hK K hS1
    try simp only [Act.put, List.getElem_toArray, List.getElem_cons_succ, List.getElem_cons_zero, List.setIfInBounds_toArray, List.set_cons_succ, List.set_cons_zero]
    refine wpAnyH_take (i := 25) (v := ?_) rfl (by kernel_rfl) (by kernel_rfl) (by kernel_rfl) (fun _ _ _ h => h) (Or.inl ⟨by rfl, ?_⟩) hS ?_
    rotate_left
    · intro w hSw; skip; go_simp; rw [run_fieldL]; exact rfl
    try simp only [Act.put, List.getElem_toArray, List.getElem_cons_succ, List.getElem_cons_zero, List.setIfInBounds_toArray, List.set_cons_succ, List.set_cons_zero]
    refine wpAnyH_ready (rs := [28]) (by kernel_rfl) (by simp) ?_
    refine AllReadyH.cons rfl (fun K hK => ?_) AllReadyH.nil
    go_simp
    refine Calls.mono (Hsmul.out v5 rc rd) ?_
    rintro e v6 ⟨vv, rfl, ho, hb⟩
    obtain ⟨x4, y4, rfl, -, r4⟩ := ho.row
    clear ho
    replace rp := rp.grown hb
    replace rq := rq.grown hb
    replace rc := rc.grown hb
    replace rd := rd.grown hb
    replace r3 := r3.grown hb
    replace hB := hB.trans (hb.mono hB.size)
    have hS1 := S4.next hS hb
    clear hb
    refine hK.out _ _ hS1 (fun hS => ?_)
    clear hK K hS1
    try simp only [Act.put, List.getElem_toArray, List.getElem_cons_succ, List.getElem_cons_zero, List.setIfInBounds_toArray, List.set_cons_succ, List.set_cons_zero]
    refine wpAnyH_take (i := 29) (v := ?_) rfl (by kernel_rfl) (by kernel_rfl) (by kernel_rfl) (fun _ _ _ h => h) (Or.inl ⟨by rfl, ?_⟩) hS ?_
    rotate_left
    · intro w hSw; skip; go_simp; rw [run_fieldL]; exact rfl
    try simp only [Act.put, List.getElem_toArray, List.getElem_cons_succ, List.getElem_cons_zero, List.setIfInBounds_toArray, List.set_cons_succ, List.set_cons_zero]
    refine wpAnyH_ready (rs := [30]) (by kernel_rfl) (by simp) ?_
    refine AllReadyH.cons rfl (fun K hK => ?_) AllReadyH.nil
    go_simp
    refine Calls.mono (HASM2.out v6 _ _ _ _ r3 r4) ?_
    rintro e v7 ⟨rfl, hb⟩
    clear r3
    clear r4
    replace rp := rp.grown hb
    replace rq := rq.grown hb
    replace rc := rc.grown hb
    replace rd := rd.grown hb
    replace hB := hB.trans (hb.mono hB.size)
    have hS1 := S4.next hS hb
    clear hb
    refine hK.out _ _ hS1 (fun hS => ?_)
    clear hK K hS1
    try simp only [Act.put, List.getElem_toArray, List.getElem_cons_succ, List.getElem_cons_zero, List.setIfInBounds_toArray, List.set_cons_succ, List.set_cons_zero]
    refine wpAnyH_take (i := 31) (v := ?_) rfl (by kernel_rfl) (by kernel_rfl) (by kernel_rfl) (fun _ _ _ h => h) (Or.inl ⟨by rfl, ?_⟩) hS ?_
    rotate_left
    · intro w hSw; obtain ⟨hp, hq, hc, hd⟩ := hSw; have cp := hp.cell; have cq := hq.cell; have cc := hc.cell; have cd := hd.cell; clear hp hq hc hd; go_simp; try with_reducible rfl
    try simp only [Act.put, List.getElem_toArray, List.getElem_cons_succ, List.getElem_cons_zero, List.setIfInBounds_toArray, List.set_cons_succ, List.set_cons_zero]
    refine wpAnyH_take (i := 32) (v := ?_) rfl (by kernel_rfl) (by kernel_rfl) (by kernel_rfl) (fun _ _ _ h => h) (Or.inl ⟨by rfl, ?_⟩) hS ?_
    rotate_left
    · intro w hSw; obtain ⟨hp, hq, hc, hd⟩ := hSw; have cp := hp.cell; have cq := hq.cell; have cc := hc.cell; have cd := hd.cell; clear hp hq hc hd; go_simp; try with_reducible rfl
    try simp only [Act.put, List.getElem_toArray, List.getElem_cons_succ, List.getElem_cons_zero, List.setIfInBounds_toArray, List.set_cons_succ, List.set_cons_zero]
    refine wpAnyH_take (i := 33) (v := ?_) rfl (by kernel_rfl) (by kernel_rfl) (by kernel_rfl) (fun _ _ _ h => h) (Or.inl ⟨by rfl, ?_⟩) hS ?_
    rotate_left
    · intro w hSw; obtain ⟨hp, hq, hc, hd⟩ := hSw; have cp := hp.cell; have cq := hq.cell; have cc := hc.cell; have cd := hd.cell; clear hp hq hc hd; go_simp; try with_reducible rfl
    try simp only [Act.put, List.getElem_toArray, List.getElem_cons_succ, List.getElem_cons_zero, List.setIfInBounds_toArray, List.set_cons_succ, List.set_cons_zero]
    refine wpAnyH_take (i := 35) (v := ?_) rfl (by kernel_rfl) (by kernel_rfl) (by kernel_rfl) (fun _ _ _ h => h) (Or.inl ⟨by rfl, ?_⟩) hS ?_
    rotate_left
    · intro w hSw; obtain ⟨hp, hq, hc, hd⟩ := hSw; have cp := hp.cell; have cq := hq.cell; have cc := hc.cell; have cd := hd.cell; clear hp hq hc hd; go_simp; try with_reducible rfl
    try simp only [Act.put, List.getElem_toArray, List.getElem_cons_succ, List.getElem_cons_zero, List.setIfInBounds_toArray, List.set_cons_succ, List.set_cons_zero]
    refine wpAnyH_ready (rs := [34]) (by kernel_rfl) (by simp) ?_
    refine AllReadyH.cons rfl (fun K hK => ?_) AllReadyH.nil
    go_simp
    refine Calls.mono (Hiok.out v7 rc) ?_
    rintro e v8 ⟨rfl, hb⟩
    replace rp := rp.grown hb
    replace rq := rq.grown hb
    replace rc := rc.grown hb
    replace rd := rd.grown hb
    replace hB := hB.trans (hb.mono hB.size)
    have hS1 := S4.next hS hb
    clear hb
    refine hK.out _ _ hS1 (fun hS => ?_)
    clear hK K hS1
    try simp only [Act.put, List.getElem_toArray, List.getElem_cons_succ, List.getElem_cons_zero, List.setIfInBounds_toArray, List.set_cons_succ, List.set_cons_zero]
    refine wpAnyH_ready (rs := [36]) (by kernel_rfl) (by simp) ?_
    refine AllReadyH.cons rfl (fun K hK => ?_) AllReadyH.nil
    go_simp
    refine Calls.mono (Hsok.out v8 rc) ?_
    rintro e v9 ⟨rfl, hb⟩
    replace rp := rp.grown hb
    replace rq := rq.grown hb
    replace rc := rc.grown hb
    replace rd := rd.grown hb
    replace hB := hB.trans (hb.mono hB.size)
    have hS1 := S4.next hS hb
    clear hb
    refine hK.out _ _ hS1 (fun hS => ?_)
    clear hK K hS1
    try simp only [Act.put, List.getElem_toArray, List.getElem_cons_succ, List.getElem_cons_zero, List.setIfInBounds_toArray, List.set_cons_succ, List.set_cons_zero]
    refine wpAnyH_take (i := 37) (v := ?_) rfl (by kernel_rfl) (by kernel_rfl) (by kernel_rfl) (fun _ _ _ h => h) (Or.inl ⟨by rfl, ?_⟩) hS ?_
    rotate_left
    · intro w hSw; obtain ⟨hp, hq, hc, hd⟩ := hSw; have cp := hp.cell; have cq := hq.cell; have cc := hc.cell; have cd := hd.cell; clear hp hq hc hd; go_simp; try with_reducible rfl
    try simp only [Act.put, List.getElem_toArray, List.getElem_cons_succ, List.getElem_cons_zero, List.setIfInBounds_toArray, List.set_cons_succ, List.set_cons_zero]
    refine wpAnyH_take (i := 38) (v := ?_) rfl (by kernel_rfl) (by kernel_rfl) (by kernel_rfl) (fun _ _ _ h => h) (Or.inl ⟨by rfl, ?_⟩) hS ?_
    rotate_left
    · intro w hSw; obtain ⟨hp, hq, hc, hd⟩ := hSw; have cp := hp.cell; have cq := hq.cell; have cc := hc.cell; have cd := hd.cell; clear hp hq hc hd; go_simp; try with_reducible rfl
    try simp only [Act.put, List.getElem_toArray, List.getElem_cons_succ, List.getElem_cons_zero, List.setIfInBounds_toArray, List.set_cons_succ, List.set_cons_zero]
    refine wpAnyH_take (i := 39) (v := ?_) rfl (by kernel_rfl) (by kernel_rfl) (by kernel_rfl) (fun _ _ _ h => h) (Or.inl ⟨by rfl, ?_⟩) hS ?_
    rotate_left
    · intro w hSw; obtain ⟨hp, hq, hc, hd⟩ := hSw; have cp := hp.cell; have cq := hq.cell; have cc := hc.cell; have cd := hd.cell; clear hp hq hc hd; go_simp; try with_reducible rfl
    try simp only [Act.put, List.getElem_toArray, List.getElem_cons_succ, List.getElem_cons_zero, List.setIfInBounds_toArray, List.set_cons_succ, List.set_cons_zero]
    refine wpAnyH_take (i := 40) (v := ?_) rfl (by kernel_rfl) (by kernel_rfl) (by kernel_rfl) (fun _ _ _ h => h) (Or.inl ⟨by rfl, ?_⟩) hS ?_
    rotate_left
    · intro w hSw; obtain ⟨hp, hq, hc, hd⟩ := hSw; have cp := hp.cell; have cq := hq.cell; have cc := hc.cell; have cd := hd.cell; clear hp hq hc hd; go_simp; try with_reducible rfl
    try simp only [Act.put, List.getElem_toArray, List.getElem_cons_succ, List.getElem_cons_zero, List.setIfInBounds_toArray, List.set_cons_succ, List.set_cons_zero]
    refine wpAnyH_take (i := 42) (v := ?_) rfl (by kernel_rfl) (by kernel_rfl) (by kernel_rfl) (fun _ _ _ h => h) (Or.inl ⟨by rfl, ?_⟩) hS ?_
    rotate_left
    · intro w hSw; obtain ⟨hp, hq, hc, hd⟩ := hSw; have cp := hp.cell; have cq := hq.cell; have cc := hc.cell; have cd := hd.cell; clear hp hq hc hd; go_simp; try with_reducible rfl
    try simp only [Act.put, List.getElem_toArray, List.getElem_cons_succ, List.getElem_cons_zero, List.setIfInBounds_toArray, List.set_cons_succ, List.set_cons_zero]
    refine wpAnyH_ready (rs := [41]) (by kernel_rfl) (by simp) ?_
    refine AllReadyH.cons rfl (fun K hK => ?_) AllReadyH.nil
    go_simp
    refine Calls.mono (Hitx.out v9 rc) ?_
    rintro e v10 ⟨rfl, hb⟩
    replace rp := rp.grown hb
    replace rq := rq.grown hb
    replace rc := rc.grown hb
    replace rd := rd.grown hb
    replace hB := hB.trans (hb.mono hB.size)
    have hS1 := S4.next hS hb
    clear hb
    refine hK.out _ _ hS1 (fun hS => ?_)
    clear hK K hS1
    try simp only [Act.put, List.getElem_toArray, List.getElem_cons_succ, List.getElem_cons_zero, List.setIfInBounds_toArray, List.set_cons_succ, List.set_cons_zero]
    refine wpAnyH_ready (rs := [43]) (by kernel_rfl) (by simp) ?_
    refine AllReadyH.cons rfl (fun K hK => ?_) AllReadyH.nil
    go_simp
    refine Calls.mono (Hstx.out v10 rc) ?_
    rintro e v11 ⟨rfl, hb⟩
    replace rp := rp.grown hb
    replace rq := rq.grown hb
    replace rc := rc.grown hb
    replace rd := rd.grown hb
    replace hB := hB.trans (hb.mono hB.size)
    have hS1 := S4.next hS hb
    clear hb
    refine hK.out _ _ hS1 (fun hS => ?_)
    clear hK K hS1
    try simp only [Act.put, List.getElem_toArray, List.getElem_cons_succ, List.getElem_cons_zero, List.setIfInBounds_toArray, List.set_cons_succ, List.set_cons_zero]
    refine wpAnyH_take (i := 44) (v := ?_) rfl (by kernel_rfl) (by kernel_rfl) (by kernel_rfl) (fun _ _ _ h => h) (Or.inl ⟨by rfl, ?_⟩) hS ?_
    rotate_left
    · intro w hSw; obtain ⟨hp, hq, hc, hd⟩ := hSw; have cp := hp.cell; have cq := hq.cell; have cc := hc.cell; have cd := hd.cell; clear hp hq hc hd; go_simp; try with_reducible rfl
    try simp only [Act.put, List.getElem_toArray, List.getElem_cons_succ, List.getElem_cons_zero, List.setIfInBounds_toArray, List.set_cons_succ, List.set_cons_zero]
    refine wpAnyH_take (i := 45) (v := ?_) rfl (by kernel_rfl) (by kernel_rfl) (by kernel_rfl) (fun _ _ _ h => h) (Or.inl ⟨by rfl, ?_⟩) hS ?_
    rotate_left
    · intro w hSw; obtain ⟨hp, hq, hc, hd⟩ := hSw; have cp := hp.cell; have cq := hq.cell; have cc := hc.cell; have cd := hd.cell; clear hp hq hc hd; go_simp; try with_reducible rfl
    try simp only [Act.put, List.getElem_toArray, List.getElem_cons_succ, List.getElem_cons_zero, List.setIfInBounds_toArray, List.set_cons_succ, List.set_cons_zero]
    refine wpAnyH_take (i := 46) (v := ?_) rfl (by kernel_rfl) (by kernel_rfl) (by kernel_rfl) (fun _ _ _ h => h) (Or.inl ⟨by rfl, ?_⟩) hS ?_
    rotate_left
    · intro w hSw; obtain ⟨hp, hq, hc, hd⟩ := hSw; have cp := hp.cell; have cq := hq.cell; have cc := hc.cell; have cd := hd.cell; clear hp hq hc hd; go_simp; try with_reducible rfl
    try simp only [Act.put, List.getElem_toArray, List.getElem_cons_succ, List.getElem_cons_zero, List.setIfInBounds_toArray, List.set_cons_succ, List.set_cons_zero]
    refine wpAnyH_take (i := 47) (v := ?_) rfl (by kernel_rfl) (by kernel_rfl) (by kernel_rfl) (fun _ _ _ h => h) (Or.inl ⟨by rfl, ?_⟩) hS ?_
    rotate_left
    · intro w hSw; obtain ⟨hp, hq, hc, hd⟩ := hSw; have cp := hp.cell; have cq := hq.cell; have cc := hc.cell; have cd := hd.cell; clear hp hq hc hd; go_simp; try with_reducible rfl
    try simp only [Act.put, List.getElem_toArray, List.getElem_cons_succ, List.getElem_cons_zero, List.setIfInBounds_toArray, List.set_cons_succ, List.set_cons_zero]
    refine wpAnyH_take (i := 48) (v := ?_) rfl (by kernel_rfl) (by kernel_rfl) (by kernel_rfl) (fun _ _ _ h => h) (Or.inl ⟨by rfl, ?_⟩) hS ?_
    rotate_left
    · intro w hSw; obtain ⟨hp, hq, hc, hd⟩ := hSw; have cp := hp.cell; have cq := hq.cell; have cc := hc.cell; have cd := hd.cell; clear hp hq hc hd; go_simp; try with_reducible rfl
    try simp only [Act.put, List.getElem_toArray, List.getElem_cons_succ, List.getElem_cons_zero, List.setIfInBounds_toArray, List.set_cons_succ, List.set_cons_zero]
    refine wpAnyH_take (i := 49) (v := ?_) rfl (by kernel_rfl) (by kernel_rfl) (by kernel_rfl) (fun _ _ _ h => h) (Or.inl ⟨by rfl, ?_⟩) hS ?_
    rotate_left
    · intro w hSw; obtain ⟨hp, hq, hc, hd⟩ := hSw; have cp := hp.cell; have cq := hq.cell; have cc := hc.cell; have cd := hd.cell; clear hp hq hc hd; go_simp; try with_reducible rfl
    try simp only [Act.put, List.getElem_toArray, List.getElem_cons_succ, List.getElem_cons_zero, List.setIfInBounds_toArray, List.set_cons_succ, List.set_cons_zero]
    refine wpAnyH_take (i := 50) (v := ?_) rfl (by kernel_rfl) (by kernel_rfl) (by kernel_rfl) (fun _ _ _ h => h) (Or.inl ⟨by rfl, ?_⟩) hS ?_
    rotate_left
    · intro w hSw; obtain ⟨hp, hq, hc, hd⟩ := hSw; have cp := hp.cell; have cq := hq.cell; have cc := hc.cell; have cd := hd.cell; clear hp hq hc hd; go_simp; try with_reducible rfl
    try simp only [Act.put, List.getElem_toArray, List.getElem_cons_succ, List.getElem_cons_zero, List.setIfInBounds_toArray, List.set_cons_succ, List.set_cons_zero]
    refine wpAnyH_take (i := 51) (v := ?_) rfl (by kernel_rfl) (by kernel_rfl) (by kernel_rfl) (fun _ _ _ h => h) (Or.inl ⟨by rfl, ?_⟩) hS ?_
    rotate_left
    · intro w hSw; obtain ⟨hp, hq, hc, hd⟩ := hSw; have cp := hp.cell; have cq := hq.cell; have cc := hc.cell; have cd := hd.cell; clear hp hq hc hd; go_simp; try with_reducible rfl
    try simp only [Act.put, List.getElem_toArray, List.getElem_cons_succ, List.getElem_cons_zero, List.setIfInBounds_toArray, List.set_cons_succ, List.set_cons_zero]
    refine wpAnyH_take (i := 52) (v := ?_) rfl (by kernel_rfl) (by kernel_rfl) (by kernel_rfl) (fun _ _ _ h => h) (Or.inl ⟨by rfl, ?_⟩) hS ?_
    rotate_left
    · intro w hSw; obtain ⟨hp, hq, hc, hd⟩ := hSw; have cp := hp.cell; have cq := hq.cell; have cc := hc.cell; have cd := hd.cell; clear hp hq hc hd; go_simp; try with_reducible rfl
    try simp only [Act.put, List.getElem_toArray, List.getElem_cons_succ, List.getElem_cons_zero, List.setIfInBounds_toArray, List.set_cons_succ, List.set_cons_zero]
    refine wpAnyH_take (i := 53) (v := ?_) rfl (by kernel_rfl) (by kernel_rfl) (by kernel_rfl) (fun _ _ _ h => h) (Or.inl ⟨by rfl, ?_⟩) hS ?_
    rotate_left
    · intro w hSw; obtain ⟨hp, hq, hc, hd⟩ := hSw; have cp := hp.cell; have cq := hq.cell; have cc := hc.cell; have cd := hd.cell; clear hp hq hc hd; go_simp; try with_reducible rfl
    try simp only [Act.put, List.getElem_toArray, List.getElem_cons_succ, List.getElem_cons_zero, List.setIfInBounds_toArray, List.set_cons_succ, List.set_cons_zero]
    refine wpAnyH_take (i := 54) (v := ?_) rfl (by kernel_rfl) (by kernel_rfl) (by kernel_rfl) (fun _ _ _ h => h) (Or.inl ⟨by rfl, ?_⟩) hS ?_
    rotate_left
    · intro w hSw; obtain ⟨hp, hq, hc, hd⟩ := hSw; have cp := hp.cell; have cq := hq.cell; have cc := hc.cell; have cd := hd.cell; clear hp hq hc hd; go_simp; try with_reducible rfl
    try simp only [Act.put, List.getElem_toArray, List.getElem_cons_succ, List.getElem_cons_zero, List.setIfInBounds_toArray, List.set_cons_succ, List.set_cons_zero]
    refine wpAnyH_take (i := 55) (v := ?_) rfl (by kernel_rfl) (by kernel_rfl) (by kernel_rfl) (fun _ _ _ h => h) (Or.inl ⟨by rfl, ?_⟩) hS ?_
    rotate_left
    · intro w hSw; obtain ⟨hp, hq, hc, hd⟩ := hSw; have cp := hp.cell; have cq := hq.cell; have cc := hc.cell; have cd := hd.cell; clear hp hq hc hd; go_simp; try with_reducible rfl
    try simp only [Act.put, List.getElem_toArray, List.getElem_cons_succ, List.getElem_cons_zero, List.setIfInBounds_toArray, List.set_cons_succ, List.set_cons_zero]
    refine wpAnyH_take (i := 56) (v := ?_) rfl (by kernel_rfl) (by kernel_rfl) (by kernel_rfl) (fun _ _ _ h => h) (Or.inl ⟨by rfl, ?_⟩) hS ?_
    rotate_left
    · intro w hSw; obtain ⟨hp, hq, hc, hd⟩ := hSw; have cp := hp.cell; have cq := hq.cell; have cc := hc.cell; have cd := hd.cell; clear hp hq hc hd; go_simp; try with_reducible rfl
    try simp only [Act.put, List.getElem_toArray, List.getElem_cons_succ, List.getElem_cons_zero, List.setIfInBounds_toArray, List.set_cons_succ, List.set_cons_zero]
    clear hS
    refine wpAnyH_done (by kernel_rfl) ?_ _
    go_wp2
    go_ret
    exact ⟨by first | rfl | (simp; done), hB⟩
  · have hd : decide ((1048576 : Int) < (len0 : Int)) = true := by simp; omega
    clear hcode
    go_enter Try.func4, Try.ntmps4
    go_wp2_with fail
    refine (big_any a0 len0 cap0 _).mono ?_
    rintro e w1 ⟨rfl, rfl⟩
    go_wp2
    go_ret
    exact ⟨rfl, Below.refl _ _⟩

theorem laidOut : laidOutB Try.prog = true := by kernel_rfl
set_option maxRecDepth 100000 in
theorem lifted (os : Os) (started : os.Started) (H : Type) (enc : TypeId × Value → H) :
    ReturnsInHanded {} Try.checked os 4 .any (Rows.fnTagsToldSpec.pre6 enc Try.prog Try.f4 Rows.fnTagsToldRow.domain false) (Rows.fnTagsToldSpec.post enc Try.prog Try.f4 false true false false) := by
  refine returnsInHanded_of_change (C := Try.checked) own started (by kernel_rfl) Try.func4
    (ChangeSpec.witness6 (enc := enc) (C := Try.checked) false ⟨#[], #[.slice none 0 0], []⟩ 8 (by kernel_rfl) (by kernel_rfl) (by kernel_rfl) (by kernel_rfl)) ?_
  intro W base args ds gs before hval0 hW hcnd _
  have hval : ∀ (j : Nat) t v, Try.f4.params[j]? = some t → args[j]? = some v → Value.okWide Try.prog W .any base t v := hval0
  have hW' := hW
  obtain ⟨p, q, hA0, hV, rfl, hfz, hnd⟩ := hW
  have hA : DataW.TrodAll enc Try.prog W 0 (fun _ => true) true Try.f4.params.toList args.toList ds p := hA0
  rw [Try.params4] at hA hval
  obtain ⟨v0, vs0, d0, ds0, p0, q0, hargs, rfl, rfl, h0, r0⟩ := trodAll_cons hA
  obtain ⟨rfl, rfl, rfl⟩ := trodAll_nil r0
  obtain rfl : args = #[v0] := by cases args; simp_all
  obtain ⟨rfl, rfl⟩ := trodVars_none hV
  obtain ⟨a0, len0, cap0, rfl⟩ := okWide_slice Try.underlying22 (hval 0 22 v0 rfl rfl)
  have k0 := h0
  have lt0 : ∀ x ∈ p0, x.block < W.heap.size := by obtain ⟨m, hm⟩ := k0; exact DataW.trod_lt m _ _ _ hm
  clear hA0 hval0
  refine (walk a0 len0 cap0  W (code_of h0)).mono fun e W' ⟨he, bel⟩ => ?_
  subst he
  exact ⟨_, rfl, _, _, _, [], _, [], hW', trodAll_mk1 (shut_bool Try.underlying4 _), (trodAll_cons_mk (Below.trod laidOut (by kernel_rfl) (of_decide_eq_true (by kernel_rfl)) k0 bel lt0) trodAll_mk0), rfl, bel.frame _, fun h => by cases h⟩

theorem over : Rows.fnTagsToldRow.holds Try.pinned (OpenSpec.ofChange Rows.fnTagsToldSpec) :=
  OpenClaim.holds_of_wide 4 Try.f4 rfl rfl rfl rfl rfl rfl rfl ⟨rfl, rfl, rfl, rfl, rfl⟩ rfl rfl rfl rfl rfl (by kernel_rfl) Try.func4 (by kernel_rfl)
    (of_decide_eq_true (by kernel_rfl)) (by unfold Func.isWrapper; first | (rw [if_pos (by decide +kernel)]; kernel_rfl) | (rw [if_neg (by decide +kernel)]; exact ⟨rfl, rfl⟩))
    (fun os started H enc _ => lifted os started H enc)
end fnTagsTold

theorem fnTagsTold_holds : Rows.FnTagsToldSaid := fnTagsTold.over
#print axioms fnTagsTold_holds
end Go.Proofs.Ytopdjfgomclffaa
