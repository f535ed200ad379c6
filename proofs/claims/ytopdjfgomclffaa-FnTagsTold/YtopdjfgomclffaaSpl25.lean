/- The specification's Poly1305 (chapter 25). -/
import Derived.Test.YtopdjfgomclffaaPol25
import Derived.Test.YtopdjfgomclffaaLof25
import Derived.Test.YtopdjfgomclffaaSmu25
import Derived.Test.YtopdjfgomclffaaSad25
import Derived.Test.YtopdjfgomclffaaStx25
import Derived.Laws.OwnMore
import Derived.Laws.MakeOwn
import Derived.OrdersHeld
import Derived.Deep.RegionHeld
import Derived.Deep.RegionHeld3
import Derived.Deep.MidRow
import Derived.Laws.Cover3
import Derived.WalkKit
import Derived.WalkLawsBesides
import Derived.WalkSpells
import Derived.BigRegion
import Derived.Laws.Small
import Derived.Below
import Derived.OwnWalk
import Derived.PlainAid
import Derived.Great.Walk
namespace Go.Proofs.Ytopdjfgomclffaa
open Go.RowKit Go.PlainAid
set_option maxRecDepth 20000
set_option linter.unusedVariables false
set_option linter.unusedSimpArgs false
theorem okP_canon (v : Int) : okP (canonP v) = true := by
  have hk := canonP_ok v
  have h := okP_red (lok_len hk) (fun x hx => by have := lok_le (by decide) hk x hx; omega)
  rw [← h]
  refine decide_eq_true ?_
  rw [canonP_val]
  exact canonP_mod (Int.emod_emod_of_dvd v (Int.dvd_refl _)).symm
theorem pH_okP (key t : ByteArray) : ∀ k, okP (pH key t k) = true
  | 0 => (by decide : okP z5 = true)
  | k + 1 => okP_canon _
/-- The row stands in no block below. -/
def FreshA (B : Nat) (x : Option Addr) : Prop := ∀ b off, x = some ⟨b, off, none⟩ → B ≤ b
theorem own_fresh {B : Nat} {w : World} {x : Option Addr} {n y : Nat} {l : List Int} (h : OwnInt B w (.slice x n y) l) : FreshA B x := fun b off e => by
  subst e
  exact (World.ownsRow.lt h b rfl).1
theorem row_set {w : World} {x : Option Addr} {l : List Int} {g : Nat} (h : RowI w.heap.size w x l) (hne : ∀ b off, x = some ⟨b, off, none⟩ → b ≠ g) (v : Value) : RowI (w.setCell ⟨g, 0, none⟩ v).heap.size (w.setCell ⟨g, 0, none⟩ v) x l := by
  rcases h with h | ⟨b, off, rfl, hb, hc⟩
  · exact .inl h
  · refine .inr ⟨b, off, rfl, by simpa using hb, fun j hj => ?_⟩
    rw [World.cell?_setCell_other (h := by intro e; have h1 := congrArg Addr.block e; simp at h1; exact hne b off rfl (by omega))]
    exact hc j hj
theorem slimbs5 (t : ByteArray) (w : World) (ht : t.size ≤ 17) : Calls Try.prog 15 #[.string t] w fun e w' => ∃ x y, e = .returned (.tuple #[.agg #[.slice x 5 y], .bool true]) ∧ RowI w'.heap.size w' x (canonP ((nvT t : Nat) : Int)) ∧ FreshA w.heap.size x ∧ Below w.heap.size w w' := by
  have h := specLimbsOf_any t w (by omega)
  rw [show ofOkP t = true from decide_eq_true ht, show ofLP t = canonP ((nvT t : Nat) : Int) from if_pos ht] at h
  refine Calls.mono h ?_
  rintro e w1 ⟨v, rfl, ho, hb⟩
  obtain ⟨x, y, rfl, -, hr⟩ := ho.row
  have hf := own_fresh ho
  rw [canonP_len]
  exact ⟨x, y, rfl, hr, hf, hb⟩
theorem sadd5 (a0 a1 : Option Addr) (c0 c1 : Nat) (n0 n1 : List Int) (w : World) (k0 : okP n0 = true) (k1 : okP n1 = true) (hr0 : RowI w.heap.size w a0 n0) (hr1 : RowI w.heap.size w a1 n1) :
    Calls Try.prog 19 #[.agg #[.slice a0 5 c0], .agg #[.slice a1 5 c1]] w fun e w' => ∃ x y, e = .returned (.agg #[.slice x 5 y]) ∧ RowI w'.heap.size w' x (canonP (lval pb n0 + lval pb n1)) ∧ FreshA w.heap.size x ∧ Below w.heap.size w w' := by
  have h5 := okP_len k0
  have g5 := okP_len k1
  have h := specAddLimbs_any a0 a1 c0 c1 n0 n1 w hr0 hr1 (by omega) (by omega)
  rw [h5, g5, show twoP n0 n1 (lval pb n0 + lval pb n1) = canonP (lval pb n0 + lval pb n1) by unfold twoP; rw [k0, k1]; rfl] at h
  refine Calls.mono h ?_
  rintro e w1 ⟨v, rfl, ho, hb⟩
  obtain ⟨x, y, rfl, -, hr⟩ := ho.row
  have hf := own_fresh ho
  rw [canonP_len]
  exact ⟨x, y, rfl, hr, hf, hb⟩
theorem smul5 (a0 a1 : Option Addr) (c0 c1 : Nat) (n0 n1 : List Int) (w : World) (k0 : okP n0 = true) (k1 : okP n1 = true) (hr0 : RowI w.heap.size w a0 n0) (hr1 : RowI w.heap.size w a1 n1) :
    Calls Try.prog 20 #[.agg #[.slice a0 5 c0], .agg #[.slice a1 5 c1]] w fun e w' => ∃ x y, e = .returned (.agg #[.slice x 5 y]) ∧ RowI w'.heap.size w' x (canonP (lval pb n0 * lval pb n1)) ∧ FreshA w.heap.size x ∧ Below w.heap.size w w' := by
  have h5 := okP_len k0
  have g5 := okP_len k1
  have h := specMulLimbs_any a0 a1 c0 c1 n0 n1 w hr0 hr1 (by omega) (by omega)
  rw [h5, g5, show twoP n0 n1 (lval pb n0 * lval pb n1) = canonP (lval pb n0 * lval pb n1) by unfold twoP; rw [k0, k1]; rfl] at h
  refine Calls.mono h ?_
  rintro e w1 ⟨v, rfl, ho, hb⟩
  obtain ⟨x, y, rfl, -, hr⟩ := ho.row
  have hf := own_fresh ho
  rw [canonP_len]
  exact ⟨x, y, rfl, hr, hf, hb⟩
theorem stext5 (a0 : Option Addr) (c0 : Nat) (n0 : List Int) (w : World) (k0 : okP n0 = true) (hr0 : RowI w.heap.size w a0 n0) :
    Calls Try.prog 23 #[.agg #[.slice a0 5 c0]] w fun e w' => e = .returned (.string (byT (lval pb n0).toNat)) ∧ Below w.heap.size w w' := by
  have h5 := okP_len k0
  have h := specLimbsText_any a0 c0 n0 w hr0 (by omega)
  rw [h5, txt_yes k0] at h
  exact h
set_option maxHeartbeats 3200000 in
theorem specPoly_any (key t : ByteArray) (w : World) (ht : t.size ≤ 1000000000) :
    Calls Try.prog 18 #[.string key, .string t] w fun e w' => e = .returned (.tuple #[.string (polyT key t), .bool (decide (key.size = 32))]) ∧ Below w.heap.size w w' := by
  by_cases hk : key.size = 32
  · have hks : ((key.size : Nat) : Int) = 32 := by omega
    have HE : Hid (polyT key t = adT (byT (lval pb (pH key t (nbP t))).toNat) (key.extract 16 32) ∧ decide (key.size = 32) = true) := ⟨if_pos hk, decide_eq_true hk⟩
    have hx2 : (key.extract 16 32).size = 16 := by rw [ByteArray.size_extract]; omega
    have HCL : Hid (∀ wz : World, Calls Try.prog 40 #[.string key] wz fun e w' => e = .returned (.string (clampT key)) ∧ Below wz.heap.size wz w') := fun wz => specClamp_any key wz hk
    have HRO : Hid (∀ wz : World, _) := fun wz => slimbs5 (clampT key) wz (by rw [clampT_size]; omega)
    have HNX : Hid (∀ k, pH key t (k + 1) = canonP (lval pb (canonP (lval pb (pH key t k) + lval pb (canonP ((nvT (blkP t k) : Nat) : Int)))) * lval pb (canonP ((nvT (clampT key) : Nat) : Int)))) := fun k => rfl
    have HPL : Hid (∀ k, okP (pH key t k) = true) := pH_okP key t
    have HP0 : Hid (pH key t 0 = z5) := rfl
    have hrok : okP (canonP ((nvT (clampT key) : Nat) : Int)) = true := okP_canon _
    generalize canonP ((nvT (clampT key) : Nat) : Int) = RL at HRO HNX hrok
    have HRK : Hid (okP RL = true) := hrok
    clear hrok
    obtain ⟨i0, hi, hz0, hz1, hz2⟩ := info_parts infoIntS
    go_enter Try.func18, Try.ntmps18
    go_wp2_with fail
    refine Calls.mono (HCL.out _) ?_
    rintro e w1 ⟨rfl, hb⟩
    have hB1 : Below w.heap.size w w1 := hb
    clear hb
    go_wp2_with fail
    refine Calls.mono (HRO.out _) ?_
    rintro e w2 ⟨xr, yr, rfl, hrr, hfr, hb⟩
    have hB2 := hB1.trans (hb.mono hB1.size)
    have hs12 := hb.size
    clear hb hB1
    go_upto_region 4 with fail
    have hC6 : (w2.alloc (.cells #[.slice xr 5 yr] 26)).heap[w2.heap.size]? = some (.cells #[.slice xr 5 yr] 26 (0, 0)) := heap_alloc_new w2 _
    have hbA : Below w2.heap.size w2 (w2.alloc (.cells #[.slice xr 5 yr] 26)) := (Below.refl _ _).alloc (Nat.le_refl _) _
    have hRA := hrr.grown hbA
    have hBA := hB2.trans (hbA.mono hB2.size)
    have hsA := hbA.size
    have hxr : ∀ b off, xr = some ⟨b, off, none⟩ → b < w2.heap.size := fun b off e => by
      rcases hrr with h | ⟨b', o', e', hb', -⟩
      · have := okP_len HRK.out; rw [h] at this; cases this
      · rw [e'] at e; cases e; exact hb'
    generalize w2.alloc (.cells #[.slice xr 5 yr] 26) = wA at hC6 hbA hRA hBA hsA ⊢
    have hA6 : w2.heap.size < wA.heap.size := (Array.getElem?_eq_some_iff.1 hC6).1
    clear hbA hB2 hrr hfr hs12
    go_upto_region 5 with (at_make; refine wpList_make_full _ rfl _ _ 24 rfl wA.heap.size 3 i0 (.int .i64 0) 1 Try.underlying24 hi hz0 hz1 .i64 .i64 _ _ 5 rfl rfl rfl rfl (by rw [hz2]; omega) (by unfold maxLen; omega) (Nat.le_refl _) ?_; intro w3 hown3 hgrow3; have hB3 : Below wA.heap.size wA w3 := (Below.refl _ _).grown hgrow3 (Nat.le_refl _) (by simp); rw [made_ints] at hown3; have hO3 : RowS wA.heap.size w3 wA.heap.size 5 5 (List.replicate 5 0) := hown3; clear hown3 hgrow3)
    have hC6' := (hB3.block w2.heap.size hA6).trans hC6
    have hR3 := hRA.grown hB3
    have hBw := hBA.trans (hB3.mono hBA.size)
    have hlt3 := hO3.lt
    have h8 := heap_alloc_new w3 (.cells #[.slice (some ⟨wA.heap.size, 0, none⟩) 5 5] 26)
    have hb4 : Below w3.heap.size w3 (w3.alloc (.cells #[.slice (some ⟨wA.heap.size, 0, none⟩) 5 5] 26)) := (Below.refl _ _).alloc (Nat.le_refl _) _
    have H8 : Hid ((w3.alloc (.cells #[.slice (some ⟨wA.heap.size, 0, none⟩) 5 5] 26)).heap[w3.heap.size]? = some (.cells #[.slice (some ⟨wA.heap.size, 0, none⟩) 5 5] 26 (0, 0))) := h8
    have H6 : Hid ((w3.alloc (.cells #[.slice (some ⟨wA.heap.size, 0, none⟩) 5 5] 26)).heap[w2.heap.size]? = some (.cells #[.slice xr 5 yr] 26 (0, 0))) := (hb4.block w2.heap.size (by omega)).trans hC6'
    have HR : Hid (RowI (w3.alloc (.cells #[.slice (some ⟨wA.heap.size, 0, none⟩) 5 5] 26)).heap.size (w3.alloc (.cells #[.slice (some ⟨wA.heap.size, 0, none⟩) 5 5] 26)) xr RL) := hR3.grown hb4
    have HS : Hid (RowI (w3.alloc (.cells #[.slice (some ⟨wA.heap.size, 0, none⟩) 5 5] 26)).heap.size (w3.alloc (.cells #[.slice (some ⟨wA.heap.size, 0, none⟩) 5 5] 26)) (some ⟨wA.heap.size, 0, none⟩) (pH key t 0)) := hO3.row.grown hb4
    have HB : Hid (Below w.heap.size w (w3.alloc (.cells #[.slice (some ⟨wA.heap.size, 0, none⟩) 5 5] 26))) := hBw.trans (hb4.mono hBw.size)
    generalize w3.alloc (.cells #[.slice (some ⟨wA.heap.size, 0, none⟩) 5 5] 26) = w4 at H8 H6 HR HS HB ⊢
    have HXR : Hid (∀ b off, xr = some ⟨b, off, none⟩ → b ≠ w3.heap.size) := fun b off e => by have := hxr b off e; omega
    have hNX : ∀ b off, (some ⟨wA.heap.size, 0, none⟩ : Option Addr) = some ⟨b, off, none⟩ → b ≠ w3.heap.size := fun b off e => by cases e; omega
    have hw38 : w.heap.size ≤ w3.heap.size := hBw.size
    have hg68 : w2.heap.size < w3.heap.size := by omega
    clear hC6 hC6' hR3 hBw h8 hb4 hRA hBA hsA hB3 hO3 hxr hi hz0 hz1 hz2
    generalize w2.heap.size = g6 at H6 hg68 hA6 ⊢
    generalize w3.heap.size = g8 at H8 HXR hNX hw38 hg68 hlt3 ⊢
    generalize wA.heap.size = gA at H8 HS hNX hA6 hlt3 ⊢
    clear hA6 hlt3 HCL HRO
    go_wp2
    go_loopw [9] (fun i wr => ∃ (k j : Nat) (xs : Option Addr) (ys : Nat), k ≤ nbP t ∧ Hid (j = 16 * k) ∧ i = .int .i64 (j : Int) ∧ Hid (Below w.heap.size w wr) ∧ Hid (wr.heap[g8]? = some (.cells #[.slice xs 5 ys] 26 (0, 0))) ∧ Hid (wr.heap[g6]? = some (.cells #[.slice xr 5 yr] 26 (0, 0))) ∧ Hid (RowI wr.heap.size wr xr RL) ∧ Hid (RowI wr.heap.size wr xs (pH key t k)) ∧ Hid (∀ b off, xs = some ⟨b, off, none⟩ → b ≠ g8))
      (fun i _ => t.size + 16 - (intOf i).toNat)
    case atStart => exact ⟨0, 0, _, 5, Nat.zero_le _, rfl, rfl, HB, H8, H6, HR, HS, hNX⟩
    case round =>
      clear HB H8 H6 HR HS hNX
      obtain ⟨k, j, xs, ys, hkn, HJ, rfl, HB, H8, H6, HR, HS, HNE⟩ := hrel
      by_cases hlt : j < t.size
      · have hj0 : (0 : Int) ≤ (j : Int) := by omega
        have hj1 : (j : Int) < (t.size : Int) := by omega
        have hjk := HJ.out
        have w1 : IntKind.i64.wrap ((j : Int) + 16) = ((j + 16 : Nat) : Int) := by rw [IntKind.wrap_i64]; omega
        have hkn2 : k + 1 ≤ nbP t := by unfold nbP; omega
        have hbs : (blkP t k).size ≤ 17 := blkP_size t (by omega)
        have HN1 : Hid _ := HNX.out k
        have hSok := HPL.out k
        have hBok : okP (canonP ((nvT (blkP t k) : Nat) : Int)) = true := okP_canon _
        have hK : Hid (∀ wz : World, _) := fun wz => slimbs5 (blkP t k) wz hbs
        have hcase : (((t.size : Nat) : Int) < ((j + 16 : Nat) : Int) ∧ Hid (t.extract j t.size ++ ⟨#[1]⟩ = blkP t k)) ∨ (¬ ((t.size : Nat) : Int) < ((j + 16 : Nat) : Int) ∧ ((j + 16 : Nat) : Int) ≤ ((t.size : Nat) : Int) ∧ Hid (t.extract j (j + 16) ++ ⟨#[1]⟩ = blkP t k)) := by
          by_cases h : t.size < j + 16
          · exact .inl ⟨by omega, by show _ = _; unfold blkP; rw [hjk, Nat.min_eq_right (by omega)]⟩
          · exact .inr ⟨by omega, by omega, by show _ = _; unfold blkP; rw [hjk, Nat.min_eq_left (by omega)]⟩
        generalize hje : j + 16 = j16 at w1 hcase
        have HJ16 : Hid (j + 16 = j16) := hje
        clear hje
        generalize blkP t k = B at HN1 hBok hK hbs hcase
        generalize canonP ((nvT B : Nat) : Int) = Bl at hK HN1 hBok
        have hAD : Hid (∀ (wz : World) (a1 : Option Addr) (c1 : Nat), RowI wz.heap.size wz xs (pH key t k) → RowI wz.heap.size wz a1 Bl → _) := fun wz a1 c1 h1 h2 => sadd5 xs a1 ys c1 (pH key t k) Bl wz hSok hBok h1 h2
        have hMU : Hid (∀ (wz : World) (a0 : Option Addr) (c0 : Nat), RowI wz.heap.size wz a0 (canonP (lval pb (pH key t k) + lval pb Bl)) → RowI wz.heap.size wz xr RL → _) := fun wz a0 c0 h1 h2 => smul5 a0 xr c0 yr (canonP (lval pb (pH key t k) + lval pb Bl)) RL wz (okP_canon _) HRK.out h1 h2
        generalize canonP (lval pb (pH key t k) + lval pb Bl) = P1 at HN1 hAD hMU
        rw [← HN1.out] at hMU
        generalize hS1 : pH key t (k + 1) = S1 at hMU HN1
        have HN2 : Hid (pH key t (k + 1) = S1) := hS1
        clear hS1 HN1
        generalize pH key t k = S0 at HS hAD hSok
        clear hjk hSok hBok
        have hjj : (j : Int) ≤ ((j16 : Nat) : Int) := by have := HJ16.out; omega
        rcases hcase with ⟨hc, HBL⟩ | ⟨hc, hc2, HBL⟩
        · go_wp2_with fail
          rw [HBL.out]
          refine Calls.mono (hK.out _) ?_
          rintro e w5 ⟨xn, yn, rfl, hrn, hfn, hb⟩
          have h8 := (hb.block g8 (Array.getElem?_eq_some_iff.1 H8.out).1).trans H8.out
          have h6 := (hb.block g6 (Array.getElem?_eq_some_iff.1 H6.out).1).trans H6.out
          have hrR := HR.out.grown hb
          have hrS := HS.out.grown hb
          have hB5 := HB.out.trans (hb.mono HB.out.size)
          have hl85 := (Array.getElem?_eq_some_iff.1 H8.out).1
          have hs5 := hb.size
          clear hb HB H8 H6 HR HS hfn
          go_upto_region 12 with fail
          have hbx : Below w5.heap.size w5 (w5.alloc (.cells #[.slice xn 5 yn] 26)) := (Below.refl _ _).alloc (Nat.le_refl _) _
          have h11 := heap_alloc_new w5 (.cells #[.slice xn 5 yn] 26)
          replace h8 := (hbx.block g8 (Array.getElem?_eq_some_iff.1 h8).1).trans h8
          replace h6 := (hbx.block g6 (Array.getElem?_eq_some_iff.1 h6).1).trans h6
          replace hrR := hrR.grown hbx
          replace hrS := hrS.grown hbx
          replace hrn := hrn.grown hbx
          replace hB5 := hB5.trans (hbx.mono hB5.size)
          generalize w5.alloc (.cells #[.slice xn 5 yn] 26) = u0 at h11 h8 h6 hrR hrS hrn hB5 ⊢
          have hg118 : g8 < w5.heap.size := Nat.lt_of_lt_of_le hl85 hs5
          generalize w5.heap.size = g11 at h11 hg118 ⊢
          clear hbx
          refine _root_.Go.wp_region_held (S := fun w' : World => w'.cell? ⟨g11, 0, none⟩ = some (.slice xn 5 yn) ∧ w'.cell? ⟨g6, 0, none⟩ = some (.slice xr 5 yr)) (by kernel_rfl) ?_
          have hS : (fun w' : World => w'.cell? ⟨g11, 0, none⟩ = some (.slice xn 5 yn) ∧ w'.cell? ⟨g6, 0, none⟩ = some (.slice xr 5 yr)) u0.drew := ⟨by show u0.cell? _ = _; rw [cell_of_row u0 _ 0 _ _ _ h11]; rfl, by show u0.cell? _ = _; rw [cell_of_row u0 _ 0 _ _ _ h6]; rfl⟩
          have h8' : u0.drew.heap[g8]? = some (.cells #[.slice xs 5 ys] 26 (0, 0)) := h8
          have h6' : u0.drew.heap[g6]? = some (.cells #[.slice xr 5 yr] 26 (0, 0)) := h6
          have hrR' : RowI u0.drew.heap.size u0.drew xr RL := hrR
          have hrS' : RowI u0.drew.heap.size u0.drew xs S0 := hrS
          have hrn' : RowI u0.drew.heap.size u0.drew xn Bl := hrn
          have hB' : Below w.heap.size w u0.drew := hB5.drew
          show wpAnyH _ _ _ _ _ _ _ _ u0.drew
          generalize u0.drew = v0 at hS h8' h6' hrR' hrS' hrn' hB' ⊢
          have h11l : g11 < v0.heap.size := World.block_lt_of_cell? v0 _ hS.1
          clear h11 h8 h6 hrR hrS hrn hB5
          refine wpAnyH_take (i := 1) (v := ?_) rfl (by kernel_rfl) (by kernel_rfl) (by kernel_rfl) (fun _ _ _ h => h) (Or.inl ⟨by rfl, ?_⟩) hS ?_
          rotate_left
          · intro w hSw; obtain ⟨h1, h2⟩ := hSw; go_simp; try with_reducible rfl
          try simp only [Act.put, List.getElem_toArray, List.getElem_cons_succ, List.getElem_cons_zero, List.setIfInBounds_toArray, List.set_cons_succ, List.set_cons_zero]
          refine wpAnyH_take (i := 3) (v := ?_) rfl (by kernel_rfl) (by kernel_rfl) (by kernel_rfl) (fun _ _ _ h => h) (Or.inl ⟨by rfl, ?_⟩) hS ?_
          rotate_left
          · intro w hSw; obtain ⟨h1, h2⟩ := hSw; go_simp; try with_reducible rfl
          try simp only [Act.put, List.getElem_toArray, List.getElem_cons_succ, List.getElem_cons_zero, List.setIfInBounds_toArray, List.set_cons_succ, List.set_cons_zero]
          refine wpAnyH_ready (rs := [0]) (by kernel_rfl) (by simp) ?_
          refine AllReadyH.cons rfl (fun K hK => ?_) AllReadyH.nil
          have c8 : v0.cell? ⟨g8, 0, none⟩ = some (.slice xs 5 ys) := by rw [cell_of_row v0 _ 0 _ _ _ h8']; rfl
          go_simp
          refine hK.out _ _ hS (fun hS => ?_)
          clear hK K c8
          try simp only [Act.put, List.getElem_toArray, List.getElem_cons_succ, List.getElem_cons_zero, List.setIfInBounds_toArray, List.set_cons_succ, List.set_cons_zero]
          refine wpAnyH_ready (rs := [2]) (by kernel_rfl) (by simp) ?_
          refine AllReadyH.cons rfl (fun K hK => ?_) AllReadyH.nil
          go_simp
          refine Calls.mono (hAD.out v0 xn yn hrS' hrn') ?_
          rintro e v1 ⟨xp, yp, rfl, hrp, hfp, hb⟩
          clear hrS' hrn' hfp
          have hl8 := (Array.getElem?_eq_some_iff.1 h8').1
          have hl6 := (Array.getElem?_eq_some_iff.1 h6').1
          have hS' := (⟨(hb.cell (p := ⟨g11, 0, none⟩) h11l).trans hS.1, (hb.cell (p := ⟨g6, 0, none⟩) hl6).trans hS.2⟩ : _ ∧ _)
          replace h8' := (hb.block g8 hl8).trans h8'
          replace h6' := (hb.block g6 hl6).trans h6'
          replace hrR' := hrR'.grown hb
          replace hB' := hB'.trans (hb.mono hB'.size)
          replace h11l := Nat.lt_of_lt_of_le h11l hb.size
          clear hl8 hl6
          clear hb
          refine hK.out _ _ hS' (fun hS => ?_)
          clear hK K hS'
          try simp only [Act.put, List.getElem_toArray, List.getElem_cons_succ, List.getElem_cons_zero, List.setIfInBounds_toArray, List.set_cons_succ, List.set_cons_zero]
          refine wpAnyH_ready (rs := [4]) (by kernel_rfl) (by simp) ?_
          refine AllReadyH.cons rfl (fun K hK => ?_) AllReadyH.nil
          go_simp
          refine Calls.mono (hMU.out v1 xp yp hrp hrR') ?_
          rintro e v2 ⟨xq, yq, rfl, hrq, hfq, hb⟩
          have hl8q := (Array.getElem?_eq_some_iff.1 h8').1
          clear hrp
          have hl8 := (Array.getElem?_eq_some_iff.1 h8').1
          have hl6 := (Array.getElem?_eq_some_iff.1 h6').1
          have hS' := (⟨(hb.cell (p := ⟨g11, 0, none⟩) h11l).trans hS.1, (hb.cell (p := ⟨g6, 0, none⟩) hl6).trans hS.2⟩ : _ ∧ _)
          replace h8' := (hb.block g8 hl8).trans h8'
          replace h6' := (hb.block g6 hl6).trans h6'
          replace hrR' := hrR'.grown hb
          replace hB' := hB'.trans (hb.mono hB'.size)
          replace h11l := Nat.lt_of_lt_of_le h11l hb.size
          clear hl8 hl6
          clear hb
          have hneq : ∀ b off, xq = some ⟨b, off, none⟩ → b ≠ g8 := fun b off e => by have := hfq b off e; omega
          clear hfq hl8q
          refine hK.out _ _ hS' (fun hS => ?_)
          clear hK K hS'
          try simp only [Act.put, List.getElem_toArray, List.getElem_cons_succ, List.getElem_cons_zero, List.setIfInBounds_toArray, List.set_cons_succ, List.set_cons_zero]
          refine wpAnyH_ready (rs := [5]) (by kernel_rfl) (by simp) ?_
          refine AllReadyH.cons rfl (fun K hK => ?_) AllReadyH.nil
          have c8 : v2.cell? ⟨g8, 0, none⟩ = some (.slice xs 5 ys) := by rw [cell_of_row v2 _ 0 _ _ _ h8']; rfl
          have z8 : v2.frozen? ⟨g8, 0, none⟩ = false := frozen_of_row v2 _ 0 _ _ h8'
          have H8n : Hid ((v2.setCell ⟨g8, 0, none⟩ (.slice xq 5 yq)).heap[g8]? = some (.cells #[.slice xq 5 yq] 26 (0, 0))) := by show _ = _; rw [heap_setCell_same v2 g8 0 _ _ _ h8']; rfl
          have H6n : Hid ((v2.setCell ⟨g8, 0, none⟩ (.slice xq 5 yq)).heap[g6]? = some (.cells #[.slice xr 5 yr] 26 (0, 0))) := (Below.heap_setCell _ _ _ _ (by show g6 ≠ g8; omega)).trans h6'
          have HRn : Hid (RowI (v2.setCell ⟨g8, 0, none⟩ (.slice xq 5 yq)).heap.size (v2.setCell ⟨g8, 0, none⟩ (.slice xq 5 yq)) xr RL) := row_set hrR' HXR.out _
          have HSn : Hid (RowI (v2.setCell ⟨g8, 0, none⟩ (.slice xq 5 yq)).heap.size (v2.setCell ⟨g8, 0, none⟩ (.slice xq 5 yq)) xq (pH key t (k + 1))) := by rw [HN2.out]; exact row_set hrq hneq _
          have HBn : Hid (Below w.heap.size w (v2.setCell ⟨g8, 0, none⟩ (.slice xq 5 yq))) := hB'.setCell hw38 _
          have hSn : (v2.setCell ⟨g8, 0, none⟩ (.slice xq 5 yq)).cell? ⟨g11, 0, none⟩ = some (.slice xn 5 yn) ∧ (v2.setCell ⟨g8, 0, none⟩ (.slice xq 5 yq)).cell? ⟨g6, 0, none⟩ = some (.slice xr 5 yr) := by
            refine ⟨?_, by rw [cell_of_row _ _ 0 _ _ _ H6n.out]; rfl⟩
            rw [World.cell?_setCell_other (h := by intro e; have h1 := congrArg Addr.block e; simp at h1; omega)]
            exact hS.1
          go_simp
          refine hK.out _ _ hSn (fun hS => ?_)
          clear hK K hS hSn c8 z8 h8' h6' hrR' hrq hB' h11l
          try simp only [Act.put, List.getElem_toArray, List.getElem_cons_succ, List.getElem_cons_zero, List.setIfInBounds_toArray, List.set_cons_succ, List.set_cons_zero]
          refine wpAnyH_done (by kernel_rfl) ?_ _
          generalize (v2.setCell ⟨g8, 0, none⟩ (.slice xq 5 yq)) = v4 at H8n H6n HRn HSn HBn ⊢
          go_wp2
          go_roundw
          case rel => exact ⟨k + 1, j16, xq, yq, hkn2, (by have := HJ.out; have := HJ16.out; show _ = _; omega), by first | rfl | go_num, HBn, H8n, H6n, HRn, HSn, hneq⟩
          case measure => have := HJ.out; have := HJ16.out; simp [intOf]; omega
        · go_wp2_with fail
          rw [HBL.out]
          refine Calls.mono (hK.out _) ?_
          rintro e w5 ⟨xn, yn, rfl, hrn, hfn, hb⟩
          have h8 := (hb.block g8 (Array.getElem?_eq_some_iff.1 H8.out).1).trans H8.out
          have h6 := (hb.block g6 (Array.getElem?_eq_some_iff.1 H6.out).1).trans H6.out
          have hrR := HR.out.grown hb
          have hrS := HS.out.grown hb
          have hB5 := HB.out.trans (hb.mono HB.out.size)
          have hl85 := (Array.getElem?_eq_some_iff.1 H8.out).1
          have hs5 := hb.size
          clear hb HB H8 H6 HR HS hfn
          go_upto_region 12 with fail
          have hbx : Below w5.heap.size w5 (w5.alloc (.cells #[.slice xn 5 yn] 26)) := (Below.refl _ _).alloc (Nat.le_refl _) _
          have h11 := heap_alloc_new w5 (.cells #[.slice xn 5 yn] 26)
          replace h8 := (hbx.block g8 (Array.getElem?_eq_some_iff.1 h8).1).trans h8
          replace h6 := (hbx.block g6 (Array.getElem?_eq_some_iff.1 h6).1).trans h6
          replace hrR := hrR.grown hbx
          replace hrS := hrS.grown hbx
          replace hrn := hrn.grown hbx
          replace hB5 := hB5.trans (hbx.mono hB5.size)
          generalize w5.alloc (.cells #[.slice xn 5 yn] 26) = u0 at h11 h8 h6 hrR hrS hrn hB5 ⊢
          have hg118 : g8 < w5.heap.size := Nat.lt_of_lt_of_le hl85 hs5
          generalize w5.heap.size = g11 at h11 hg118 ⊢
          clear hbx
          refine _root_.Go.wp_region_held (S := fun w' : World => w'.cell? ⟨g11, 0, none⟩ = some (.slice xn 5 yn) ∧ w'.cell? ⟨g6, 0, none⟩ = some (.slice xr 5 yr)) (by kernel_rfl) ?_
          have hS : (fun w' : World => w'.cell? ⟨g11, 0, none⟩ = some (.slice xn 5 yn) ∧ w'.cell? ⟨g6, 0, none⟩ = some (.slice xr 5 yr)) u0.drew := ⟨by show u0.cell? _ = _; rw [cell_of_row u0 _ 0 _ _ _ h11]; rfl, by show u0.cell? _ = _; rw [cell_of_row u0 _ 0 _ _ _ h6]; rfl⟩
          have h8' : u0.drew.heap[g8]? = some (.cells #[.slice xs 5 ys] 26 (0, 0)) := h8
          have h6' : u0.drew.heap[g6]? = some (.cells #[.slice xr 5 yr] 26 (0, 0)) := h6
          have hrR' : RowI u0.drew.heap.size u0.drew xr RL := hrR
          have hrS' : RowI u0.drew.heap.size u0.drew xs S0 := hrS
          have hrn' : RowI u0.drew.heap.size u0.drew xn Bl := hrn
          have hB' : Below w.heap.size w u0.drew := hB5.drew
          show wpAnyH _ _ _ _ _ _ _ _ u0.drew
          generalize u0.drew = v0 at hS h8' h6' hrR' hrS' hrn' hB' ⊢
          have h11l : g11 < v0.heap.size := World.block_lt_of_cell? v0 _ hS.1
          clear h11 h8 h6 hrR hrS hrn hB5
          refine wpAnyH_take (i := 1) (v := ?_) rfl (by kernel_rfl) (by kernel_rfl) (by kernel_rfl) (fun _ _ _ h => h) (Or.inl ⟨by rfl, ?_⟩) hS ?_
          rotate_left
          · intro w hSw; obtain ⟨h1, h2⟩ := hSw; go_simp; try with_reducible rfl
          try simp only [Act.put, List.getElem_toArray, List.getElem_cons_succ, List.getElem_cons_zero, List.setIfInBounds_toArray, List.set_cons_succ, List.set_cons_zero]
          refine wpAnyH_take (i := 3) (v := ?_) rfl (by kernel_rfl) (by kernel_rfl) (by kernel_rfl) (fun _ _ _ h => h) (Or.inl ⟨by rfl, ?_⟩) hS ?_
          rotate_left
          · intro w hSw; obtain ⟨h1, h2⟩ := hSw; go_simp; try with_reducible rfl
          try simp only [Act.put, List.getElem_toArray, List.getElem_cons_succ, List.getElem_cons_zero, List.setIfInBounds_toArray, List.set_cons_succ, List.set_cons_zero]
          refine wpAnyH_ready (rs := [0]) (by kernel_rfl) (by simp) ?_
          refine AllReadyH.cons rfl (fun K hK => ?_) AllReadyH.nil
          have c8 : v0.cell? ⟨g8, 0, none⟩ = some (.slice xs 5 ys) := by rw [cell_of_row v0 _ 0 _ _ _ h8']; rfl
          go_simp
          refine hK.out _ _ hS (fun hS => ?_)
          clear hK K c8
          try simp only [Act.put, List.getElem_toArray, List.getElem_cons_succ, List.getElem_cons_zero, List.setIfInBounds_toArray, List.set_cons_succ, List.set_cons_zero]
          refine wpAnyH_ready (rs := [2]) (by kernel_rfl) (by simp) ?_
          refine AllReadyH.cons rfl (fun K hK => ?_) AllReadyH.nil
          go_simp
          refine Calls.mono (hAD.out v0 xn yn hrS' hrn') ?_
          rintro e v1 ⟨xp, yp, rfl, hrp, hfp, hb⟩
          clear hrS' hrn' hfp
          have hl8 := (Array.getElem?_eq_some_iff.1 h8').1
          have hl6 := (Array.getElem?_eq_some_iff.1 h6').1
          have hS' := (⟨(hb.cell (p := ⟨g11, 0, none⟩) h11l).trans hS.1, (hb.cell (p := ⟨g6, 0, none⟩) hl6).trans hS.2⟩ : _ ∧ _)
          replace h8' := (hb.block g8 hl8).trans h8'
          replace h6' := (hb.block g6 hl6).trans h6'
          replace hrR' := hrR'.grown hb
          replace hB' := hB'.trans (hb.mono hB'.size)
          replace h11l := Nat.lt_of_lt_of_le h11l hb.size
          clear hl8 hl6
          clear hb
          refine hK.out _ _ hS' (fun hS => ?_)
          clear hK K hS'
          try simp only [Act.put, List.getElem_toArray, List.getElem_cons_succ, List.getElem_cons_zero, List.setIfInBounds_toArray, List.set_cons_succ, List.set_cons_zero]
          refine wpAnyH_ready (rs := [4]) (by kernel_rfl) (by simp) ?_
          refine AllReadyH.cons rfl (fun K hK => ?_) AllReadyH.nil
          go_simp
          refine Calls.mono (hMU.out v1 xp yp hrp hrR') ?_
          rintro e v2 ⟨xq, yq, rfl, hrq, hfq, hb⟩
          have hl8q := (Array.getElem?_eq_some_iff.1 h8').1
          clear hrp
          have hl8 := (Array.getElem?_eq_some_iff.1 h8').1
          have hl6 := (Array.getElem?_eq_some_iff.1 h6').1
          have hS' := (⟨(hb.cell (p := ⟨g11, 0, none⟩) h11l).trans hS.1, (hb.cell (p := ⟨g6, 0, none⟩) hl6).trans hS.2⟩ : _ ∧ _)
          replace h8' := (hb.block g8 hl8).trans h8'
          replace h6' := (hb.block g6 hl6).trans h6'
          replace hrR' := hrR'.grown hb
          replace hB' := hB'.trans (hb.mono hB'.size)
          replace h11l := Nat.lt_of_lt_of_le h11l hb.size
          clear hl8 hl6
          clear hb
          have hneq : ∀ b off, xq = some ⟨b, off, none⟩ → b ≠ g8 := fun b off e => by have := hfq b off e; omega
          clear hfq hl8q
          refine hK.out _ _ hS' (fun hS => ?_)
          clear hK K hS'
          try simp only [Act.put, List.getElem_toArray, List.getElem_cons_succ, List.getElem_cons_zero, List.setIfInBounds_toArray, List.set_cons_succ, List.set_cons_zero]
          refine wpAnyH_ready (rs := [5]) (by kernel_rfl) (by simp) ?_
          refine AllReadyH.cons rfl (fun K hK => ?_) AllReadyH.nil
          have c8 : v2.cell? ⟨g8, 0, none⟩ = some (.slice xs 5 ys) := by rw [cell_of_row v2 _ 0 _ _ _ h8']; rfl
          have z8 : v2.frozen? ⟨g8, 0, none⟩ = false := frozen_of_row v2 _ 0 _ _ h8'
          have H8n : Hid ((v2.setCell ⟨g8, 0, none⟩ (.slice xq 5 yq)).heap[g8]? = some (.cells #[.slice xq 5 yq] 26 (0, 0))) := by show _ = _; rw [heap_setCell_same v2 g8 0 _ _ _ h8']; rfl
          have H6n : Hid ((v2.setCell ⟨g8, 0, none⟩ (.slice xq 5 yq)).heap[g6]? = some (.cells #[.slice xr 5 yr] 26 (0, 0))) := (Below.heap_setCell _ _ _ _ (by show g6 ≠ g8; omega)).trans h6'
          have HRn : Hid (RowI (v2.setCell ⟨g8, 0, none⟩ (.slice xq 5 yq)).heap.size (v2.setCell ⟨g8, 0, none⟩ (.slice xq 5 yq)) xr RL) := row_set hrR' HXR.out _
          have HSn : Hid (RowI (v2.setCell ⟨g8, 0, none⟩ (.slice xq 5 yq)).heap.size (v2.setCell ⟨g8, 0, none⟩ (.slice xq 5 yq)) xq (pH key t (k + 1))) := by rw [HN2.out]; exact row_set hrq hneq _
          have HBn : Hid (Below w.heap.size w (v2.setCell ⟨g8, 0, none⟩ (.slice xq 5 yq))) := hB'.setCell hw38 _
          have hSn : (v2.setCell ⟨g8, 0, none⟩ (.slice xq 5 yq)).cell? ⟨g11, 0, none⟩ = some (.slice xn 5 yn) ∧ (v2.setCell ⟨g8, 0, none⟩ (.slice xq 5 yq)).cell? ⟨g6, 0, none⟩ = some (.slice xr 5 yr) := by
            refine ⟨?_, by rw [cell_of_row _ _ 0 _ _ _ H6n.out]; rfl⟩
            rw [World.cell?_setCell_other (h := by intro e; have h1 := congrArg Addr.block e; simp at h1; omega)]
            exact hS.1
          go_simp
          refine hK.out _ _ hSn (fun hS => ?_)
          clear hK K hS hSn c8 z8 h8' h6' hrR' hrq hB' h11l
          try simp only [Act.put, List.getElem_toArray, List.getElem_cons_succ, List.getElem_cons_zero, List.setIfInBounds_toArray, List.set_cons_succ, List.set_cons_zero]
          refine wpAnyH_done (by kernel_rfl) ?_ _
          generalize (v2.setCell ⟨g8, 0, none⟩ (.slice xq 5 yq)) = v4 at H8n H6n HRn HSn HBn ⊢
          go_wp2
          go_roundw
          case rel => exact ⟨k + 1, j16, xq, yq, hkn2, (by have := HJ.out; have := HJ16.out; show _ = _; omega), by first | rfl | go_num, HBn, H8n, H6n, HRn, HSn, hneq⟩
          case measure => have := HJ.out; have := HJ16.out; simp [intOf]; omega
      · have hkk : k = nbP t := by have := HJ.out; unfold nbP at hkn ⊢; omega
        rw [hkk] at HS
        have hSok := HPL.out (nbP t)
        generalize pH key t (nbP t) = S0 at HS HE hSok
        have HT : Hid (∀ wz : World, RowI wz.heap.size wz xs S0 → _) := fun wz h => stext5 xs ys S0 wz hSok h
        have HA : Hid (∀ wz : World, _) := fun wz => specSum_any (byT (lval pb S0).toNat) (key.extract 16 32) wz (byT_size _) hx2
        generalize byT (lval pb S0).toNat = BT at HT HA HE
        have HEX : Hid (polyT key t = adT BT (key.extract 16 32)) := HE.out.1
        generalize adT BT (key.extract 16 32) = ANS at HA HEX HE
        have hk16 : (16 : Int) ≤ ((key.size : Nat) : Int) := by omega
        have hlI : ¬ (j : Int) < (t.size : Int) := by omega
        clear hSok hkk hkn
        go_upto_region 13 with fail
        refine _root_.Go.wp_region_held (S := fun w' : World => w'.cell? ⟨g8, 0, none⟩ = some (.slice xs 5 ys)) (by kernel_rfl) ?_
        have hS : (fun w' : World => w'.cell? ⟨g8, 0, none⟩ = some (.slice xs 5 ys)) wr.drew := by show wr.cell? _ = _; rw [cell_of_row wr _ 0 _ _ _ H8.out]; rfl
        have hl8 : g8 < wr.drew.heap.size := (Array.getElem?_eq_some_iff.1 H8.out).1
        have hrS : RowI wr.drew.heap.size wr.drew xs S0 := HS.out
        have hB0 : Below w.heap.size w wr.drew := HB.out.drew
        clear HS HR HB H8 H6
        show wpAnyH _ _ _ _ _ _ _ _ wr.drew
        generalize wr.drew = v0 at hS hl8 hrS hB0 ⊢
        refine wpAnyH_take (i := 0) (v := ?_) rfl (by kernel_rfl) (by kernel_rfl) (by kernel_rfl) (fun _ _ _ h => h) (Or.inl ⟨by rfl, ?_⟩) hS ?_
        rotate_left
        · intro w hSw; skip; go_simp; try with_reducible rfl
        try simp only [Act.put, List.getElem_toArray, List.getElem_cons_succ, List.getElem_cons_zero, List.setIfInBounds_toArray, List.set_cons_succ, List.set_cons_zero]
        refine wpAnyH_take (i := 2) (v := ?_) rfl (by kernel_rfl) (by kernel_rfl) (by kernel_rfl) (fun _ _ _ h => h) (Or.inl ⟨by rfl, ?_⟩) hS ?_
        rotate_left
        · intro w hSw; skip; go_simp; try with_reducible rfl
        try simp only [Act.put, List.getElem_toArray, List.getElem_cons_succ, List.getElem_cons_zero, List.setIfInBounds_toArray, List.set_cons_succ, List.set_cons_zero]
        refine wpAnyH_take (i := 3) (v := ?_) rfl (by kernel_rfl) (by kernel_rfl) (by kernel_rfl) (fun _ _ _ h => h) (Or.inl ⟨by rfl, ?_⟩) hS ?_
        rotate_left
        · intro w hSw; skip; go_simp; try with_reducible rfl
        try simp only [Act.put, List.getElem_toArray, List.getElem_cons_succ, List.getElem_cons_zero, List.setIfInBounds_toArray, List.set_cons_succ, List.set_cons_zero]
        refine wpAnyH_ready (rs := [1]) (by kernel_rfl) (by simp) ?_
        refine AllReadyH.cons rfl (fun K hK => ?_) AllReadyH.nil
        go_simp
        refine Calls.mono (HT.out v0 hrS) ?_
        rintro e v1 ⟨rfl, hb⟩
        have hS' := (hb.cell (p := ⟨g8, 0, none⟩) hl8).trans hS
        replace hl8 := Nat.lt_of_lt_of_le hl8 hb.size
        replace hB0 := hB0.trans (hb.mono hB0.size)
        clear hb hrS
        refine hK.out _ _ hS' (fun hS => ?_)
        clear hK K hS'
        try simp only [Act.put, List.getElem_toArray, List.getElem_cons_succ, List.getElem_cons_zero, List.setIfInBounds_toArray, List.set_cons_succ, List.set_cons_zero]
        refine wpAnyH_ready (rs := [4]) (by kernel_rfl) (by simp) ?_
        refine AllReadyH.cons rfl (fun K hK => ?_) AllReadyH.nil
        go_simp
        with_reducible (refine Calls.mono (HA.out _) ?_)
        rintro e v2 ⟨rfl, hb⟩
        have hS' := (hb.cell (p := ⟨g8, 0, none⟩) hl8).trans hS
        have HB2 : Hid (Below w.heap.size w v2) := hB0.trans (hb.mono hB0.size)
        clear hb hB0
        refine hK.out _ _ hS' (fun hS => ?_)
        clear hK K hS'
        try simp only [Act.put, List.getElem_toArray, List.getElem_cons_succ, List.getElem_cons_zero, List.setIfInBounds_toArray, List.set_cons_succ, List.set_cons_zero]
        refine wpAnyH_take (i := 5) (v := ?_) rfl (by kernel_rfl) (by kernel_rfl) (by kernel_rfl) (fun _ _ _ h => h) (Or.inl ⟨by rfl, ?_⟩) hS ?_
        rotate_left
        · intro w hSw; skip; go_simp; try with_reducible rfl
        try simp only [Act.put, List.getElem_toArray, List.getElem_cons_succ, List.getElem_cons_zero, List.setIfInBounds_toArray, List.set_cons_succ, List.set_cons_zero]
        refine wpAnyH_take (i := 6) (v := ?_) rfl (by kernel_rfl) (by kernel_rfl) (by kernel_rfl) (fun _ _ _ h => h) (Or.inl ⟨by rfl, ?_⟩) hS ?_
        rotate_left
        · intro w hSw; skip; go_simp; try with_reducible rfl
        try simp only [Act.put, List.getElem_toArray, List.getElem_cons_succ, List.getElem_cons_zero, List.setIfInBounds_toArray, List.set_cons_succ, List.set_cons_zero]
        clear hS
        refine wpAnyH_done (by kernel_rfl) ?_ _
        go_wp2
        go_ret2
        exact ⟨by rw [HEX.out]; (try rw [HE.out.2]); (first | rfl | simp), HB2.out⟩
  · have hks : ¬ ((key.size : Nat) : Int) = 32 := by omega
    have hkb : (((key.size : Nat) : Int) != 32) = true := by simp; omega
    have HE : Hid (polyT key t = ⟨#[]⟩ ∧ decide (key.size = 32) = false) := ⟨if_neg hk, decide_eq_false hk⟩
    go_enter Try.func18, Try.ntmps18
    go_wp2
    go_ret2
    exact ⟨by rw [HE.out.1]; (try rw [HE.out.2]); (first | rfl | simp), Below.refl _ _⟩
end Go.Proofs.Ytopdjfgomclffaa
