/- Numbers of a tag of a text (chapter 25): LimbsOf of the program and of the specification. -/
import Derived.Test.YtopdjfgomclffaaPof25
import Derived.Test.YtopdjfgomclffaaAsl25
import Derived.Test.YtopdjfgomclffaaSwh25
import Derived.Test.YtopdjfgomclffaaMulQ
import Derived.Laws.OwnMore
import Derived.Laws.MakeOwn
import Derived.WalkKit
import Derived.WalkLawsBesides
import Derived.WalkSpells
import Derived.BigRegion
import Derived.Laws.ShiftsVar
import Derived.Below
import Derived.OwnWalk
import Derived.PlainAid
import Derived.Deep.RegionWith
import Derived.Great.Walk
namespace Go.Proofs.Ytopdjfgomclffaa
open Go.RowKit Go.PlainAid
set_option maxRecDepth 20000
set_option linter.unusedVariables false
set_option linter.unusedSimpArgs false
/-- What LimbsOf answers. -/
def ofLP (t : ByteArray) : List Int := if t.size ≤ 17 then canonP ((nvT t : Nat) : Int) else []
def ofOkP (t : ByteArray) : Bool := decide (t.size ≤ 17)
theorem ofLP_len (t : ByteArray) : (ofLP t).length ≤ 2097152 := by
  unfold ofLP
  split
  · rw [canonP_len]; omega
  · exact Nat.zero_le _
set_option maxHeartbeats 1600000 in
theorem implLimbsOf_any (t : ByteArray) (w : World) (hm : t.size ≤ 1048576) :
    Calls Try.prog 9 #[.string t] w fun e w' => ∃ v, e = .returned (.tuple #[.agg #[v], .bool (ofOkP t)]) ∧ OwnInt w.heap.size w' v (ofLP t) ∧ Below w.heap.size w w' := by
  have hA := heap_alloc_new w (.cells #[.slice none 0 0] 26)
  have hB : Below w.heap.size w (w.alloc (.cells #[.slice none 0 0] 26)) := (Below.refl _ _).alloc (Nat.le_refl _) _
  by_cases ht : t.size ≤ 17
  · have hq : ¬ (17 : Int) < (t.size : Int) := by omega
    have HE : Hid (ofLP t = canonP ((nvT t : Nat) : Int) ∧ ofOkP t = true) := ⟨by unfold ofLP; rw [if_pos ht], decide_eq_true ht⟩
    go_enter Try.func9, Try.ntmps9
    go_wp2_with fail
    generalize w.alloc (.cells #[.slice none 0 0] 26) = w0 at hA hB ⊢
    have hs0 : w.heap.size < w0.heap.size := (Array.getElem?_eq_some_iff.1 hA).1
    refine Calls.mono (polyOf_any t w0 ht) ?_
    rintro e w1 ⟨rfl, hb⟩
    have hA1 := (hb.block w.heap.size hs0).trans hA
    have hB1 := hB.trans (hb.mono hB.size)
    have hs1 := Nat.lt_of_lt_of_le hs0 hb.size
    clear hA hB hb
    generalize hV : ((nvT t : Nat) : Int) = V at HE
    have HV : Hid (((nvT t : Nat) : Int) = V) := hV
    try rw [hV]
    clear hV
    go_wp2_with fail
    try rw [HV.out]
    refine Calls.mono (asLimbs_any (canonP V) w1 (canonP_ok V)) ?_
    rintro e w2 ⟨v, rfl, ho, hb⟩
    obtain ⟨x, y, rfl, -, -⟩ := ho.row
    rw [canonP_len] at ho ⊢
    have hA2 := (hb.block w.heap.size hs1).trans hA1
    have r0 : w2.cell? ⟨w.heap.size, 0, none⟩ = some (.slice none 0 0) := by rw [cell_of_row w2 _ 0 _ _ _ hA2]; rfl
    have r1 : w2.frozen? ⟨w.heap.size, 0, none⟩ = false := frozen_of_row w2 _ 0 _ _ hA2
    have HB2 : Hid (Below w.heap.size w (w2.setCell ⟨w.heap.size, 0, none⟩ (.slice x 5 y))) := (hB1.trans (hb.mono hB1.size)).setCell (Nat.le_refl _) _
    have HO2 : Hid (OwnInt w.heap.size (w2.setCell ⟨w.heap.size, 0, none⟩ (.slice x 5 y)) (.slice x 5 y) (canonP V)) := OwnInt.base (ownsRow_setCell_below ho (show w.heap.size < w1.heap.size by omega) _) hB1.size
    have HR2 : Hid ((w2.setCell ⟨w.heap.size, 0, none⟩ (.slice x 5 y)).heap[w.heap.size]? = some (.cells #[.slice x 5 y] 26 (0, 0))) := by
      show _ = _
      rw [heap_setCell_same w2 w.heap.size 0 _ _ _ hA2]; rfl
    clear ho hb hA2 hA1 hB1
    go_wp2
    refine bodyPost_ret (res_ct rfl _ _ w.heap.size 26 #[.slice x 5 y] (0, 0) _ rfl HR2.out Try.underlying26 rfl (sizeLimbs1 _)) rfl ?_
    exact ⟨_, by rw [HE.out.2]; rfl, by rw [HE.out.1]; exact HO2.out, HB2.out⟩
  · have hq : (17 : Int) < (t.size : Int) := by omega
    have HE : Hid (ofLP t = [] ∧ ofOkP t = false) := ⟨by unfold ofLP; rw [if_neg ht], decide_eq_false ht⟩
    go_enter Try.func9, Try.ntmps9
    go_upto_region 1 with fail
    generalize w.alloc (.cells #[.slice none 0 0] 26) = w0 at hA hB ⊢
    have r0 : w0.cell? ⟨w.heap.size, 0, none⟩ = some (.slice none 0 0) := by rw [cell_of_row w0 _ 0 _ _ _ hA]; rfl
    have r1 : w0.frozen? ⟨w.heap.size, 0, none⟩ = false := frozen_of_row w0 _ 0 _ _ hA
    have HB2 : Hid (Below w.heap.size w (w0.setCell ⟨w.heap.size, 0, none⟩ (.slice none 0 0))) := hB.setCell (Nat.le_refl _) _
    have HR2 : Hid ((w0.setCell ⟨w.heap.size, 0, none⟩ (.slice none 0 0)).heap[w.heap.size]? = some (.cells #[.slice none 0 0] 26 (0, 0))) := by
      show _ = _
      rw [heap_setCell_same w0 w.heap.size 0 _ _ _ hA]; rfl
    clear hA hB
    go_wp2
    refine bodyPost_ret (res_ct rfl _ _ w.heap.size 26 #[.slice none 0 0] (0, 0) _ rfl HR2.out Try.underlying26 rfl (sizeLimbs1 _)) rfl ?_
    exact ⟨.slice none 0 0, by rw [HE.out.2]; rfl, by rw [HE.out.1]; exact ⟨rfl, .inl ⟨rfl, rfl⟩⟩, HB2.out⟩
set_option maxHeartbeats 3200000 in
theorem specLimbsOf_any (t : ByteArray) (w : World) (hm : t.size ≤ 1048576) :
    Calls Try.prog 15 #[.string t] w fun e w' => ∃ v, e = .returned (.tuple #[.agg #[v], .bool (ofOkP t)]) ∧ OwnInt w.heap.size w' v (ofLP t) ∧ Below w.heap.size w w' := by
  have hA := heap_alloc_new w (.cells #[.slice none 0 0] 26)
  have hB : Below w.heap.size w (w.alloc (.cells #[.slice none 0 0] 26)) := (Below.refl _ _).alloc (Nat.le_refl _) _
  by_cases ht : t.size ≤ 17
  · have hq : ¬ (17 : Int) < (t.size : Int) := by omega
    have HE : Hid (ofLP t = canonP ((nvT t : Nat) : Int) ∧ ofOkP t = true) := ⟨by unfold ofLP; rw [if_pos ht], decide_eq_true ht⟩
    obtain ⟨i0, hi, hz0, hz1, hz2⟩ := info_parts infoIntS
    go_enter Try.func15, Try.ntmps15
    go_upto_region 1 with fail
    generalize w.alloc (.cells #[.slice none 0 0] 26) = w0 at hA hB ⊢
    have hs0 : w.heap.size < w0.heap.size := (Array.getElem?_eq_some_iff.1 hA).1
    go_wp2_with (at_make; refine wpList_make_full _ rfl _ _ 24 rfl w0.heap.size 3 i0 (.int .i64 0) 1 Try.underlying24 hi hz0 hz1 .i64 .i64 _ _ 5 rfl rfl rfl rfl (by rw [hz2]; omega) (by unfold maxLen; omega) (Nat.le_refl _) ?_; intro w3 hown3 hgrow3)
    have hB3 : Below w0.heap.size w0 w3 := (Below.refl _ _).grown hgrow3 (Nat.le_refl _) (by simp)
    rw [made_ints] at hown3
    have HO : Hid (RowS w0.heap.size w3 w0.heap.size 5 5 (List.replicate 5 0)) := hown3
    have HB : Hid (Below w0.heap.size w0 w3) := hB3
    have HA : Hid (w0.heap[w.heap.size]? = some (.cells #[.slice none 0 0] 26 (0, 0))) := hA
    have HB0 : Hid (Below w.heap.size w w0) := hB
    clear hown3 hgrow3 hB3 hi hz0 hz1 hz2 hA hB hq
    go_loopw [5] (fun i wr => ∃ k : Nat, k ≤ t.size ∧ i = .int .i64 (k : Int) ∧ Hid (Below w0.heap.size w0 wr) ∧ Hid (RowS w0.heap.size wr w0.heap.size 5 5 (sto (btN t) k)))
      (fun i _ => t.size - (intOf i).toNat)
    case atStart => exact ⟨0, Nat.zero_le _, rfl, HB, HO⟩
    case round =>
      clear HB HO
      obtain ⟨k, hk, rfl, HB, HO⟩ := hrel
      by_cases hlt : k < t.size
      · have hi0 : (0 : Int) ≤ (k : Int) := by omega
        have hi1 : (k : Int) < (t.size : Int) := by omega
        have hg := get_bt t
        have hbe := btN_eq t k
        have hbl := btN_lt t k
        have hkb := kb_lt k
        have c1 := HO.out.cell hkb
        have z1 := HO.out.froz (kb k)
        have hsb := sto_bd (btN_lt t) k (by omega) (kb k) hkb
        have hput := put_le (btN_lt t) (show k < 17 by omega)
        have hsh := sh_le (show k < 17 by omega)
        have HN : Hid ((sto (btN t) k).set (kb k) ((sto (btN t) k).getD (kb k) 0 + ((btN t k * 2 ^ (8 * k - 26 * kb k) : Nat) : Int)) = sto (btN t) (k + 1)) := rfl
        have hkl : 26 * kb k ≤ 8 * k := lbit_low _
        have hkd : kb k = if 4 < 8 * k / 26 then 4 else 8 * k / 26 := rfl
        have w1 : IntKind.i64.wrap (8 * (k : Int)) = ((8 * k : Nat) : Int) := by rw [IntKind.wrap_i64]; omega
        have q1 : ((8 * k : Nat) : Int).tdiv 26 = ((8 * k / 26 : Nat) : Int) := by rw [Int.tdiv_eq_ediv_of_nonneg (by omega)]; omega
        have q2 : ((8 * k : Nat) : Int) / 26 = ((8 * k / 26 : Nat) : Int) := by omega
        have w2 : IntKind.i64.wrap ((8 * k / 26 : Nat) : Int) = ((8 * k / 26 : Nat) : Int) := by rw [IntKind.wrap_i64]; omega
        have l0 : (0 : Int) ≤ ((kb k : Nat) : Int) := by omega
        have l1 : ((kb k : Nat) : Int) < 5 := by omega
        have m1 : IntKind.i64.wrap (26 * ((kb k : Nat) : Int)) = 26 * ((kb k : Nat) : Int) := by rw [IntKind.wrap_i64]; omega
        have m2 : IntKind.i64.wrap (((8 * k : Nat) : Int) - 26 * ((kb k : Nat) : Int)) = ((8 * k - 26 * kb k : Nat) : Int) := by rw [IntKind.wrap_i64]; omega
        have m3 : IntKind.u64.wrap ((8 * k - 26 * kb k : Nat) : Int) = ((8 * k - 26 * kb k : Nat) : Int) := by rw [IntKind.wrap_u64]; omega
        have wx : IntKind.i64.wrap ((btN t k : Nat) : Int) = ((btN t k : Nat) : Int) := by rw [IntKind.wrap_i64]; omega
        have h4 : ((4 : Int) < ((8 * k / 26 : Nat) : Int) ∧ kb k = 4) ∨ (¬ (4 : Int) < ((8 * k / 26 : Nat) : Int) ∧ kb k = 8 * k / 26) := by
          by_cases h : 4 < 8 * k / 26
          · exact .inl ⟨by omega, by rw [hkd, if_pos h]⟩
          · exact .inr ⟨by omega, by rw [hkd, if_neg h]⟩
        clear hkd
        generalize 8 * k / 26 = d at q1 q2 w2 h4
        generalize 8 * k - 26 * kb k = s at hput hsh HN m2 m3
        generalize 8 * k = e8 at w1 q1 q2 m2 hkl
        have y3 : min s 64 = s := by omega
        have s2 := shlS_run ((btN t k : Nat) : Int) s (by omega)
        have y2 : IntKind.i64.wrap (((btN t k : Nat) : Int) * 2 ^ s) = ((btN t k * 2 ^ s : Nat) : Int) := by
          have e : ((btN t k : Nat) : Int) * 2 ^ s = ((btN t k * 2 ^ s : Nat) : Int) := by rw [Int.natCast_mul, Int.natCast_pow]; rfl
          rw [e, IntKind.wrap_i64]; omega
        rw [y2] at s2
        generalize btN t k * 2 ^ s = p at hput HN y2 s2
        generalize (sto (btN t) k).getD (kb k) 0 = v at c1 hsb HN
        have wv : IntKind.i64.wrap (v + ((p : Nat) : Int)) = v + ((p : Nat) : Int) := by rw [IntKind.wrap_i64]; omega
        have HO2 : Hid (RowS w0.heap.size (wr.setCell ⟨w0.heap.size, kb k, none⟩ (.int .i64 (v + ((p : Nat) : Int)))) w0.heap.size 5 5 (sto (btN t) (k + 1))) := by rw [← HN.out]; exact HO.out.set (kb k) _
        have HB2 : Hid (Below w0.heap.size w0 (wr.setCell ⟨w0.heap.size, kb k, none⟩ (.int .i64 (v + ((p : Nat) : Int))))) := HB.out.setCell (Nat.le_refl _) _
        generalize btN t k = x at hbe hbl wx s2 y2
        clear hput hsb HN HO HB hsh hkl hkb
        generalize kb k = L at c1 z1 l0 l1 m1 m2 h4 HO2 HB2
        rcases h4 with ⟨h4, hL⟩ | ⟨h4, hL⟩
        · subst hL
          have m2' : IntKind.i64.wrap (((e8 : Nat) : Int) - 104) = ((s : Nat) : Int) := m2
          go_wp2
          go_region
          all_goals
            go_wp2
            go_roundw
            case rel => exact ⟨k + 1, by omega, by go_num, HB2.out.drew, RowS.drew HO2.out⟩
            case measure => simp [intOf]; omega
        · subst hL
          go_wp2
          go_region
          all_goals
            go_wp2
            go_roundw
            case rel => exact ⟨k + 1, by omega, by go_num, HB2.out.drew, RowS.drew HO2.out⟩
            case measure => simp [intOf]; omega
      · obtain rfl : k = t.size := by omega
        have hw := swhole_any w0.heap.size w0.heap.size 5 (sto (btN t) t.size) wr (sto_ok (btN_lt t) ht) HO.out
        rw [sto_val] at hw
        have HV : Hid (nv (btN t) t.size = nvT t) := rfl
        rw [HV.out] at hw
        obtain ⟨V, hV⟩ : ∃ V, ((nvT t : Nat) : Int) = V := ⟨_, rfl⟩
        rw [hV] at hw HE
        have HW : Hid _ := hw
        clear hw hV HV
        go_upto_region 12 with fail
        go_wp2_with fail
        refine Calls.mono HW.out ?_
        rintro e w5 ⟨rfl, hro, hg⟩
        have hA2 : w5.heap[w.heap.size]? = some (.cells #[.slice none 0 0] 26 (0, 0)) := gb_block hg ((HB.out.block w.heap.size (by omega)).trans HA.out) (by omega)
        have hB5 : Below w.heap.size w w5 := (HB0.out.trans (HB.out.mono HB0.out.size)).grown hg (HB0.out.trans (HB.out.mono HB0.out.size)).size (fun k hk => by cases hk; exact HB0.out.size)
        have HBF : Hid (Below w.heap.size w (w5.setCell ⟨w.heap.size, 0, none⟩ (.slice (some ⟨w0.heap.size, 0, none⟩) 5 5))) := hB5.setCell (Nat.le_refl _) _
        have HRF : Hid ((w5.setCell ⟨w.heap.size, 0, none⟩ (.slice (some ⟨w0.heap.size, 0, none⟩) 5 5)).heap[w.heap.size]? = some (.cells #[.slice (some ⟨w0.heap.size, 0, none⟩) 5 5] 26 (0, 0))) := by show _ = _; rw [heap_setCell_same w5 w.heap.size 0 _ _ _ hA2]; rfl
        have HOF : Hid (OwnInt w.heap.size (w5.setCell ⟨w.heap.size, 0, none⟩ (.slice (some ⟨w0.heap.size, 0, none⟩) 5 5)) (.slice (some ⟨w0.heap.size, 0, none⟩) 5 5) (canonP V)) := OwnInt.base (hro.other _ (by omega)).own HB0.out.size
        have r0 : w5.cell? ⟨w.heap.size, 0, none⟩ = some (.slice none 0 0) := by rw [cell_of_row w5 _ 0 _ _ _ hA2]; rfl
        have r1 : w5.frozen? ⟨w.heap.size, 0, none⟩ = false := frozen_of_row w5 _ 0 _ _ hA2
        clear hA2 hB5 hg hro HW HO HB HA HB0
        go_wp2
        refine bodyPost_ret (res_ct rfl _ _ w.heap.size 26 #[.slice (some ⟨w0.heap.size, 0, none⟩) 5 5] (0, 0) _ rfl HRF.out Try.underlying26 rfl (sizeLimbs1 _)) rfl ?_
        exact ⟨_, by rw [HE.out.2]; rfl, by rw [HE.out.1]; exact HOF.out, HBF.out⟩
  · have hq : (17 : Int) < (t.size : Int) := by omega
    have HE : Hid (ofLP t = [] ∧ ofOkP t = false) := ⟨by unfold ofLP; rw [if_neg ht], decide_eq_false ht⟩
    go_enter Try.func15, Try.ntmps15
    go_upto_region 1 with fail
    generalize w.alloc (.cells #[.slice none 0 0] 26) = w0 at hA hB ⊢
    have r0 : w0.cell? ⟨w.heap.size, 0, none⟩ = some (.slice none 0 0) := by rw [cell_of_row w0 _ 0 _ _ _ hA]; rfl
    have r1 : w0.frozen? ⟨w.heap.size, 0, none⟩ = false := frozen_of_row w0 _ 0 _ _ hA
    have HB2 : Hid (Below w.heap.size w (w0.setCell ⟨w.heap.size, 0, none⟩ (.slice none 0 0))) := hB.setCell (Nat.le_refl _) _
    have HR2 : Hid ((w0.setCell ⟨w.heap.size, 0, none⟩ (.slice none 0 0)).heap[w.heap.size]? = some (.cells #[.slice none 0 0] 26 (0, 0))) := by
      show _ = _
      rw [heap_setCell_same w0 w.heap.size 0 _ _ _ hA]; rfl
    clear hA hB
    go_wp2
    refine bodyPost_ret (res_ct rfl _ _ w.heap.size 26 #[.slice none 0 0] (0, 0) _ rfl HR2.out Try.underlying26 rfl (sizeLimbs1 _)) rfl ?_
    exact ⟨.slice none 0 0, by rw [HE.out.2]; rfl, by rw [HE.out.1]; exact ⟨rfl, .inl ⟨rfl, rfl⟩⟩, HB2.out⟩
end Go.Proofs.Ytopdjfgomclffaa
