/- A state behind a block (chapter 21): the specification's ShaBlock. -/
import Derived.Test.YthpkhbcahihbnaaDoorSbl21
import Derived.WalkKit
import Derived.WalkLawsBesides
import Derived.WalkSpells
import Derived.BigRegion
import Derived.OrdersHeld
import Derived.OwnWalk
import Derived.Laws.OwnMore
import Derived.Laws.AppendOwnNone
import Derived.Deep.DeepCutAuto
import Derived.Deep.RegionHeld
import Derived.Deep.RegionHeld3
import Derived.Deep.MidRow
import Derived.Great.Walk
namespace Go.Proofs.YthpkhbcahihbnaaDoor
open Go.RowKit Go.PlainAid
set_option maxRecDepth 20000
set_option linter.unusedVariables false
set_option linter.unusedSimpArgs false
theorem built8 : Tryd.prog.built 40 [] = some (rowV .u32 8 (fun _ => 0)) := by kernel_rfl
/-- A list with its first k numbers set anew. -/
def setsTo (xs : List Int) (f : Nat → Nat) : Nat → List Int
  | 0 => xs
  | k + 1 => (setsTo xs f k).set k ((f k : Nat) : Int)
theorem setsTo_len (xs : List Int) (f : Nat → Nat) : ∀ k, (setsTo xs f k).length = xs.length
  | 0 => rfl
  | k + 1 => by rw [setsTo, List.length_set, setsTo_len xs f k]
theorem setsTo_at (xs : List Int) (f : Nat → Nat) : ∀ k i, i < k → i < xs.length → (setsTo xs f k)[i]? = some ((f i : Nat) : Int)
  | 0, i, h, _ => absurd h (by omega)
  | k + 1, i, h, hl => by
    rw [setsTo, List.getElem?_set]
    by_cases e : k = i
    · subst e; rw [if_pos rfl, if_pos (by rw [setsTo_len]; exact hl)]
    · rw [if_neg e]; exact setsTo_at xs f k i (by omega) hl
theorem setsTo_all {xs : List Int} (f : Nat → Nat) (h : xs.length = 8) : setsTo xs f 8 = bytesV 8 f := by
  apply List.ext_getElem?
  intro i
  by_cases hi : i < 8
  · rw [setsTo_at xs f 8 i hi (by omega)]
    simp [bytesV, List.getElem?_map, List.getElem?_range hi]
  · rw [List.getElem?_eq_none (by rw [setsTo_len]; omega), List.getElem?_eq_none (by rw [bytesV_len]; omega)]
theorem RowS.rowKept {B : Nat} {w : World} {g g' n cap : Nat} {l : List Int} {cs : Array Value} (h : RowS B w g n cap l) (hne : g ≠ g') : RowS B (w.setRow g' cs) g n cap l :=
  World.ownsRow.kept (row := some g') h ⟨rfl, rfl, rfl, by simp [World.setRow], fun k _ hk => setRow_other _ _ _ _ (by simpa using hk)⟩ (.inr (by simpa [Value.ownBlock] using hne))
set_option maxHeartbeats 3200000 in
theorem specSbl_any (a : Option Addr) (cap : Nat) (xs : List Int) (t : ByteArray) (w : World) (hl : xs.length ≤ 1048576) (ha : AddrN a cap) (hr : RowI w.heap.size w a xs) :
    Calls Tryd.prog 14 #[.slice a xs.length cap, .string t] w fun e w' => ∃ v, e = .returned v ∧ OwnInt w.heap.size w' v (sblL xs t) ∧ Below w.heap.size w w' := by
  obtain ⟨i0, hi, hz0, hz1, hz2⟩ := info_parts infoIntS
  have HR : Hid (RowI w.heap.size w a xs) := hr
  have HA : Hid (AddrN a cap) := ha
  have HO : Hid (OwnInt w.heap.size (w.alloc (.cells #[] 3)) (.slice (some ⟨w.heap.size, 0, none⟩) 0 0) []) := World.ownsRow_made _ _ _ (Nat.le_refl _) (by decide) rfl
  have HB0 : Hid (Below w.heap.size w (w.alloc (.cells #[] 3))) := (Below.refl _ _).alloc (Nat.le_refl _) _
  clear hr ha
  go_enter Tryd.func14, Tryd.ntmps14
  go_upto_region 1 with fail
  go_cut [5] (fun s5 wc => Hid (OwnInt w.heap.size wc s5 xs) ∧ Hid (Below w.heap.size w wc))
  case first =>
    rcases HA.out with ⟨rfl, rfl⟩ | ⟨b, off, rfl⟩
    · rcases HR.out with h0 | ⟨_, _, e, _⟩
      · subst h0
        go_wp2_with (at_builtin; refine wpList_append_own_none rfl _ _ 26 rfl w.heap.size 3 i0 1 Tryd.underlying26 hi _ 0 _ rfl HO.out rfl ?_)
        go_meet
        exact ⟨HO, HB0⟩
      · cases e
    · go_wp2_with (at_builtin; refine wpList_append_own _ rfl _ _ 26 rfl w.heap.size 3 i0 (.int .i64 0) 1 8 Tryd.underlying26 hi hz0 hz1 hz2 rfl (by decide) _ 0 _ rfl HO.out ⟨b, off, none⟩ xs.length cap (xs.map (Value.int .i64)) rfl (by simp) ?c1 ?c2 ?c3 ?c4 ?c5 ?_)
      case c1 => exact HR.out.adds_later HB0.out
      case c2 => intro u hu; obtain ⟨x, _, rfl⟩ := List.mem_map.1 hu; rfl
      case c3 => unfold maxLen; omega
      case c4 => omega
      case c5 => simp
      · intro v' w2 hown' hgrow _
        have HO2 : Hid (OwnInt w.heap.size w2 v' xs) := by
          show OwnInt w.heap.size w2 v' xs
          unfold OwnInt; simpa using hown'
        have HB2 : Hid (Below w.heap.size w w2) := HB0.out.grown hgrow (by simp) (fun k hk => by simp [Value.ownBlock] at hk; omega)
        clear hown' hgrow HO HB0
        go_wp2_with fail
        go_meet
        exact ⟨HO2, HB2⟩
  case rest =>
    obtain ⟨HOW, HBW⟩ := hcut
    clear HO HB0 hi hz0 hz1 hz2
    by_cases h8 : xs.length = 8
    · have hi8 : ((xs.length : Nat) : Int) = 8 := by omega
      by_cases h64 : t.size = 64
      · have hi64 : ((t.size : Nat) : Int) = 64 := by omega
        obtain ⟨g, cg, rfl, hSg⟩ := OwnInt.rowS HOW.out (by omega)
        have HSG : Hid (RowS w.heap.size wc g 8 cg xs) := by rw [h8] at hSg; exact hSg
        rw [h8]
        clear hSg HOW
        go_upto_region 4 with fail
        refine wp_region_lit ?_
        refine wpList_buildTo rfl _ _ rfl _ rfl (rowV .u32 8 (fun _ => 0)) (by simpa using built8) ?_
        try simp only [Act.put, List.getElem_toArray, List.getElem_cons_succ, List.getElem_cons_zero, List.setIfInBounds_toArray, List.set_cons_succ, List.set_cons_zero]
        refine Go.Great.wpList_allocTo rfl _ rfl (.pointer (some ⟨wc.heap.size, 0, none⟩)) (.cells (rowV .u32 8 (fun _ => 0)) 40) (by rw [← zeroSha]; unfold execOp; go_simp) ?_
        try simp only [Act.put, List.getElem_toArray, List.getElem_cons_succ, List.getElem_cons_zero, List.setIfInBounds_toArray, List.set_cons_succ, List.set_cons_zero]
        have hN := heap_alloc_new wc (.cells (rowV .u32 8 (fun _ => 0)) 40)
        refine wpList_store_rowTo rfl _ _ _ rfl rfl wc.heap.size (rowV .u32 8 (fun _ => 0)) rfl rfl 40 (rowV .u32 8 (fun _ => 0)) hN (sizeFirstV _) rfl (rowV_one _ _ _) ?_
        have HA1 : Hid (RowAt ((wc.alloc (.cells (rowV .u32 8 (fun _ => 0)) 40)).setRow wc.heap.size (rowV .u32 8 (fun _ => 0))) wc.heap.size 40 .u32 8 (wordsOf xs 0)) := RowAt.ext (f := fun _ => 0) (setRow_heap _ _ _ _ _ _ hN) (fun i _ => by unfold wordsOf; rw [if_neg (by omega)])
        have hbA : Below wc.heap.size wc ((wc.alloc (.cells (rowV .u32 8 (fun _ => 0)) 40)).setRow wc.heap.size (rowV .u32 8 (fun _ => 0))) := below_setRow ((Below.refl _ _).alloc (Nat.le_refl _) _) (Nat.le_refl _) _
        have HS1 : Hid (RowS w.heap.size _ g 8 cg xs) := HSG.out.next hbA
        have HB1 : Hid (Below w.heap.size w _) := HBW.out.trans (hbA.mono HBW.out.size)
        have hgg := HSG.out.lt
        have hgA : w.heap.size ≤ wc.heap.size := HBW.out.size
        generalize (wc.alloc (.cells (rowV .u32 8 (fun _ => 0)) 40)).setRow wc.heap.size (rowV .u32 8 (fun _ => 0)) = w2 at HA1 HS1 HB1 ⊢
        generalize wc.heap.size = gA at HA1 hgg hgA ⊢
        clear hN hbA HSG HBW
        go_wp2
        go_loopw [7] (fun i wr => ∃ k : Nat, k ≤ 8 ∧ i = .int .i64 (k : Int) ∧ Hid (Below w.heap.size w wr) ∧ Hid (RowAt wr gA 40 .u32 8 (wordsOf xs k)) ∧ Hid (RowS w.heap.size wr g 8 cg xs) ∧ Hid (∀ j, j < k → okW (xs.getD j 0) = true))
          (fun i _ => 8 - (intOf i).toNat)
        case atStart => exact ⟨0, Nat.zero_le _, rfl, HB1, HA1, HS1, fun j hj => absurd hj (by omega)⟩
        case round =>
          clear HB1 HA1 HS1
          obtain ⟨k, hk, rfl, HB, HW, HS, HOK⟩ := hrel
          by_cases hlt : k < 8
          · obtain ⟨b, off, rfl⟩ := HR.out.addr (show k < xs.length by omega)
            obtain ⟨hb, c0⟩ := HR.out.at HB.out (show k < xs.length by omega)
            have hi0 : (0 : Int) ≤ (k : Int) := by omega
            have hi1 : (k : Int) < 8 := by omega
            by_cases hq : 0 ≤ xs.getD k 0 ∧ xs.getD k 0 ≤ 4294967295
            · have HC : Hid (∀ wz, _) := fun wz => specInN_yes (xs.getD k 0) 0 4294967295 wz hq
              have HOK2 : Hid (∀ j, j < k + 1 → okW (xs.getD j 0) = true) := fun j hj => by
                by_cases e : j = k
                · subst e; exact (okW_iff _).2 hq
                · exact HOK.out j (by omega)
              have c1 := HW.out.cell hlt
              have z1 := HW.out.froz k
              have HY : Hid (xs.getD k 0 % 4294967296 = (((xs.getD k 0 % 4294967296).toNat : Nat) : Int)) := by show _ = _; omega
              have HST : Hid (RowAt (wr.setCell ⟨gA, k, none⟩ (.int .u32 (((xs.getD k 0 % 4294967296).toNat : Nat) : Int))) gA 40 .u32 8 (wordsOf xs (k + 1))) := by rw [← wordsOf_upd]; exact HW.out.set hlt _
              have HS2 : Hid (RowS w.heap.size (wr.setCell ⟨gA, k, none⟩ (.int .u32 (((xs.getD k 0 % 4294967296).toNat : Nat) : Int))) g 8 cg xs) := HS.out.other _ (by omega)
              have HB2 : Hid (Below w.heap.size w (wr.setCell ⟨gA, k, none⟩ (.int .u32 (((xs.getD k 0 % 4294967296).toNat : Nat) : Int)))) := HB.out.setCell hgA _
              have HY2 : Hid ((((xs.getD k 0 % 4294967296).toNat : Nat) : Int) = xs.getD k 0) := by show _ = _; omega
              clear hq HOK HS HB HW
              generalize (((xs.getD k 0 % 4294967296).toNat : Nat) : Int) = y2 at HY HST HS2 HB2 HY2
              generalize xs.getD k 0 = y at c0 HC HY HY2
              go_wp2_with fail
              refine Calls.mono (HC.out _) ?_
              rintro e w3 ⟨rfl, rfl⟩
              go_wp2
              first | rw [HY.out] | rw [← HY2.out]
              go_roundw
              case rel => exact ⟨k + 1, by omega, by go_num, HB2, HST, HS2, HOK2⟩
              case measure => simp [intOf]; omega
            · have HC : Hid (∀ wz, _) := fun wz => specInN_no (xs.getD k 0) 0 4294967295 wz hq
              have HE : Hid (sblL xs t = xs) := by
                show _ = _
                unfold sblL sblOk
                rw [if_neg]
                intro h
                rw [Bool.and_eq_true] at h
                have h2 := (allW_iff xs).1 (areB_yes h.1).2 k (by omega)
                exact hq ((okW_iff _).1 h2)
              have HO8 := HS.out.own
              clear hq HOK HW
              generalize xs.getD k 0 = y at c0 HC
              have HOF : Hid (OwnInt w.heap.size wr (.slice (some ⟨g, 0, none⟩) 8 cg) (sblL xs t)) := by rw [HE.out]; exact HO8
              clear HO8
              go_wp2_with fail
              refine Calls.mono (HC.out _) ?_
              rintro e w3 ⟨rfl, rfl⟩
              go_wp2
              go_ret
              exact ⟨_, rfl, HOF.out, HB.out⟩
          · obtain rfl : k = 8 := by omega
            have hall : allW xs = true := (allW_iff xs).2 (by rw [h8]; exact HOK.out)
            have HE : Hid (sblL xs t = bytesV 8 (sblF xs t)) := by
              show _ = _
              unfold sblL sblOk areB
              rw [hall, decide_eq_true h8, decide_eq_true h64]; rfl
            have HBE : Hid (∀ wz, Calls Tryd.prog 31 #[.agg (rowV .u32 8 (ofL8 xs).at8), .string t, .agg (rowV .u32 64 keysF)] wz fun e w' => e = .returned (.agg (rowV .u32 8 (sblF xs t))) ∧ Below wz.heap.size wz w') := fun wz => sblock_any (ofL8 xs) t wz (ofL8_ok xs) h64
            have HWI : Hid (RowAt wr gA 40 .u32 8 (ofL8 xs).at8) := HW.out.ext (ofL8_at xs)
            have HF : Hid (Words (sblF xs t)) := sblF_lt xs t
            have HSA : Hid (setsTo xs (sblF xs t) 8 = bytesV 8 (sblF xs t)) := setsTo_all _ h8
            generalize sblF xs t = F at HE HBE HF HSA
            generalize (ofL8 xs).at8 = I at HBE HWI
            clear hall HOK HW h8 hi8 h64 hi64
            try rw [show ((8 : Nat) : Int) = 8 from rfl]
            go_upto_region 11 with fail
            refine _root_.Go.wp_region_held (S := fun _ : World => True) (by kernel_rfl) ?_
            have hS : (fun _ : World => True) wr.drew := trivial
            refine wpAnyH_take (i := 1) (v := ?_) rfl (by kernel_rfl) (by kernel_rfl) (by kernel_rfl) (fun _ _ _ h => h) (Or.inl ⟨by rfl, ?_⟩) hS ?_
            rotate_left
            · intro w hSw; skip; go_simp; try with_reducible rfl
            simp only [Act.put, List.getElem_toArray, List.getElem_cons_succ, List.getElem_cons_zero, List.setIfInBounds_toArray, List.set_cons_succ, List.set_cons_zero]
            refine wpAnyH_ready (rs := [0, 2]) (by kernel_rfl) (by simp) ?_
            refine AllReadyH.cons rfl (fun K hK => ?_) (AllReadyH.cons rfl (fun K hK => ?_) AllReadyH.nil)
            · refine ite_yes (by rfl) ?_
              refine wp_load_mid _ _ rfl gA 0 rfl (rowV .u32 8 I).toList _ (rangeV HWI.out.drew) Tryd.underlying40 rfl (by rw [Array.length_toList, rowV_size]; exact sizeFirst) ?_
              refine hK.out _ _ trivial (fun hS => ?_)
              clear hK K
              simp only [Act.put, List.getElem_toArray, List.getElem_cons_zero, List.setIfInBounds_toArray, List.set_cons_succ, List.set_cons_zero]
              refine wpAnyH_ready (rs := [2]) (by kernel_rfl) (by simp) ?_
              refine AllReadyH.cons rfl (fun K hK => ?_) AllReadyH.nil
              go_simp
              refine Calls.mono (keys_any _) ?_
              rintro e w5 ⟨rfl, hb5⟩
              have hw5 : RowAt w5 gA 40 .u32 8 I := HWI.out.drew.below hb5 HWI.out.drew.lt
              have hs5 : RowS w.heap.size w5 g 8 cg xs := HS.out.drew.next hb5
              have hB5 : Below w.heap.size w w5 := HB.out.drew.trans (hb5.mono HB.out.drew.size)
              clear hb5
              refine hK.out _ _ trivial (fun hS => ?_)
              clear hK K
              refine wpAnyH_ready (rs := [3]) (by kernel_rfl) (by simp) ?_
              refine AllReadyH.cons rfl (fun K hK => ?_) AllReadyH.nil
              go_simp
              refine Calls.mono (HBE.out _) ?_
              rintro e w6 ⟨rfl, hb6⟩
              have hw6 : RowAt w6 gA 40 .u32 8 I := hw5.below hb6 hw5.lt
              have hs6 : RowS w.heap.size w6 g 8 cg xs := hs5.next hb6
              have hB6 : Below w.heap.size w w6 := hB5.trans (hb6.mono hB5.size)
              clear hb6 hw5 hs5 hB5
              refine hK.out _ _ trivial (fun hS => ?_)
              clear hK K
              refine wpAnyH_ready (rs := [4]) (by kernel_rfl) (by simp) ?_
              refine AllReadyH.cons rfl (fun K hK => ?_) AllReadyH.nil
              refine ite_yes (by rfl) ?_
              refine wp_store_row _ _ _ rfl gA (rowV .u32 8 F) rfl rfl 40 (rowV .u32 8 I) hw6 (by rw [rowV_size]; exact sizeFirst) (by rw [rowV_size, rowV_size]) (rowV_one _ _ _) ?_
              have HW7 : Hid (RowAt (w6.setRow gA (rowV .u32 8 F)) gA 40 .u32 8 F) := setRow_heap _ _ _ _ _ _ hw6
              have HS7 : Hid (RowS w.heap.size (w6.setRow gA (rowV .u32 8 F)) g 8 cg (setsTo xs F 0)) := hs6.rowKept (by omega)
              have HB7 : Hid (Below w.heap.size w (w6.setRow gA (rowV .u32 8 F))) := below_setRow hB6 hgA _
              generalize w6.setRow gA (rowV .u32 8 F) = w7 at HW7 HS7 HB7 ⊢
              clear hw6 hs6 hB6
              refine hK.out _ _ trivial (fun hS => ?_)
              clear hK K
              clear hS
              refine wpAnyH_done (by kernel_rfl) ?_ _
              clear HB HS HWI HBE
              go_wp2
              go_loopw [8] (fun i wr => ∃ k : Nat, k ≤ 8 ∧ i = .int .i64 (k : Int) ∧ Hid (Below w.heap.size w wr) ∧ Hid (RowAt wr gA 40 .u32 8 F) ∧ Hid (RowS w.heap.size wr g 8 cg (setsTo xs F k)))
                (fun i _ => 8 - (intOf i).toNat)
              case atStart => exact ⟨0, Nat.zero_le _, rfl, HB7, HW7, HS7⟩
              case round =>
                clear HB7 HW7 HS7
                obtain ⟨k, hk, rfl, HB, HW, HS⟩ := hrel
                by_cases hlt : k < 8
                · have hi0 : (0 : Int) ≤ (k : Int) := by omega
                  have hi1 : (k : Int) < 8 := by omega
                  have c1 := HW.out.cell hlt
                  have d1 := HS.out.cell hlt
                  have z1 := HS.out.froz k
                  have hf := HF.out k
                  have hwf : IntKind.i64.wrap ((F k : Nat) : Int) = ((F k : Nat) : Int) := by rw [IntKind.wrap_i64]; omega
                  have HS2 : Hid (RowS w.heap.size (wr.setCell ⟨g, k, none⟩ (.int .i64 ((F k : Nat) : Int))) g 8 cg (setsTo xs F (k + 1))) := HS.out.set k _
                  have HW2 : Hid (RowAt (wr.setCell ⟨g, k, none⟩ (.int .i64 ((F k : Nat) : Int))) gA 40 .u32 8 F) := (Below.heap_setCell _ _ _ _ (show gA ≠ g by omega)).trans HW.out
                  have HB2 : Hid (Below w.heap.size w (wr.setCell ⟨g, k, none⟩ (.int .i64 ((F k : Nat) : Int)))) := HB.out.setCell hgg.1 _
                  clear HB HW HS hf
                  generalize ((F k : Nat) : Int) = y at c1 hwf HS2 HW2 HB2
                  go_wp2
                  go_roundw
                  case rel => exact ⟨k + 1, by omega, by go_num, HB2, HW2, HS2⟩
                  case measure => simp [intOf]; omega
                · obtain rfl : k = 8 := by omega
                  have HO8 := HS.out.own
                  have HOF : Hid (OwnInt w.heap.size wr (.slice (some ⟨g, 0, none⟩) 8 cg) (sblL xs t)) := by rw [HE.out, ← HSA.out]; exact HO8
                  clear HO8
                  go_wp2
                  go_ret
                  exact ⟨_, rfl, HOF.out, HB.out⟩
            · go_simp
              refine Calls.mono (keys_any _) ?_
              rintro e w5 ⟨rfl, hb5⟩
              have hw5 : RowAt w5 gA 40 .u32 8 I := HWI.out.drew.below hb5 HWI.out.drew.lt
              have hs5 : RowS w.heap.size w5 g 8 cg xs := HS.out.drew.next hb5
              have hB5 : Below w.heap.size w w5 := HB.out.drew.trans (hb5.mono HB.out.drew.size)
              clear hb5
              refine hK.out _ _ trivial (fun hS => ?_)
              clear hK K
              refine wpAnyH_ready (rs := [0]) (by kernel_rfl) (by simp) ?_
              refine AllReadyH.cons rfl (fun K hK => ?_) AllReadyH.nil
              refine ite_yes (by rfl) ?_
              refine wp_load_mid _ _ rfl gA 0 rfl (rowV .u32 8 I).toList _ (rangeV hw5) Tryd.underlying40 rfl (by rw [Array.length_toList, rowV_size]; exact sizeFirst) ?_
              refine hK.out _ _ trivial (fun hS => ?_)
              clear hK K
              simp only [Act.put, List.getElem_toArray, List.getElem_cons_zero, List.setIfInBounds_toArray, List.set_cons_succ, List.set_cons_zero]
              refine wpAnyH_ready (rs := [3]) (by kernel_rfl) (by simp) ?_
              refine AllReadyH.cons rfl (fun K hK => ?_) AllReadyH.nil
              go_simp
              refine Calls.mono (HBE.out _) ?_
              rintro e w6 ⟨rfl, hb6⟩
              have hw6 : RowAt w6 gA 40 .u32 8 I := hw5.below hb6 hw5.lt
              have hs6 : RowS w.heap.size w6 g 8 cg xs := hs5.next hb6
              have hB6 : Below w.heap.size w w6 := hB5.trans (hb6.mono hB5.size)
              clear hb6 hw5 hs5 hB5
              refine hK.out _ _ trivial (fun hS => ?_)
              clear hK K
              refine wpAnyH_ready (rs := [4]) (by kernel_rfl) (by simp) ?_
              refine AllReadyH.cons rfl (fun K hK => ?_) AllReadyH.nil
              refine ite_yes (by rfl) ?_
              refine wp_store_row _ _ _ rfl gA (rowV .u32 8 F) rfl rfl 40 (rowV .u32 8 I) hw6 (by rw [rowV_size]; exact sizeFirst) (by rw [rowV_size, rowV_size]) (rowV_one _ _ _) ?_
              have HW7 : Hid (RowAt (w6.setRow gA (rowV .u32 8 F)) gA 40 .u32 8 F) := setRow_heap _ _ _ _ _ _ hw6
              have HS7 : Hid (RowS w.heap.size (w6.setRow gA (rowV .u32 8 F)) g 8 cg (setsTo xs F 0)) := hs6.rowKept (by omega)
              have HB7 : Hid (Below w.heap.size w (w6.setRow gA (rowV .u32 8 F))) := below_setRow hB6 hgA _
              generalize w6.setRow gA (rowV .u32 8 F) = w7 at HW7 HS7 HB7 ⊢
              clear hw6 hs6 hB6
              refine hK.out _ _ trivial (fun hS => ?_)
              clear hK K
              clear hS
              refine wpAnyH_done (by kernel_rfl) ?_ _
              clear HB HS HWI HBE
              go_wp2
              go_loopw [8] (fun i wr => ∃ k : Nat, k ≤ 8 ∧ i = .int .i64 (k : Int) ∧ Hid (Below w.heap.size w wr) ∧ Hid (RowAt wr gA 40 .u32 8 F) ∧ Hid (RowS w.heap.size wr g 8 cg (setsTo xs F k)))
                (fun i _ => 8 - (intOf i).toNat)
              case atStart => exact ⟨0, Nat.zero_le _, rfl, HB7, HW7, HS7⟩
              case round =>
                clear HB7 HW7 HS7
                obtain ⟨k, hk, rfl, HB, HW, HS⟩ := hrel
                by_cases hlt : k < 8
                · have hi0 : (0 : Int) ≤ (k : Int) := by omega
                  have hi1 : (k : Int) < 8 := by omega
                  have c1 := HW.out.cell hlt
                  have d1 := HS.out.cell hlt
                  have z1 := HS.out.froz k
                  have hf := HF.out k
                  have hwf : IntKind.i64.wrap ((F k : Nat) : Int) = ((F k : Nat) : Int) := by rw [IntKind.wrap_i64]; omega
                  have HS2 : Hid (RowS w.heap.size (wr.setCell ⟨g, k, none⟩ (.int .i64 ((F k : Nat) : Int))) g 8 cg (setsTo xs F (k + 1))) := HS.out.set k _
                  have HW2 : Hid (RowAt (wr.setCell ⟨g, k, none⟩ (.int .i64 ((F k : Nat) : Int))) gA 40 .u32 8 F) := (Below.heap_setCell _ _ _ _ (show gA ≠ g by omega)).trans HW.out
                  have HB2 : Hid (Below w.heap.size w (wr.setCell ⟨g, k, none⟩ (.int .i64 ((F k : Nat) : Int)))) := HB.out.setCell hgg.1 _
                  clear HB HW HS hf
                  generalize ((F k : Nat) : Int) = y at c1 hwf HS2 HW2 HB2
                  go_wp2
                  go_roundw
                  case rel => exact ⟨k + 1, by omega, by go_num, HB2, HW2, HS2⟩
                  case measure => simp [intOf]; omega
                · obtain rfl : k = 8 := by omega
                  have HO8 := HS.out.own
                  have HOF : Hid (OwnInt w.heap.size wr (.slice (some ⟨g, 0, none⟩) 8 cg) (sblL xs t)) := by rw [HE.out, ← HSA.out]; exact HO8
                  clear HO8
                  go_wp2
                  go_ret
                  exact ⟨_, rfl, HOF.out, HB.out⟩
      · have HE : Hid (sblL xs t = xs) := by
          show _ = _
          unfold sblL sblOk
          rw [decide_eq_false h64, Bool.and_false]; rfl
        have hq64 : (((t.size : Nat) : Int) != 64) = true := by simp; omega
        have hj64 : ¬ ((t.size : Nat) : Int) = 64 := by omega
        have HOF : Hid (OwnInt w.heap.size wc u5 (sblL xs t)) := by rw [HE.out]; exact HOW.out
        clear h8 h64 HOW
        go_wp2
        go_ret
        exact ⟨_, rfl, HOF.out, HBW.out⟩
    · have HE : Hid (sblL xs t = xs) := by
        show _ = _
        unfold sblL sblOk areB
        rw [decide_eq_false h8]; rfl
      have hq8 : (((xs.length : Nat) : Int) != 8) = true := by simp; omega
      have hj8 : ¬ ((xs.length : Nat) : Int) = 8 := by omega
      have HOF : Hid (OwnInt w.heap.size wc u5 (sblL xs t)) := by rw [HE.out]; exact HOW.out
      clear h8 HOW
      go_wp2
      go_ret
      exact ⟨_, rfl, HOF.out, HBW.out⟩
end Go.Proofs.YthpkhbcahihbnaaDoor
