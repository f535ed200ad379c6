/- For every code, where the program's tables are as its text lays them (the card ties that): the digest of the drawn text is what comes of its blocks one behind another; a drawn block makes of a drawn state what the specification says. -/
import Derived.Test.YthpkhbcahihbnaaDoorCards
import Derived.Test.YthpkhbcahihbnaaDoorTie
import Derived.Test.YthpkhbcahihbnaaDoorCut21
import Derived.Test.YthpkhbcahihbnaaDoorTurnL21
import Derived.Test.YthpkhbcahihbnaaDoorSbl21
import Derived.Test.YthpkhbcahihbnaaDoorSbs21
import Derived.Test.YthpkhbcahihbnaaDoorDrSbl21
import Derived.Test.YthpkhbcahihbnaaDoorSameJ
import Derived.Test.YthpkhbcahihbnaaDoorCodeW
import Derived.Deep.RegionHeld
import Derived.OrdersHeld
import Derived.WalkKit
import Derived.ProofKit
import Derived.OpenShut
import Derived.ShutString
import Derived.OpenVars
import Derived.BigRegion
import Derived.ChangeOld
import Derived.Deep.DeepHandedRow
import Derived.Deep.DeepWitnessRowRef
namespace Go.Proofs.YthpkhbcahihbnaaDoor
namespace fnBlocks
open Go.ChangeShapes Go.WideShapes Go.ChangeAt Go.RowKit Go.PlainAid
open Go.ChangeMaps (open_string shut_string)
set_option linter.unusedVariables false

open Go.PlainAid
set_option linter.unusedSimpArgs false
set_option linter.unusedVariables false
theorem table {W : World} (h : laidMetH Tryd.prog Rows.fnBlocksRow.laid W) : BothHere W := ⟨firstHere_of h rfl, keysHere_of h rfl⟩
/-- The state behind k blocks, as a list. -/
def stL (P : ByteArray) (k : Nat) : List Int := bytesV 8 (blocks (btN P) start8 k).at8
theorem stL_len (P : ByteArray) (k : Nat) : (stL P k).length = 8 := bytesV_len _ _
theorem stL_zero (P : ByteArray) : firstI = stL P 0 := bytesV_ext (fun i hi => by
  rcases (show i = 0 ∨ i = 1 ∨ i = 2 ∨ i = 3 ∨ i = 4 ∨ i = 5 ∨ i = 6 ∨ i = 7 by omega) with rfl | rfl | rfl | rfl | rfl | rfl | rfl | rfl <;> rfl)
theorem at8_lt {s : H8} (h : s.Ok) (i : Nat) : s.at8 i < 4294967296 := getD_lt h.all i
theorem wof {f : Nat → Nat} (hf : ∀ i, f i < 4294967296) {i : Nat} (hi : i < 8) : wordsOf (bytesV 8 f) 8 i = f i := by
  unfold wordsOf
  rw [if_pos hi, bytesV_get f hi]
  have := hf i
  omega
theorem ofL8_back {s : H8} (h : s.Ok) : ofL8 (bytesV 8 s.at8) = s := by
  have hw : ∀ i, i < 8 → wordsOf (bytesV 8 s.at8) 8 i = s.at8 i := fun i hi => wof (at8_lt h) hi
  unfold ofL8
  rw [hw 0 (by omega), hw 1 (by omega), hw 2 (by omega), hw 3 (by omega), hw 4 (by omega), hw 5 (by omega), hw 6 (by omega), hw 7 (by omega)]
  cases s; rfl
theorem stL_next (P : ByteArray) {k : Nat} (hk : 64 * k + 64 ≤ P.size) : sblL (stL P k) (P.extract (64 * k) (64 * k + 64)) = stL P (k + 1) := by
  have hok := blocks_ok (btN P) start8_ok k
  have ha : areB (stL P k) 8 = true := by
    unfold areB
    rw [decide_eq_true (stL_len P k), Bool.true_and, allW_iff]
    intro j hj
    rw [stL_len] at hj
    unfold stL
    rw [bytesV_get _ hj, okW_iff]
    have := at8_lt hok j
    omega
  have hs : (P.extract (64 * k) (64 * k + 64)).size = 64 := by rw [ByteArray.size_extract]; omega
  unfold sblL sblOk
  rw [ha, decide_eq_true hs, Bool.true_and, if_pos rfl]
  show bytesV 8 (block8 (ofL8 (stL P k)) (blkW (P.extract (64 * k) (64 * k + 64)))).at8 = _
  rw [show ofL8 (stL P k) = blocks (btN P) start8 k from ofL8_back hok, blk_sub]
  rfl
theorem heT_next (f : Nat → Nat) (i : Nat) : heT f i ++ strOfNums (bytesV 4 (highB (f i) 4)) = heT f (i + 1) := by
  apply Go.WideShapes.bytes_inj
  unfold heT
  rw [dat_app, strOfNums_data, strOfNums_data, strOfNums_data, heL, List.map_append]
theorem fill_pre (t : ByteArray) : (fillT t).extract 0 t.size = t := by
  apply Go.WideShapes.bytes_inj
  rw [Lib.extract_data]
  unfold fillT
  rw [dat_app, dat_app, dat_app]
  simp only [List.drop_zero, Nat.sub_zero, List.append_assoc]
  rw [sz_len t]
  exact List.take_left
theorem high4 {x : Nat} (h : x < 4294967296) : bytesV 4 (highB x 4) = [((x / 16777216 % 256 : Nat) : Int), ((x / 65536 % 256 : Nat) : Int), ((x / 256 % 256 : Nat) : Int), ((x % 256 : Nat) : Int)] := by
  obtain ⟨h0, h1, h2, h3⟩ := byte24 x h
  have e : bytesV 4 (highB x 4) = [((highB x 4 0 : Nat) : Int), ((highB x 4 1 : Nat) : Int), ((highB x 4 2 : Nat) : Int), ((highB x 4 3 : Nat) : Int)] := rfl
  rw [e, h0, h1, h2, h3]
theorem conv4 (w : World) (a b c d : Int) : (convert 22 9 (.slice (some ⟨w.heap.size, 0, none⟩) 4 4)).run Tryd.prog (w.alloc (.cells #[.int .u8 a, .int .u8 b, .int .u8 c, .int .u8 d] 5)).drew = .ok (.string (strOfNums [a, b, c, d])) (w.alloc (.cells #[.int .u8 a, .int .u8 b, .int .u8 c, .int .u8 d] 5)).drew := by
  refine run_convert_bytes_arg _ 22 5 Tryd.underlying22 Tryd.underlying5 w.heap.size 0 4 4 [a, b, c, d] rfl ?_ 9 Tryd.underlying9
  intro i hi
  rw [Nat.zero_add, cell_of_row _ w.heap.size i _ _ _ (show (w.alloc (.cells #[.int .u8 a, .int .u8 b, .int .u8 c, .int .u8 d] 5)).drew.heap[w.heap.size]? = _ from heap_alloc_new w _)]
  rcases (show i = 0 ∨ i = 1 ∨ i = 2 ∨ i = 3 by omega) with rfl | rfl | rfl | rfl <;> rfl
set_option maxHeartbeats 3200000 in
set_option maxRecDepth 20000 in
theorem walk (a0 : Option Addr) (len0 cap0 : Nat) (w : World) (hc : len0 ≤ 1048576 → CodeIn w.heap.size w a0 len0) (ht : BothHere w) :
    Calls Tryd.prog 3 #[.slice a0 len0 cap0] w fun e w' => e = .returned (.bool true) ∧ Below w.heap.size w w' := by
  have HT : Hid (BothHere w) := ht
  clear ht
  by_cases hl : len0 ≤ 1048576
  · have hd : decide ((1048576 : Int) < (len0 : Int)) = false := by simp; omega
    have HC : Hid (CodeIn w.heap.size w a0 len0) := hc hl
    clear hc
    go_enter Tryd.func3, Tryd.ntmps3
    go_wp2_with fail
    refine (big_any a0 len0 cap0 _).mono ?_
    rintro e w1 ⟨rfl, rfl⟩
    go_wp2_with fail
    refine (drawText_any a0 len0 cap0 _ HC.out).mono ?_
    rintro e w1 ⟨t, rfl, hts, hb⟩
    have HB : Hid (Below w.heap.size w w1) := hb
    clear hb
    have HDG : Hid (digT t = heT (blocks (btN (fillT t)) start8 (nb t)).at8 8) := rfl
    have HNB := nb_size t
    have hpre := fill_pre t
    have hfs := fillT_size t
    have hfl := fillT_le t
    have HZ : Hid (firstI = stL (fillT t) 0) := stL_zero _
    have HNX : Hid (∀ k, 64 * k + 64 ≤ (fillT t).size → sblL (stL (fillT t) k) ((fillT t).extract (64 * k) (64 * k + 64)) = stL (fillT t) (k + 1)) := fun k hk => stL_next _ hk
    have F1 : Hid (∀ wz : World, _) := fun wz => implFill_any t wz (by omega)
    have I1 : Hid (∀ wz, BothHere wz → _) := fun wz h => implDig_any t wz (by omega) h
    have S1 : Hid (∀ wz, _) := fun wz => specDigest_any t wz (by omega)
    have C1 : Hid (∀ wz, BothHere wz → Calls Tryd.prog 12 #[.string t, .int .i64 5] wz fun e w' => e = .returned (.string ((digT t).extract 0 5)) ∧ Below wz.heap.size wz w') := fun wz h => by have := implCut_any t ((5 : Nat) : Int) wz (by omega) h; rw [cutT_yes t (by omega)] at this; exact this
    have HWF : Hid (∀ i, (blocks (btN (fillT t)) start8 (nb t)).at8 i < 4294967296) := at8_lt (blocks_ok _ start8_ok _)
    have HSF : Hid (stL (fillT t) (nb t) = bytesV 8 (blocks (btN (fillT t)) start8 (nb t)).at8) := rfl
    have HLN : Hid (∀ k, (stL (fillT t) k).length = 8) := stL_len _
    generalize hf : (blocks (btN (fillT t)) start8 (nb t)).at8 = f at HDG HWF HSF
    generalize stL (fillT t) = ST at HZ HNX HSF HLN
    generalize fillT t = P at HNB hpre hfs hfl HNX F1
    generalize nb t = n at HNB HSF
    have hdz : (digT t).size = 32 := digT_size t
    generalize digT t = D at HDG I1 S1 C1 hdz
    clear hf
    go_wp2_with fail
    refine Calls.mono (F1.out _) ?_
    rintro e w2 ⟨rfl, hb⟩
    replace HB : Hid (Below w.heap.size w w2) := HB.out.trans (hb.mono HB.out.size)
    clear hb
    go_wp2_with fail
    refine Calls.mono (implFirst_any w2 (HT.out.next HB.out).1) ?_
    rintro e w3 ⟨v, rfl, ho, hb⟩
    rw [HZ.out] at ho
    obtain ⟨x0, y0, rfl, hA0, hr0⟩ := ho.row
    rw [HLN.out]
    have HB3 : Hid (Below w.heap.size w w3) := HB.out.trans (hb.mono HB.out.size)
    have HR0 : Hid (RowI w3.heap.size w3 x0 (ST 0)) := hr0
    have HA0 : Hid (AddrN x0 y0) := hA0
    clear hb ho hr0 hA0 HB
    have r1 : ((P.size : Nat) : Int).tmod 64 = 0 := by rw [Int.tmod_eq_emod_of_nonneg (by omega)]; omega
    have r2 : ((P.size : Nat) : Int) % 64 = 0 := by omega
    have r3 : ¬ ((P.size : Nat) : Int) < (t.size : Int) + 9 := by omega
    have r4 : (t.size : Int) ≤ ((P.size : Nat) : Int) := by omega
    have r5 : IntKind.i64.wrap ((t.size : Int) + 9) = (t.size : Int) + 9 := by rw [IntKind.wrap_i64]; omega
    go_wp2
    clear r1 r2 r3 r4 r5
    go_loopw [5, 6] (fun v i wr => ∃ (k j : Nat) (x : Option Addr) (y : Nat), k ≤ n ∧ Hid (j = 64 * k) ∧ i = .int .i64 (j : Int) ∧ v = .slice x 8 y ∧ Hid (Below w.heap.size w wr) ∧ Hid (AddrN x y) ∧ Hid (RowI wr.heap.size wr x (ST k)))
      (fun _ i _ => P.size + 64 - (intOf i).toNat)
    case atStart => exact ⟨0, 0, x0, y0, Nat.zero_le _, rfl, rfl, rfl, HB3, HA0, HR0⟩
    case round =>
      clear HB3 HA0 HR0
      obtain ⟨k, j, x, y, hk, HJ, rfl, rfl, HB, HA, HR⟩ := hrel
      have hj := HJ.out
      by_cases hlt : j < P.size
      · have hkn : k < n := by omega
        have h64 : 64 * k + 64 ≤ P.size := by omega
        have j0 : (0 : Int) ≤ (j : Int) := by omega
        have j1 : (j : Int) < (P.size : Int) := by omega
        have w1 : IntKind.i64.wrap ((j : Int) + 64) = ((j + 64 : Nat) : Int) := by rw [IntKind.wrap_i64]; omega
        have j2 : (j : Int) ≤ ((j + 64 : Nat) : Int) := by omega
        have j3 : ((j + 64 : Nat) : Int) ≤ (P.size : Int) := by omega
        have HC8 := implSbl_any x y (ST k) (P.extract j (j + 64)) wr (by rw [HLN.out]; omega) HA.out HR.out (HT.out.next HB.out).2
        rw [HLN.out, show sblL (ST k) (P.extract j (j + 64)) = ST (k + 1) by rw [hj]; exact HNX.out k h64] at HC8
        have HS : Hid _ := HC8
        clear HC8 hj
        generalize hje : j + 64 = j64 at w1 j2 j3 HS
        have HJ2 : Hid (j + 64 = j64) := hje
        clear hje
        go_wp2_with fail
        refine Calls.mono HS.out ?_
        rintro e w4 ⟨v, rfl, ho, hb⟩
        obtain ⟨x2, y2, rfl, hA2, hr2⟩ := ho.row
        rw [HLN.out]
        have HB2 : Hid (Below w.heap.size w w4) := HB.out.trans (hb.mono HB.out.size)
        have HA2 : Hid (AddrN x2 y2) := hA2
        have HR2 : Hid (RowI w4.heap.size w4 x2 (ST (k + 1))) := hr2
        clear ho hb hA2 hr2 HS HB HA HR
        go_wp2
        go_roundw
        case rel => exact ⟨k + 1, j64, x2, y2, by omega, (by have := HJ.out; have := HJ2.out; show _ = _; omega), by first | rfl | go_num, rfl, HB2, HA2, HR2⟩
        case measure => have := HJ.out; have := HJ2.out; simp [intOf]; omega
      · have hkn : k = n := by omega
        rw [hkn, HSF.out] at HR
        have jn : ¬ (j : Int) < (P.size : Int) := by omega
        obtain ⟨b0, o0, rfl⟩ := HR.out.addr (show 0 < (bytesV 8 f).length by rw [bytesV_len]; omega)
        clear hkn hj HA
        obtain ⟨wO, hwO⟩ : ∃ wO, wO = wr := ⟨_, rfl⟩
        subst hwO
        go_wp2
        go_loopw [7, 8] (fun d i wr => ∃ k : Nat, k ≤ 8 ∧ i = .int .i64 (k : Int) ∧ d = .string (heT f k) ∧ Hid (Below wO.heap.size wO wr))
          (fun _ i _ => 8 - (intOf i).toNat)
        case atStart => exact ⟨0, Nat.zero_le _, rfl, rfl, Below.refl _ _⟩
        case round =>
          obtain ⟨i, hi, rfl, rfl, HQ⟩ := hrel
          by_cases hi8 : i < 8
          · have i0 : (0 : Int) ≤ (i : Int) := by omega
            have i1 : (i : Int) < 8 := by omega
            have c1 := (HR.out.at HQ.out (show i < (bytesV 8 f).length by rw [bytesV_len]; exact hi8)).2
            rw [bytesV_get f hi8] at c1
            have hx := HWF.out i
            have h4 := high4 hx
            have HN : Hid (heT f i ++ strOfNums (bytesV 4 (highB (f i) 4)) = heT f (i + 1)) := heT_next f i
            have hsz : (heT f i).size ≤ 32 := by rw [heT_size]; omega
            have hsz2 : (strOfNums (bytesV 4 (highB (f i) 4))).size = 4 := strOf_size _ _
            rw [h4] at HN hsz2
            generalize hd2 : heT f (i + 1) = D2 at HN
            have HD2 : Hid (heT f (i + 1) = D2) := hd2
            clear hd2
            generalize heT f i = D1 at HN hsz
            generalize f i = z at c1 hx HN h4 hsz2
            have u0 : IntKind.u8.wrap ((z : Int) / 16777216) = ((z / 16777216 % 256 : Nat) : Int) := by rw [IntKind.wrap_u8']; omega
            have u1 : IntKind.u8.wrap ((z : Int) / 65536) = ((z / 65536 % 256 : Nat) : Int) := by rw [IntKind.wrap_u8']; omega
            have u2 : IntKind.u8.wrap ((z : Int) / 256) = ((z / 256 % 256 : Nat) : Int) := by rw [IntKind.wrap_u8']; omega
            have u3 : IntKind.u8.wrap (z : Int) = ((z % 256 : Nat) : Int) := by rw [IntKind.wrap_u8']; omega
            have hcv := conv4 wr ((z / 16777216 % 256 : Nat) : Int) ((z / 65536 % 256 : Nat) : Int) ((z / 256 % 256 : Nat) : Int) ((z % 256 : Nat) : Int)
            generalize strOfNums [((z / 16777216 % 256 : Nat) : Int), ((z / 65536 % 256 : Nat) : Int), ((z / 256 % 256 : Nat) : Int), ((z % 256 : Nat) : Int)] = B4 at hcv HN hsz2
            generalize z / 16777216 % 256 = q0 at u0 hcv
            generalize z / 65536 % 256 = q1 at u1 hcv
            generalize z / 256 % 256 = q2 at u2 hcv
            generalize z % 256 = q3 at u3 hcv
            have HQ2 : Hid (Below wO.heap.size wO (wr.alloc (.cells #[.int .u8 (q0 : Int), .int .u8 (q1 : Int), .int .u8 (q2 : Int), .int .u8 (q3 : Int)] 5)).drew) := (HQ.out.alloc HQ.out.size _).drew
            clear h4 HQ hx
            go_wp2
            go_region
            all_goals
              go_wp2
              go_roundw
              case rel => exact ⟨i + 1, by omega, by go_num, by first | (rw [HN.out, HD2.out]; done) | (rw [HD2.out, HN.out]; done) | (rw [HN.out, HD2.out]) | (rw [HD2.out]), HQ2⟩
              case measure => simp [intOf]; omega
          · obtain rfl : i = 8 := by omega
            rw [← HDG.out]
            have HB5 : Hid (Below w.heap.size w wr) := HB.out.trans (HQ.out.mono HB.out.size)
            clear HR HQ HB
            go_wp2_with fail
            refine (drawSbl_any a0 len0 cap0 _ (codeIn_later HC.out HB5.out)).mono ?_
            rintro e w6 ⟨xa, ya, xs, s, rfl, hxl, hAa, hra, hsl, hb⟩
            have hB6 : Below w.heap.size w w6 := HB5.out.trans (hb.mono HB5.out.size)
            clear hb HB5 HC
            have hSl : (sblL xs s).length ≤ 2097152 := sblL_len xs s (by omega)
            have hdx : ((D.size : Nat) : Int) = 32 := by omega
            have h5a : (5 : Int) ≤ ((D.size : Nat) : Int) := by omega
            have hW : BothHere w6 := HT.out.next hB6
            have HI8 : Hid (∀ wz : World, RowI wz.heap.size wz xa xs → BothHere wz → _) := fun wz h1 h2 => implSbl_any xa ya xs s wz (by omega) hAa h1 h2.2
            have HS8 : Hid (∀ wz : World, RowI wz.heap.size wz xa xs → _) := fun wz h1 => specSbl_any xa ya xs s wz (by omega) hAa h1
            have HSM : Hid (∀ (wz : World) (a b : Option Addr) (ca cb : Nat), RowI wz.heap.size wz a (sblL xs s) → RowI wz.heap.size wz b (sblL xs s) → _) := fun wz a b ca cb h1 h2 => sameI_same a b ca cb (sblL xs s) wz hSl h1 h2
            generalize sblL xs s = SL at HI8 HS8 HSM hSl
            go_upto_region 18 with fail
            refine _root_.Go.wp_region_held (S := fun _ => True) (by kernel_rfl) ?_
            have hS : (fun _ : World => True) w6.drew := trivial
            replace hB6 : Below w.heap.size w w6.drew := hB6.drew
            replace hra : RowI w6.drew.heap.size w6.drew xa xs := hra
            show wpAnyH _ _ _ _ _ _ _ _ w6.drew
            generalize w6.drew = v0 at hB6 hra ⊢
            refine wpAnyH_take (i := 0) (v := ?_) rfl (by kernel_rfl) (by kernel_rfl) (by kernel_rfl) (fun _ _ _ h => h) (Or.inl ⟨by rfl, ?_⟩) hS ?_
            rotate_left
            · intro w hSw; skip; go_simp; try with_reducible rfl
            try simp only [Act.put, List.getElem_toArray, List.getElem_cons_succ, List.getElem_cons_zero, List.setIfInBounds_toArray, List.set_cons_succ, List.set_cons_zero]
            refine wpAnyH_take (i := 1) (v := ?_) rfl (by kernel_rfl) (by kernel_rfl) (by kernel_rfl) (fun _ _ _ h => h) (Or.inl ⟨by rfl, ?_⟩) hS ?_
            rotate_left
            · intro w hSw; skip; go_simp; try with_reducible rfl
            try simp only [Act.put, List.getElem_toArray, List.getElem_cons_succ, List.getElem_cons_zero, List.setIfInBounds_toArray, List.set_cons_succ, List.set_cons_zero]
            refine wpAnyH_ready (rs := [2]) (by kernel_rfl) (by simp) ?_
            refine AllReadyH.cons rfl (fun K hK => ?_) AllReadyH.nil
            go_simp
            refine Calls.mono (I1.out v0 (HT.out.next hB6)) ?_
            rintro e v1 ⟨rfl, hb⟩
            replace hB6 := hB6.trans (hb.mono hB6.size)
            replace hra := hra.grown hb
            clear hb
            refine hK.out _ _ trivial (fun hS => ?_)
            clear hK K
            try simp only [Act.put, List.getElem_toArray, List.getElem_cons_succ, List.getElem_cons_zero, List.setIfInBounds_toArray, List.set_cons_succ, List.set_cons_zero]
            refine wpAnyH_take (i := 3) (v := ?_) rfl (by kernel_rfl) (by kernel_rfl) (by kernel_rfl) (fun _ _ _ h => h) (Or.inl ⟨by rfl, ?_⟩) hS ?_
            rotate_left
            · intro w hSw; skip; go_simp; try with_reducible rfl
            try simp only [Act.put, List.getElem_toArray, List.getElem_cons_succ, List.getElem_cons_zero, List.setIfInBounds_toArray, List.set_cons_succ, List.set_cons_zero]
            refine wpAnyH_take (i := 4) (v := ?_) rfl (by kernel_rfl) (by kernel_rfl) (by kernel_rfl) (fun _ _ _ h => h) (Or.inl ⟨by rfl, ?_⟩) hS ?_
            rotate_left
            · intro w hSw; skip; go_simp; try with_reducible rfl
            try simp only [Act.put, List.getElem_toArray, List.getElem_cons_succ, List.getElem_cons_zero, List.setIfInBounds_toArray, List.set_cons_succ, List.set_cons_zero]
            refine wpAnyH_take (i := 5) (v := ?_) rfl (by kernel_rfl) (by kernel_rfl) (by kernel_rfl) (fun _ _ _ h => h) (Or.inl ⟨by rfl, ?_⟩) hS ?_
            rotate_left
            · intro w hSw; skip; go_simp; try with_reducible rfl
            try simp only [Act.put, List.getElem_toArray, List.getElem_cons_succ, List.getElem_cons_zero, List.setIfInBounds_toArray, List.set_cons_succ, List.set_cons_zero]
            refine wpAnyH_take (i := 6) (v := ?_) rfl (by kernel_rfl) (by kernel_rfl) (by kernel_rfl) (fun _ _ _ h => h) (Or.inl ⟨by rfl, ?_⟩) hS ?_
            rotate_left
            · intro w hSw; skip; go_simp; try with_reducible rfl
            try simp only [Act.put, List.getElem_toArray, List.getElem_cons_succ, List.getElem_cons_zero, List.setIfInBounds_toArray, List.set_cons_succ, List.set_cons_zero]
            refine wpAnyH_ready (rs := [7]) (by kernel_rfl) (by simp) ?_
            refine AllReadyH.cons rfl (fun K hK => ?_) AllReadyH.nil
            go_simp
            refine Calls.mono (S1.out v1) ?_
            rintro e v2 ⟨rfl, hb⟩
            replace hB6 := hB6.trans (hb.mono hB6.size)
            replace hra := hra.grown hb
            clear hb
            refine hK.out _ _ trivial (fun hS => ?_)
            clear hK K
            try simp only [Act.put, List.getElem_toArray, List.getElem_cons_succ, List.getElem_cons_zero, List.setIfInBounds_toArray, List.set_cons_succ, List.set_cons_zero]
            refine wpAnyH_take (i := 8) (v := ?_) rfl (by kernel_rfl) (by kernel_rfl) (by kernel_rfl) (fun _ _ _ h => h) (Or.inl ⟨by rfl, ?_⟩) hS ?_
            rotate_left
            · intro w hSw; skip; go_simp; try with_reducible rfl
            try simp only [Act.put, List.getElem_toArray, List.getElem_cons_succ, List.getElem_cons_zero, List.setIfInBounds_toArray, List.set_cons_succ, List.set_cons_zero]
            refine wpAnyH_take (i := 9) (v := ?_) rfl (by kernel_rfl) (by kernel_rfl) (by kernel_rfl) (fun _ _ _ h => h) (Or.inl ⟨by rfl, ?_⟩) hS ?_
            rotate_left
            · intro w hSw; skip; go_simp; try with_reducible rfl
            try simp only [Act.put, List.getElem_toArray, List.getElem_cons_succ, List.getElem_cons_zero, List.setIfInBounds_toArray, List.set_cons_succ, List.set_cons_zero]
            refine wpAnyH_take (i := 10) (v := ?_) rfl (by kernel_rfl) (by kernel_rfl) (by kernel_rfl) (fun _ _ _ h => h) (Or.inl ⟨by rfl, ?_⟩) hS ?_
            rotate_left
            · intro w hSw; skip; go_simp; try with_reducible rfl
            try simp only [Act.put, List.getElem_toArray, List.getElem_cons_succ, List.getElem_cons_zero, List.setIfInBounds_toArray, List.set_cons_succ, List.set_cons_zero]
            refine wpAnyH_take (i := 11) (v := ?_) rfl (by kernel_rfl) (by kernel_rfl) (by kernel_rfl) (fun _ _ _ h => h) (Or.inl ⟨by rfl, ?_⟩) hS ?_
            rotate_left
            · intro w hSw; skip; go_simp; try with_reducible rfl
            try simp only [Act.put, List.getElem_toArray, List.getElem_cons_succ, List.getElem_cons_zero, List.setIfInBounds_toArray, List.set_cons_succ, List.set_cons_zero]
            refine wpAnyH_take (i := 12) (v := ?_) rfl (by kernel_rfl) (by kernel_rfl) (by kernel_rfl) (fun _ _ _ h => h) (Or.inl ⟨by rfl, ?_⟩) hS ?_
            rotate_left
            · intro w hSw; skip; go_simp; try with_reducible rfl
            try simp only [Act.put, List.getElem_toArray, List.getElem_cons_succ, List.getElem_cons_zero, List.setIfInBounds_toArray, List.set_cons_succ, List.set_cons_zero]
            refine wpAnyH_take (i := 13) (v := ?_) rfl (by kernel_rfl) (by kernel_rfl) (by kernel_rfl) (fun _ _ _ h => h) (Or.inl ⟨by rfl, ?_⟩) hS ?_
            rotate_left
            · intro w hSw; skip; go_simp; try with_reducible rfl
            try simp only [Act.put, List.getElem_toArray, List.getElem_cons_succ, List.getElem_cons_zero, List.setIfInBounds_toArray, List.set_cons_succ, List.set_cons_zero]
            refine wpAnyH_take (i := 14) (v := ?_) rfl (by kernel_rfl) (by kernel_rfl) (by kernel_rfl) (fun _ _ _ h => h) (Or.inl ⟨by rfl, ?_⟩) hS ?_
            rotate_left
            · intro w hSw; skip; go_simp; try with_reducible rfl
            try simp only [Act.put, List.getElem_toArray, List.getElem_cons_succ, List.getElem_cons_zero, List.setIfInBounds_toArray, List.set_cons_succ, List.set_cons_zero]
            refine wpAnyH_take (i := 15) (v := ?_) rfl (by kernel_rfl) (by kernel_rfl) (by kernel_rfl) (fun _ _ _ h => h) (Or.inl ⟨by rfl, ?_⟩) hS ?_
            rotate_left
            · intro w hSw; skip; go_simp; try with_reducible rfl
            try simp only [Act.put, List.getElem_toArray, List.getElem_cons_succ, List.getElem_cons_zero, List.setIfInBounds_toArray, List.set_cons_succ, List.set_cons_zero]
            refine wpAnyH_take (i := 16) (v := ?_) rfl (by kernel_rfl) (by kernel_rfl) (by kernel_rfl) (fun _ _ _ h => h) (Or.inl ⟨by rfl, ?_⟩) hS ?_
            rotate_left
            · intro w hSw; skip; go_simp; try with_reducible rfl
            try simp only [Act.put, List.getElem_toArray, List.getElem_cons_succ, List.getElem_cons_zero, List.setIfInBounds_toArray, List.set_cons_succ, List.set_cons_zero]
            refine wpAnyH_take (i := 18) (v := ?_) rfl (by kernel_rfl) (by kernel_rfl) (by kernel_rfl) (fun _ _ _ h => h) (Or.inl ⟨by rfl, ?_⟩) hS ?_
            rotate_left
            · intro w hSw; skip; go_simp; try with_reducible rfl
            try simp only [Act.put, List.getElem_toArray, List.getElem_cons_succ, List.getElem_cons_zero, List.setIfInBounds_toArray, List.set_cons_succ, List.set_cons_zero]
            refine wpAnyH_take (i := 19) (v := ?_) rfl (by kernel_rfl) (by kernel_rfl) (by kernel_rfl) (fun _ _ _ h => h) (Or.inl ⟨by rfl, ?_⟩) hS ?_
            rotate_left
            · intro w hSw; skip; go_simp; try with_reducible rfl
            try simp only [Act.put, List.getElem_toArray, List.getElem_cons_succ, List.getElem_cons_zero, List.setIfInBounds_toArray, List.set_cons_succ, List.set_cons_zero]
            refine wpAnyH_ready (rs := [17]) (by kernel_rfl) (by simp) ?_
            refine AllReadyH.cons rfl (fun K hK => ?_) AllReadyH.nil
            go_simp
            refine Calls.mono (C1.out v2 (HT.out.next hB6)) ?_
            rintro e v3 ⟨rfl, hb⟩
            replace hB6 := hB6.trans (hb.mono hB6.size)
            replace hra := hra.grown hb
            clear hb
            refine hK.out _ _ trivial (fun hS => ?_)
            clear hK K
            try simp only [Act.put, List.getElem_toArray, List.getElem_cons_succ, List.getElem_cons_zero, List.setIfInBounds_toArray, List.set_cons_succ, List.set_cons_zero]
            refine wpAnyH_take (i := 20) (v := ?_) rfl (by kernel_rfl) (by kernel_rfl) (by kernel_rfl) (fun _ _ _ h => h) (Or.inl ⟨by rfl, ?_⟩) hS ?_
            rotate_left
            · intro w hSw; skip; go_simp; try with_reducible rfl
            try simp only [Act.put, List.getElem_toArray, List.getElem_cons_succ, List.getElem_cons_zero, List.setIfInBounds_toArray, List.set_cons_succ, List.set_cons_zero]
            refine wpAnyH_take (i := 21) (v := ?_) rfl (by kernel_rfl) (by kernel_rfl) (by kernel_rfl) (fun _ _ _ h => h) (Or.inl ⟨by rfl, ?_⟩) hS ?_
            rotate_left
            · intro w hSw; skip; go_simp; try with_reducible rfl
            try simp only [Act.put, List.getElem_toArray, List.getElem_cons_succ, List.getElem_cons_zero, List.setIfInBounds_toArray, List.set_cons_succ, List.set_cons_zero]
            refine wpAnyH_take (i := 22) (v := ?_) rfl (by kernel_rfl) (by kernel_rfl) (by kernel_rfl) (fun _ _ _ h => h) (Or.inl ⟨by rfl, ?_⟩) hS ?_
            rotate_left
            · intro w hSw; skip; go_simp; try with_reducible rfl
            try simp only [Act.put, List.getElem_toArray, List.getElem_cons_succ, List.getElem_cons_zero, List.setIfInBounds_toArray, List.set_cons_succ, List.set_cons_zero]
            refine wpAnyH_take (i := 23) (v := ?_) rfl (by kernel_rfl) (by kernel_rfl) (by kernel_rfl) (fun _ _ _ h => h) (Or.inl ⟨by rfl, ?_⟩) hS ?_
            rotate_left
            · intro w hSw; skip; go_simp; try with_reducible rfl
            try simp only [Act.put, List.getElem_toArray, List.getElem_cons_succ, List.getElem_cons_zero, List.setIfInBounds_toArray, List.set_cons_succ, List.set_cons_zero]
            refine wpAnyH_take (i := 24) (v := ?_) rfl (by kernel_rfl) (by kernel_rfl) (by kernel_rfl) (fun _ _ _ h => h) (Or.inl ⟨by rfl, ?_⟩) hS ?_
            rotate_left
            · intro w hSw; skip; go_simp; try with_reducible rfl
            try simp only [Act.put, List.getElem_toArray, List.getElem_cons_succ, List.getElem_cons_zero, List.setIfInBounds_toArray, List.set_cons_succ, List.set_cons_zero]
            refine wpAnyH_take (i := 26) (v := ?_) rfl (by kernel_rfl) (by kernel_rfl) (by kernel_rfl) (fun _ _ _ h => h) (Or.inl ⟨by rfl, ?_⟩) hS ?_
            rotate_left
            · intro w hSw; skip; go_simp; try with_reducible rfl
            try simp only [Act.put, List.getElem_toArray, List.getElem_cons_succ, List.getElem_cons_zero, List.setIfInBounds_toArray, List.set_cons_succ, List.set_cons_zero]
            refine wpAnyH_take (i := 27) (v := ?_) rfl (by kernel_rfl) (by kernel_rfl) (by kernel_rfl) (fun _ _ _ h => h) (Or.inl ⟨by rfl, ?_⟩) hS ?_
            rotate_left
            · intro w hSw; skip; go_simp; try with_reducible rfl
            try simp only [Act.put, List.getElem_toArray, List.getElem_cons_succ, List.getElem_cons_zero, List.setIfInBounds_toArray, List.set_cons_succ, List.set_cons_zero]
            refine wpAnyH_ready (rs := [25]) (by kernel_rfl) (by simp) ?_
            refine AllReadyH.cons rfl (fun K hK => ?_) AllReadyH.nil
            go_simp
            refine Calls.mono (HI8.out v3 hra (HT.out.next hB6)) ?_
            rintro e v4 ⟨va, rfl, hoa, hb⟩
            obtain ⟨xi, yi, rfl, -, hri⟩ := hoa.row
            clear hoa
            replace hB6 := hB6.trans (hb.mono hB6.size)
            replace hra := hra.grown hb
            clear hb
            refine hK.out _ _ trivial (fun hS => ?_)
            clear hK K
            try simp only [Act.put, List.getElem_toArray, List.getElem_cons_succ, List.getElem_cons_zero, List.setIfInBounds_toArray, List.set_cons_succ, List.set_cons_zero]
            refine wpAnyH_ready (rs := [28]) (by kernel_rfl) (by simp) ?_
            refine AllReadyH.cons rfl (fun K hK => ?_) AllReadyH.nil
            go_simp
            refine Calls.mono (HS8.out v4 hra) ?_
            rintro e v5 ⟨vb, rfl, hob, hb⟩
            obtain ⟨xj, yj, rfl, -, hrj⟩ := hob.row
            clear hob
            replace hri := hri.grown hb
            replace hB6 := hB6.trans (hb.mono hB6.size)
            replace hra := hra.grown hb
            clear hb
            refine hK.out _ _ trivial (fun hS => ?_)
            clear hK K
            try simp only [Act.put, List.getElem_toArray, List.getElem_cons_succ, List.getElem_cons_zero, List.setIfInBounds_toArray, List.set_cons_succ, List.set_cons_zero]
            refine wpAnyH_ready (rs := [29]) (by kernel_rfl) (by simp) ?_
            refine AllReadyH.cons rfl (fun K hK => ?_) AllReadyH.nil
            go_simp
            refine Calls.mono (HSM.out v5 xi xj yi yj hri hrj) ?_
            rintro e v6 ⟨rfl, hb⟩
            replace hB6 := hB6.trans (hb.mono hB6.size)
            replace hra := hra.grown hb
            clear hb
            refine hK.out _ _ trivial (fun hS => ?_)
            clear hK K
            try simp only [Act.put, List.getElem_toArray, List.getElem_cons_succ, List.getElem_cons_zero, List.setIfInBounds_toArray, List.set_cons_succ, List.set_cons_zero]
            refine wpAnyH_take (i := 30) (v := ?_) rfl (by kernel_rfl) (by kernel_rfl) (by kernel_rfl) (fun _ _ _ h => h) (Or.inl ⟨by rfl, ?_⟩) hS ?_
            rotate_left
            · intro w hSw; skip; go_simp; try with_reducible rfl
            try simp only [Act.put, List.getElem_toArray, List.getElem_cons_succ, List.getElem_cons_zero, List.setIfInBounds_toArray, List.set_cons_succ, List.set_cons_zero]
            refine wpAnyH_take (i := 31) (v := ?_) rfl (by kernel_rfl) (by kernel_rfl) (by kernel_rfl) (fun _ _ _ h => h) (Or.inl ⟨by rfl, ?_⟩) hS ?_
            rotate_left
            · intro w hSw; skip; go_simp; try with_reducible rfl
            try simp only [Act.put, List.getElem_toArray, List.getElem_cons_succ, List.getElem_cons_zero, List.setIfInBounds_toArray, List.set_cons_succ, List.set_cons_zero]
            clear hS
            refine wpAnyH_done (by kernel_rfl) ?_ _
            go_wp2
            go_ret
            exact ⟨by first | rfl | (simp; done), hB6⟩
  · have hd : decide ((1048576 : Int) < (len0 : Int)) = true := by simp; omega
    clear hc
    go_enter Tryd.func3, Tryd.ntmps3
    go_wp2_with fail
    refine (big_any a0 len0 cap0 _).mono ?_
    rintro e w1 ⟨rfl, rfl⟩
    go_wp2
    go_ret
    exact ⟨rfl, Below.refl _ _⟩

theorem own : ownKnob Tryd.prog.godebug = none := by kernel_rfl
theorem laidOut : laidOutB Tryd.prog = true := by kernel_rfl
set_option maxRecDepth 100000 in
theorem contract (H : Type) (enc : TypeId × Value → H) (W : World) (base : Nat) (args : Array Value) (ds gs : List (DataW H)) (before : List MemPlace)
    (hval : ∀ (j : Nat) t v, Tryd.f3.params[j]? = some t → args[j]? = some v → Value.okWide Tryd.prog W .any base t v)
    (hW : DataW.Whole enc Tryd.prog Tryd.f3.params.toList Rows.fnBlocksSpec.vars false W args.toList ds gs before) (hL : laidMetH Tryd.prog Rows.fnBlocksRow.laid W) :
    Calls Tryd.prog 3 args W fun e W' => ∃ v, e = .returned v ∧ Rows.fnBlocksSpec.post enc Tryd.prog Tryd.f3 false true false false W args v W' := by
  have hW' := hW
  obtain ⟨p, q, hA0, hV, rfl, hfz, hnd⟩ := hW
  have hA : DataW.TrodAll enc Tryd.prog W 0 (fun _ => true) true Tryd.f3.params.toList args.toList ds p := hA0
  rw [Tryd.params3] at hA hval
  obtain ⟨v0, vs0, d0, ds0, p0, q0, hargs, rfl, rfl, h0, r0⟩ := trodAll_cons hA
  obtain ⟨rfl, rfl, rfl⟩ := trodAll_nil r0
  obtain rfl : args = #[v0] := by cases args; simp_all
  have hV0 : DataW.TrodVars enc Tryd.prog W (fun _ => true) ["loop.example/g00466/impl.startWords", "loop.example/g00466/impl.roundWords"] gs q := hV
  obtain ⟨dv, dv2, rfl⟩ : ∃ x y, gs = [x, y] := by
    cases gs with
    | nil => exact hV0.elim
    | cons x gs => cases gs with
      | nil => obtain ⟨_, _, _, _, _, _, _, _, _, _, h, _⟩ := hV0; exact h.elim
      | cons y gs => obtain ⟨_, _, _, _, _, _, _, _, _, _, h, _⟩ := hV0; obtain ⟨_, _, _, _, _, _, _, _, _, _, h, _⟩ := h; cases gs with
        | nil => exact ⟨x, y, rfl⟩
        | cons z gs => exact h.elim
  obtain ⟨a0, len0, cap0, rfl⟩ := okWide_slice Tryd.underlying22 (hval 0 22 v0 rfl rfl)
  have k0 := h0
  have lt0 : ∀ x ∈ p0, x.block < W.heap.size := by obtain ⟨m, hm⟩ := k0; exact DataW.trod_lt m _ _ _ hm
  have hcode0 := code_of h0
  clear hA0
  refine (walk a0 len0 cap0  W hcode0 (table hL)).mono fun e W' ⟨he, bel⟩ => ?_
  subst he
  exact ⟨_, rfl, _, _, _, [], _, q, hW', trodAll_mk1 (shut_bool Tryd.underlying4 _), (trodAll_cons_mk (Below.trod laidOut (by kernel_rfl) (of_decide_eq_true (by kernel_rfl)) k0 bel lt0) trodAll_mk0), bel.trodVars laidOut (by kernel_rfl) hV, bel.frame _, fun h => by cases h⟩

def relay (cs : Array Value) : Obj → Obj
  | .cells _ t frozen => .cells cs t frozen
  | o => o
noncomputable def laidWorld (os : Os) : World := { World.holding Tryd.prog os ⟨#[], #[], []⟩ with heap := (((World.holding Tryd.prog os ⟨#[], #[], []⟩).heap.modify 1 (relay #[.int .u32 1116352408, .int .u32 1899447441, .int .u32 3049323471, .int .u32 3921009573, .int .u32 961987163, .int .u32 1508970993, .int .u32 2453635748, .int .u32 2870763221, .int .u32 3624381080, .int .u32 310598401, .int .u32 607225278, .int .u32 1426881987, .int .u32 1925078388, .int .u32 2162078206, .int .u32 2614888103, .int .u32 3248222580, .int .u32 3835390401, .int .u32 4022224774, .int .u32 264347078, .int .u32 604807628, .int .u32 770255983, .int .u32 1249150122, .int .u32 1555081692, .int .u32 1996064986, .int .u32 2554220882, .int .u32 2821834349, .int .u32 2952996808, .int .u32 3210313671, .int .u32 3336571891, .int .u32 3584528711, .int .u32 113926993, .int .u32 338241895, .int .u32 666307205, .int .u32 773529912, .int .u32 1294757372, .int .u32 1396182291, .int .u32 1695183700, .int .u32 1986661051, .int .u32 2177026350, .int .u32 2456956037, .int .u32 2730485921, .int .u32 2820302411, .int .u32 3259730800, .int .u32 3345764771, .int .u32 3516065817, .int .u32 3600352804, .int .u32 4094571909, .int .u32 275423344, .int .u32 430227734, .int .u32 506948616, .int .u32 659060556, .int .u32 883997877, .int .u32 958139571, .int .u32 1322822218, .int .u32 1537002063, .int .u32 1747873779, .int .u32 1955562222, .int .u32 2024104815, .int .u32 2227730452, .int .u32 2361852424, .int .u32 2428436474, .int .u32 2756734187, .int .u32 3204031479, .int .u32 3329325298])).modify 0 (relay #[.int .u32 1779033703, .int .u32 3144134277, .int .u32 1013904242, .int .u32 2773480762, .int .u32 1359893119, .int .u32 2600822924, .int .u32 528734635, .int .u32 1541459225])) }
theorem laid_met (os : Os) : laidMet Tryd.prog Rows.fnBlocksRow.laid ((laidWorld os).forCall (fun _ _ => 0) ⟨#[], #[Value.slice none 0 0], []⟩).memory := laidMet_of_run' 8 (by kernel_rfl) (by kernel_rfl)
theorem reads (os : Os) {H : Type} (enc : TypeId × Value → H) : ∃ places, DataW.whole enc Tryd.prog ((laidWorld os).forCall (fun _ _ => 0) ⟨#[], #[Value.slice none 0 0], []⟩).memory Tryd.f3.params.toList Rows.fnBlocksSpec.vars false #[Value.slice none 0 0].toList 8 = some ([.nil], [Rows.laid_loop_example_g00466_impl_startWords, Rows.laid_loop_example_g00466_impl_roundWords], places) := ⟨MemPlace.row ⟨0, 0, none⟩ 8 ++ MemPlace.row ⟨1, 0, none⟩ 64, by kernel_rfl⟩
set_option maxRecDepth 100000 in
theorem lifted (os : Os) (started : os.Started) (H : Type) (enc : TypeId × Value → H) (F : Stop.Interp) :
    ReturnsInHanded {} Tryd.checked os 3 .any ((OpenSpec.ofChange Rows.fnBlocksSpec).preRow enc Tryd.prog Tryd.f3 Rows.fnBlocksRow.domain false Rows.fnBlocksRow.laid) (((OpenSpec.ofChange Rows.fnBlocksSpec).at F).post enc Tryd.prog Tryd.f3 false true false false) := by
  obtain ⟨places, hx⟩ := reads os enc
  refine returnsInHanded_of_row (C := Tryd.checked) (s := OpenSpec.ofChange Rows.fnBlocksSpec) own started (by kernel_rfl) Tryd.func3
    (witness_row_at (enc := enc) (C := Tryd.checked) false (laidWorld os) #[Value.slice none 0 0] rfl (by kernel_rfl) (by kernel_rfl) (by kernel_rfl)
      (OpenSpec.preRow_of_cond 8 hx (by kernel_rfl) (fun k hk => by cases hk) (by kernel_rfl) (laid_met os))) ?_
  intro W base args ds gs before hval hW _ _ _ hL _ _
  exact contract H enc W base args ds gs before hval hW hL

theorem said : Rows.FnBlocksSaid :=
  OpenClaim.holds_of_cond 3 Tryd.f3 rfl rfl rfl rfl rfl rfl rfl ⟨rfl, rfl, rfl, rfl, rfl⟩ rfl rfl rfl rfl rfl (by kernel_rfl) Tryd.func3 (by kernel_rfl)
    (of_decide_eq_true (by kernel_rfl)) (by unfold Func.isWrapper; first | (rw [if_pos (by decide +kernel)]; kernel_rfl) | (rw [if_neg (by decide +kernel)]; exact ⟨rfl, rfl⟩))
    (fun os started H enc _ F => by rw [OpenClaim.pre_eq_preRow]; exact lifted os started H enc F)
theorem plain (f : FuncId) (fn : Func) (hf : Tryd.pinned.checked.prog.funcNamed "loop.example/g00466/laws.FnBlocks" = some f) (hfn : Tryd.pinned.checked.prog.funcs[f]? = some fn) :
    false = Tryd.pinned.checked.prog.looks [] ∧ ∀ (j : Nat) t, fn.params[j]? = some t → Tryd.pinned.checked.prog.wantsStandIn t = false := by
  obtain rfl : f = 3 := Option.some.inj ((show Tryd.prog.funcNamed "loop.example/g00466/laws.FnBlocks" = some 3 by kernel_rfl).symm.trans hf) |>.symm
  obtain rfl : fn = Tryd.f3 := (Option.some.inj (Tryd.func3.symm.trans hfn)).symm
  refine ⟨by kernel_rfl, fun j t ht => ?_⟩
  rw [Tryd.params3] at ht
  have hm : t = 22 := by simpa using Array.mem_of_getElem? ht
  rcases hm with rfl
  · exact (show Tryd.prog.wantsStandIn 22 = false by kernel_rfl)
end fnBlocks

theorem fnBlocks_card : Rows.FnBlocksCardSaid :=
  Claim7.holds_tied_plain_at .later [] _ _ _ _ fnBlocks.said (fun _ h => by cases h) (by kernel_rfl) (fun _ h => by cases h) fnBlocks_row_tie rfl ⟨rfl, rfl⟩ (by kernel_rfl) rfl fnBlocks.plain (by kernel_rfl)
#print axioms fnBlocks_card
end Go.Proofs.YthpkhbcahihbnaaDoor
