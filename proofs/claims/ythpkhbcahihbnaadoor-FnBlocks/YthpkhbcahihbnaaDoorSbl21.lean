/- A state behind a block (chapter 21): ShaBlock of both sides. -/
import Derived.Test.YthpkhbcahihbnaaDoorDigs21
import Derived.Test.YthpkhbcahihbnaaDoorWd24
import Derived.Test.YthpkhbcahihbnaaDoorCloneI
import Derived.Test.YthpkhbcahihbnaaDoorRowS
import Derived.Test.YthpkhbcahihbnaaDoorIn01
import Derived.Test.YthpkhbcahihbnaaDoorCut21
import Derived.WalkKit
import Derived.WalkLawsBesides
import Derived.WalkSpells
import Derived.BigRegion
import Derived.OrdersHeld
import Derived.OwnWalk
import Derived.Laws.OwnMore
import Derived.Laws.AppendOwnNone
import Derived.Deep.DeepCutAuto
import Derived.Deep.RegionHeld
import Derived.Deep.RegionHeld3
import Derived.Deep.MidRow
import Derived.Great.Walk
namespace Go.Proofs.YthpkhbcahihbnaaDoor
open Go.RowKit Go.PlainAid
set_option maxRecDepth 20000
set_option linter.unusedVariables false
set_option linter.unusedSimpArgs false
/-- The state of a list of words. -/
def ofL8 (xs : List Int) : H8 := ⟨wordsOf xs 8 0, wordsOf xs 8 1, wordsOf xs 8 2, wordsOf xs 8 3, wordsOf xs 8 4, wordsOf xs 8 5, wordsOf xs 8 6, wordsOf xs 8 7⟩
theorem ofL8_ok (xs : List Int) : (ofL8 xs).Ok := ⟨wordsOf_lt xs 8 0, wordsOf_lt xs 8 1, wordsOf_lt xs 8 2, wordsOf_lt xs 8 3, wordsOf_lt xs 8 4, wordsOf_lt xs 8 5, wordsOf_lt xs 8 6, wordsOf_lt xs 8 7⟩
theorem ofL8_at (xs : List Int) : ∀ i, i < 8 → wordsOf xs 8 i = (ofL8 xs).at8 i := by
  intro i hi
  rcases (show i = 0 ∨ i = 1 ∨ i = 2 ∨ i = 3 ∨ i = 4 ∨ i = 5 ∨ i = 6 ∨ i = 7 by omega) with rfl | rfl | rfl | rfl | rfl | rfl | rfl | rfl <;> rfl
def sblOk (xs : List Int) (t : ByteArray) : Bool := areB xs 8 && decide (t.size = 64)
def sblF (xs : List Int) (t : ByteArray) : Nat → Nat := (block8 (ofL8 xs) (blkW t)).at8
theorem sblF_lt (xs : List Int) (t : ByteArray) : Words (sblF xs t) := fun i => getD_lt (block8_ok _ _).all i
/-- What ShaBlock answers. -/
def sblL (xs : List Int) (t : ByteArray) : List Int := if sblOk xs t = true then bytesV 8 (sblF xs t) else xs
theorem sblL_len (xs : List Int) (t : ByteArray) (h : xs.length ≤ 1048576) : (sblL xs t).length ≤ 2097152 := by
  unfold sblL
  split
  · rw [bytesV_len]; omega
  · omega
theorem areB_yes {xs : List Int} {n : Nat} (h : areB xs n = true) : xs.length = n ∧ allW xs = true := by
  unfold areB at h
  rw [Bool.and_eq_true] at h
  exact ⟨of_decide_eq_true h.1, h.2⟩
set_option maxHeartbeats 1600000 in
theorem implSbl_any (a : Option Addr) (cap : Nat) (xs : List Int) (t : ByteArray) (w : World) (hl : xs.length ≤ 1048576) (ha : AddrN a cap) (hr : RowI w.heap.size w a xs) (hk : KeysHere w) :
    Calls Tryd.prog 8 #[.slice a xs.length cap, .string t] w fun e w' => ∃ v, e = .returned v ∧ OwnInt w.heap.size w' v (sblL xs t) ∧ Below w.heap.size w w' := by
  have HA : Hid (Calls Tryd.prog 20 #[.slice a xs.length cap, .int .i64 8] w fun e w' => e = .returned (.bool (areB xs 8)) ∧ w = w') := areWords_any a cap 8 xs w hl hr
  have HCL : Hid _ := cloneI_any a cap xs w hl ha hr
  cases hb : areB xs 8
  · rw [hb] at HA
    have HE : Hid (sblL xs t = xs) := by show _ = _; unfold sblL sblOk; rw [hb]; rfl
    clear hb hr hk ha
    go_enter Tryd.func8, Tryd.ntmps8
    go_wp2_with fail
    refine Calls.mono HA.out ?_
    rintro e w1 ⟨rfl, rfl⟩
    go_wp2_with fail
    refine Calls.mono HCL.out ?_
    rintro e w2 ⟨v, rfl, ho, hb⟩
    go_wp2
    go_ret
    exact ⟨_, rfl, by rw [HE.out]; exact ho, hb⟩
  · obtain ⟨h8, hall⟩ := areB_yes hb
    rw [hb] at HA
    by_cases h64 : t.size = 64
    · have HE : Hid (sblL xs t = bytesV 8 (sblF xs t)) := by show _ = _; unfold sblL sblOk; rw [hb, decide_eq_true h64]; rfl
      have hi64 : ((t.size : Nat) : Int) = 64 := by omega
      have HR : Hid (RowI w.heap.size w a xs) := hr
      have HK : Hid (KeysHere w) := hk
      have hgl := hk.lt
      have HBE : Hid (∀ wz, KeysHere wz → Calls Tryd.prog 22 #[.agg (rowV .u32 8 (ofL8 xs).at8), .string t] wz fun e w' => e = .returned (.agg (rowV .u32 8 (sblF xs t))) ∧ Below wz.heap.size wz w') := fun wz h => behind_any (ofL8 xs) t wz (ofL8_ok xs) h64 h
      have HF : Hid (Words (sblF xs t)) := sblF_lt xs t
      have HAT : Hid (∀ i, i < 8 → wordsOf xs 8 i = (ofL8 xs).at8 i) := ofL8_at xs
      generalize sblF xs t = F at HE HBE HF
      generalize (ofL8 xs).at8 = I at HBE HAT
      clear hr hk hb hall ha HCL h64
      rw [h8] at HA ⊢
      go_enter Tryd.func8, Tryd.ntmps8
      go_wp2_with fail
      refine Calls.mono HA.out ?_
      rintro e w1 ⟨rfl, rfl⟩
      have hA := heap_alloc_new w (.cells (rowV .u32 8 (fun _ => 0)) 41)
      have hB : Below w.heap.size w (w.alloc (.cells (rowV .u32 8 (fun _ => 0)) 41)) := (Below.refl _ _).alloc (Nat.le_refl _) _
      rw [← zeroSha] at hA hB
      clear HA
      go_wp2
      generalize w.alloc (.cells #[.int .u32 0, .int .u32 0, .int .u32 0, .int .u32 0, .int .u32 0, .int .u32 0, .int .u32 0, .int .u32 0] 41) = w0 at hA hB ⊢
      rw [zeroSha] at hA
      have HW0 : Hid (RowAt w0 w.heap.size 41 .u32 8 (wordsOf xs 0)) := RowAt.ext (f := fun _ => 0) hA (fun i _ => by unfold wordsOf; rw [if_neg (by omega)])
      have HB0 : Hid (Below w.heap.size w w0) := hB
      clear hA hB
      go_loopw [20] (fun i wr => ∃ k : Nat, k ≤ 8 ∧ i = .int .i64 (k : Int) ∧ Hid (Below w.heap.size w wr) ∧ Hid (RowAt wr w.heap.size 41 .u32 8 (wordsOf xs k)))
        (fun i _ => 8 - (intOf i).toNat)
      case atStart => exact ⟨0, Nat.zero_le _, rfl, HB0, HW0⟩
      case round =>
        clear HB0 HW0
        obtain ⟨k, hk, rfl, HB, HW⟩ := hrel
        by_cases hlt : k < 8
        · obtain ⟨b, off, rfl⟩ := HR.out.addr (show k < xs.length by omega)
          obtain ⟨hb, c0⟩ := HR.out.at HB.out (show k < xs.length by omega)
          have hi0 : (0 : Int) ≤ (k : Int) := by omega
          have hi1 : (k : Int) < 8 := by omega
          have c1 := HW.out.cell hlt
          have z1 := HW.out.froz k
          have HY : Hid (xs.getD k 0 % 4294967296 = (((xs.getD k 0 % 4294967296).toNat : Nat) : Int)) := by show _ = _; omega
          have HS : Hid (RowAt _ w.heap.size 41 .u32 8 _) := HW.out.set hlt (xs.getD k 0 % 4294967296).toNat
          have HN := wordsOf_upd xs k
          generalize xs.getD k 0 = y at c0 HY HS HN
          go_wp2
          rw [HY.out]
          go_roundw
          case rel => exact ⟨k + 1, by omega, by go_num, HB.out.setCell (Nat.le_refl _) _, by rw [← HN]; exact HS⟩
          case measure => simp [intOf]; omega
        · obtain rfl : k = 8 := by omega
          have hW : wr.heap[w.heap.size]? = some (.cells (rowV .u32 8 I) 41 (0, 0)) := HW.out.ext HAT.out
          have HKr : Hid (KeysHere wr) := HK.out.next HB.out hgl
          go_upto_region 9 with fail
          refine wp_region_lit ?_
          refine wpl_load rfl _ _ rfl _ rfl w.heap.size (rowV .u32 8 I) rfl 41 (0, 0) hW _ Tryd.underlying41 rfl (sizeShaV _) ?_
          try simp only [Act.put, List.getElem_toArray, List.getElem_cons_succ, List.getElem_cons_zero, List.setIfInBounds_toArray, List.set_cons_succ, List.set_cons_zero]
          refine Go.Great.wpList_runTo rfl _ rfl (.string t) wr (by unfold execOp; go_simp) ?_
          try simp only [Act.put, List.getElem_toArray, List.getElem_cons_succ, List.getElem_cons_zero, List.setIfInBounds_toArray, List.set_cons_succ, List.set_cons_zero]
          go_wp2_with fail
          refine Calls.mono (HBE.out _ HKr.out) ?_
          rintro e w3 ⟨rfl, hb3⟩
          rename_i hq
          refine hq _ _ ?_
          clear hq
          try simp only [Act.put, List.getElem_toArray, List.getElem_cons_succ, List.getElem_cons_zero, List.setIfInBounds_toArray, List.set_cons_succ, List.set_cons_zero]
          have hW3 := RowAt.below (f := I) hW hb3 HW.out.lt
          have hB3 := HB.out.trans (hb3.mono HB.out.size)
          refine wpList_store_rowTo rfl _ _ _ rfl rfl w.heap.size (rowV .u32 8 F) rfl rfl 41 (rowV .u32 8 I) hW3 (sizeShaV _) (by rw [rowV_size, rowV_size]) (rowV_one _ _ _) ?_
          have HR4 : Hid (RowAt (w3.setRow w.heap.size (rowV .u32 8 F)) w.heap.size 41 .u32 8 F) := setRow_heap _ _ _ _ _ _ hW3
          have HB4 : Hid (Below w.heap.size w (w3.setRow w.heap.size (rowV .u32 8 F))) := below_setRow hB3 (Nat.le_refl _) _
          generalize w3.setRow w.heap.size (rowV .u32 8 F) = w4 at HR4 HB4 ⊢
          clear hb3 hW3 hB3 hW HB HW
          have HNU : Hid _ := numbers_any w.heap.size 8 8 F w4 HF.out (by omega) HR4.out.toC
          go_wp2_with fail
          refine Calls.mono HNU.out ?_
          rintro e w5 ⟨v, rfl, ho, hb⟩
          have HB5 : Hid (Below w.heap.size w w5) := HB4.out.trans (hb.mono HB4.out.size)
          have HO : Hid (OwnInt w.heap.size w5 v (sblL xs t)) := by rw [HE.out]; exact ho.base HB4.out.size
          clear ho hb HNU
          go_wp2
          go_ret
          exact ⟨_, rfl, HO.out, HB5.out⟩
    · have HE : Hid (sblL xs t = xs) := by show _ = _; unfold sblL sblOk; rw [hb, decide_eq_false h64]; rfl
      have hi64 : (((t.size : Nat) : Int) != 64) = true := by simp; omega
      have hj64 : ¬ ((t.size : Nat) : Int) = 64 := by omega
      clear hb hr hk ha h8 hall
      go_enter Tryd.func8, Tryd.ntmps8
      go_wp2_with fail
      refine Calls.mono HA.out ?_
      rintro e w1 ⟨rfl, rfl⟩
      go_wp2_with fail
      refine Calls.mono HCL.out ?_
      rintro e w2 ⟨v, rfl, ho, hb⟩
      go_wp2
      go_ret
      exact ⟨_, rfl, by rw [HE.out]; exact ho, hb⟩
end Go.Proofs.YthpkhbcahihbnaaDoor
