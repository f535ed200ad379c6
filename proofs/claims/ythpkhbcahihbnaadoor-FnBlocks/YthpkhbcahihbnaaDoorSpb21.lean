/- The specification's state behind a block (chapter 21). -/
import Derived.Test.YthpkhbcahihbnaaDoorRing21
import Derived.Test.YthpkhbcahihbnaaDoorTurn21
import Derived.Test.YthpkhbcahihbnaaDoorTurned21
import Derived.Test.YthpkhbcahihbnaaDoorTabk21
import Derived.Test.YthpkhbcahihbnaaDoorHeldF
import Derived.WalkKit
import Derived.WalkLawsBesides
import Derived.WalkSpells
import Derived.BigRegion
import Derived.OrdersHeld
import Derived.Deep.RegionHeld
import Derived.Deep.RegionHeld3
import Derived.Deep.MidRow
import Derived.Great.Walk
namespace Go.Proofs.YthpkhbcahihbnaaDoor
open Go.RowKit Go.PlainAid
set_option maxRecDepth 200000
set_option linter.unusedVariables false
set_option linter.unusedSimpArgs false
/-- What stands in memory ahead of the rounds. -/
structure Lst (w wr : World) (h wf : Nat → Nat) : Prop where
  bel : Below w.heap.size w wr
  hr : RowAt wr w.heap.size 40 .u32 8 h
  kr : RowAt wr (w.heap.size + 1) 52 .u32 64 keysF
  res : RowAt wr (w.heap.size + 2) 40 .u32 8 (fun _ => 0)
  wr : RowAt wr (w.heap.size + 3) 52 .u32 64 wf
theorem Lst.drew {w wr : World} {h wf : Nat → Nat} (l : Lst w wr h wf) : Lst w wr.drew h wf := ⟨l.bel.drew, l.hr.drew, l.kr.drew, l.res.drew, l.wr.drew⟩
theorem Lst.set {w wr : World} {h wf : Nat → Nat} (l : Lst w wr h wf) {k : Nat} (hk : k < 64) (x : Nat) : Lst w (wr.setCell ⟨w.heap.size + 3, k, none⟩ (.int .u32 (x : Int))) h (upd wf k x) :=
  ⟨l.bel.setCell (show w.heap.size ≤ w.heap.size + 3 by omega) _, (Below.heap_setCell _ _ _ _ (show w.heap.size ≠ w.heap.size + 3 by omega)).trans l.hr, (Below.heap_setCell _ _ _ _ (show w.heap.size + 1 ≠ w.heap.size + 3 by omega)).trans l.kr, (Below.heap_setCell _ _ _ _ (show w.heap.size + 2 ≠ w.heap.size + 3 by omega)).trans l.res, l.wr.set hk x⟩
theorem Lst.ext {w wr : World} {h wf wf' : Nat → Nat} (l : Lst w wr h wf) (e : ∀ i, i < 64 → wf i = wf' i) : Lst w wr h wf' := ⟨l.bel, l.hr, l.kr, l.res, l.wr.ext e⟩
theorem Lst.next {w wr w' : World} {h wf : Nat → Nat} (l : Lst w wr h wf) (hb : Below wr.heap.size wr w') : Lst w w' h wf := ⟨l.bel.trans (hb.mono l.bel.size), l.hr.below hb l.hr.lt, l.kr.below hb l.kr.lt, l.res.below hb l.res.lt, l.wr.below hb l.wr.lt⟩
/-- What stands there within the rounds. -/
structure Rst (w wr : World) (gs : Nat) (h wf st : Nat → Nat) : Prop where
  l : Lst w wr h wf
  st : RowAt wr gs 40 .u32 8 st
  lt : w.heap.size + 3 < gs
theorem Rst.drew {w wr : World} {gs : Nat} {h wf st : Nat → Nat} (r : Rst w wr gs h wf st) : Rst w wr.drew gs h wf st := ⟨r.l.drew, r.st.drew, r.lt⟩
theorem Rst.set {w wr : World} {gs : Nat} {h wf st : Nat → Nat} (r : Rst w wr gs h wf st) {k : Nat} (hk : k < 8) (x : Nat) : Rst w (wr.setCell ⟨gs, k, none⟩ (.int .u32 (x : Int))) gs h wf (upd st k x) :=
  ⟨⟨r.l.bel.setCell (show w.heap.size ≤ gs by have := r.lt; omega) _, (Below.heap_setCell _ _ _ _ (show w.heap.size ≠ gs by have := r.lt; omega)).trans r.l.hr, (Below.heap_setCell _ _ _ _ (show w.heap.size + 1 ≠ gs by have := r.lt; omega)).trans r.l.kr, (Below.heap_setCell _ _ _ _ (show w.heap.size + 2 ≠ gs by have := r.lt; omega)).trans r.l.res, (Below.heap_setCell _ _ _ _ (show w.heap.size + 3 ≠ gs by have := r.lt; omega)).trans r.l.wr⟩, r.st.set hk x, r.lt⟩
theorem Rst.ext {w wr : World} {gs : Nat} {h wf st st' : Nat → Nat} (r : Rst w wr gs h wf st) (e : ∀ i, i < 8 → st i = st' i) : Rst w wr gs h wf st' := ⟨r.l, r.st.ext e, r.lt⟩
theorem Rst.hext {w wr : World} {gs : Nat} {h h' wf st : Nat → Nat} (r : Rst w wr gs h wf st) (e : ∀ i, i < 8 → h i = h' i) : Rst w wr gs h' wf st := ⟨⟨r.l.bel, r.l.hr.ext e, r.l.kr, r.l.res, r.l.wr⟩, r.st, r.lt⟩
theorem Rst.hset {w wr : World} {gs : Nat} {h wf st : Nat → Nat} (r : Rst w wr gs h wf st) {k : Nat} (hk : k < 8) (x : Nat) : Rst w (wr.setCell ⟨w.heap.size, k, none⟩ (.int .u32 (x : Int))) gs (upd h k x) wf st :=
  ⟨⟨r.l.bel.setCell (Nat.le_refl _) _, r.l.hr.set hk x, (Below.heap_setCell _ _ _ _ (show w.heap.size + 1 ≠ w.heap.size by omega)).trans r.l.kr, (Below.heap_setCell _ _ _ _ (show w.heap.size + 2 ≠ w.heap.size by omega)).trans r.l.res, (Below.heap_setCell _ _ _ _ (show w.heap.size + 3 ≠ w.heap.size by omega)).trans r.l.wr⟩, (Below.heap_setCell _ _ _ _ (show gs ≠ w.heap.size by have := r.lt; omega)).trans r.st, r.lt⟩
def sum8S (f g : Nat → Nat) (k : Nat) : Nat → Nat := fun i => if i < k then (f i + g i) % 4294967296 else f i
theorem sum8S_upd (f g : Nat → Nat) (k : Nat) : upd (sum8S f g k) k ((f k + g k) % 4294967296) = sum8S f g (k + 1) := by
  funext i
  unfold upd sum8S
  by_cases h : i = k
  · subst h; rw [if_pos rfl, if_pos (by omega)]
  · rw [if_neg h]
    by_cases h2 : i < k
    · rw [if_pos h2, if_pos (by omega)]
    · rw [if_neg h2, if_neg (by omega)]
theorem sum8S_all (s t : H8) : ∀ i, i < 8 → sum8S s.at8 t.at8 8 i = (add8 s t).at8 i := by
  intro i hi
  unfold sum8S
  rw [if_pos hi]
  rcases (show i = 0 ∨ i = 1 ∨ i = 2 ∨ i = 3 ∨ i = 4 ∨ i = 5 ∨ i = 6 ∨ i = 7 by omega) with rfl | rfl | rfl | rfl | rfl | rfl | rfl | rfl <;> rfl
theorem below_alloc21 (w : World) (o : Obj) : Below w.heap.size w (w.alloc o) := (Below.refl _ _).alloc (Nat.le_refl _) _
/-- The words of a block that stand there: n of them. -/
def wdTo (ws : List Nat) (n : Nat) : Nat → Nat := fun i => if i < n then wd ws i else 0
theorem wdTo_upd (ws : List Nat) (k : Nat) : upd (wdTo ws k) k (wd ws k) = wdTo ws (k + 1) := by
  funext i
  unfold upd wdTo
  by_cases h : i = k
  · subst h; rw [if_pos rfl, if_pos (by omega)]
  · rw [if_neg h]
    by_cases h2 : i < k
    · rw [if_pos h2, if_pos (by omega)]
    · rw [if_neg h2, if_neg (by omega)]
theorem zero64 : (#[.int .u32 0, .int .u32 0, .int .u32 0, .int .u32 0, .int .u32 0, .int .u32 0, .int .u32 0, .int .u32 0, .int .u32 0, .int .u32 0, .int .u32 0, .int .u32 0, .int .u32 0, .int .u32 0, .int .u32 0, .int .u32 0, .int .u32 0, .int .u32 0, .int .u32 0, .int .u32 0, .int .u32 0, .int .u32 0, .int .u32 0, .int .u32 0, .int .u32 0, .int .u32 0, .int .u32 0, .int .u32 0, .int .u32 0, .int .u32 0, .int .u32 0, .int .u32 0, .int .u32 0, .int .u32 0, .int .u32 0, .int .u32 0, .int .u32 0, .int .u32 0, .int .u32 0, .int .u32 0, .int .u32 0, .int .u32 0, .int .u32 0, .int .u32 0, .int .u32 0, .int .u32 0, .int .u32 0, .int .u32 0, .int .u32 0, .int .u32 0, .int .u32 0, .int .u32 0, .int .u32 0, .int .u32 0, .int .u32 0, .int .u32 0, .int .u32 0, .int .u32 0, .int .u32 0, .int .u32 0, .int .u32 0, .int .u32 0, .int .u32 0, .int .u32 0] : Array Value) = rowV .u32 64 (fun _ => 0) := rfl
theorem built64 : Tryd.prog.built 52 [] = some (rowV .u32 64 (fun _ => 0)) := by kernel_rfl
/-- Four bytes as a word. -/
theorem four_or (a b c d : Nat) (ha : a < 256) (hb : b < 256) (hc : c < 256) (hd : d < 256) : (a * 16777216 ||| b * 65536) ||| c * 256 ||| d = a * 16777216 + b * 65536 + c * 256 + d := by
  have h1 : a * 16777216 ||| b * 65536 = (a * 256 + b) * 65536 := by
    have := (Nat.two_pow_add_eq_or_of_lt (i := 24) (show b * 65536 < 2 ^ 24 by omega) a).symm
    rw [show (2 : Nat) ^ 24 = 16777216 by decide, Nat.mul_comm] at this
    rw [this]; omega
  have h2 : (a * 256 + b) * 65536 ||| c * 256 = ((a * 256 + b) * 256 + c) * 256 := by
    have := (Nat.two_pow_add_eq_or_of_lt (i := 16) (show c * 256 < 2 ^ 16 by omega) (a * 256 + b)).symm
    rw [show (2 : Nat) ^ 16 = 65536 by decide, Nat.mul_comm] at this
    rw [this]; omega
  rw [h1, h2, or_hi _ _ hd]; omega
set_option maxHeartbeats 6400000 in
theorem sblock_any (s : H8) (t : ByteArray) (w : World) (hs : s.Ok) (ht : t.size = 64) :
    Calls Tryd.prog 31 #[.agg (rowV .u32 8 s.at8), .string t, .agg (rowV .u32 64 keysF)] w fun e w' => e = .returned (.agg (rowV .u32 8 (block8 s (blkW t)).at8)) ∧ Below w.heap.size w w' := by
  have h64 : ((t.size : Nat) : Int) = 64 := by omega
  have h16 := blkW_len t
  have hltw := blkW_lt t
  have HLOW : Hid (∀ i, i < 16 → wd (blkW t) i = be4At (btN t) (4 * i)) := fun i hi => by
    rw [wd_low h16 hi]; unfold blkW; rw [wordsAt_at _ _ hi, Nat.zero_add]
  have HNEW : Hid (∀ r, 16 ≤ r → r < 64 → wd (blkW t) r = (wd (blkW t) (r - 16) + mixA (wd (blkW t) (r - 15)) + wd (blkW t) (r - 7) + mixB (wd (blkW t) (r - 2))) % 4294967296) := fun r h1 h2 => wd_new h16 h1 h2
  have HOK : Hid (∀ k, (rounds (blkW t) s k).Ok) := rounds_ok (blkW t) hs
  have HR0 : Hid (rounds (blkW t) s 0 = s) := rfl
  have HRS : Hid (∀ k, rounds (blkW t) s (k + 1) = turn8 (rounds (blkW t) s k) ((keysF k + wd (blkW t) k) % 4294967296)) := fun k => rfl
  have HBL : Hid (block8 s (blkW t) = add8 s (rounds (blkW t) s 64)) := rfl
  have HWD : Hid (∀ i, wd (blkW t) i < 4294967296) := wd_lt hltw
  clear h16 hltw ht
  generalize block8 s (blkW t) = B at HBL
  generalize blkW t = ws at *
  have hA2 : (((w.alloc (.cells (rowV .u32 8 s.at8) 40)).alloc (.cells (rowV .u32 64 keysF) 52)).alloc (.cells (rowV .u32 8 (fun _ => 0)) 40)).heap[w.heap.size + 2]? = some (.cells (rowV .u32 8 (fun _ => 0)) 40 (0, 0)) := by
    have := heap_alloc_new ((w.alloc (.cells (rowV .u32 8 s.at8) 40)).alloc (.cells (rowV .u32 64 keysF) 52)) (.cells (rowV .u32 8 (fun _ => 0)) 40)
    simpa using this
  have hA1 : (((w.alloc (.cells (rowV .u32 8 s.at8) 40)).alloc (.cells (rowV .u32 64 keysF) 52)).alloc (.cells (rowV .u32 8 (fun _ => 0)) 40)).heap[w.heap.size + 1]? = some (.cells (rowV .u32 64 keysF) 52 (0, 0)) := by
    have := heap_alloc_new (w.alloc (.cells (rowV .u32 8 s.at8) 40)) (.cells (rowV .u32 64 keysF) 52)
    exact (Lib.alloc_old _ _ _ (by simp)).trans (by simpa using this)
  have hA0 : (((w.alloc (.cells (rowV .u32 8 s.at8) 40)).alloc (.cells (rowV .u32 64 keysF) 52)).alloc (.cells (rowV .u32 8 (fun _ => 0)) 40)).heap[w.heap.size]? = some (.cells (rowV .u32 8 s.at8) 40 (0, 0)) := (Lib.alloc_old _ _ _ (by simp; omega)).trans ((Lib.alloc_old _ _ _ (by simp)).trans (heap_alloc_new w _))
  have hB0 : Below w.heap.size w (((w.alloc (.cells (rowV .u32 8 s.at8) 40)).alloc (.cells (rowV .u32 64 keysF) 52)).alloc (.cells (rowV .u32 8 (fun _ => 0)) 40)) := (((Below.refl _ _).alloc (Nat.le_refl _) _).alloc (by simp) _).alloc (by simp; omega) _
  have hsz0 : (((w.alloc (.cells (rowV .u32 8 s.at8) 40)).alloc (.cells (rowV .u32 64 keysF) 52)).alloc (.cells (rowV .u32 8 (fun _ => 0)) 40)).heap.size = w.heap.size + 3 := by simp
  go_enter Tryd.func31, Tryd.ntmps31
  go_upto_region 1 with fail
  rw [← zeroSha] at hA2 hA1 hA0 hB0 hsz0
  generalize ((w.alloc (.cells (rowV .u32 8 s.at8) 40)).alloc (.cells (rowV .u32 64 keysF) 52)).alloc (.cells #[.int .u32 0, .int .u32 0, .int .u32 0, .int .u32 0, .int .u32 0, .int .u32 0, .int .u32 0, .int .u32 0] 40) = w0 at hA2 hA1 hA0 hB0 hsz0 ⊢
  rw [zeroSha] at hA2
  refine wp_region_lit ?_
  refine wpList_buildTo rfl _ _ rfl _ rfl (rowV .u32 64 (fun _ => 0)) (by simpa using built64) ?_
  try simp only [Act.put, List.getElem_toArray, List.getElem_cons_succ, List.getElem_cons_zero, List.setIfInBounds_toArray, List.set_cons_succ, List.set_cons_zero]
  refine Go.Great.wpList_allocTo rfl _ rfl (.pointer (some ⟨w0.heap.size, 0, none⟩)) (.cells (rowV .u32 64 (fun _ => 0)) 52) (by rw [← zero64]; unfold execOp; go_simp) ?_
  try simp only [Act.put, List.getElem_toArray, List.getElem_cons_succ, List.getElem_cons_zero, List.setIfInBounds_toArray, List.set_cons_succ, List.set_cons_zero]
  have hN := heap_alloc_new w0 (.cells (rowV .u32 64 (fun _ => 0)) 52)
  refine wpList_store_rowTo rfl _ _ _ rfl rfl w0.heap.size (rowV .u32 64 (fun _ => 0)) rfl rfl 52 (rowV .u32 64 (fun _ => 0)) hN (sizeKeysV _) rfl (rowV_one _ _ _) ?_
  have LS0 : Lst w ((w0.alloc (.cells (rowV .u32 64 (fun _ => 0)) 52)).setRow w0.heap.size (rowV .u32 64 (fun _ => 0))) s.at8 (fun _ => 0) := by
    rw [hsz0] at hN ⊢
    exact ⟨below_setRow (hB0.alloc hB0.size _) (by omega) _, (setRow_other _ _ _ _ (by omega)).trans ((Lib.alloc_old _ _ _ (by omega)).trans hA0), (setRow_other _ _ _ _ (by omega)).trans ((Lib.alloc_old _ _ _ (by omega)).trans hA1), (setRow_other _ _ _ _ (by omega)).trans ((Lib.alloc_old _ _ _ (by omega)).trans hA2), setRow_heap _ _ _ _ _ _ hN⟩
  generalize (w0.alloc (.cells (rowV .u32 64 (fun _ => 0)) 52)).setRow w0.heap.size (rowV .u32 64 (fun _ => 0)) = w1 at LS0 ⊢
  have LS : Hid (Lst w w1 s.at8 (wdTo ws 0)) := LS0.ext (fun i _ => by unfold wdTo; rw [if_neg (by omega)])
  clear LS0 hN hA2 hA1 hA0 hB0
  rw [hsz0]
  clear hsz0
  go_wp2
  go_loopw [8] (fun i wr => ∃ k : Nat, k ≤ 16 ∧ i = .int .i64 (k : Int) ∧ Hid (Lst w wr s.at8 (wdTo ws k)))
    (fun i _ => 16 - (intOf i).toNat)
  case atStart => exact ⟨0, Nat.zero_le _, rfl, LS⟩
  case round =>
    clear LS
    obtain ⟨k, hk, rfl, LS⟩ := hrel
    have hg := get_bt t
    by_cases hlt : k < 16
    · have hi0 : (0 : Int) ≤ (k : Int) := by omega
      have hi1 : (k : Int) < 16 := by omega
      have hi2 : (k : Int) < 64 := by omega
      have hw0 : IntKind.i64.wrap (4 * (k : Int)) = ((4 * k : Nat) : Int) := by rw [IntKind.wrap_i64]; omega
      have hw1 : IntKind.i64.wrap (((4 * k : Nat) : Int) + 1) = ((4 * k + 1 : Nat) : Int) := by rw [IntKind.wrap_i64]; omega
      have hw2 : IntKind.i64.wrap (((4 * k : Nat) : Int) + 2) = ((4 * k + 2 : Nat) : Int) := by rw [IntKind.wrap_i64]; omega
      have hw3 : IntKind.i64.wrap (((4 * k : Nat) : Int) + 3) = ((4 * k + 3 : Nat) : Int) := by rw [IntKind.wrap_i64]; omega
      have p0 : (0 : Int) ≤ ((4 * k : Nat) : Int) ∧ ((4 * k : Nat) : Int) < (t.size : Int) := by omega
      have p1 : (0 : Int) ≤ ((4 * k + 1 : Nat) : Int) ∧ ((4 * k + 1 : Nat) : Int) < (t.size : Int) := by omega
      have p2 : (0 : Int) ≤ ((4 * k + 2 : Nat) : Int) ∧ ((4 * k + 2 : Nat) : Int) < (t.size : Int) := by omega
      have p3 : (0 : Int) ≤ ((4 * k + 3 : Nat) : Int) ∧ ((4 * k + 3 : Nat) : Int) < (t.size : Int) := by omega
      have c1 := LS.out.wr.cell (show k < 64 by omega)
      have z1 := LS.out.wr.froz k
      have e0 := btN_eq t (4 * k)
      have e1 := btN_eq t (4 * k + 1)
      have e2 := btN_eq t (4 * k + 2)
      have e3 := btN_eq t (4 * k + 3)
      have b0 := btN_lt t (4 * k)
      have b1 := btN_lt t (4 * k + 1)
      have b2 := btN_lt t (4 * k + 2)
      have b3 := btN_lt t (4 * k + 3)
      have HV := HLOW.out k hlt
      have HS : Hid _ := LS.out.set (show k < 64 by omega) (wd ws k)
      rw [wdTo_upd] at HS
      have hv : ((wd ws k : Nat) : Int) = (((btN t (4 * k) * 16777216 ||| btN t (4 * k + 1) * 65536) ||| btN t (4 * k + 2) * 256 ||| btN t (4 * k + 3) : Nat) : Int) := by
        rw [four_or _ _ _ _ b0 b1 b2 b3, HV]; rfl
      clear HV
      generalize ((wd ws k : Nat) : Int) = V at HS hv
      generalize 4 * k + 1 = q1 at *
      generalize 4 * k + 2 = q2 at *
      generalize 4 * k + 3 = q3 at *
      generalize 4 * k = q0 at *
      generalize btN t q0 = x0 at *
      generalize btN t q1 = x1 at *
      generalize btN t q2 = x2 at *
      generalize btN t q3 = x3 at *
      have HE : Hid (bits .or .u32 (bits .or .u32 (bits .or .u32 (bt t q0 % 4294967296 * 16777216 % 4294967296) (bt t q1 % 4294967296 * 65536 % 4294967296)) (bt t q2 % 4294967296 * 256 % 4294967296)) (bt t q3 % 4294967296) = V) := by
        show _ = _
        rw [show bt t q0 % 4294967296 * 16777216 % 4294967296 = ((x0 * 16777216 : Nat) : Int) by omega, show bt t q1 % 4294967296 * 65536 % 4294967296 = ((x1 * 65536 : Nat) : Int) by omega, show bt t q2 % 4294967296 * 256 % 4294967296 = ((x2 * 256 : Nat) : Int) by omega, show bt t q3 % 4294967296 = ((x3 : Nat) : Int) by omega,
          u32or (x0 * 16777216) (x1 * 65536) (by omega) (by omega), u32or (x0 * 16777216 ||| x1 * 65536) (x2 * 256) (or_lt32 (by omega) (by omega)) (by omega), u32or ((x0 * 16777216 ||| x1 * 65536) ||| x2 * 256) x3 (or_lt32 (or_lt32 (by omega) (by omega)) (by omega)) (by omega), hv]
      clear e0 e1 e2 e3 hv b0 b1 b2 b3 LS
      go_wp2
      go_region
      all_goals
        rw [HE.out]
        go_wp2
        go_roundw
        case rel => exact ⟨k + 1, by omega, by go_num, HS.out.drew⟩
        case measure => simp [intOf]; omega
    · obtain rfl : k = 16 := by omega
      clear HLOW h64 hg
      go_wp2
      go_loopw [9] (fun i wr => ∃ k : Nat, 16 ≤ k ∧ k ≤ 64 ∧ i = .int .i64 (k : Int) ∧ Hid (Lst w wr s.at8 (wdTo ws k)))
        (fun i _ => 64 - (intOf i).toNat)
      case atStart => exact ⟨16, by omega, by omega, rfl, LS⟩
      case round =>
        clear LS
        obtain ⟨k, hk16, hk, rfl, LS⟩ := hrel
        by_cases hlt : k < 64
        · have hi0 : (0 : Int) ≤ (k : Int) := by omega
          have hi1 : (k : Int) < 64 := by omega
          have hw15 : IntKind.i64.wrap ((k : Int) - 15) = ((k - 15 : Nat) : Int) := by rw [IntKind.wrap_i64]; omega
          have hw2 : IntKind.i64.wrap ((k : Int) - 2) = ((k - 2 : Nat) : Int) := by rw [IntKind.wrap_i64]; omega
          have hw7 : IntKind.i64.wrap ((k : Int) - 7) = ((k - 7 : Nat) : Int) := by rw [IntKind.wrap_i64]; omega
          have hw16 : IntKind.i64.wrap ((k : Int) - 16) = ((k - 16 : Nat) : Int) := by rw [IntKind.wrap_i64]; omega
          have l15 : k - 15 < 64 := by omega
          have l2 : k - 2 < 64 := by omega
          have l7 : k - 7 < 64 := by omega
          have l16 : k - 16 < 64 := by omega
          have v15 : wdTo ws k (k - 15) = wd ws (k - 15) := if_pos (by omega)
          have v2 : wdTo ws k (k - 2) = wd ws (k - 2) := if_pos (by omega)
          have v7 : wdTo ws k (k - 7) = wd ws (k - 7) := if_pos (by omega)
          have v16 : wdTo ws k (k - 16) = wd ws (k - 16) := if_pos (by omega)
          have b15 := HWD.out (k - 15)
          have b2 := HWD.out (k - 2)
          have b7 := HWD.out (k - 7)
          have b16 := HWD.out (k - 16)
          have HV := HNEW.out k hk16 hlt
          have HS : Hid (∀ w', Lst w w' s.at8 (wdTo ws k) → Lst w (w'.setCell ⟨w.heap.size + 3, k, none⟩ (.int .u32 ((wd ws k : Nat) : Int))) s.at8 (wdTo ws (k + 1))) := fun w' h => by
            have := h.set (show k < 64 by omega) (wd ws k)
            rw [wdTo_upd] at this; exact this
          obtain ⟨S, hS0, hNE, HSL, f15, f2⟩ : ∃ S : World → Prop, S wr.drew ∧ Nonempty (Hw S) ∧ Hid ((∀ w', S w' → Lst w w' s.at8 (wdTo ws k)) ∧ ∀ w', S w' → S w'.drew) ∧ (∀ q : Hw S, q.w.cell? ⟨w.heap.size + 3, k - 15, none⟩ = some (.int .u32 ((wd ws (k - 15) : Nat) : Int))) ∧ (∀ q : Hw S, q.w.cell? ⟨w.heap.size + 3, k - 2, none⟩ = some (.int .u32 ((wd ws (k - 2) : Nat) : Int))) :=
            ⟨fun w' => Lst w w' s.at8 (wdTo ws k), LS.out.drew, ⟨⟨wr, LS.out⟩⟩, ⟨fun _ h => h, fun _ h => h.drew⟩, fun q => by rw [← v15]; exact q.ok.wr.cell l15, fun q => by rw [← v2]; exact q.ok.wr.cell l2⟩
          obtain ⟨V, hVV⟩ : ∃ V : Int, V = ((wd ws k : Nat) : Int) := ⟨_, rfl⟩
          rw [← hVV] at HS
          generalize k - 15 = j15 at *
          generalize k - 2 = j2 at *
          generalize k - 7 = j7 at *
          generalize k - 16 = j16 at *
          generalize wd ws j15 = x15 at *
          generalize wd ws j2 = x2 at *
          generalize wd ws j7 = x7 at *
          generalize wd ws j16 = x16 at *
          have i15 : (0 : Int) ≤ (j15 : Int) ∧ (j15 : Int) < 64 := by omega
          have i2 : (0 : Int) ≤ (j2 : Int) ∧ (j2 : Int) < 64 := by omega
          have R17 : Hid (∀ wz, Calls Tryd.prog 46 #[.int .u32 (x2 : Int), .int .u64 17] wz fun e w' => e = .returned (.int .u32 ((rotr x2 17 : Nat) : Int)) ∧ wz = w') := fun wz => turn_any x2 17 wz b2 (by decide) (by decide)
          have R19 : Hid (∀ wz, Calls Tryd.prog 46 #[.int .u32 (x2 : Int), .int .u64 19] wz fun e w' => e = .returned (.int .u32 ((rotr x2 19 : Nat) : Int)) ∧ wz = w') := fun wz => turn_any x2 19 wz b2 (by decide) (by decide)
          have R7 : Hid (∀ wz, Calls Tryd.prog 46 #[.int .u32 (x15 : Int), .int .u64 7] wz fun e w' => e = .returned (.int .u32 ((rotr x15 7 : Nat) : Int)) ∧ wz = w') := fun wz => turn_any x15 7 wz b15 (by decide) (by decide)
          have R18 : Hid (∀ wz, Calls Tryd.prog 46 #[.int .u32 (x15 : Int), .int .u64 18] wz fun e w' => e = .returned (.int .u32 ((rotr x15 18 : Nat) : Int)) ∧ wz = w') := fun wz => turn_any x15 18 wz b15 (by decide) (by decide)
          have q1 := u32xor (rotr x2 17) (rotr x2 19) (rotr_lt b2 17) (rotr_lt b2 19)
          have q2 : bits .xor .u32 ((rotr x2 17 ^^^ rotr x2 19 : Nat) : Int) ((x2 : Int) / 1024) = ((mixB x2 : Nat) : Int) := by
            rw [show (x2 : Int) / 1024 = ((x2 / 1024 : Nat) : Int) by omega]
            exact u32xor (rotr x2 17 ^^^ rotr x2 19) (x2 / 1024) (xorLt32 (rotr_lt b2 17) (rotr_lt b2 19)) (div_lt32 b2 _)
          have p1 := u32xor (rotr x15 7) (rotr x15 18) (rotr_lt b15 7) (rotr_lt b15 18)
          have p2 : bits .xor .u32 ((rotr x15 7 ^^^ rotr x15 18 : Nat) : Int) ((x15 : Int) / 8) = ((mixA x15 : Nat) : Int) := by
            rw [show (x15 : Int) / 8 = ((x15 / 8 : Nat) : Int) by omega]
            exact u32xor (rotr x15 7 ^^^ rotr x15 18) (x15 / 8) (xorLt32 (rotr_lt b15 7) (rotr_lt b15 18)) (div_lt32 b15 _)
          generalize mixA x15 = mA at *
          generalize mixB x2 = mB at *
          have HE : Hid ((((x16 : Int) + (mA : Int) + (x7 : Int)) % 4294967296 + (mB : Int)) % 4294967296 = V) := by show _ = _; rw [hVV, HV]; omega
          have HE2 : Hid (((x16 : Int) + (mA : Int) + (x7 : Int) + (mB : Int)) % 4294967296 = V) := by show _ = _; rw [hVV, HV]; omega
          clear LS hVV HV
          go_wp2
          refine wp_region_held (S := S) (by kernel_rfl) (by kernel_rfl) hS0 ?_
          repeat (go_big_quiet_step (first | (go_at_call 46; with_reducible exact Calls.heldSame (R7.out _)) | (go_at_call 46; with_reducible exact Calls.heldSame (R18.out _))))
          refine wpQuiet_nil ?_
          rintro _ ⟨sw, rfl⟩
          go_wp2
          refine wp_region_held (S := S) (by kernel_rfl) (by kernel_rfl) (HSL.out.2 _ sw.ok) ?_
          repeat (go_big_quiet_step (first | (go_at_call 46; with_reducible exact Calls.heldSame (R17.out _)) | (go_at_call 46; with_reducible exact Calls.heldSame (R19.out _))))
          refine wpQuiet_nil ?_
          rintro _ ⟨sw2, rfl⟩
          have LS := HSL.out.1 _ sw2.ok
          generalize sw2.w = wr at LS ⊢
          have c7 := LS.wr.cell l7
          have c16 := LS.wr.cell l16
          rw [v7] at c7
          rw [v16] at c16
          have c1 := LS.wr.cell hlt
          have z1 := LS.wr.froz k
          have HS2 := HS.out _ LS
          have HS3 : Hid _ := HS2.drew
          clear LS HS2 f15 f2
          go_wp2
          go_region
          all_goals
            rw [HE.out]
            go_wp2
            go_roundw
            case rel => exact ⟨k + 1, by omega, by omega, by go_num, by first | exact HS3 | (rw [HE2.out]; exact HS3)⟩
            case measure => simp [intOf]; omega
        · obtain rfl : k = 64 := by omega
          try rw [show ((16 : Nat) : Int) = 16 from rfl]
          try rw [show ((64 : Nat) : Int) = 64 from rfl]
          go_upto_region 12 with fail
          refine wp_region_lit ?_
          refine wpl_load rfl _ _ rfl _ rfl w.heap.size (rowV .u32 8 s.at8) rfl 40 (0, 0) LS.out.hr _ Tryd.underlying40 rfl (sizeFirstV _) ?_
          try simp only [Act.put, List.getElem_toArray, List.getElem_cons_succ, List.getElem_cons_zero, List.setIfInBounds_toArray, List.set_cons_succ, List.set_cons_zero]
          refine Go.Great.wpList_allocTo rfl _ rfl (.pointer (some ⟨wr.heap.size, 0, none⟩)) (.cells (rowV .u32 8 (fun _ => 0)) 40) (by rw [← zeroSha]; unfold execOp; go_simp) ?_
          try simp only [Act.put, List.getElem_toArray, List.getElem_cons_succ, List.getElem_cons_zero, List.setIfInBounds_toArray, List.set_cons_succ, List.set_cons_zero]
          have hN := heap_alloc_new wr (.cells (rowV .u32 8 (fun _ => 0)) 40)
          refine wpList_store_rowTo rfl _ _ _ rfl rfl wr.heap.size (rowV .u32 8 s.at8) rfl rfl 40 (rowV .u32 8 (fun _ => 0)) hN (sizeFirstV _) (by rw [rowV_size, rowV_size]) (rowV_one _ _ _) ?_
          have hl3 := LS.out.wr.lt
          have hLa := LS.out.next (below_alloc21 wr (.cells (rowV .u32 8 (fun _ => 0)) 40))
          have HRS0 : Rst w ((wr.alloc (.cells (rowV .u32 8 (fun _ => 0)) 40)).setRow wr.heap.size (rowV .u32 8 s.at8)) wr.heap.size s.at8 (wdTo ws 64) s.at8 :=
            ⟨⟨below_setRow hLa.bel (by omega) _, (setRow_other _ _ _ _ (by omega)).trans hLa.hr, (setRow_other _ _ _ _ (by omega)).trans hLa.kr, (setRow_other _ _ _ _ (by omega)).trans hLa.res, (setRow_other _ _ _ _ (by omega)).trans hLa.wr⟩, setRow_heap _ _ _ _ _ _ hN, hl3⟩
          generalize (wr.alloc (.cells (rowV .u32 8 (fun _ => 0)) 40)).setRow wr.heap.size (rowV .u32 8 s.at8) = w3 at HRS0 ⊢
          generalize wr.heap.size = gs at HRS0 hl3 ⊢
          have HQ : Hid (Rst w w3 gs s.at8 (wdTo ws 64) s.at8) := HRS0
          clear HRS0 hLa hN LS HNEW
          go_wp2
          go_loopw [13] (fun i wr => ∃ k : Nat, k ≤ 64 ∧ i = .int .i64 (k : Int) ∧ Hid (Rst w wr gs s.at8 (wdTo ws 64) (rounds ws s k).at8))
            (fun i _ => 64 - (intOf i).toNat)
          case atStart => exact ⟨0, by omega, rfl, by rw [HR0.out]; exact HQ⟩
          case round =>
            clear HQ
            obtain ⟨k, hk, rfl, HQ⟩ := hrel
            by_cases hlt : k < 64
            · have hi0 : (0 : Int) ≤ (k : Int) := by omega
              have hi1 : (k : Int) < 64 := by omega
              have hok := HOK.out k
              have hwd := HWD.out k
              have hkw := keysW k
              have HN := HRS.out k
              obtain ⟨new, HEQ⟩ : ∃ new, Hid (rounds ws s (k + 1) = new) := ⟨_, rfl⟩
              rw [HEQ.out] at HN
              obtain ⟨S, hS0, hNE, HSL, fk, fw, f0, f1, f2, f3, f4, f5, f6, f7⟩ : ∃ S : World → Prop, S wr.drew ∧ Nonempty (Hw S) ∧ Hid ((∀ w', S w' → Rst w w' gs s.at8 (wdTo ws 64) (rounds ws s k).at8) ∧ ∀ w', S w' → S w'.drew)
                  ∧ (∀ q : Hw S, q.w.cell? ⟨w.heap.size + 1, k, none⟩ = some (.int .u32 ((keysF k : Nat) : Int))) ∧ (∀ q : Hw S, q.w.cell? ⟨w.heap.size + 3, k, none⟩ = some (.int .u32 ((wd ws k : Nat) : Int)))
                  ∧ (∀ q : Hw S, q.w.cell? ⟨gs, 0, none⟩ = some (.int .u32 (((rounds ws s k).a : Nat) : Int))) ∧ (∀ q : Hw S, q.w.cell? ⟨gs, 1, none⟩ = some (.int .u32 (((rounds ws s k).b : Nat) : Int))) ∧ (∀ q : Hw S, q.w.cell? ⟨gs, 2, none⟩ = some (.int .u32 (((rounds ws s k).c : Nat) : Int))) ∧ (∀ q : Hw S, q.w.cell? ⟨gs, 3, none⟩ = some (.int .u32 (((rounds ws s k).d : Nat) : Int)))
                  ∧ (∀ q : Hw S, q.w.cell? ⟨gs, 4, none⟩ = some (.int .u32 (((rounds ws s k).e : Nat) : Int))) ∧ (∀ q : Hw S, q.w.cell? ⟨gs, 5, none⟩ = some (.int .u32 (((rounds ws s k).f : Nat) : Int))) ∧ (∀ q : Hw S, q.w.cell? ⟨gs, 6, none⟩ = some (.int .u32 (((rounds ws s k).g : Nat) : Int))) ∧ (∀ q : Hw S, q.w.cell? ⟨gs, 7, none⟩ = some (.int .u32 (((rounds ws s k).h : Nat) : Int))) :=
                ⟨fun w' => Rst w w' gs s.at8 (wdTo ws 64) (rounds ws s k).at8, HQ.out.drew, ⟨⟨wr, HQ.out⟩⟩, ⟨fun _ h => h, fun _ h => h.drew⟩, fun q => q.ok.l.kr.cell hlt, fun q => (q.ok.l.wr.cell hlt).trans (by rw [show wdTo ws 64 k = wd ws k from if_pos hlt]), fun q => q.ok.st.cell (i := 0) (by omega), fun q => q.ok.st.cell (i := 1) (by omega), fun q => q.ok.st.cell (i := 2) (by omega), fun q => q.ok.st.cell (i := 3) (by omega), fun q => q.ok.st.cell (i := 4) (by omega), fun q => q.ok.st.cell (i := 5) (by omega), fun q => q.ok.st.cell (i := 6) (by omega), fun q => q.ok.st.cell (i := 7) (by omega)⟩
              generalize rounds ws s k = cur at *
              obtain ⟨a, b, c, d, e, f, g, h⟩ := cur
              obtain ⟨ha, hb, hc, hd, he, hf, hg, hh⟩ := hok
              simp only [] at ha hb hc hd he hf hg hh f0 f1 f2 f3 f4 f5 f6 f7
              generalize keysF k = K at *
              generalize wd ws k = W at *
              have E6 : Hid (∀ wz, Calls Tryd.prog 46 #[.int .u32 (e : Int), .int .u64 6] wz fun e' w' => e' = .returned (.int .u32 ((rotr e 6 : Nat) : Int)) ∧ wz = w') := fun wz => turn_any e 6 wz he (by decide) (by decide)
              have E11 : Hid (∀ wz, Calls Tryd.prog 46 #[.int .u32 (e : Int), .int .u64 11] wz fun e' w' => e' = .returned (.int .u32 ((rotr e 11 : Nat) : Int)) ∧ wz = w') := fun wz => turn_any e 11 wz he (by decide) (by decide)
              have E25 : Hid (∀ wz, Calls Tryd.prog 46 #[.int .u32 (e : Int), .int .u64 25] wz fun e' w' => e' = .returned (.int .u32 ((rotr e 25 : Nat) : Int)) ∧ wz = w') := fun wz => turn_any e 25 wz he (by decide) (by decide)
              have A2 : Hid (∀ wz, Calls Tryd.prog 46 #[.int .u32 (a : Int), .int .u64 2] wz fun e' w' => e' = .returned (.int .u32 ((rotr a 2 : Nat) : Int)) ∧ wz = w') := fun wz => turn_any a 2 wz ha (by decide) (by decide)
              have A13 : Hid (∀ wz, Calls Tryd.prog 46 #[.int .u32 (a : Int), .int .u64 13] wz fun e' w' => e' = .returned (.int .u32 ((rotr a 13 : Nat) : Int)) ∧ wz = w') := fun wz => turn_any a 13 wz ha (by decide) (by decide)
              have A22 : Hid (∀ wz, Calls Tryd.prog 46 #[.int .u32 (a : Int), .int .u64 22] wz fun e' w' => e' = .returned (.int .u32 ((rotr a 22 : Nat) : Int)) ∧ wz = w') := fun wz => turn_any a 22 wz ha (by decide) (by decide)
              have q1 := u32_and_nat e f he hf
              have q2 : bits .xor .u32 (e : Int) 4294967295 = ((e ^^^ 4294967295 : Nat) : Int) := u32xor e 4294967295 he (by decide)
              have q3 := u32_and_nat (e ^^^ 4294967295) g (xorLt32 he (by decide)) hg
              have q4 : bits .xor .u32 ((e &&& f : Nat) : Int) (((e ^^^ 4294967295) &&& g : Nat) : Int) = ((choose e f g : Nat) : Int) := u32xor (e &&& f) ((e ^^^ 4294967295) &&& g) (and_lt32 hf) (and_lt32 hg)
              have q5 := u32xor (rotr e 6) (rotr e 11) (rotr_lt he 6) (rotr_lt he 11)
              have q6 : bits .xor .u32 ((rotr e 6 ^^^ rotr e 11 : Nat) : Int) ((rotr e 25 : Nat) : Int) = ((bigE e : Nat) : Int) := u32xor (rotr e 6 ^^^ rotr e 11) (rotr e 25) (xorLt32 (rotr_lt he 6) (rotr_lt he 11)) (rotr_lt he 25)
              have p1 := u32_and_nat a b ha hb
              have p2 := u32_and_nat a c ha hc
              have p3 := u32xor (a &&& b) (a &&& c) (and_lt32 hb) (and_lt32 hc)
              have p4 := u32_and_nat b c hb hc
              have p5 : bits .xor .u32 (((a &&& b) ^^^ (a &&& c) : Nat) : Int) ((b &&& c : Nat) : Int) = ((most a b c : Nat) : Int) := u32xor ((a &&& b) ^^^ (a &&& c)) (b &&& c) (xorLt32 (and_lt32 hb) (and_lt32 hc)) (and_lt32 hc)
              have p6 := u32xor (rotr a 2) (rotr a 13) (rotr_lt ha 2) (rotr_lt ha 13)
              have p7 : bits .xor .u32 ((rotr a 2 ^^^ rotr a 13 : Nat) : Int) ((rotr a 22 : Nat) : Int) = ((bigA a : Nat) : Int) := u32xor (rotr a 2 ^^^ rotr a 13) (rotr a 22) (xorLt32 (rotr_lt ha 2) (rotr_lt ha 13)) (rotr_lt ha 22)
              have HN1 : Hid (new = turn8 ⟨a, b, c, d, e, f, g, h⟩ ((K + W) % 4294967296)) := HN
              unfold turn8 one two at HN1
              simp only [] at HN1
              clear HN
              generalize choose e f g = CH at q4 HN1
              generalize bigE e = BE at q6 HN1
              generalize most a b c = MO at p5 HN1
              generalize bigA a = BA at p7 HN1
              generalize rotr e 6 = e6 at *
              generalize rotr e 11 = e11 at *
              generalize rotr e 25 = e25 at *
              generalize rotr a 2 = a2 at *
              generalize rotr a 13 = a13 at *
              generalize rotr a 22 = a22 at *
              generalize e6 ^^^ e11 = e611 at *
              generalize a2 ^^^ a13 = a213 at *
              generalize (a &&& b) ^^^ (a &&& c) = abc at *
              generalize a &&& b = ab at *
              generalize a &&& c = ac at *
              generalize b &&& c = bc at *
              generalize (e ^^^ 4294967295) &&& g = eg at *
              generalize e ^^^ 4294967295 = ne at *
              generalize e &&& f = ef at *
              have x0 := f0 ⟨_, hS0⟩
              clear HQ
              go_wp2
              refine wp_region_held (S := S) (by kernel_rfl) (by kernel_rfl) hS0 ?_
              repeat (go_big_quiet_step (first | (go_at_call 46; with_reducible exact Calls.heldSame (E6.out _)) | (go_at_call 46; with_reducible exact Calls.heldSame (E11.out _)) | (go_at_call 46; with_reducible exact Calls.heldSame (E25.out _))))
              refine wpQuiet_nil ?_
              rintro _ ⟨sw, rfl⟩
              have y4 := f4 sw
              have y5 := f5 sw
              have y6 := f6 sw
              go_upto_region 18 with fail
              clear y4 y5 y6
              refine wp_region_held (S := S) (by kernel_rfl) (by kernel_rfl) (HSL.out.2 _ sw.ok) ?_
              repeat (go_big_quiet_step (fail))
              refine wpQuiet_nil ?_
              rintro _ ⟨sw2, rfl⟩
              go_wp2
              refine wp_region_held (S := S) (by kernel_rfl) (by kernel_rfl) (HSL.out.2 _ sw2.ok) ?_
              repeat (go_big_quiet_step (first | (go_at_call 46; with_reducible exact Calls.heldSame (A2.out _)) | (go_at_call 46; with_reducible exact Calls.heldSame (A13.out _)) | (go_at_call 46; with_reducible exact Calls.heldSame (A22.out _))))
              refine wpQuiet_nil ?_
              rintro _ ⟨sw3, rfl⟩
              have y0 := f0 sw3
              have y1 := f1 sw3
              have y2 := f2 sw3
              go_upto_region 22 with fail
              have HQ := HSL.out.1 _ sw3.ok
              clear y0 y1 y2 f0 f1 f2 f3 f4 f5 f6 f7 fk fw HSL x0
              generalize sw3.w = wr at HQ ⊢
              obtain ⟨n1, hn1⟩ : ∃ n1 : Nat, n1 = (h + BE + CH + (K + W) % 4294967296) % 4294967296 := ⟨_, rfl⟩
              obtain ⟨n2, hn2⟩ : ∃ n2 : Nat, n2 = (BA + MO) % 4294967296 := ⟨_, rfl⟩
              have t1 : (((h : Int) + (BE : Int) + (CH : Int) + (K : Int)) % 4294967296 + (W : Int)) % 4294967296 = (n1 : Int) := by omega
              have t2 : ((BA : Int) + (MO : Int)) % 4294967296 = (n2 : Int) := by omega
              rw [t1, t2]
              obtain ⟨n4, hn4⟩ : ∃ n4 : Nat, n4 = (d + n1) % 4294967296 := ⟨_, rfl⟩
              obtain ⟨n0, hn0⟩ : ∃ n0 : Nat, n0 = (n1 + n2) % 4294967296 := ⟨_, rfl⟩
              have e4 : ((d : Int) + (n1 : Int)) % 4294967296 = (n4 : Int) := by omega
              have e0 : ((n1 : Int) + (n2 : Int)) % 4294967296 = (n0 : Int) := by omega
              have g4 : IntKind.u32.wrap ((d : Int) + (n1 : Int)) = (n4 : Int) := by rw [IntKind.wrap_u32']; omega
              have g0 : IntKind.u32.wrap ((n1 : Int) + (n2 : Int)) = (n0 : Int) := by rw [IntKind.wrap_u32']; omega
              have HFIN : Hid (new = ⟨n0, a, b, c, n4, e, f, g⟩) := by
                show _ = _
                rw [HN1.out, hn0, hn4, hn1, hn2]
              have HE4 : Hid _ := e4
              have HE0 : Hid _ := e0
              clear t1 t2 hn1 hn2 hn4 hn0 HN1 e4 e0 p1 p2 p3 p4 p5 p6 p7 q1 q2 q3 q4 q5 q6 A2 A13 A22 E6 E11 E25 hwd hkw ha hb hc hd he hf hg hh
              have hg0 : ¬ gs < w.heap.size := by omega
              have yS : wr.cell? ⟨gs, 6, none⟩ = some (.int .u32 (g : Int)) := HQ.st.cell (i := 6) (by omega)
              have yD := HQ.st.cell (i := 7) (by omega)
              have zD := HQ.st.froz 7
              have HQ7 := HQ.set (k := 7) (by omega) g
              go_upto_region 23 with fail
              clear yD zD yS HQ
              generalize wr.setCell ⟨gs, 7, none⟩ (.int .u32 (g : Int)) = wr7 at HQ7 ⊢
              have yS : wr7.cell? ⟨gs, 5, none⟩ = some (.int .u32 (f : Int)) := HQ7.st.cell (i := 5) (by omega)
              have yD := HQ7.st.cell (i := 6) (by omega)
              have zD := HQ7.st.froz 6
              have HQ6 := HQ7.set (k := 6) (by omega) f
              go_upto_region 24 with fail
              clear yD zD yS HQ7
              generalize wr7.setCell ⟨gs, 6, none⟩ (.int .u32 (f : Int)) = wr6 at HQ6 ⊢
              have yS : wr6.cell? ⟨gs, 4, none⟩ = some (.int .u32 (e : Int)) := HQ6.st.cell (i := 4) (by omega)
              have yD := HQ6.st.cell (i := 5) (by omega)
              have zD := HQ6.st.froz 5
              have HQ5 := HQ6.set (k := 5) (by omega) e
              go_upto_region 25 with fail
              clear yD zD yS HQ6
              generalize wr6.setCell ⟨gs, 5, none⟩ (.int .u32 (e : Int)) = wr5 at HQ5 ⊢
              have yS : wr5.cell? ⟨gs, 3, none⟩ = some (.int .u32 (d : Int)) := HQ5.st.cell (i := 3) (by omega)
              have yD := HQ5.st.cell (i := 4) (by omega)
              have zD := HQ5.st.froz 4
              have HQ4 := HQ5.set (k := 4) (by omega) n4
              go_upto_region 26 with fail
              try rw [HE4.out]
              clear yD zD yS HQ5
              generalize wr5.setCell ⟨gs, 4, none⟩ (.int .u32 (n4 : Int)) = wr4 at HQ4 ⊢
              have yS : wr4.cell? ⟨gs, 2, none⟩ = some (.int .u32 (c : Int)) := HQ4.st.cell (i := 2) (by omega)
              have yD := HQ4.st.cell (i := 3) (by omega)
              have zD := HQ4.st.froz 3
              have HQ3 := HQ4.set (k := 3) (by omega) c
              go_upto_region 27 with fail
              clear yD zD yS HQ4
              generalize wr4.setCell ⟨gs, 3, none⟩ (.int .u32 (c : Int)) = wr3 at HQ3 ⊢
              have yS : wr3.cell? ⟨gs, 1, none⟩ = some (.int .u32 (b : Int)) := HQ3.st.cell (i := 1) (by omega)
              have yD := HQ3.st.cell (i := 2) (by omega)
              have zD := HQ3.st.froz 2
              have HQ2 := HQ3.set (k := 2) (by omega) b
              go_upto_region 28 with fail
              clear yD zD yS HQ3
              generalize wr3.setCell ⟨gs, 2, none⟩ (.int .u32 (b : Int)) = wr2 at HQ2 ⊢
              have yS : wr2.cell? ⟨gs, 0, none⟩ = some (.int .u32 (a : Int)) := HQ2.st.cell (i := 0) (by omega)
              have yD := HQ2.st.cell (i := 1) (by omega)
              have zD := HQ2.st.froz 1
              have HQ1 := HQ2.set (k := 1) (by omega) a
              go_upto_region 29 with fail
              clear yD zD yS HQ2
              generalize wr2.setCell ⟨gs, 1, none⟩ (.int .u32 (a : Int)) = wr1 at HQ1 ⊢
              have yD := HQ1.st.cell (i := 0) (by omega)
              have zD := HQ1.st.froz 0
              have HQ0 := HQ1.set (k := 0) (by omega) n0
              go_upto_region 15 with fail
              try rw [HE0.out]
              clear yD zD HQ1
              generalize wr1.setCell ⟨gs, 0, none⟩ (.int .u32 (n0 : Int)) = wr0 at HQ0 ⊢
              have HFE : Hid (Rst w wr0 gs s.at8 (wdTo ws 64) new.at8) := by
                rw [HFIN.out]
                exact HQ0.ext (fun i hi => by
                  rcases (show i = 0 ∨ i = 1 ∨ i = 2 ∨ i = 3 ∨ i = 4 ∨ i = 5 ∨ i = 6 ∨ i = 7 by omega) with rfl | rfl | rfl | rfl | rfl | rfl | rfl | rfl <;> rfl)
              clear HQ0
              go_wp2
              go_roundw
              case rel => exact ⟨k + 1, by omega, by go_num, by rw [HEQ.out]; exact HFE⟩
              case measure => simp [intOf]; omega
            · obtain rfl : k = 64 := by omega
              try rw [show ((64 : Nat) : Int) = 64 from rfl]
              have hgl := HQ.out.lt
              have HZB : Hid (∀ i, i < 8 → sum8S s.at8 (rounds ws s 64).at8 8 i = B.at8 i) := by rw [HBL.out]; exact sum8S_all s (rounds ws s 64)
              have HR1 : Hid (Rst w wr gs (sum8S s.at8 (rounds ws s 64).at8 0) (wdTo ws 64) (rounds ws s 64).at8) := HQ.out.hext (fun i _ => by unfold sum8S; rw [if_neg (by omega)])
              clear HQ HOK HR0 HRS HWD HBL
              generalize (rounds ws s 64).at8 = T at HZB HR1
              generalize hS8 : s.at8 = F at *
              go_wp2
              go_loopw [20] (fun i wr => ∃ k : Nat, k ≤ 8 ∧ i = .int .i64 (k : Int) ∧ Hid (Rst w wr gs (sum8S F T k) (wdTo ws 64) T))
                (fun i _ => 8 - (intOf i).toNat)
              case atStart => exact ⟨0, Nat.zero_le _, rfl, HR1⟩
              case round =>
                clear HR1
                obtain ⟨k, hk, rfl, HQ⟩ := hrel
                by_cases hlt : k < 8
                · have hi0 : (0 : Int) ≤ (k : Int) := by omega
                  have hi1 : (k : Int) < 8 := by omega
                  have c1 := HQ.out.st.cell hlt
                  have c0 := HQ.out.l.hr.cell hlt
                  have z1 := HQ.out.l.hr.froz k
                  have HE : Hid ((((sum8S F T k k : Nat) : Int) + ((T k : Nat) : Int)) % 4294967296 = (((F k + T k) % 4294967296 : Nat) : Int)) := by
                    show _ = _
                    rw [show sum8S F T k k = F k from if_neg (by omega)]
                    omega
                  have HS : Hid (Rst w ((wr.setCell ⟨w.heap.size, k, none⟩ (.int .u32 (((F k + T k) % 4294967296 : Nat) : Int))).drew) gs (sum8S F T (k + 1)) (wdTo ws 64) T) := by
                    rw [← sum8S_upd]; exact (HQ.out.hset hlt _).drew
                  clear HQ
                  go_wp2
                  go_region
                  all_goals
                    rw [HE.out]
                    go_wp2
                    go_roundw
                    case rel => exact ⟨k + 1, by omega, by go_num, HS⟩
                    case measure => simp [intOf]; omega
                · obtain rfl : k = 8 := by omega
                  have hX : rowV .u32 8 (sum8S F T 8) = rowV .u32 8 B.at8 := rowV_ext HZB.out
                  have hT : wr.heap[w.heap.size]? = some (.cells (rowV .u32 8 B.at8) 40 (0, 0)) := by have h := HQ.out.l.hr; unfold RowAt at h; rw [hX] at h; exact h
                  go_upto_region 34 with fail
                  refine wp_region_lit ?_
                  refine wpl_load rfl _ _ rfl _ rfl w.heap.size (rowV .u32 8 B.at8) rfl 40 (0, 0) hT _ Tryd.underlying40 rfl (sizeFirstV _) ?_
                  try simp only [Act.put, List.getElem_toArray, List.getElem_cons_succ, List.getElem_cons_zero, List.setIfInBounds_toArray, List.set_cons_succ, List.set_cons_zero]
                  refine wpList_store_rowTo rfl _ _ _ rfl rfl (w.heap.size + 2) (rowV .u32 8 B.at8) rfl rfl 40 (rowV .u32 8 (fun _ => 0)) HQ.out.l.res (sizeFirstV _) (by rw [rowV_size, rowV_size]) (rowV_one _ _ _) ?_
                  have hR : (wr.setRow (w.heap.size + 2) (rowV .u32 8 B.at8)).heap[w.heap.size + 2]? = some (.cells (rowV .u32 8 B.at8) 40 (0, 0)) := setRow_heap _ _ _ _ _ _ HQ.out.l.res
                  have hBB := below_setRow HQ.out.l.bel (show w.heap.size ≤ w.heap.size + 2 by omega) (rowV .u32 8 B.at8)
                  generalize wr.setRow (w.heap.size + 2) (rowV .u32 8 B.at8) = wz at hR hBB ⊢
                  go_wp2
                  refine bodyPost_ret (results_cell_row rfl _ _ (w.heap.size + 2) 40 (rowV .u32 8 B.at8) (0, 0) _ rfl ?_ Tryd.underlying40 rfl (sizeFirstV _)) rfl ?_
                  · exact hR
                  · exact ⟨rfl, hBB⟩
end Go.Proofs.YthpkhbcahihbnaaDoor
