/- The program's numbersOf, chaOf: words as numbers, numbers as words. -/
import Derived.Test.YtilonodldidplaaLawI
import Derived.Test.YtilonodldidplaaRowC
import Derived.Test.YtilonodldidplaaRowTo
import Derived.Test.YtilonodldidplaaCha24
import Derived.WalkKit
import Derived.WalkLawsBesides
import Derived.WalkSpells
import Derived.OwnWalk
import Derived.Laws.OwnMore
namespace Go.Proofs.Ytilonodldidplaa
open Go.RowKit Go.PlainAid
set_option maxRecDepth 20000
set_option linter.unusedVariables false
set_option linter.unusedSimpArgs false
set_option maxHeartbeats 1600000 in
theorem numbers_any (g n cap : Nat) (f : Nat → Nat) (w : World) (hf : Words f) (hn : n ≤ 64) (hr : RowC w g .u32 n f) :
    Calls Try.prog 39 #[.slice (some ⟨g, 0, none⟩) n cap] w fun e w' => ∃ v, e = .returned v ∧ OwnInt w.heap.size w' v (bytesV n f) ∧ Below w.heap.size w w' := by
  obtain ⟨i0, hi, hz0, hz1, hz2⟩ := info_parts infoIntS
  have HR : Hid (RowC w g .u32 n f) := hr
  have HF : Hid (Words f) := hf
  clear hr hf
  go_enter Try.func39, Try.ntmps39
  go_wp2_with (at_make; refine wpList_make_own _ rfl _ _ 22 rfl w.heap.size 3 i0 (.int .i64 0) 1 Try.underlying22 hi hz0 hz1 .i64 .i64 _ n rfl rfl (by omega) (by rw [hz2]; omega) (by unfold maxLen; omega) (Nat.le_refl _) ?_; intro w0 hown0 hgrow0)
  have hb0 : Below w.heap.size w w0 := (Below.refl _ _).grown hgrow0 (Nat.le_refl _) (by simp)
  clear hgrow0
  go_loopw [3, 11] (fun v i wr => ∃ k : Nat, k ≤ n ∧ i = .int .i64 k ∧ wr.ownsRow w.heap.size 3 1 v k ((bytesV k f).map (Value.int .i64)) ∧ Below w.heap.size w wr)
    (fun _ i _ => n - (intOf i).toNat)
  case atStart => exact ⟨0, Nat.zero_le _, rfl, hown0, hb0⟩
  case round =>
    obtain ⟨k, hk, rfl, hown, hbel⟩ := hrel
    by_cases hlt : k < n
    · have hi0 : (0 : Int) ≤ (k : Int) := by omega
      have hi1 : (k : Int) < (n : Int) := by omega
      have c1 := (HR.out.below hbel HR.out.lt hbel.size).c k hlt
      have b1 := HF.out k
      have hw : IntKind.i64.wrap ((f k : Nat) : Int) = ((f k : Nat) : Int) := by rw [IntKind.wrap_i64]; omega
      have HS : Hid (bytesV (k + 1) f = bytesV k f ++ [((f k : Nat) : Int)]) := bytesV_succ k f
      have HL : Hid ((bytesV k f).length = k) := bytesV_len k f
      have hsz := hbel.size
      generalize ((f k : Nat) : Int) = y at c1 hw HS
      clear b1
      go_wp2_with (at_builtin; refine wpList_append_own _ rfl _ _ 22 rfl w.heap.size 3 i0 (.int .i64 0) 1 8 Try.underlying22 hi hz0 hz1 hz2 rfl (by decide) _ _ _ rfl (hown.alloc _) ⟨wr.heap.size, 0, none⟩ 1 1 [.int .i64 y] rfl rfl ?c1 ?c2 ?c3 ?c4 ?c5 ?_)
      case c1 => exact cell_one_new _ _ _
      case c2 => intro u hu; simp at hu; subst hu; rfl
      case c3 => unfold maxLen; omega
      case c4 => omega
      case c5 => simp; omega
      · intro v' w1 hown' hgrow _
        have hB := below_app hown hbel hsz hgrow
        have ho : w1.ownsRow w.heap.size 3 1 v' (k + 1) ((bytesV (k + 1) f).map (Value.int .i64)) := by rw [HS.out, List.map_append]; exact hown'
        clear hown' hgrow hown hbel
        go_wp2
        go_roundw
        case rel => exact ⟨k + 1, by omega, by go_num, ho, hB⟩
        case measure => simp [intOf]; omega
    · obtain rfl : k = n := by omega
      go_wp2
      go_ret
      exact ⟨_, rfl, by unfold OwnInt; rw [bytesV_len]; exact hown, hbel⟩
/-- The words of a list of numbers, 0 behind its end. -/
def wordsOf (xs : List Int) (n : Nat) : Nat → Nat := fun i => if i < n then (xs.getD i 0 % 4294967296).toNat else 0
theorem wordsOf_upd (xs : List Int) (k : Nat) : upd (wordsOf xs k) k (xs.getD k 0 % 4294967296).toNat = wordsOf xs (k + 1) := by
  funext i
  unfold upd wordsOf
  by_cases h : i = k
  · subst h; rw [if_pos rfl, if_pos (by omega)]
  · rw [if_neg h]
    by_cases h2 : i < k
    · rw [if_pos h2, if_pos (by omega)]
    · rw [if_neg h2, if_neg (by omega)]
theorem wordsOf_lt (xs : List Int) (n : Nat) : Words (wordsOf xs n) := by
  intro i; unfold wordsOf; split <;> omega
theorem sizeCha : (Try.prog.info? 55).map (·.size) = some 16 := by kernel_rfl
theorem sizeChaV (f : Nat → Nat) : (Try.prog.info? 55).map (·.size) = some (rowV .u32 16 f).size := by rw [rowV_size]; exact sizeCha
theorem zeroCha : (#[.int .u32 0, .int .u32 0, .int .u32 0, .int .u32 0, .int .u32 0, .int .u32 0, .int .u32 0, .int .u32 0, .int .u32 0, .int .u32 0, .int .u32 0, .int .u32 0, .int .u32 0, .int .u32 0, .int .u32 0, .int .u32 0] : Array Value) = rowV .u32 16 (fun _ => 0) := rfl
set_option maxHeartbeats 1600000 in
theorem chaOf_any (a : Option Addr) (cap : Nat) (xs : List Int) (w : World) (hl : xs.length ≤ 16) (hr : RowI w.heap.size w a xs) :
    Calls Try.prog 37 #[.slice a xs.length cap] w fun e w' => e = .returned (.agg (rowV .u32 16 (wordsOf xs xs.length))) ∧ Below w.heap.size w w' := by
  have HR : Hid (RowI w.heap.size w a xs) := hr
  clear hr
  go_enter Try.func37, Try.ntmps37
  go_wp2
  go_loopw [8] (fun i wr => ∃ k : Nat, k ≤ xs.length ∧ i = .int .i64 (k : Int) ∧ Below w.heap.size w wr ∧ (∃ u, Hid (wr.heap[w.heap.size]? = some (.cells u 55 (0, 0)) ∧ u.size = 16)) ∧ Hid (RowAt wr (w.heap.size + 1) 55 .u32 16 (wordsOf xs k)))
    (fun i _ => xs.length - (intOf i).toNat)
  case atStart =>
    refine ⟨0, Nat.zero_le _, rfl, ((Below.refl _ _).alloc (Nat.le_refl _) _).alloc (by simp) _, ⟨_, ⟨(Lib.alloc_old _ _ w.heap.size (by simp)).trans (heap_alloc_new w _), rfl⟩⟩, ?_⟩
    have h := heap_alloc_new (w.alloc (.cells (rowV .u32 16 (fun _ => 0)) 55)) (.cells (rowV .u32 16 (fun _ => 0)) 55)
    rw [← zeroCha] at h
    exact RowAt.ext (f := fun _ => 0) (by simpa [RowAt, ← zeroCha] using h) (fun i _ => by unfold wordsOf; rw [if_neg (by omega)])
  case round =>
    obtain ⟨k, hk, rfl, hB, ⟨u, HU⟩, HW⟩ := hrel
    by_cases hlt : k < xs.length
    · obtain ⟨b, off, rfl⟩ := HR.out.addr hlt
      obtain ⟨hb, c0⟩ := HR.out.at hB hlt
      have hi0 : (0 : Int) ≤ (k : Int) := by omega
      have hi1 : (k : Int) < (xs.length : Int) := by omega
      have hi2 : (k : Int) < 16 := by omega
      have c1 := HW.out.cell (show k < 16 by omega)
      have z1 := HW.out.froz k
      have HY : Hid (xs.getD k 0 % 4294967296 = (((xs.getD k 0 % 4294967296).toNat : Nat) : Int)) := by show _ = _; omega
      have HS : Hid _ := HW.out.set (show k < 16 by omega) (xs.getD k 0 % 4294967296).toNat
      have HB : Hid (Below w.heap.size w wr) := hB
      have HN := wordsOf_upd xs k
      generalize xs.getD k 0 = y at c0 HY HS HN
      clear hB
      go_wp2
      rw [HY.out]
      go_roundw
      case rel => exact ⟨k + 1, by omega, by go_num, HB.out.setCell (show w.heap.size ≤ w.heap.size + 1 by omega) _, ⟨u, ⟨(Below.heap_setCell _ _ _ _ (by simp)).trans HU.out.1, HU.out.2⟩⟩, by rw [← HN]; exact HS⟩
      case measure => simp [intOf]; omega
    · obtain rfl : k = xs.length := by omega
      go_upto_region 7 with fail
      refine wp_region_lit ?_
      refine wpl_load rfl _ _ rfl _ rfl (w.heap.size + 1) (rowV .u32 16 (wordsOf xs xs.length)) rfl 55 (0, 0) HW.out _ Try.underlying55 rfl (sizeChaV _) ?_
      try simp only [Act.put, List.getElem_toArray, List.getElem_cons_succ, List.getElem_cons_zero, List.setIfInBounds_toArray, List.set_cons_succ, List.set_cons_zero]
      refine wpList_store_rowTo rfl _ _ _ rfl rfl w.heap.size (rowV .u32 16 (wordsOf xs xs.length)) rfl rfl 55 u HU.out.1 (sizeChaV _) (by rw [rowV_size]; exact HU.out.2) (rowV_one _ _ _) ?_
      have hR : (wr.setRow w.heap.size (rowV .u32 16 (wordsOf xs xs.length))).heap[w.heap.size]? = some (.cells (rowV .u32 16 (wordsOf xs xs.length)) 55 (0, 0)) := setRow_heap _ _ _ _ _ _ HU.out.1
      have hBB := below_setRow hB (Nat.le_refl _) (rowV .u32 16 (wordsOf xs xs.length))
      generalize wr.setRow w.heap.size (rowV .u32 16 (wordsOf xs xs.length)) = wz at hR hBB ⊢
      go_wp2
      refine bodyPost_ret (results_cell_row rfl _ _ w.heap.size 55 (rowV .u32 16 (wordsOf xs xs.length)) (0, 0) _ rfl ?_ Try.underlying55 rfl (sizeChaV _)) rfl ?_
      · exact hR
      · exact ⟨rfl, hBB⟩
end Go.Proofs.Ytilonodldidplaa
