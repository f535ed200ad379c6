/- The specification's ChaStream (chapter 24), and where it refuses. -/
import Derived.Test.YtkcbolcodgmpaaaStream24
import Derived.WalkKit
import Derived.WalkLawsBesides
import Derived.WalkSpells
import Derived.BigRegion
namespace Go.Proofs.Ytkcbolcodgmpaaa
open Go.RowKit Go.PlainAid
set_option maxRecDepth 20000
set_option linter.unusedVariables false
set_option linter.unusedSimpArgs false
theorem downs_ext {f f' : Nat → Nat} (h : ∀ i, i < 16 → f i = f' i) : ∀ k, k ≤ 4 → ∀ i, i < 16 → downs f k i = downs f' k i
  | 0, _ => h
  | k + 1, hk => quarter_ext (downs_ext h k (by omega)) (by omega) (by omega) (by omega) (by omega)
theorem aslants_ext {f f' : Nat → Nat} (h : ∀ i, i < 16 → f i = f' i) : ∀ k, k ≤ 4 → ∀ i, i < 16 → aslants f k i = aslants f' k i
  | 0, _ => h
  | k + 1, hk => quarter_ext (aslants_ext h k (by omega)) (by omega) (by omega) (by omega) (by omega)
theorem twenty_ext {f f' : Nat → Nat} (h : ∀ i, i < 16 → f i = f' i) : ∀ k, ∀ i, i < 16 → twenty f k i = twenty f' k i
  | 0 => h
  | k + 1 => aslants_ext (downs_ext (twenty_ext h k) 4 (by omega)) 4 (by omega)
theorem blockT_ext {f f' : Nat → Nat} (h : ∀ i, i < 16 → f i = f' i) : blockT f = blockT f' := by
  unfold blockT leT
  rw [leL_ext (f := blockW f) (g := blockW f') 16 (fun i hi => by unfold blockW; rw [twenty_ext h 10 i hi, h i hi])]
theorem chaB_of {f : Nat → Nat} (h : Words f) : chaB (bytesV 16 f) = blockT f := by
  have hall : allW (bytesV 16 f) = true := (allW_iff _).2 (fun j hj => by
    rw [bytesV_len] at hj
    rw [bytesV_get f hj]
    have := h j
    exact (okW_iff _).2 ⟨by omega, by omega⟩)
  have hb : areB (bytesV 16 f) 16 = true := by unfold areB; rw [hall, bytesV_len]; rfl
  unfold chaB
  rw [if_pos hb]
  apply blockT_ext
  intro i hi
  unfold wordsOf
  rw [if_pos hi, bytesV_get f hi]
  have := h i
  omega
theorem RowC.rowI {w : World} {g n : Nat} {f : Nat → Nat} (h : RowC w g .i64 n f) : RowI w.heap.size w (some ⟨g, 0, none⟩) (bytesV n f) := by
  refine .inr ⟨g, 0, rfl, h.lt, fun j hj => ?_⟩
  rw [bytesV_len] at hj
  rw [Nat.zero_add, h.c j hj, bytesV_get f hj]
def sLen : Value → Nat
  | .string s => s.size
  | _ => 0
set_option maxHeartbeats 3200000 in
theorem specStream_yes (key nonce : ByteArray) (c n : Nat) (w : World) (h1 : key.size = 32) (h2 : nonce.size = 12) (hc : c < 4294967296) (hn : n ≤ 10000) :
    Calls Try.prog 6 #[.string key, .string nonce, .int .i64 (c : Int), .int .i64 (n : Int)] w fun e w' => e = .returned (.tuple #[.string ((streamB (wordsT (startT key nonce c)) (blocksFor n)).extract 0 n), .bool true]) ∧ Below w.heap.size w w' := by
  have hS0 := specStart_any key nonce (c : Int) w
  have hok : startOk key nonce (c : Int) = true := by unfold startOk; rw [decide_eq_true h1, decide_eq_true h2, (okW_iff _).2 ⟨by omega, by omega⟩]; rfl
  obtain ⟨F, HF⟩ : ∃ F, Hid (F = wordsT (startT key nonce c)) := ⟨_, rfl⟩
  have HW : Hid (Words F) := by show Words F; rw [HF.out]; exact wordsT_lt _
  have hL : startL key nonce (c : Int) = bytesV 16 F := by unfold startL; rw [if_pos hok, Int.toNat_natCast, HF.out]
  rw [hok, hL] at hS0
  rw [← HF.out]
  have HS : Hid _ := hS0
  have HI : Hid (∀ wz, Calls Try.prog 12 #[.int .i64 (n : Int), .int .i64 0, .int .i64 10000] wz fun e w' => e = .returned (.bool true) ∧ wz = w') := fun wz => by
    have := specInW (n : Int) 0 10000 wz
    rw [show inW (n : Int) 0 10000 = true by unfold inW; rw [decide_eq_true (by omega), decide_eq_true (by omega)]; rfl] at this
    exact this
  have HM : Hid (n ≤ 10000) := hn
  clear h1 h2 hc HF hn hS0 hok hL
  go_enter Try.func6, Try.ntmps6
  go_wp2_with fail
  refine Calls.mono HS.out ?_
  rintro e w1 ⟨v, rfl, ho, hb1⟩
  obtain ⟨g, cp, rfl, hg, hrow⟩ := own_rowC (f := F) ho (bytesV_len 16 F) (by omega) (fun i hi => bytesV_get F hi)
  have HB1 : Hid (Below w.heap.size w w1) := hb1
  have HR1 : Hid (RowC w1 g .i64 16 (later F 0)) := by rw [later_zero HW.out]; exact hrow
  have HG : Hid (w.heap.size ≤ g) := hg
  clear ho hb1 hrow HS hg
  go_wp2_with fail
  refine Calls.mono (HI.out _) ?_
  rintro e w2 ⟨rfl, rfl⟩
  clear HI
  go_wp2
  go_loopw [12] (fun o wr => ∃ k : Nat, k ≤ blocksFor n ∧ o = .string (streamB F k) ∧ Hid (Below w.heap.size w wr) ∧ Hid (RowC wr g .i64 16 (later F k)))
    (fun o _ => n - sLen o)
  case atStart => exact ⟨0, Nat.zero_le _, rfl, HB1, HR1⟩
  case round =>
    clear HB1 HR1
    obtain ⟨k, hk, rfl, HB, HR⟩ := hrel
    have hsz : (((streamB F k).size : Nat) : Int) = 64 * (k : Int) := by rw [streamB_size]; push_cast; rfl
    have HSZ : Hid ((streamB F k).size = 64 * k) := streamB_size F k
    by_cases hlt : 64 * k < n
    · have hd3 : 64 * (k : Int) < (n : Int) := by omega
      have HK : Hid _ := more_blocks hk hlt
      have HMM : Hid (64 * k < n) := hlt
      have hC0 := specBlock_any (some ⟨g, 0, none⟩) cp (bytesV 16 (later F k)) wr (by rw [bytesV_len]; omega) HR.out.rowI
      rw [chaB_of (later_lt HW.out k), bytesV_len] at hC0
      have HC : Hid _ := hC0
      have HN : Hid (streamB F k ++ blockT (later F k) = streamB F (k + 1)) := rfl
      have HZ : Hid ((blockT (later F k)).size = 64) := blockT_size _
      generalize blockT (later F k) = B at HC HN HZ
      clear hk hlt hC0
      have hz := HZ.out
      have hk2 : k ≤ 10000 := by have := HM.out; have := HMM.out; omega
      have hszN := HSZ.out
      go_wp2_with fail
      refine Calls.mono HC.out ?_
      rintro e w4 ⟨rfl, hb4⟩
      have HR4 : Hid (RowC w4 g .i64 16 (later F k)) := HR.out.next hb4
      have HB4 : Hid (Below w.heap.size w w4) := HB.out.trans (hb4.mono HB.out.size)
      clear hb4 HR HB HC
      have c1 := HR4.out.c 12 (by omega)
      have z1 := HR4.out.z 12 (by omega)
      have hy := later_lt HW.out k 12
      have HE : Hid (∀ wz, Calls Try.prog 14 #[.int .i64 ((later F k 12 + 1 : Nat) : Int)] wz fun e w' => e = .returned (.int .i64 (((later F k 12 + 1) % 4294967296 : Nat) : Int)) ∧ wz = w') := fun wz => cutN_any _ _ wz rfl
      have HR6 : Hid (RowC (w4.setCell ⟨g, 12, none⟩ (.int .i64 (((later F k 12 + 1) % 4294967296 : Nat) : Int))) g .i64 16 (later F (k + 1))) := by
        have h := HR4.out.set (show 12 < 16 by omega) ((later F k 12 + 1) % 4294967296)
        rw [later_next] at h; exact h
      have HB6 : Hid (∀ v, Below w.heap.size w (w4.setCell ⟨g, 12, none⟩ v)) := fun v => HB4.out.setCell HG.out v
      have hw : IntKind.i64.wrap (((later F k 12 : Nat) : Int) + 1) = ((later F k 12 + 1 : Nat) : Int) := by rw [IntKind.wrap_i64]; omega
      generalize hM : (later F k 12 + 1) % 4294967296 = M at HE HR6
      generalize later F k 12 + 1 = sm at HE hw
      generalize later F k 12 = y at c1 hw hy
      clear HR4 HB4 hM
      go_wp2_with fail
      refine Calls.mono (HE.out _) ?_
      rintro e wq ⟨rfl, rfl⟩
      rw [HN.out]
      go_wp2
      go_roundw
      case rel => exact ⟨k + 1, HK.out, rfl, HB6.out _, HR6⟩
      case measure =>
        show n - (streamB F (k + 1)).size < n - (streamB F k).size
        rw [streamB_size, streamB_size]
        have := HMM.out
        omega
    · obtain rfl : k = blocksFor n := all_blocks hk hlt
      have hd3 : ¬ 64 * ((blocksFor n : Nat) : Int) < (n : Int) := by omega
      have hT : (n : Int) ≤ (((streamB F (blocksFor n)).size : Nat) : Int) := by rw [streamB_size]; omega
      clear hk hlt
      go_wp2
      go_ret2
      exact ⟨rfl, HB.out⟩
theorem streamOk_no {key nonce : ByteArray} {c n : Int} (h : streamOk key nonce c n = false) : startOk key nonce c = false ∨ startOk key nonce c = true ∧ (n < 0 ∨ 0 ≤ n ∧ 10000 < n) := by
  unfold streamOk at h
  cases hb : startOk key nonce c
  · exact .inl rfl
  · right
    rw [hb, Bool.true_and] at h
    have := of_decide_eq_false h
    exact ⟨rfl, by omega⟩
set_option maxHeartbeats 1600000 in
theorem specStream_no (key nonce : ByteArray) (c n : Int) (w : World) (h : streamOk key nonce c n = false) :
    Calls Try.prog 6 #[.string key, .string nonce, .int .i64 c, .int .i64 n] w fun e w' => e = .returned (.tuple #[.string ByteArray.empty, .bool false]) ∧ Below w.heap.size w w' := by
  have HS0 := specStart_any key nonce c w
  rcases streamOk_no h with h1 | ⟨h1, h2⟩
  · rw [h1] at HS0
    have HS : Hid _ := HS0
    clear h h1 HS0
    go_enter Try.func6, Try.ntmps6
    go_wp2_with fail
    refine Calls.mono HS.out ?_
    rintro e w1 ⟨v, rfl, ho, hb1⟩
    clear ho
    go_wp2
    go_ret2
    exact ⟨rfl, hb1⟩
  · have HI : Hid (∀ wz, Calls Try.prog 12 #[.int .i64 n, .int .i64 0, .int .i64 10000] wz fun e w' => e = .returned (.bool false) ∧ wz = w') := fun wz => by
      have := specInW n 0 10000 wz
      rw [show inW n 0 10000 = false by unfold inW; rw [← Bool.decide_and]; exact decide_eq_false (by omega)] at this
      exact this
    rw [h1] at HS0
    have HS : Hid _ := HS0
    clear h h1 HS0 h2
    go_enter Try.func6, Try.ntmps6
    go_wp2_with fail
    refine Calls.mono HS.out ?_
    rintro e w1 ⟨v, rfl, ho, hb1⟩
    clear ho
    go_wp2_with fail
    refine Calls.mono (HI.out _) ?_
    rintro e w2 ⟨rfl, rfl⟩
    go_wp2
    go_ret2
    exact ⟨rfl, hb1⟩
set_option maxHeartbeats 1600000 in
theorem implStream_no (key nonce : ByteArray) (c n : Int) (w : World) (h : streamOk key nonce c n = false) :
    Calls Try.prog 17 #[.string key, .string nonce, .int .i64 c, .int .i64 n] w fun e w' => e = .returned (.tuple #[.string ByteArray.empty, .bool false]) ∧ Below w.heap.size w w' := by
  obtain ⟨b, F, HS, hb⟩ : ∃ (b : Bool) (F : Nat → Nat), Hid (∀ wz, Calls Try.prog 31 #[.string key, .string nonce, .int .i64 c] wz fun e w' => e = .returned (.tuple #[.agg (rowV .u32 16 F), .bool b]) ∧ Below wz.heap.size wz w') ∧ (b = false ∨ b = true ∧ (n < 0 ∨ 0 ≤ n ∧ 10000 < n)) := by
    rcases streamOk_no h with h1 | ⟨h1, h2⟩
    · exact ⟨false, fun _ => 0, fun wz => start_no key nonce c wz h1, .inl rfl⟩
    · obtain ⟨q1, q2, q3, q4⟩ := startOk_yes h1
      have h5 : c.toNat < 4294967296 := by omega
      have h6 : ((c.toNat : Nat) : Int) = c := by omega
      refine ⟨true, wordsT (startT key nonce c.toNat), fun wz => ?_, .inr ⟨rfl, h2⟩⟩
      have := start_yes key nonce c.toNat wz q1 q2 h5
      rw [h6] at this
      exact this
  clear h
  rcases hb with rfl | ⟨rfl, h2⟩
  case' inl => skip
  case' inr => rcases h2 with h2 | ⟨h2, h3⟩
  all_goals
    go_enter Try.func17, Try.ntmps17
    go_wp2_with fail
    refine Calls.mono (HS.out _) ?_
    rintro e w1 ⟨rfl, hb1⟩
    have HB1 : Hid (Below w.heap.size w w1) := hb1
    clear hb1 HS
    rename_i hq
    refine hq _ _ ?_
    clear hq
    refine wpl_move rfl _ rfl _ (.tuple #[.agg (rowV .u32 16 F), .bool _]) rfl rfl ?_
    simp only [Act.put, List.getElem_toArray, List.getElem_cons_succ, List.getElem_cons_zero, List.setIfInBounds_toArray, List.set_cons_succ, List.set_cons_zero]
    refine Go.Great.wpList_runTo rfl _ rfl (.agg (rowV .u32 16 F)) w1 (by unfold execOp; go_simp) ?_
    simp only [Act.put, List.getElem_toArray, List.getElem_cons_succ, List.getElem_cons_zero, List.setIfInBounds_toArray, List.set_cons_succ, List.set_cons_zero]
    refine Go.Great.wpList_runTo rfl _ rfl (.bool _) w1 (by unfold execOp; go_simp; rfl) ?_
    simp only [Act.put, List.getElem_toArray, List.getElem_cons_succ, List.getElem_cons_zero, List.setIfInBounds_toArray, List.set_cons_succ, List.set_cons_zero]
    refine Go.Great.wpList_allocTo rfl _ rfl (.pointer (some ⟨w1.heap.size, 0, none⟩)) (.cells (rowV .u32 16 (fun _ => 0)) 49) (by rw [← zeroCha]; unfold execOp; go_simp) ?_
    simp only [Act.put, List.getElem_toArray, List.getElem_cons_succ, List.getElem_cons_zero, List.setIfInBounds_toArray, List.set_cons_succ, List.set_cons_zero]
    have hA1 := heap_alloc_new w1 (.cells (rowV .u32 16 (fun _ => 0)) 49)
    refine wpList_store_rowTo rfl _ _ _ rfl rfl w1.heap.size (rowV .u32 16 F) rfl rfl 49 (rowV .u32 16 (fun _ => 0)) hA1 (sizeChaV _) (by rw [rowV_size, rowV_size]) (rowV_one _ _ _) ?_
    have HB2 : Hid (Below w.heap.size w ((w1.alloc (.cells (rowV .u32 16 (fun _ => 0)) 49)).setRow w1.heap.size (rowV .u32 16 F))) := below_setRow (HB1.out.alloc HB1.out.size _) HB1.out.size _
    generalize (w1.alloc (.cells (rowV .u32 16 (fun _ => 0)) 49)).setRow w1.heap.size (rowV .u32 16 F) = w2 at HB2 ⊢
    clear hA1 HB1
    go_wp2
    go_ret2
    exact ⟨rfl, HB2.out⟩
theorem specStream_any (key nonce : ByteArray) (c n : Int) (w : World) :
    Calls Try.prog 6 #[.string key, .string nonce, .int .i64 c, .int .i64 n] w fun e w' => e = .returned (.tuple #[.string (streamT key nonce c n), .bool (streamOk key nonce c n)]) ∧ Below w.heap.size w w' := by
  cases hb : streamOk key nonce c n
  · rw [show streamT key nonce c n = ByteArray.empty by unfold streamT; rw [hb, if_neg (by decide)]]
    exact specStream_no key nonce c n w hb
  · have hs : startOk key nonce c = true := by unfold streamOk at hb; simp only [Bool.and_eq_true] at hb; exact hb.1
    have hn : 0 ≤ n ∧ n ≤ 10000 := by unfold streamOk at hb; simp only [Bool.and_eq_true, decide_eq_true_eq] at hb; exact hb.2
    obtain ⟨h1, h2, h3, h4⟩ := startOk_yes hs
    have hc5 : c.toNat < 4294967296 := by omega
    have hn5 : n.toNat ≤ 10000 := by omega
    have hc6 : ((c.toNat : Nat) : Int) = c := by omega
    have hn6 : ((n.toNat : Nat) : Int) = n := by omega
    have := specStream_yes key nonce c.toNat n.toNat w h1 h2 hc5 hn5
    rw [hc6, hn6] at this
    rw [show streamT key nonce c n = (streamB (wordsT (startT key nonce c.toNat)) (blocksFor n.toNat)).extract 0 n.toNat by unfold streamT; rw [if_pos hb]]
    exact this
theorem implStream_any (key nonce : ByteArray) (c n : Int) (w : World) :
    Calls Try.prog 17 #[.string key, .string nonce, .int .i64 c, .int .i64 n] w fun e w' => e = .returned (.tuple #[.string (streamT key nonce c n), .bool (streamOk key nonce c n)]) ∧ Below w.heap.size w w' := by
  cases hb : streamOk key nonce c n
  · rw [show streamT key nonce c n = ByteArray.empty by unfold streamT; rw [hb, if_neg (by decide)]]
    exact implStream_no key nonce c n w hb
  · have hs : startOk key nonce c = true := by unfold streamOk at hb; simp only [Bool.and_eq_true] at hb; exact hb.1
    have hn : 0 ≤ n ∧ n ≤ 10000 := by unfold streamOk at hb; simp only [Bool.and_eq_true, decide_eq_true_eq] at hb; exact hb.2
    obtain ⟨h1, h2, h3, h4⟩ := startOk_yes hs
    have hc5 : c.toNat < 4294967296 := by omega
    have hn5 : n.toNat ≤ 10000 := by omega
    have hc6 : ((c.toNat : Nat) : Int) = c := by omega
    have hn6 : ((n.toNat : Nat) : Int) = n := by omega
    have := implStream_yes key nonce c.toNat n.toNat w h1 h2 hc5 hn5
    rw [hc6, hn6] at this
    rw [show streamT key nonce c n = (streamB (wordsT (startT key nonce c.toNat)) (blocksFor n.toNat)).extract 0 n.toNat by unfold streamT; rw [if_pos hb]]
    exact this
end Go.Proofs.Ytkcbolcodgmpaaa
