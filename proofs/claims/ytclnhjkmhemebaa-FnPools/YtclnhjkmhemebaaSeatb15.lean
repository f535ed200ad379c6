/- The program's chapter 15: seats of a list of leases, and leases of seats; PoolOk. -/
import Derived.Test.YtclnhjkmhemebaaSeat15
import Derived.Test.YtclnhjkmhemebaaTermPut
import Derived.Laws.ResultCell
namespace Go.Proofs.Ytclnhjkmhemebaa
open Go.RowKit
set_option linter.unusedVariables false
def St.put (t : St) (p c : Int) : St := if p = 10 then ⟨⟨true, c⟩, t.s1, t.s2⟩ else if p = 11 then ⟨t.s0, ⟨true, c⟩, t.s2⟩ else ⟨t.s0, t.s1, ⟨true, c⟩⟩
/-- seatsOf, from a number on. -/
def seatsL : List Ls → Int → St → St × Bool
  | [], _, t => (t, true)
  | x :: l, n, t => if x.p < n then (St.zero, false) else if 13 ≤ x.p then (St.zero, false) else if t.has x.c = true then (St.zero, false) else seatsL l (x.p + 1) (t.put x.p x.c)
theorem seatsSize : (Try.prog.info? 97).map (·.size) = some 6 := by kernel_rfl
theorem store6 {w : World} {g : Nat} {t : TypeId} {u0 u1 u2 u3 u4 u5 : Value} (h : w.heap[g]? = some (.cells #[u0, u1, u2, u3, u4, u5] t (0, 0))) (v0 v1 v2 v3 v4 v5 : Value) :
    ((((((w.setCell ⟨g, 0, none⟩ v0).setCell ⟨g, 1, none⟩ v1).setCell ⟨g, 2, none⟩ v2).setCell ⟨g, 3, none⟩ v3).setCell ⟨g, 4, none⟩ v4).setCell ⟨g, 5, none⟩ v5).heap[g]? = some (.cells #[v0, v1, v2, v3, v4, v5] t (0, 0)) := by
  have h0 : (w.setCell ⟨g, 0, none⟩ v0).heap[g]? = some (.cells #[v0, u1, u2, u3, u4, u5] t (0, 0)) := (heap_setCell_same _ g 0 _ _ v0 h).trans rfl
  have h1 : ((w.setCell ⟨g, 0, none⟩ v0).setCell ⟨g, 1, none⟩ v1).heap[g]? = some (.cells #[v0, v1, u2, u3, u4, u5] t (0, 0)) := (heap_setCell_same _ g 1 _ _ v1 h0).trans rfl
  have h2 : (((w.setCell ⟨g, 0, none⟩ v0).setCell ⟨g, 1, none⟩ v1).setCell ⟨g, 2, none⟩ v2).heap[g]? = some (.cells #[v0, v1, v2, u3, u4, u5] t (0, 0)) := (heap_setCell_same _ g 2 _ _ v2 h1).trans rfl
  have h3 : ((((w.setCell ⟨g, 0, none⟩ v0).setCell ⟨g, 1, none⟩ v1).setCell ⟨g, 2, none⟩ v2).setCell ⟨g, 3, none⟩ v3).heap[g]? = some (.cells #[v0, v1, v2, v3, u4, u5] t (0, 0)) := (heap_setCell_same _ g 3 _ _ v3 h2).trans rfl
  have h4 : (((((w.setCell ⟨g, 0, none⟩ v0).setCell ⟨g, 1, none⟩ v1).setCell ⟨g, 2, none⟩ v2).setCell ⟨g, 3, none⟩ v3).setCell ⟨g, 4, none⟩ v4).heap[g]? = some (.cells #[v0, v1, v2, v3, v4, u5] t (0, 0)) := (heap_setCell_same _ g 4 _ _ v4 h3).trans rfl
  have h5 : ((((((w.setCell ⟨g, 0, none⟩ v0).setCell ⟨g, 1, none⟩ v1).setCell ⟨g, 2, none⟩ v2).setCell ⟨g, 3, none⟩ v3).setCell ⟨g, 4, none⟩ v4).setCell ⟨g, 5, none⟩ v5).heap[g]? = some (.cells #[v0, v1, v2, v3, v4, v5] t (0, 0)) := (heap_setCell_same _ g 5 _ _ v5 h4).trans rfl
  exact h5
theorem below6 {B g : Nat} {w w' : World} (h : Below B w w') (hg : B ≤ g) (v0 v1 v2 v3 v4 v5 : Value) : Below B w ((((((w'.setCell ⟨g, 0, none⟩ v0).setCell ⟨g, 1, none⟩ v1).setCell ⟨g, 2, none⟩ v2).setCell ⟨g, 3, none⟩ v3).setCell ⟨g, 4, none⟩ v4).setCell ⟨g, 5, none⟩ v5) :=
  ((((((h.setCell (show B ≤ g from hg) _).setCell (show B ≤ g from hg) _).setCell (show B ≤ g from hg) _).setCell (show B ≤ g from hg) _).setCell (show B ≤ g from hg) _).setCell (show B ≤ g from hg) _)
set_option maxHeartbeats 3200000 in
set_option maxRecDepth 20000 in
theorem seatsOf_any (a : Option Addr) (cap : Nat) (ls : List Ls) (w : World) (hl : ls.length ≤ 1048576) (hf : ∀ y ∈ ls, y.Fits) (hr : RowLs w.heap.size w a ls) :
    Calls Try.prog 72 #[.slice a ls.length cap] w fun e w' => e = .returned (.tuple #[(seatsL ls 10 St.zero).1.val, .bool (seatsL ls 10 St.zero).2]) ∧ Below w.heap.size w w' := by
  have HR : Hid (RowLs w.heap.size w a ls) := hr
  have HFI : Hid (∀ y ∈ ls, y.Fits) := hf
  clear hr hf
  have hb0 : Below w.heap.size w ((w.alloc (.cells #[.bool false, .int .i64 0, .bool false, .int .i64 0, .bool false, .int .i64 0] 97)).alloc (.cells #[.bool false, .int .i64 0, .bool false, .int .i64 0, .bool false, .int .i64 0] 97)) := ((Below.refl _ _).alloc (Nat.le_refl _) _).alloc (by simp) _
  have HA0 : Hid (((w.alloc (.cells #[.bool false, .int .i64 0, .bool false, .int .i64 0, .bool false, .int .i64 0] 97)).alloc (.cells #[.bool false, .int .i64 0, .bool false, .int .i64 0, .bool false, .int .i64 0] 97)).heap[w.heap.size]? = some (.cells #[.bool false, .int .i64 0, .bool false, .int .i64 0, .bool false, .int .i64 0] 97 (0, 0))) := (heap_alloc_old _ _ (by simp)).trans (heap_alloc_new w _)
  have HA1 : Hid (((w.alloc (.cells #[.bool false, .int .i64 0, .bool false, .int .i64 0, .bool false, .int .i64 0] 97)).alloc (.cells #[.bool false, .int .i64 0, .bool false, .int .i64 0, .bool false, .int .i64 0] 97)).heap[(w.heap.size + 1)]? = some (.cells #[.bool false, .int .i64 0, .bool false, .int .i64 0, .bool false, .int .i64 0] 97 (0, 0))) := by
    have := heap_alloc_new (w.alloc (.cells #[.bool false, .int .i64 0, .bool false, .int .i64 0, .bool false, .int .i64 0] 97)) (.cells #[.bool false, .int .i64 0, .bool false, .int .i64 0, .bool false, .int .i64 0] 97)
    rw [show (w.alloc (.cells #[.bool false, .int .i64 0, .bool false, .int .i64 0, .bool false, .int .i64 0] 97)).heap.size = w.heap.size + 1 by simp] at this
    exact this
  have HB0 : Hid _ := hb0
  obtain ⟨V, HV⟩ : ∃ V, Hid (seatsL ls 10 St.zero = V) := ⟨_, rfl⟩
  rw [HV.out]
  clear hb0
  go_enter Try.func72, Try.ntmps72
  go_wp2_with fail
  go_loopw [5, 10] (fun nv iv wr => ∃ (k : Nat) (n : Int) (t : St), k ≤ ls.length ∧ nv = .int .i64 n ∧ iv = .int .i64 (k : Int) ∧ 10 ≤ n ∧ n ≤ 13 ∧ Hid (seatsL (ls.drop k) n t = V) ∧ Hid (Below w.heap.size w wr) ∧ Hid (wr.heap[w.heap.size]? = some (.cells #[.bool false, .int .i64 0, .bool false, .int .i64 0, .bool false, .int .i64 0] 97 (0, 0))) ∧ Hid (wr.heap[(w.heap.size + 1)]? = some (.cells #[.bool t.s0.b, .int .i64 t.s0.c, .bool t.s1.b, .int .i64 t.s1.c, .bool t.s2.b, .int .i64 t.s2.c] 97 (0, 0))))
    (fun _ iv _ => ls.length - (intOf iv).toNat)
  case atStart => exact ⟨0, 10, St.zero, Nat.zero_le _, rfl, rfl, by omega, by omega, HV, HB0, HA0, HA1⟩
  case round =>
    obtain ⟨k, n, t, hk, rfl, rfl, hn0, hn1, HF, HB, H0, H1⟩ := hrel
    have hl0 : w.heap.size < wr.heap.size := (Array.getElem?_eq_some_iff.1 H0.out).1
    have hl1 : w.heap.size + 1 < wr.heap.size := (Array.getElem?_eq_some_iff.1 H1.out).1
    by_cases hlt : k < ls.length
    · obtain ⟨b, off, rfl⟩ := HR.out.addr hlt
      obtain ⟨hb, c0, c1⟩ := HR.out.at HB.out hlt
      have hi0 : (0 : Int) ≤ (k : Int) := by omega
      have hi1 : (k : Int) < (ls.length : Int) := by omega
      have HD : Hid (seatsL (ls.drop k) n t = if (ls.getD k Ls.zero).p < n then (St.zero, false) else if 13 ≤ (ls.getD k Ls.zero).p then (St.zero, false) else if t.has (ls.getD k Ls.zero).c = true then (St.zero, false) else seatsL (ls.drop (k + 1)) ((ls.getD k Ls.zero).p + 1) (t.put (ls.getD k Ls.zero).p (ls.getD k Ls.zero).c)) := by show _ = _; rw [drop_cons hlt, seatsL]
      have hyf : (ls.getD k Ls.zero).Fits := HFI.out _ (by rw [List.getD_eq_getElem?_getD, List.getElem?_eq_getElem hlt]; exact List.getElem_mem hlt)
      generalize ls.getD k Ls.zero = y at c0 c1 HD hyf
      have HBN : Hid (Below wr.heap.size wr (wr.alloc (.cells #[.int .i64 y.p, .int .i64 y.c] 103))) := (Below.refl _ _).alloc (Nat.le_refl _) _
      have HN : Hid ((wr.alloc (.cells #[.int .i64 y.p, .int .i64 y.c] 103)).heap[wr.heap.size]? = some (.cells #[.int .i64 y.p, .int .i64 y.c] 103 (0, 0))) := heap_alloc_new wr _
      have HST2 : Hid _ := (heap_alloc_old _ (.cells #[.int .i64 y.p, .int .i64 y.c] 103) (by simpa using hl0)).trans (store6 H0.out (.bool false) (.int .i64 0) (.bool false) (.int .i64 0) (.bool false) (.int .i64 0))
      have HBE2 : Hid _ := (below6 (g := w.heap.size) HB.out (Nat.le_refl _) (.bool false) (.int .i64 0) (.bool false) (.int .i64 0) (.bool false) (.int .i64 0)).alloc (by have := HB.out.size; simp; omega) (.cells #[.int .i64 y.p, .int .i64 y.c] 103)
      have r0 : wr.cell? ⟨w.heap.size, 0, none⟩ = some (.bool false) := (cell_of_row _ _ 0 _ _ _ H0.out).trans rfl
      have fr0 : wr.frozen? ⟨w.heap.size, 0, none⟩ = false := frozen_of_row _ _ 0 _ _ H0.out
      have r1 : wr.cell? ⟨w.heap.size, 1, none⟩ = some (.int .i64 0) := (cell_of_row _ _ 1 _ _ _ H0.out).trans rfl
      have fr1 : wr.frozen? ⟨w.heap.size, 1, none⟩ = false := frozen_of_row _ _ 1 _ _ H0.out
      have r2 : wr.cell? ⟨w.heap.size, 2, none⟩ = some (.bool false) := (cell_of_row _ _ 2 _ _ _ H0.out).trans rfl
      have fr2 : wr.frozen? ⟨w.heap.size, 2, none⟩ = false := frozen_of_row _ _ 2 _ _ H0.out
      have r3 : wr.cell? ⟨w.heap.size, 3, none⟩ = some (.int .i64 0) := (cell_of_row _ _ 3 _ _ _ H0.out).trans rfl
      have fr3 : wr.frozen? ⟨w.heap.size, 3, none⟩ = false := frozen_of_row _ _ 3 _ _ H0.out
      have r4 : wr.cell? ⟨w.heap.size, 4, none⟩ = some (.bool false) := (cell_of_row _ _ 4 _ _ _ H0.out).trans rfl
      have fr4 : wr.frozen? ⟨w.heap.size, 4, none⟩ = false := frozen_of_row _ _ 4 _ _ H0.out
      have r5 : wr.cell? ⟨w.heap.size, 5, none⟩ = some (.int .i64 0) := (cell_of_row _ _ 5 _ _ _ H0.out).trans rfl
      have fr5 : wr.frozen? ⟨w.heap.size, 5, none⟩ = false := frozen_of_row _ _ 5 _ _ H0.out
      by_cases ha : y.p < n
      · have HV0 : Hid ((St.zero, false) = V) := by show _ = _; rw [← HF.out, HD.out, if_pos ha]
        clear HD HF
        go_wp2
        refine bodyPost_ret (res_cell2 rfl _ _ w.heap.size 97 #[.bool false, .int .i64 0, .bool false, .int .i64 0, .bool false, .int .i64 0] (0, 0) _ rfl ?_ Try.underlying97 rfl seatsSize) rfl ?_
        · exact HST2.out
        · exact ⟨by rw [← HV0.out]; rfl, HBE2.out⟩
      · by_cases hb13 : 13 ≤ y.p
        · have HV0 : Hid ((St.zero, false) = V) := by show _ = _; rw [← HF.out, HD.out, if_neg ha, if_pos hb13]
          have ha' : decide (y.p < n) = false := decide_eq_false ha
          have hb' : decide (13 ≤ y.p) = true := decide_eq_true hb13
          clear HD HF ha hb13
          go_wp2
          refine bodyPost_ret (res_cell2 rfl _ _ w.heap.size 97 #[.bool false, .int .i64 0, .bool false, .int .i64 0, .bool false, .int .i64 0] (0, 0) _ rfl ?_ Try.underlying97 rfl seatsSize) rfl ?_
          · exact HST2.out
          · exact ⟨by rw [← HV0.out]; rfl, HBE2.out⟩
        · have ha' : decide (y.p < n) = false := decide_eq_false ha
          have hb' : decide (13 ≤ y.p) = false := decide_eq_false hb13
          have hG1 := H1.out
          have q0 : wr.cell? ⟨(w.heap.size + 1), 0, none⟩ = some (.bool t.s0.b) := (cell_of_row _ _ 0 _ _ _ hG1).trans rfl
          have q1 : wr.cell? ⟨(w.heap.size + 1), 1, none⟩ = some (.int .i64 t.s0.c) := (cell_of_row _ _ 1 _ _ _ hG1).trans rfl
          have q2 : wr.cell? ⟨(w.heap.size + 1), 2, none⟩ = some (.bool t.s1.b) := (cell_of_row _ _ 2 _ _ _ hG1).trans rfl
          have q3 : wr.cell? ⟨(w.heap.size + 1), 3, none⟩ = some (.int .i64 t.s1.c) := (cell_of_row _ _ 3 _ _ _ hG1).trans rfl
          have q4 : wr.cell? ⟨(w.heap.size + 1), 4, none⟩ = some (.bool t.s2.b) := (cell_of_row _ _ 4 _ _ _ hG1).trans rfl
          have q5 : wr.cell? ⟨(w.heap.size + 1), 5, none⟩ = some (.int .i64 t.s2.c) := (cell_of_row _ _ 5 _ _ _ hG1).trans rfl
          obtain ⟨d, hd⟩ : ∃ d, t.has y.c = d := ⟨_, rfl⟩
          have HC : Hid (∀ wz, Calls Try.prog 73 #[t.val, .int .i64 y.c] wz fun e w' => e = .returned (.bool d) ∧ Below wz.heap.size wz w') := fun wz => by have := seatHas_any t y.c wz; rw [hd] at this; exact this
          have HDD : Hid (t.has y.c = d) := hd
          have HP : Hid (n ≤ y.p ∧ y.p < 13) := ⟨by omega, by omega⟩
          clear hd hG1 ha hb13 HST2 HBE2
          go_wp2_with fail
          refine Calls.mono (HC.out _) ?_
          rintro e w4 ⟨rfl, hb4⟩
          have HB4 : Hid (Below w.heap.size w w4) := (HB.out.trans (HBN.out.mono HB.out.size)).trans (hb4.mono (Nat.le_trans HB.out.size HBN.out.size))
          have hs : wr.heap.size < (wr.alloc (.cells #[.int .i64 y.p, .int .i64 y.c] 103)).heap.size := by simp
          have hN4 : w4.heap[wr.heap.size]? = some (.cells #[.int .i64 y.p, .int .i64 y.c] 103 (0, 0)) := (hb4.block _ hs).trans HN.out
          have h04 : w4.heap[w.heap.size]? = some (.cells #[.bool false, .int .i64 0, .bool false, .int .i64 0, .bool false, .int .i64 0] 97 (0, 0)) := (hb4.block _ (Nat.lt_trans hl0 hs)).trans ((HBN.out.block _ hl0).trans H0.out)
          have h14 : w4.heap[(w.heap.size + 1)]? = some (.cells #[.bool t.s0.b, .int .i64 t.s0.c, .bool t.s1.b, .int .i64 t.s1.c, .bool t.s2.b, .int .i64 t.s2.c] 97 (0, 0)) := (hb4.block _ (Nat.lt_trans hl1 hs)).trans ((HBN.out.block _ hl1).trans H1.out)
          clear hs hb4 HC HBN HN HB H0 H1 c0 c1 ha' hb' r0 fr0 q0 r1 fr1 q1 r2 fr2 q2 r3 fr3 q3 r4 fr4 q4 r5 fr5 q5
          cases d with
          | true =>
            have HV0 : Hid ((St.zero, false) = V) := by show _ = _; rw [← HF.out, HD.out, if_neg (Int.not_lt.2 HP.out.1), if_neg (Int.not_le.2 HP.out.2), if_pos HDD.out]
            have r0 : w4.cell? ⟨w.heap.size, 0, none⟩ = some (.bool false) := (cell_of_row _ _ 0 _ _ _ h04).trans rfl
            have fr0 : w4.frozen? ⟨w.heap.size, 0, none⟩ = false := frozen_of_row _ _ 0 _ _ h04
            have r1 : w4.cell? ⟨w.heap.size, 1, none⟩ = some (.int .i64 0) := (cell_of_row _ _ 1 _ _ _ h04).trans rfl
            have fr1 : w4.frozen? ⟨w.heap.size, 1, none⟩ = false := frozen_of_row _ _ 1 _ _ h04
            have r2 : w4.cell? ⟨w.heap.size, 2, none⟩ = some (.bool false) := (cell_of_row _ _ 2 _ _ _ h04).trans rfl
            have fr2 : w4.frozen? ⟨w.heap.size, 2, none⟩ = false := frozen_of_row _ _ 2 _ _ h04
            have r3 : w4.cell? ⟨w.heap.size, 3, none⟩ = some (.int .i64 0) := (cell_of_row _ _ 3 _ _ _ h04).trans rfl
            have fr3 : w4.frozen? ⟨w.heap.size, 3, none⟩ = false := frozen_of_row _ _ 3 _ _ h04
            have r4 : w4.cell? ⟨w.heap.size, 4, none⟩ = some (.bool false) := (cell_of_row _ _ 4 _ _ _ h04).trans rfl
            have fr4 : w4.frozen? ⟨w.heap.size, 4, none⟩ = false := frozen_of_row _ _ 4 _ _ h04
            have r5 : w4.cell? ⟨w.heap.size, 5, none⟩ = some (.int .i64 0) := (cell_of_row _ _ 5 _ _ _ h04).trans rfl
            have fr5 : w4.frozen? ⟨w.heap.size, 5, none⟩ = false := frozen_of_row _ _ 5 _ _ h04
            have HST : Hid _ := store6 h04 (.bool false) (.int .i64 0) (.bool false) (.int .i64 0) (.bool false) (.int .i64 0)
            have HBE : Hid _ := below6 (g := w.heap.size) HB4.out (Nat.le_refl _) (.bool false) (.int .i64 0) (.bool false) (.int .i64 0) (.bool false) (.int .i64 0)
            clear HD HF h04 h14 hN4
            go_wp2
            refine bodyPost_ret (res_cell2 rfl _ _ w.heap.size 97 #[.bool false, .int .i64 0, .bool false, .int .i64 0, .bool false, .int .i64 0] (0, 0) _ rfl ?_ Try.underlying97 rfl seatsSize) rfl ?_
            · exact HST.out
            · exact ⟨by rw [← HV0.out]; rfl, HBE.out⟩
          | false =>
            have HE : Hid (seatsL (ls.drop (k + 1)) (y.p + 1) (t.put y.p y.c) = V) := by show _ = _; rw [← HF.out, HD.out, if_neg (Int.not_lt.2 HP.out.1), if_neg (Int.not_le.2 HP.out.2), if_neg (by rw [HDD.out]; decide)]
            clear HD HF HDD
            have hp3 : y.p = 10 ∨ y.p = 11 ∨ y.p = 12 := by have := HP.out; omega
            clear HP
            obtain ⟨p, c⟩ := y
            simp only at hp3 hN4 HE hyf
            have e0 : w4.cell? ⟨wr.heap.size, 0, none⟩ = some (.int .i64 p) := (cell_of_row _ _ 0 _ _ _ hN4).trans rfl
            have e1 : w4.cell? ⟨wr.heap.size, 1, none⟩ = some (.int .i64 c) := (cell_of_row _ _ 1 _ _ _ hN4).trans rfl
            have hne : wr.heap.size ≠ w.heap.size + 1 := by omega
            have hne0 : w.heap.size ≠ w.heap.size + 1 := by omega
            rcases hp3 with rfl | rfl | rfl
            · have HE2 : Hid (seatsL (ls.drop (k + 1)) (10 + 1) ⟨⟨true, c⟩, t.s1, t.s2⟩ = V) := HE.out
              have q0 : w4.cell? ⟨(w.heap.size + 1), 0, none⟩ = some (.bool t.s0.b) := (cell_of_row _ _ 0 _ _ _ h14).trans rfl
              have fq0 : w4.frozen? ⟨(w.heap.size + 1), 0, none⟩ = false := frozen_of_row _ _ 0 _ _ h14
              have q1 : w4.cell? ⟨(w.heap.size + 1), 1, none⟩ = some (.int .i64 t.s0.c) := (cell_of_row _ _ 1 _ _ _ h14).trans rfl
              have fq1 : w4.frozen? ⟨(w.heap.size + 1), 1, none⟩ = false := frozen_of_row _ _ 1 _ _ h14
              have q2 : w4.cell? ⟨(w.heap.size + 1), 2, none⟩ = some (.bool t.s1.b) := (cell_of_row _ _ 2 _ _ _ h14).trans rfl
              have fq2 : w4.frozen? ⟨(w.heap.size + 1), 2, none⟩ = false := frozen_of_row _ _ 2 _ _ h14
              have q3 : w4.cell? ⟨(w.heap.size + 1), 3, none⟩ = some (.int .i64 t.s1.c) := (cell_of_row _ _ 3 _ _ _ h14).trans rfl
              have fq3 : w4.frozen? ⟨(w.heap.size + 1), 3, none⟩ = false := frozen_of_row _ _ 3 _ _ h14
              have q4 : w4.cell? ⟨(w.heap.size + 1), 4, none⟩ = some (.bool t.s2.b) := (cell_of_row _ _ 4 _ _ _ h14).trans rfl
              have fq4 : w4.frozen? ⟨(w.heap.size + 1), 4, none⟩ = false := frozen_of_row _ _ 4 _ _ h14
              have q5 : w4.cell? ⟨(w.heap.size + 1), 5, none⟩ = some (.int .i64 t.s2.c) := (cell_of_row _ _ 5 _ _ _ h14).trans rfl
              have fq5 : w4.frozen? ⟨(w.heap.size + 1), 5, none⟩ = false := frozen_of_row _ _ 5 _ _ h14
              have H05 : Hid (((w4.setCell ⟨(w.heap.size + 1), 0, none⟩ (.bool true)).setCell ⟨(w.heap.size + 1), 1, none⟩ (.int .i64 c)).heap[w.heap.size]? = some (.cells #[.bool false, .int .i64 0, .bool false, .int .i64 0, .bool false, .int .i64 0] 97 (0, 0))) := (Below.heap_setCell _ _ _ _ hne0).trans ((Below.heap_setCell _ _ _ _ hne0).trans h04)
              have H15 : Hid (((w4.setCell ⟨(w.heap.size + 1), 0, none⟩ (.bool true)).setCell ⟨(w.heap.size + 1), 1, none⟩ (.int .i64 c)).heap[(w.heap.size + 1)]? = some (.cells #[.bool true, .int .i64 c, .bool t.s1.b, .int .i64 t.s1.c, .bool t.s2.b, .int .i64 t.s2.c] 97 (0, 0))) := (heap_setCell_same _ _ 1 _ _ _ (heap_setCell_same _ _ 0 _ _ _ h14)).trans rfl
              have HB5 : Hid (Below w.heap.size w ((w4.setCell ⟨(w.heap.size + 1), 0, none⟩ (.bool true)).setCell ⟨(w.heap.size + 1), 1, none⟩ (.int .i64 c))) := (HB4.out.setCell (show w.heap.size ≤ w.heap.size + 1 by omega) _).setCell (show w.heap.size ≤ w.heap.size + 1 by omega) _
              have e05 : ((w4.setCell ⟨(w.heap.size + 1), 0, none⟩ (.bool true)).setCell ⟨(w.heap.size + 1), 1, none⟩ (.int .i64 c)).cell? ⟨wr.heap.size, 0, none⟩ = some (.int .i64 10) := by
                have h : ((w4.setCell ⟨(w.heap.size + 1), 0, none⟩ (.bool true)).setCell ⟨(w.heap.size + 1), 1, none⟩ (.int .i64 c)).heap[wr.heap.size]? = some (.cells #[.int .i64 10, .int .i64 c] 103 (0, 0)) := (Below.heap_setCell _ _ _ _ hne).trans ((Below.heap_setCell _ _ _ _ hne).trans hN4)
                exact (cell_of_row _ _ 0 _ _ _ h).trans rfl
              clear HE hN4 h04 h14
              go_wp2
              go_roundw
              case rel => exact ⟨k + 1, 10 + 1, ⟨⟨true, c⟩, t.s1, t.s2⟩, by omega, rfl, by go_num, by omega, by omega, HE2, HB5, H05, H15⟩
              case measure => simp [intOf]; omega
            · have HE2 : Hid (seatsL (ls.drop (k + 1)) (11 + 1) ⟨t.s0, ⟨true, c⟩, t.s2⟩ = V) := HE.out
              have q0 : w4.cell? ⟨(w.heap.size + 1), 0, none⟩ = some (.bool t.s0.b) := (cell_of_row _ _ 0 _ _ _ h14).trans rfl
              have fq0 : w4.frozen? ⟨(w.heap.size + 1), 0, none⟩ = false := frozen_of_row _ _ 0 _ _ h14
              have q1 : w4.cell? ⟨(w.heap.size + 1), 1, none⟩ = some (.int .i64 t.s0.c) := (cell_of_row _ _ 1 _ _ _ h14).trans rfl
              have fq1 : w4.frozen? ⟨(w.heap.size + 1), 1, none⟩ = false := frozen_of_row _ _ 1 _ _ h14
              have q2 : w4.cell? ⟨(w.heap.size + 1), 2, none⟩ = some (.bool t.s1.b) := (cell_of_row _ _ 2 _ _ _ h14).trans rfl
              have fq2 : w4.frozen? ⟨(w.heap.size + 1), 2, none⟩ = false := frozen_of_row _ _ 2 _ _ h14
              have q3 : w4.cell? ⟨(w.heap.size + 1), 3, none⟩ = some (.int .i64 t.s1.c) := (cell_of_row _ _ 3 _ _ _ h14).trans rfl
              have fq3 : w4.frozen? ⟨(w.heap.size + 1), 3, none⟩ = false := frozen_of_row _ _ 3 _ _ h14
              have q4 : w4.cell? ⟨(w.heap.size + 1), 4, none⟩ = some (.bool t.s2.b) := (cell_of_row _ _ 4 _ _ _ h14).trans rfl
              have fq4 : w4.frozen? ⟨(w.heap.size + 1), 4, none⟩ = false := frozen_of_row _ _ 4 _ _ h14
              have q5 : w4.cell? ⟨(w.heap.size + 1), 5, none⟩ = some (.int .i64 t.s2.c) := (cell_of_row _ _ 5 _ _ _ h14).trans rfl
              have fq5 : w4.frozen? ⟨(w.heap.size + 1), 5, none⟩ = false := frozen_of_row _ _ 5 _ _ h14
              have H05 : Hid (((w4.setCell ⟨(w.heap.size + 1), 2, none⟩ (.bool true)).setCell ⟨(w.heap.size + 1), 3, none⟩ (.int .i64 c)).heap[w.heap.size]? = some (.cells #[.bool false, .int .i64 0, .bool false, .int .i64 0, .bool false, .int .i64 0] 97 (0, 0))) := (Below.heap_setCell _ _ _ _ hne0).trans ((Below.heap_setCell _ _ _ _ hne0).trans h04)
              have H15 : Hid (((w4.setCell ⟨(w.heap.size + 1), 2, none⟩ (.bool true)).setCell ⟨(w.heap.size + 1), 3, none⟩ (.int .i64 c)).heap[(w.heap.size + 1)]? = some (.cells #[.bool t.s0.b, .int .i64 t.s0.c, .bool true, .int .i64 c, .bool t.s2.b, .int .i64 t.s2.c] 97 (0, 0))) := (heap_setCell_same _ _ 3 _ _ _ (heap_setCell_same _ _ 2 _ _ _ h14)).trans rfl
              have HB5 : Hid (Below w.heap.size w ((w4.setCell ⟨(w.heap.size + 1), 2, none⟩ (.bool true)).setCell ⟨(w.heap.size + 1), 3, none⟩ (.int .i64 c))) := (HB4.out.setCell (show w.heap.size ≤ w.heap.size + 1 by omega) _).setCell (show w.heap.size ≤ w.heap.size + 1 by omega) _
              have e05 : ((w4.setCell ⟨(w.heap.size + 1), 2, none⟩ (.bool true)).setCell ⟨(w.heap.size + 1), 3, none⟩ (.int .i64 c)).cell? ⟨wr.heap.size, 0, none⟩ = some (.int .i64 11) := by
                have h : ((w4.setCell ⟨(w.heap.size + 1), 2, none⟩ (.bool true)).setCell ⟨(w.heap.size + 1), 3, none⟩ (.int .i64 c)).heap[wr.heap.size]? = some (.cells #[.int .i64 11, .int .i64 c] 103 (0, 0)) := (Below.heap_setCell _ _ _ _ hne).trans ((Below.heap_setCell _ _ _ _ hne).trans hN4)
                exact (cell_of_row _ _ 0 _ _ _ h).trans rfl
              clear HE hN4 h04 h14
              go_wp2
              go_roundw
              case rel => exact ⟨k + 1, 11 + 1, ⟨t.s0, ⟨true, c⟩, t.s2⟩, by omega, rfl, by go_num, by omega, by omega, HE2, HB5, H05, H15⟩
              case measure => simp [intOf]; omega
            · have HE2 : Hid (seatsL (ls.drop (k + 1)) (12 + 1) ⟨t.s0, t.s1, ⟨true, c⟩⟩ = V) := HE.out
              have q0 : w4.cell? ⟨(w.heap.size + 1), 0, none⟩ = some (.bool t.s0.b) := (cell_of_row _ _ 0 _ _ _ h14).trans rfl
              have fq0 : w4.frozen? ⟨(w.heap.size + 1), 0, none⟩ = false := frozen_of_row _ _ 0 _ _ h14
              have q1 : w4.cell? ⟨(w.heap.size + 1), 1, none⟩ = some (.int .i64 t.s0.c) := (cell_of_row _ _ 1 _ _ _ h14).trans rfl
              have fq1 : w4.frozen? ⟨(w.heap.size + 1), 1, none⟩ = false := frozen_of_row _ _ 1 _ _ h14
              have q2 : w4.cell? ⟨(w.heap.size + 1), 2, none⟩ = some (.bool t.s1.b) := (cell_of_row _ _ 2 _ _ _ h14).trans rfl
              have fq2 : w4.frozen? ⟨(w.heap.size + 1), 2, none⟩ = false := frozen_of_row _ _ 2 _ _ h14
              have q3 : w4.cell? ⟨(w.heap.size + 1), 3, none⟩ = some (.int .i64 t.s1.c) := (cell_of_row _ _ 3 _ _ _ h14).trans rfl
              have fq3 : w4.frozen? ⟨(w.heap.size + 1), 3, none⟩ = false := frozen_of_row _ _ 3 _ _ h14
              have q4 : w4.cell? ⟨(w.heap.size + 1), 4, none⟩ = some (.bool t.s2.b) := (cell_of_row _ _ 4 _ _ _ h14).trans rfl
              have fq4 : w4.frozen? ⟨(w.heap.size + 1), 4, none⟩ = false := frozen_of_row _ _ 4 _ _ h14
              have q5 : w4.cell? ⟨(w.heap.size + 1), 5, none⟩ = some (.int .i64 t.s2.c) := (cell_of_row _ _ 5 _ _ _ h14).trans rfl
              have fq5 : w4.frozen? ⟨(w.heap.size + 1), 5, none⟩ = false := frozen_of_row _ _ 5 _ _ h14
              have H05 : Hid (((w4.setCell ⟨(w.heap.size + 1), 4, none⟩ (.bool true)).setCell ⟨(w.heap.size + 1), 5, none⟩ (.int .i64 c)).heap[w.heap.size]? = some (.cells #[.bool false, .int .i64 0, .bool false, .int .i64 0, .bool false, .int .i64 0] 97 (0, 0))) := (Below.heap_setCell _ _ _ _ hne0).trans ((Below.heap_setCell _ _ _ _ hne0).trans h04)
              have H15 : Hid (((w4.setCell ⟨(w.heap.size + 1), 4, none⟩ (.bool true)).setCell ⟨(w.heap.size + 1), 5, none⟩ (.int .i64 c)).heap[(w.heap.size + 1)]? = some (.cells #[.bool t.s0.b, .int .i64 t.s0.c, .bool t.s1.b, .int .i64 t.s1.c, .bool true, .int .i64 c] 97 (0, 0))) := (heap_setCell_same _ _ 5 _ _ _ (heap_setCell_same _ _ 4 _ _ _ h14)).trans rfl
              have HB5 : Hid (Below w.heap.size w ((w4.setCell ⟨(w.heap.size + 1), 4, none⟩ (.bool true)).setCell ⟨(w.heap.size + 1), 5, none⟩ (.int .i64 c))) := (HB4.out.setCell (show w.heap.size ≤ w.heap.size + 1 by omega) _).setCell (show w.heap.size ≤ w.heap.size + 1 by omega) _
              have e05 : ((w4.setCell ⟨(w.heap.size + 1), 4, none⟩ (.bool true)).setCell ⟨(w.heap.size + 1), 5, none⟩ (.int .i64 c)).cell? ⟨wr.heap.size, 0, none⟩ = some (.int .i64 12) := by
                have h : ((w4.setCell ⟨(w.heap.size + 1), 4, none⟩ (.bool true)).setCell ⟨(w.heap.size + 1), 5, none⟩ (.int .i64 c)).heap[wr.heap.size]? = some (.cells #[.int .i64 12, .int .i64 c] 103 (0, 0)) := (Below.heap_setCell _ _ _ _ hne).trans ((Below.heap_setCell _ _ _ _ hne).trans hN4)
                exact (cell_of_row _ _ 0 _ _ _ h).trans rfl
              clear HE hN4 h04 h14
              go_wp2
              go_roundw
              case rel => exact ⟨k + 1, 12 + 1, ⟨t.s0, t.s1, ⟨true, c⟩⟩, by omega, rfl, by go_num, by omega, by omega, HE2, HB5, H05, H15⟩
              case measure => simp [intOf]; omega
    · obtain rfl : k = ls.length := by omega
      have HV0 : Hid ((t, true) = V) := by show _ = _; rw [← HF.out, List.drop_length, seatsL]
      have r0 : wr.cell? ⟨w.heap.size, 0, none⟩ = some (.bool false) := (cell_of_row _ _ 0 _ _ _ H0.out).trans rfl
      have fr0 : wr.frozen? ⟨w.heap.size, 0, none⟩ = false := frozen_of_row _ _ 0 _ _ H0.out
      have r1 : wr.cell? ⟨w.heap.size, 1, none⟩ = some (.int .i64 0) := (cell_of_row _ _ 1 _ _ _ H0.out).trans rfl
      have fr1 : wr.frozen? ⟨w.heap.size, 1, none⟩ = false := frozen_of_row _ _ 1 _ _ H0.out
      have r2 : wr.cell? ⟨w.heap.size, 2, none⟩ = some (.bool false) := (cell_of_row _ _ 2 _ _ _ H0.out).trans rfl
      have fr2 : wr.frozen? ⟨w.heap.size, 2, none⟩ = false := frozen_of_row _ _ 2 _ _ H0.out
      have r3 : wr.cell? ⟨w.heap.size, 3, none⟩ = some (.int .i64 0) := (cell_of_row _ _ 3 _ _ _ H0.out).trans rfl
      have fr3 : wr.frozen? ⟨w.heap.size, 3, none⟩ = false := frozen_of_row _ _ 3 _ _ H0.out
      have r4 : wr.cell? ⟨w.heap.size, 4, none⟩ = some (.bool false) := (cell_of_row _ _ 4 _ _ _ H0.out).trans rfl
      have fr4 : wr.frozen? ⟨w.heap.size, 4, none⟩ = false := frozen_of_row _ _ 4 _ _ H0.out
      have r5 : wr.cell? ⟨w.heap.size, 5, none⟩ = some (.int .i64 0) := (cell_of_row _ _ 5 _ _ _ H0.out).trans rfl
      have fr5 : wr.frozen? ⟨w.heap.size, 5, none⟩ = false := frozen_of_row _ _ 5 _ _ H0.out
      have q0 : wr.cell? ⟨(w.heap.size + 1), 0, none⟩ = some (.bool t.s0.b) := (cell_of_row _ _ 0 _ _ _ H1.out).trans rfl
      have q1 : wr.cell? ⟨(w.heap.size + 1), 1, none⟩ = some (.int .i64 t.s0.c) := (cell_of_row _ _ 1 _ _ _ H1.out).trans rfl
      have q2 : wr.cell? ⟨(w.heap.size + 1), 2, none⟩ = some (.bool t.s1.b) := (cell_of_row _ _ 2 _ _ _ H1.out).trans rfl
      have q3 : wr.cell? ⟨(w.heap.size + 1), 3, none⟩ = some (.int .i64 t.s1.c) := (cell_of_row _ _ 3 _ _ _ H1.out).trans rfl
      have q4 : wr.cell? ⟨(w.heap.size + 1), 4, none⟩ = some (.bool t.s2.b) := (cell_of_row _ _ 4 _ _ _ H1.out).trans rfl
      have q5 : wr.cell? ⟨(w.heap.size + 1), 5, none⟩ = some (.int .i64 t.s2.c) := (cell_of_row _ _ 5 _ _ _ H1.out).trans rfl
      have HST : Hid _ := store6 H0.out (.bool t.s0.b) (.int .i64 t.s0.c) (.bool t.s1.b) (.int .i64 t.s1.c) (.bool t.s2.b) (.int .i64 t.s2.c)
      have HBE : Hid _ := below6 (g := w.heap.size) HB.out (Nat.le_refl _) (.bool t.s0.b) (.int .i64 t.s0.c) (.bool t.s1.b) (.int .i64 t.s1.c) (.bool t.s2.b) (.int .i64 t.s2.c)
      clear HF H0 H1 HB
      go_wp2
      refine bodyPost_ret (res_cell2 rfl _ _ w.heap.size 97 #[.bool t.s0.b, .int .i64 t.s0.c, .bool t.s1.b, .int .i64 t.s1.c, .bool t.s2.b, .int .i64 t.s2.c] (0, 0) _ rfl ?_ Try.underlying97 rfl seatsSize) rfl ?_
      · exact HST.out
      · exact ⟨by rw [← HV0.out]; rfl, HBE.out⟩
end Go.Proofs.Ytclnhjkmhemebaa
