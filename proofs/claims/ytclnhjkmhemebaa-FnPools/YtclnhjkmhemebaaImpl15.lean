/- The program's chapter 15: leases, PoolOk, Leased. -/
import Derived.Test.YtclnhjkmhemebaaSeatP15
import Derived.Test.YtclnhjkmhemebaaDel15
import Derived.Deep.AppendLies
namespace Go.Proofs.Ytclnhjkmhemebaa
open Go.RowKit
set_option linter.unusedVariables false
def St.at (t : St) : Nat → Se
  | 0 => t.s0
  | 1 => t.s1
  | _ => t.s2
def St.leasesTo (t : St) : Nat → List Ls
  | 0 => []
  | k + 1 => t.leasesTo k ++ (if (t.at k).b = true then [⟨10 + (k : Int), (t.at k).c⟩] else [])
theorem St.leasesTo_le (t : St) : ∀ k, (t.leasesTo k).length ≤ k
  | 0 => Nat.le_refl _
  | k + 1 => by
    have := t.leasesTo_le k
    rw [St.leasesTo]
    split <;> simp <;> omega
theorem St.leases_to (t : St) : t.leasesTo 3 = t.leases := by
  simp only [St.leasesTo, St.leases, St.at, List.nil_append]
  rfl
set_option maxHeartbeats 3200000 in
set_option maxRecDepth 20000 in
theorem seatLeases_any (t : St) (w : World) :
    Calls Try.prog 76 #[t.val] w fun e w' => ∃ v, e = .returned v ∧ OwnLs w.heap.size w' v t.leases ∧ Below w.heap.size w w' := by
  obtain ⟨i0, hi, hz0, hz1, hz2⟩ := info_parts infoLs
  have hb0 : Below w.heap.size w (w.alloc (.cells t.cells 97)) := (Below.refl _ _).alloc (Nat.le_refl _) _
  have hA := heap_alloc_new w (.cells t.cells 97)
  have q0 : (w.alloc (.cells t.cells 97)).cell? ⟨w.heap.size, 0, none⟩ = some (.bool t.s0.b) := (cell_of_row _ _ 0 _ _ _ hA).trans rfl
  have q1 : (w.alloc (.cells t.cells 97)).cell? ⟨w.heap.size, 1, none⟩ = some (.int .i64 t.s0.c) := (cell_of_row _ _ 1 _ _ _ hA).trans rfl
  have q2 : (w.alloc (.cells t.cells 97)).cell? ⟨w.heap.size, 2, none⟩ = some (.bool t.s1.b) := (cell_of_row _ _ 2 _ _ _ hA).trans rfl
  have q3 : (w.alloc (.cells t.cells 97)).cell? ⟨w.heap.size, 3, none⟩ = some (.int .i64 t.s1.c) := (cell_of_row _ _ 3 _ _ _ hA).trans rfl
  have q4 : (w.alloc (.cells t.cells 97)).cell? ⟨w.heap.size, 4, none⟩ = some (.bool t.s2.b) := (cell_of_row _ _ 4 _ _ _ hA).trans rfl
  have q5 : (w.alloc (.cells t.cells 97)).cell? ⟨w.heap.size, 5, none⟩ = some (.int .i64 t.s2.c) := (cell_of_row _ _ 5 _ _ _ hA).trans rfl
  obtain ⟨V, HV⟩ : ∃ V, Hid (t.leasesTo 3 = V) := ⟨_, rfl⟩
  rw [← St.leases_to, HV.out]
  have HB0 : Hid _ := hb0
  have hsz : ∀ h : 95 < Try.prog.types.size, (Try.prog.types[95]'h).size = 2 := fun h => by kernel_rfl
  clear hb0 hA
  go_enter Try.func76, Try.ntmps76
  go_wp2_with fail
  go_loopw [3, 7] (fun v iv wr => ∃ k : Nat, k ≤ 3 ∧ iv = .int .i64 (k : Int) ∧ OwnLs w.heap.size wr v (t.leasesTo k) ∧ Hid (Below w.heap.size w wr))
    (fun _ iv _ => 3 - (intOf iv).toNat)
  case atStart => exact ⟨0, Nat.zero_le _, rfl, ⟨rfl, .inl ⟨rfl, rfl⟩⟩, HB0⟩
  case round =>
    obtain ⟨k, hk, rfl, hown, HB⟩ := hrel
    clear q0 q1 q2 q3 q4 q5
    rcases (show k = 0 ∨ k = 1 ∨ k = 2 ∨ k = 3 by omega) with rfl | rfl | rfl | rfl
    · have HL : Hid (t.leasesTo 1 = t.leasesTo 0 ++ (if t.s0.b = true then [⟨10, t.s0.c⟩] else [])) := by show _ = _; rfl
      have HLE : Hid ((t.leasesTo 0).length ≤ 0) := t.leasesTo_le 0
      have hlx : (t.leasesTo 0).length ≤ 3 := by have := HLE.out; omega
      generalize t.leasesTo 0 = xs at hown HL hlx HLE
      obtain ⟨sb, sc, hsb, hsc⟩ : ∃ sb sc, t.s0.b = sb ∧ t.s0.c = sc := ⟨_, _, rfl, rfl⟩
      rw [hsb, hsc] at HL
      have HSB : Hid (t.s0.b = sb) := hsb
      have HSC : Hid (t.s0.c = sc) := hsc
      clear hsb hsc
      have HBA : Hid (Below w.heap.size w (wr.alloc (.cells #[.bool sb, .int .i64 sc] 95))) := HB.out.alloc (by have := HB.out.size; omega) _
      cases sb with
      | false =>
        have HE : Hid (t.leasesTo 1 = xs) := by show _ = _; rw [HL.out]; simp
        have HO : Hid (OwnLs w.heap.size (wr.alloc (.cells #[.bool false, .int .i64 sc] 95)) u3 (t.leasesTo 1)) := by show OwnLs _ _ _ _; rw [HE.out]; exact OwnLs.later hown ((Below.refl _ _).alloc (Nat.le_refl _) _)
        clear HL hown
        go_wp2
        rename_i K hK
        refine hK _ _ ?_
        have hex : (#[.bool t.s0.b, .int .i64 t.s0.c, .bool t.s1.b, .int .i64 t.s1.c, .bool t.s2.b, .int .i64 t.s2.c] : Array Value).extract (Int.toNat 0 * 2) (Int.toNat 0 * 2 + 2) = #[.bool false, .int .i64 sc] := by show #[Value.bool t.s0.b, Value.int .i64 t.s0.c] = _; rw [HSB.out, HSC.out]
        simp only [hsz, hex]
        go_wp2
        go_roundw
        case rel => exact ⟨1, by omega, by go_num, HO.out, HBA⟩
        case measure => simp [intOf]
      | true =>
        have HE : Hid (t.leasesTo 1 = xs ++ [⟨10, sc⟩]) := by show _ = _; rw [HL.out]; simp
        have hown2 : OwnLs w.heap.size (wr.alloc (.cells #[.bool true, .int .i64 sc] 95)) u3 xs := OwnLs.later hown ((Below.refl _ _).alloc (Nat.le_refl _) _)
        have HO2 : Hid (OwnLs w.heap.size ((wr.alloc (.cells #[.bool true, .int .i64 sc] 95)).alloc (.cells #[.int .i64 10, .int .i64 sc] 103)) u3 xs) := OwnLs.later hown2 ((Below.refl _ _).alloc (Nat.le_refl _) _)
        have HN : Hid (((wr.alloc (.cells #[.bool true, .int .i64 sc] 95)).alloc (.cells #[.int .i64 10, .int .i64 sc] 103)).heap[wr.heap.size + 1]? = some (.cells #[.int .i64 10, .int .i64 sc] 103 (0, 0))) := by
          have := heap_alloc_new (wr.alloc (.cells #[.bool true, .int .i64 sc] 95)) (.cells #[.int .i64 10, .int .i64 sc] 103)
          rw [show (wr.alloc (.cells #[.bool true, .int .i64 sc] 95)).heap.size = wr.heap.size + 1 by simp] at this
          exact this
        have HBA2 : Hid (Below w.heap.size w ((wr.alloc (.cells #[.bool true, .int .i64 sc] 95)).alloc (.cells #[.int .i64 10, .int .i64 sc] 103))) := HBA.out.alloc (by have := HB.out.size; simp; omega) _
        clear HL hown2
        go_wp2
        rename_i K hK
        refine hK _ _ ?_
        have hex : (#[.bool t.s0.b, .int .i64 t.s0.c, .bool t.s1.b, .int .i64 t.s1.c, .bool t.s2.b, .int .i64 t.s2.c] : Array Value).extract (Int.toNat 0 * 2) (Int.toNat 0 * 2 + 2) = #[.bool true, .int .i64 sc] := by show #[Value.bool t.s0.b, Value.int .i64 t.s0.c] = _; rw [HSB.out, HSC.out]
        simp only [hsz, hex]
        go_wp2_with (at_builtin; refine wpList_append_own _ rfl _ _ 24 rfl w.heap.size 103 i0 _ 2 16 Try.underlying24 hi hz0 hz1 hz2 rfl (by decide) _ _ _ rfl HO2.out ⟨wr.heap.size + 1, 0, none⟩ 1 1 (Ls.cells ⟨10, sc⟩) rfl rfl ?c1 ?c2 ?c3 ?c4 ?c5 ?_)
        case c1 => exact World.news_of_block (cs := #[.int .i64 10, .int .i64 sc]) (t := 103) (fr := (0, 0)) HN.out
        case c2 => exact cellsLs_one [⟨10, sc⟩]
        case c3 => unfold maxLen; omega
        case c4 => omega
        case c5 => have := HB.out.size; simp; omega
        intro v' w2 hown' hgrow hnn
        have HB2 : Hid (Below w.heap.size w w2) := HBA2.out.grown hgrow (by have := HB.out.size; simp; omega) (fun k hk => (World.ownsRow.lt HO2.out k hk).1)
        have HO3 : Hid (OwnLs w.heap.size w2 v' (t.leasesTo 1)) := by
          show OwnLs _ _ _ _
          rw [HE.out]
          unfold OwnLs; rw [cellsLs_append, show cellsLs [⟨10, sc⟩] = Ls.cells ⟨10, sc⟩ by simp [cellsLs]]; simpa using hown'
        clear hown' hgrow hown hnn HO2 HBA2 HN HBA
        go_wp2
        go_roundw
        case rel => exact ⟨1, by omega, by go_num, HO3.out, HB2⟩
        case measure => simp [intOf]
    · have HL : Hid (t.leasesTo 2 = t.leasesTo 1 ++ (if t.s1.b = true then [⟨11, t.s1.c⟩] else [])) := by show _ = _; rfl
      have HLE : Hid ((t.leasesTo 1).length ≤ 1) := t.leasesTo_le 1
      have hlx : (t.leasesTo 1).length ≤ 3 := by have := HLE.out; omega
      generalize t.leasesTo 1 = xs at hown HL hlx HLE
      obtain ⟨sb, sc, hsb, hsc⟩ : ∃ sb sc, t.s1.b = sb ∧ t.s1.c = sc := ⟨_, _, rfl, rfl⟩
      rw [hsb, hsc] at HL
      have HSB : Hid (t.s1.b = sb) := hsb
      have HSC : Hid (t.s1.c = sc) := hsc
      clear hsb hsc
      have HBA : Hid (Below w.heap.size w (wr.alloc (.cells #[.bool sb, .int .i64 sc] 95))) := HB.out.alloc (by have := HB.out.size; omega) _
      cases sb with
      | false =>
        have HE : Hid (t.leasesTo 2 = xs) := by show _ = _; rw [HL.out]; simp
        have HO : Hid (OwnLs w.heap.size (wr.alloc (.cells #[.bool false, .int .i64 sc] 95)) u3 (t.leasesTo 2)) := by show OwnLs _ _ _ _; rw [HE.out]; exact OwnLs.later hown ((Below.refl _ _).alloc (Nat.le_refl _) _)
        clear HL hown
        go_wp2
        rename_i K hK
        refine hK _ _ ?_
        have hex : (#[.bool t.s0.b, .int .i64 t.s0.c, .bool t.s1.b, .int .i64 t.s1.c, .bool t.s2.b, .int .i64 t.s2.c] : Array Value).extract (Int.toNat 1 * 2) (Int.toNat 1 * 2 + 2) = #[.bool false, .int .i64 sc] := by show #[Value.bool t.s1.b, Value.int .i64 t.s1.c] = _; rw [HSB.out, HSC.out]
        simp only [hsz, hex]
        go_wp2
        go_roundw
        case rel => exact ⟨2, by omega, by go_num, HO.out, HBA⟩
        case measure => simp [intOf]
      | true =>
        have HE : Hid (t.leasesTo 2 = xs ++ [⟨11, sc⟩]) := by show _ = _; rw [HL.out]; simp
        have hown2 : OwnLs w.heap.size (wr.alloc (.cells #[.bool true, .int .i64 sc] 95)) u3 xs := OwnLs.later hown ((Below.refl _ _).alloc (Nat.le_refl _) _)
        have HO2 : Hid (OwnLs w.heap.size ((wr.alloc (.cells #[.bool true, .int .i64 sc] 95)).alloc (.cells #[.int .i64 11, .int .i64 sc] 103)) u3 xs) := OwnLs.later hown2 ((Below.refl _ _).alloc (Nat.le_refl _) _)
        have HN : Hid (((wr.alloc (.cells #[.bool true, .int .i64 sc] 95)).alloc (.cells #[.int .i64 11, .int .i64 sc] 103)).heap[wr.heap.size + 1]? = some (.cells #[.int .i64 11, .int .i64 sc] 103 (0, 0))) := by
          have := heap_alloc_new (wr.alloc (.cells #[.bool true, .int .i64 sc] 95)) (.cells #[.int .i64 11, .int .i64 sc] 103)
          rw [show (wr.alloc (.cells #[.bool true, .int .i64 sc] 95)).heap.size = wr.heap.size + 1 by simp] at this
          exact this
        have HBA2 : Hid (Below w.heap.size w ((wr.alloc (.cells #[.bool true, .int .i64 sc] 95)).alloc (.cells #[.int .i64 11, .int .i64 sc] 103))) := HBA.out.alloc (by have := HB.out.size; simp; omega) _
        clear HL hown2
        go_wp2
        rename_i K hK
        refine hK _ _ ?_
        have hex : (#[.bool t.s0.b, .int .i64 t.s0.c, .bool t.s1.b, .int .i64 t.s1.c, .bool t.s2.b, .int .i64 t.s2.c] : Array Value).extract (Int.toNat 1 * 2) (Int.toNat 1 * 2 + 2) = #[.bool true, .int .i64 sc] := by show #[Value.bool t.s1.b, Value.int .i64 t.s1.c] = _; rw [HSB.out, HSC.out]
        simp only [hsz, hex]
        go_wp2_with (at_builtin; refine wpList_append_own _ rfl _ _ 24 rfl w.heap.size 103 i0 _ 2 16 Try.underlying24 hi hz0 hz1 hz2 rfl (by decide) _ _ _ rfl HO2.out ⟨wr.heap.size + 1, 0, none⟩ 1 1 (Ls.cells ⟨11, sc⟩) rfl rfl ?c1 ?c2 ?c3 ?c4 ?c5 ?_)
        case c1 => exact World.news_of_block (cs := #[.int .i64 11, .int .i64 sc]) (t := 103) (fr := (0, 0)) HN.out
        case c2 => exact cellsLs_one [⟨11, sc⟩]
        case c3 => unfold maxLen; omega
        case c4 => omega
        case c5 => have := HB.out.size; simp; omega
        intro v' w2 hown' hgrow hnn
        have HB2 : Hid (Below w.heap.size w w2) := HBA2.out.grown hgrow (by have := HB.out.size; simp; omega) (fun k hk => (World.ownsRow.lt HO2.out k hk).1)
        have HO3 : Hid (OwnLs w.heap.size w2 v' (t.leasesTo 2)) := by
          show OwnLs _ _ _ _
          rw [HE.out]
          unfold OwnLs; rw [cellsLs_append, show cellsLs [⟨11, sc⟩] = Ls.cells ⟨11, sc⟩ by simp [cellsLs]]; simpa using hown'
        clear hown' hgrow hown hnn HO2 HBA2 HN HBA
        go_wp2
        go_roundw
        case rel => exact ⟨2, by omega, by go_num, HO3.out, HB2⟩
        case measure => simp [intOf]
    · have HL : Hid (t.leasesTo 3 = t.leasesTo 2 ++ (if t.s2.b = true then [⟨12, t.s2.c⟩] else [])) := by show _ = _; rfl
      have HLE : Hid ((t.leasesTo 2).length ≤ 2) := t.leasesTo_le 2
      have hlx : (t.leasesTo 2).length ≤ 3 := by have := HLE.out; omega
      generalize t.leasesTo 2 = xs at hown HL hlx HLE
      obtain ⟨sb, sc, hsb, hsc⟩ : ∃ sb sc, t.s2.b = sb ∧ t.s2.c = sc := ⟨_, _, rfl, rfl⟩
      rw [hsb, hsc] at HL
      have HSB : Hid (t.s2.b = sb) := hsb
      have HSC : Hid (t.s2.c = sc) := hsc
      clear hsb hsc
      have HBA : Hid (Below w.heap.size w (wr.alloc (.cells #[.bool sb, .int .i64 sc] 95))) := HB.out.alloc (by have := HB.out.size; omega) _
      cases sb with
      | false =>
        have HE : Hid (t.leasesTo 3 = xs) := by show _ = _; rw [HL.out]; simp
        have HO : Hid (OwnLs w.heap.size (wr.alloc (.cells #[.bool false, .int .i64 sc] 95)) u3 (t.leasesTo 3)) := by show OwnLs _ _ _ _; rw [HE.out]; exact OwnLs.later hown ((Below.refl _ _).alloc (Nat.le_refl _) _)
        clear HL hown
        go_wp2
        rename_i K hK
        refine hK _ _ ?_
        have hex : (#[.bool t.s0.b, .int .i64 t.s0.c, .bool t.s1.b, .int .i64 t.s1.c, .bool t.s2.b, .int .i64 t.s2.c] : Array Value).extract (Int.toNat 2 * 2) (Int.toNat 2 * 2 + 2) = #[.bool false, .int .i64 sc] := by show #[Value.bool t.s2.b, Value.int .i64 t.s2.c] = _; rw [HSB.out, HSC.out]
        simp only [hsz, hex]
        go_wp2
        go_roundw
        case rel => exact ⟨3, by omega, by go_num, HO.out, HBA⟩
        case measure => simp [intOf]
      | true =>
        have HE : Hid (t.leasesTo 3 = xs ++ [⟨12, sc⟩]) := by show _ = _; rw [HL.out]; simp
        have hown2 : OwnLs w.heap.size (wr.alloc (.cells #[.bool true, .int .i64 sc] 95)) u3 xs := OwnLs.later hown ((Below.refl _ _).alloc (Nat.le_refl _) _)
        have HO2 : Hid (OwnLs w.heap.size ((wr.alloc (.cells #[.bool true, .int .i64 sc] 95)).alloc (.cells #[.int .i64 12, .int .i64 sc] 103)) u3 xs) := OwnLs.later hown2 ((Below.refl _ _).alloc (Nat.le_refl _) _)
        have HN : Hid (((wr.alloc (.cells #[.bool true, .int .i64 sc] 95)).alloc (.cells #[.int .i64 12, .int .i64 sc] 103)).heap[wr.heap.size + 1]? = some (.cells #[.int .i64 12, .int .i64 sc] 103 (0, 0))) := by
          have := heap_alloc_new (wr.alloc (.cells #[.bool true, .int .i64 sc] 95)) (.cells #[.int .i64 12, .int .i64 sc] 103)
          rw [show (wr.alloc (.cells #[.bool true, .int .i64 sc] 95)).heap.size = wr.heap.size + 1 by simp] at this
          exact this
        have HBA2 : Hid (Below w.heap.size w ((wr.alloc (.cells #[.bool true, .int .i64 sc] 95)).alloc (.cells #[.int .i64 12, .int .i64 sc] 103))) := HBA.out.alloc (by have := HB.out.size; simp; omega) _
        clear HL hown2
        go_wp2
        rename_i K hK
        refine hK _ _ ?_
        have hex : (#[.bool t.s0.b, .int .i64 t.s0.c, .bool t.s1.b, .int .i64 t.s1.c, .bool t.s2.b, .int .i64 t.s2.c] : Array Value).extract (Int.toNat 2 * 2) (Int.toNat 2 * 2 + 2) = #[.bool true, .int .i64 sc] := by show #[Value.bool t.s2.b, Value.int .i64 t.s2.c] = _; rw [HSB.out, HSC.out]
        simp only [hsz, hex]
        go_wp2_with (at_builtin; refine wpList_append_own _ rfl _ _ 24 rfl w.heap.size 103 i0 _ 2 16 Try.underlying24 hi hz0 hz1 hz2 rfl (by decide) _ _ _ rfl HO2.out ⟨wr.heap.size + 1, 0, none⟩ 1 1 (Ls.cells ⟨12, sc⟩) rfl rfl ?c1 ?c2 ?c3 ?c4 ?c5 ?_)
        case c1 => exact World.news_of_block (cs := #[.int .i64 12, .int .i64 sc]) (t := 103) (fr := (0, 0)) HN.out
        case c2 => exact cellsLs_one [⟨12, sc⟩]
        case c3 => unfold maxLen; omega
        case c4 => omega
        case c5 => have := HB.out.size; simp; omega
        intro v' w2 hown' hgrow hnn
        have HB2 : Hid (Below w.heap.size w w2) := HBA2.out.grown hgrow (by have := HB.out.size; simp; omega) (fun k hk => (World.ownsRow.lt HO2.out k hk).1)
        have HO3 : Hid (OwnLs w.heap.size w2 v' (t.leasesTo 3)) := by
          show OwnLs _ _ _ _
          rw [HE.out]
          unfold OwnLs; rw [cellsLs_append, show cellsLs [⟨12, sc⟩] = Ls.cells ⟨12, sc⟩ by simp [cellsLs]]; simpa using hown'
        clear hown' hgrow hown hnn HO2 HBA2 HN HBA
        go_wp2
        go_roundw
        case rel => exact ⟨3, by omega, by go_num, HO3.out, HB2⟩
        case measure => simp [intOf]
    · obtain ⟨a9, c9, rfl, -, -⟩ := hown.row
      have HO : Hid (OwnLs w.heap.size wr (.slice a9 (t.leasesTo 3).length c9) V) := by show OwnLs _ _ _ _; rw [← HV.out]; exact hown
      clear hown
      go_wp2
      go_ret
      exact ⟨_, rfl, HO.out, HB.out⟩
set_option maxHeartbeats 800000 in
theorem implPool_any (a : Option Addr) (cap : Nat) (ls : List Ls) (w : World) (hl : ls.length ≤ 1048576) (hf : ∀ y ∈ ls, y.Fits) (hr : RowLs w.heap.size w a ls) :
    Calls Try.prog 30 #[.slice a ls.length cap] w fun e w' => e = .returned (.bool (poolB ls)) ∧ Below w.heap.size w w' := by
  have HC : Hid _ := seatsOf_any a cap ls w hl hf hr
  rw [seats_pool] at HC
  generalize (seatsL ls 10 St.zero).1 = t at HC
  clear hr hf
  go_enter Try.func30, Try.ntmps30
  go_wp2_with fail
  refine Calls.mono HC.out ?_
  rintro e w2 ⟨rfl, hb2⟩
  have HB2 : Hid (Below w.heap.size w (w2.alloc (.cells t.cells 97))) := hb2.alloc (by have := hb2.size; omega) _
  clear HC hb2
  go_wp2
  go_ret
  exact ⟨rfl, HB2.out⟩
set_option maxHeartbeats 3200000 in
set_option maxRecDepth 20000 in
theorem implLeased_any (a : Option Addr) (cap : Nat) (ls : List Ls) (c : Int) (w : World) (hl : ls.length ≤ 1048576) (hf : ∀ y ∈ ls, y.Fits) (hr : RowLs w.heap.size w a ls) :
    Calls Try.prog 19 #[.slice a ls.length cap, .int .i64 c] w fun e w' => ∃ v, e = .returned (.tuple #[v, .int .i64 (leaseP ls c), .bool (leaseB ls c)]) ∧ OwnLsC w.heap.size w' v (leaseL ls c) ∧ Below w.heap.size w w' := by
  have HS : Hid _ := seatsOf_any a cap ls w hl hf hr
  rw [seats_pool] at HS
  have HR : Hid (RowLs w.heap.size w a ls) := hr
  have HFI : Hid (∀ y ∈ ls, y.Fits) := hf
  have hsq : poolB ls = true → Sq ls c (seatsL ls 10 St.zero).1 := fun h => (seats_of (pf_of h) c).2
  have hno : poolB ls = false → (seatsL ls 10 St.zero).1 = St.zero := fun h => seats_no (by rw [seats_pool]; exact h)
  generalize (seatsL ls 10 St.zero).1 = t at HS hsq hno
  clear hr hf
  cases hp : poolB ls with
  | false =>
    rw [hp] at HS
    have ht := hno hp
    subst ht
    have HX : Hid (leaseL ls c = ls ∧ leaseP ls c = 0 ∧ leaseB ls c = false) := ⟨by unfold leaseL; rw [hp]; simp, by unfold leaseP; rw [hp]; rfl, by unfold leaseB; rw [hp]; rfl⟩
    obtain ⟨t, HT⟩ : ∃ t, Hid (St.zero = t) := ⟨_, rfl⟩
    rw [HT.out] at HS
    have HF : Hid (t.idx ⟨false, 0⟩ = 0) := by show _ = _; rw [← HT.out]; rfl
    clear hsq hno hp
    go_enter Try.func19, Try.ntmps19
    go_wp2_with fail
    refine Calls.mono HS.out ?_
    rintro e w1 ⟨rfl, hb1⟩
    obtain ⟨w2, hw2⟩ : ∃ w2, w1.alloc (.cells t.cells 97) = w2 := ⟨_, rfl⟩
    have HB2 : Hid (Below w.heap.size w w2) := by show Below _ _ _; rw [← hw2]; exact hb1.alloc (by have := hb1.size; omega) _
    have hg2 : w2.heap[w1.heap.size]? = some (.cells t.cells 97 (0, 0)) := by rw [← hw2]; exact heap_alloc_new w1 _
    have hgs : w.heap.size ≤ w1.heap.size := hb1.size
    have q0 : w2.cell? ⟨w1.heap.size, 0, none⟩ = some (.bool t.s0.b) := (cell_of_row _ _ 0 _ _ _ hg2).trans rfl
    have fq0 : w2.frozen? ⟨w1.heap.size, 0, none⟩ = false := frozen_of_row _ _ 0 _ _ hg2
    have q1 : w2.cell? ⟨w1.heap.size, 1, none⟩ = some (.int .i64 t.s0.c) := (cell_of_row _ _ 1 _ _ _ hg2).trans rfl
    have fq1 : w2.frozen? ⟨w1.heap.size, 1, none⟩ = false := frozen_of_row _ _ 1 _ _ hg2
    have q2 : w2.cell? ⟨w1.heap.size, 2, none⟩ = some (.bool t.s1.b) := (cell_of_row _ _ 2 _ _ _ hg2).trans rfl
    have fq2 : w2.frozen? ⟨w1.heap.size, 2, none⟩ = false := frozen_of_row _ _ 2 _ _ hg2
    have q3 : w2.cell? ⟨w1.heap.size, 3, none⟩ = some (.int .i64 t.s1.c) := (cell_of_row _ _ 3 _ _ _ hg2).trans rfl
    have fq3 : w2.frozen? ⟨w1.heap.size, 3, none⟩ = false := frozen_of_row _ _ 3 _ _ hg2
    have q4 : w2.cell? ⟨w1.heap.size, 4, none⟩ = some (.bool t.s2.b) := (cell_of_row _ _ 4 _ _ _ hg2).trans rfl
    have fq4 : w2.frozen? ⟨w1.heap.size, 4, none⟩ = false := frozen_of_row _ _ 4 _ _ hg2
    have q5 : w2.cell? ⟨w1.heap.size, 5, none⟩ = some (.int .i64 t.s2.c) := (cell_of_row _ _ 5 _ _ _ hg2).trans rfl
    have fq5 : w2.frozen? ⟨w1.heap.size, 5, none⟩ = false := frozen_of_row _ _ 5 _ _ hg2
    clear hb1 HS
    go_wp2_with fail
    clear hw2
    have HI : Hid _ := seatIdx_any w1.heap.size t ⟨false, 0⟩ w2 hg2
    rw [HF.out] at HI
    refine Calls.mono HI.out ?_
    rintro e w6 ⟨rfl, hb6⟩
    have HB6 : Hid (Below w.heap.size w w6) := HB2.out.trans (hb6.mono HB2.out.size)
    have hg6 : w6.heap[w1.heap.size]? = some (.cells t.cells 97 (0, 0)) := (hb6.block _ (Array.getElem?_eq_some_iff.1 hg2).1).trans hg2
    clear hb6 HI hg2 q0 fq0 q1 fq1 q2 fq2 q3 fq3 q4 fq4 q5 fq5
    have HCL : Hid _ := cloneLs_any a cap ls w6 hl (HR.out.grown HB6.out)
    clear hg6
    go_wp2_with fail
    refine Calls.mono HCL.out ?_
    rintro e w7 ⟨v7, rfl, ho7, hb7⟩
    have HB7 : Hid (Below w.heap.size w w7) := HB6.out.trans (hb7.mono HB6.out.size)
    have HO7 : Hid (OwnLs w.heap.size w7 v7 ls) := ho7.base HB6.out.size
    clear ho7 hb7
    obtain ⟨a7, c7, rfl, -, -⟩ := HO7.out.row
    go_wp2
    go_ret3
    exact ⟨_, by rw [HX.out.2.1, HX.out.2.2]; rfl, by rw [HX.out.1]; exact HO7.out.clip, HB7.out⟩
  | true =>
    rw [hp] at HS
    have Q := hsq hp
    cases hh : hasL ls c with
    | true =>
      have HX : Hid (leaseL ls c = ls ∧ leaseP ls c = placeL ls c ∧ leaseB ls c = true) := ⟨by unfold leaseL; rw [hh]; simp, by unfold leaseP; rw [hp, hh]; rfl, by unfold leaseB; rw [hp, hh]; rfl⟩
      have HH : Hid (∀ wz, Calls Try.prog 73 #[t.val, .int .i64 c] wz fun e w' => e = .returned (.bool true) ∧ Below wz.heap.size wz w') := fun wz => by have := seatHas_any t c wz; rw [Q.has, hh] at this; exact this
      clear hsq hno hp hh Q
      go_enter Try.func19, Try.ntmps19
      go_wp2_with fail
      refine Calls.mono HS.out ?_
      rintro e w1 ⟨rfl, hb1⟩
      obtain ⟨w2, hw2⟩ : ∃ w2, w1.alloc (.cells t.cells 97) = w2 := ⟨_, rfl⟩
      have HB2 : Hid (Below w.heap.size w w2) := by show Below _ _ _; rw [← hw2]; exact hb1.alloc (by have := hb1.size; omega) _
      have hg2 : w2.heap[w1.heap.size]? = some (.cells t.cells 97 (0, 0)) := by rw [← hw2]; exact heap_alloc_new w1 _
      have hgs : w.heap.size ≤ w1.heap.size := hb1.size
      have q0 : w2.cell? ⟨w1.heap.size, 0, none⟩ = some (.bool t.s0.b) := (cell_of_row _ _ 0 _ _ _ hg2).trans rfl
      have fq0 : w2.frozen? ⟨w1.heap.size, 0, none⟩ = false := frozen_of_row _ _ 0 _ _ hg2
      have q1 : w2.cell? ⟨w1.heap.size, 1, none⟩ = some (.int .i64 t.s0.c) := (cell_of_row _ _ 1 _ _ _ hg2).trans rfl
      have fq1 : w2.frozen? ⟨w1.heap.size, 1, none⟩ = false := frozen_of_row _ _ 1 _ _ hg2
      have q2 : w2.cell? ⟨w1.heap.size, 2, none⟩ = some (.bool t.s1.b) := (cell_of_row _ _ 2 _ _ _ hg2).trans rfl
      have fq2 : w2.frozen? ⟨w1.heap.size, 2, none⟩ = false := frozen_of_row _ _ 2 _ _ hg2
      have q3 : w2.cell? ⟨w1.heap.size, 3, none⟩ = some (.int .i64 t.s1.c) := (cell_of_row _ _ 3 _ _ _ hg2).trans rfl
      have fq3 : w2.frozen? ⟨w1.heap.size, 3, none⟩ = false := frozen_of_row _ _ 3 _ _ hg2
      have q4 : w2.cell? ⟨w1.heap.size, 4, none⟩ = some (.bool t.s2.b) := (cell_of_row _ _ 4 _ _ _ hg2).trans rfl
      have fq4 : w2.frozen? ⟨w1.heap.size, 4, none⟩ = false := frozen_of_row _ _ 4 _ _ hg2
      have q5 : w2.cell? ⟨w1.heap.size, 5, none⟩ = some (.int .i64 t.s2.c) := (cell_of_row _ _ 5 _ _ _ hg2).trans rfl
      have fq5 : w2.frozen? ⟨w1.heap.size, 5, none⟩ = false := frozen_of_row _ _ 5 _ _ hg2
      clear hb1 HS
      go_wp2_with fail
      clear hw2
      refine Calls.mono (HH.out _) ?_
      rintro e w3 ⟨rfl, hb3⟩
      have HB3 : Hid (Below w.heap.size w w3) := HB2.out.trans (hb3.mono HB2.out.size)
      have hg3 : w3.heap[w1.heap.size]? = some (.cells t.cells 97 (0, 0)) := (hb3.block _ (Array.getElem?_eq_some_iff.1 hg2).1).trans hg2
      clear hb3 hg2 q0 fq0 q1 fq1 q2 fq2 q3 fq3 q4 fq4 q5 fq5
      have q0 : w3.cell? ⟨w1.heap.size, 0, none⟩ = some (.bool t.s0.b) := (cell_of_row _ _ 0 _ _ _ hg3).trans rfl
      have fq0 : w3.frozen? ⟨w1.heap.size, 0, none⟩ = false := frozen_of_row _ _ 0 _ _ hg3
      have q1 : w3.cell? ⟨w1.heap.size, 1, none⟩ = some (.int .i64 t.s0.c) := (cell_of_row _ _ 1 _ _ _ hg3).trans rfl
      have fq1 : w3.frozen? ⟨w1.heap.size, 1, none⟩ = false := frozen_of_row _ _ 1 _ _ hg3
      have q2 : w3.cell? ⟨w1.heap.size, 2, none⟩ = some (.bool t.s1.b) := (cell_of_row _ _ 2 _ _ _ hg3).trans rfl
      have fq2 : w3.frozen? ⟨w1.heap.size, 2, none⟩ = false := frozen_of_row _ _ 2 _ _ hg3
      have q3 : w3.cell? ⟨w1.heap.size, 3, none⟩ = some (.int .i64 t.s1.c) := (cell_of_row _ _ 3 _ _ _ hg3).trans rfl
      have fq3 : w3.frozen? ⟨w1.heap.size, 3, none⟩ = false := frozen_of_row _ _ 3 _ _ hg3
      have q4 : w3.cell? ⟨w1.heap.size, 4, none⟩ = some (.bool t.s2.b) := (cell_of_row _ _ 4 _ _ _ hg3).trans rfl
      have fq4 : w3.frozen? ⟨w1.heap.size, 4, none⟩ = false := frozen_of_row _ _ 4 _ _ hg3
      have q5 : w3.cell? ⟨w1.heap.size, 5, none⟩ = some (.int .i64 t.s2.c) := (cell_of_row _ _ 5 _ _ _ hg3).trans rfl
      have fq5 : w3.frozen? ⟨w1.heap.size, 5, none⟩ = false := frozen_of_row _ _ 5 _ _ hg3
      have HCL : Hid _ := cloneLs_any a cap ls w3 hl (HR.out.grown HB3.out)
      go_wp2_with fail
      refine Calls.mono HCL.out ?_
      rintro e w4 ⟨v4, rfl, ho4, hb4⟩
      have HB4 : Hid (Below w.heap.size w w4) := HB3.out.trans (hb4.mono HB3.out.size)
      have HPL : Hid _ := implPlace_any a cap ls c w4 hl HFI.out (HR.out.grown HB4.out)
      have HO4 : Hid (OwnLs w.heap.size w4 v4 ls) := ho4.base HB3.out.size
      clear ho4 hb4 hg3 q0 fq0 q1 fq1 q2 fq2 q3 fq3 q4 fq4 q5 fq5
      obtain ⟨a4, c4, rfl, -, -⟩ := HO4.out.row
      go_wp2_with fail
      refine Calls.mono HPL.out ?_
      rintro e w5 ⟨rfl, hb5⟩
      have HB5 : Hid (Below w.heap.size w w5) := HB4.out.trans (hb5.mono HB4.out.size)
      have HO5 : Hid (OwnLs w.heap.size w5 (.slice a4 ls.length c4) ls) := HO4.out.later hb5
      clear hb5 HPL HO4
      go_wp2
      go_ret3
      exact ⟨_, by rw [HX.out.2.1, HX.out.2.2]; rfl, by rw [HX.out.1]; exact HO5.out.clip, HB5.out⟩
    | false =>
      have HH : Hid (∀ wz, Calls Try.prog 73 #[t.val, .int .i64 c] wz fun e w' => e = .returned (.bool false) ∧ Below wz.heap.size wz w') := fun wz => by have := seatHas_any t c wz; rw [Q.has, hh] at this; exact this
      by_cases hfr : t.idx ⟨false, 0⟩ = -1
      · have hm := Q.full hh hfr
        have HX : Hid (leaseL ls c = ls ∧ leaseP ls c = 0 ∧ leaseB ls c = false) := ⟨by unfold leaseL; rw [hm]; simp, by unfold leaseP; rw [hp, hh, hm]; rfl, by unfold leaseB; rw [hp, hh, hm]; rfl⟩
        have HF : Hid (t.idx ⟨false, 0⟩ = -1) := hfr
        clear hsq hno hp hh Q hfr hm
        go_enter Try.func19, Try.ntmps19
        go_wp2_with fail
        refine Calls.mono HS.out ?_
        rintro e w1 ⟨rfl, hb1⟩
        obtain ⟨w2, hw2⟩ : ∃ w2, w1.alloc (.cells t.cells 97) = w2 := ⟨_, rfl⟩
        have HB2 : Hid (Below w.heap.size w w2) := by show Below _ _ _; rw [← hw2]; exact hb1.alloc (by have := hb1.size; omega) _
        have hg2 : w2.heap[w1.heap.size]? = some (.cells t.cells 97 (0, 0)) := by rw [← hw2]; exact heap_alloc_new w1 _
        have hgs : w.heap.size ≤ w1.heap.size := hb1.size
        have q0 : w2.cell? ⟨w1.heap.size, 0, none⟩ = some (.bool t.s0.b) := (cell_of_row _ _ 0 _ _ _ hg2).trans rfl
        have fq0 : w2.frozen? ⟨w1.heap.size, 0, none⟩ = false := frozen_of_row _ _ 0 _ _ hg2
        have q1 : w2.cell? ⟨w1.heap.size, 1, none⟩ = some (.int .i64 t.s0.c) := (cell_of_row _ _ 1 _ _ _ hg2).trans rfl
        have fq1 : w2.frozen? ⟨w1.heap.size, 1, none⟩ = false := frozen_of_row _ _ 1 _ _ hg2
        have q2 : w2.cell? ⟨w1.heap.size, 2, none⟩ = some (.bool t.s1.b) := (cell_of_row _ _ 2 _ _ _ hg2).trans rfl
        have fq2 : w2.frozen? ⟨w1.heap.size, 2, none⟩ = false := frozen_of_row _ _ 2 _ _ hg2
        have q3 : w2.cell? ⟨w1.heap.size, 3, none⟩ = some (.int .i64 t.s1.c) := (cell_of_row _ _ 3 _ _ _ hg2).trans rfl
        have fq3 : w2.frozen? ⟨w1.heap.size, 3, none⟩ = false := frozen_of_row _ _ 3 _ _ hg2
        have q4 : w2.cell? ⟨w1.heap.size, 4, none⟩ = some (.bool t.s2.b) := (cell_of_row _ _ 4 _ _ _ hg2).trans rfl
        have fq4 : w2.frozen? ⟨w1.heap.size, 4, none⟩ = false := frozen_of_row _ _ 4 _ _ hg2
        have q5 : w2.cell? ⟨w1.heap.size, 5, none⟩ = some (.int .i64 t.s2.c) := (cell_of_row _ _ 5 _ _ _ hg2).trans rfl
        have fq5 : w2.frozen? ⟨w1.heap.size, 5, none⟩ = false := frozen_of_row _ _ 5 _ _ hg2
        clear hb1 HS
        go_wp2_with fail
        clear hw2
        refine Calls.mono (HH.out _) ?_
        rintro e w3 ⟨rfl, hb3⟩
        have HB3 : Hid (Below w.heap.size w w3) := HB2.out.trans (hb3.mono HB2.out.size)
        have hg3 : w3.heap[w1.heap.size]? = some (.cells t.cells 97 (0, 0)) := (hb3.block _ (Array.getElem?_eq_some_iff.1 hg2).1).trans hg2
        clear hb3 hg2 q0 fq0 q1 fq1 q2 fq2 q3 fq3 q4 fq4 q5 fq5
        have q0 : w3.cell? ⟨w1.heap.size, 0, none⟩ = some (.bool t.s0.b) := (cell_of_row _ _ 0 _ _ _ hg3).trans rfl
        have fq0 : w3.frozen? ⟨w1.heap.size, 0, none⟩ = false := frozen_of_row _ _ 0 _ _ hg3
        have q1 : w3.cell? ⟨w1.heap.size, 1, none⟩ = some (.int .i64 t.s0.c) := (cell_of_row _ _ 1 _ _ _ hg3).trans rfl
        have fq1 : w3.frozen? ⟨w1.heap.size, 1, none⟩ = false := frozen_of_row _ _ 1 _ _ hg3
        have q2 : w3.cell? ⟨w1.heap.size, 2, none⟩ = some (.bool t.s1.b) := (cell_of_row _ _ 2 _ _ _ hg3).trans rfl
        have fq2 : w3.frozen? ⟨w1.heap.size, 2, none⟩ = false := frozen_of_row _ _ 2 _ _ hg3
        have q3 : w3.cell? ⟨w1.heap.size, 3, none⟩ = some (.int .i64 t.s1.c) := (cell_of_row _ _ 3 _ _ _ hg3).trans rfl
        have fq3 : w3.frozen? ⟨w1.heap.size, 3, none⟩ = false := frozen_of_row _ _ 3 _ _ hg3
        have q4 : w3.cell? ⟨w1.heap.size, 4, none⟩ = some (.bool t.s2.b) := (cell_of_row _ _ 4 _ _ _ hg3).trans rfl
        have fq4 : w3.frozen? ⟨w1.heap.size, 4, none⟩ = false := frozen_of_row _ _ 4 _ _ hg3
        have q5 : w3.cell? ⟨w1.heap.size, 5, none⟩ = some (.int .i64 t.s2.c) := (cell_of_row _ _ 5 _ _ _ hg3).trans rfl
        have fq5 : w3.frozen? ⟨w1.heap.size, 5, none⟩ = false := frozen_of_row _ _ 5 _ _ hg3
        go_wp2_with fail
        have HI : Hid _ := seatIdx_any w1.heap.size t ⟨false, 0⟩ w3 hg3
        rw [HF.out] at HI
        refine Calls.mono HI.out ?_
        rintro e w6 ⟨rfl, hb6⟩
        have HB6 : Hid (Below w.heap.size w w6) := HB3.out.trans (hb6.mono HB3.out.size)
        have hg6 : w6.heap[w1.heap.size]? = some (.cells t.cells 97 (0, 0)) := (hb6.block _ (Array.getElem?_eq_some_iff.1 hg3).1).trans hg3
        clear hb6 HI hg3 q0 fq0 q1 fq1 q2 fq2 q3 fq3 q4 fq4 q5 fq5
        have HCL : Hid _ := cloneLs_any a cap ls w6 hl (HR.out.grown HB6.out)
        clear hg6
        go_wp2_with fail
        refine Calls.mono HCL.out ?_
        rintro e w7 ⟨v7, rfl, ho7, hb7⟩
        have HB7 : Hid (Below w.heap.size w w7) := HB6.out.trans (hb7.mono HB6.out.size)
        have HO7 : Hid (OwnLs w.heap.size w7 v7 ls) := ho7.base HB6.out.size
        clear ho7 hb7
        obtain ⟨a7, c7, rfl, -, -⟩ := HO7.out.row
        go_wp2
        go_ret3
        exact ⟨_, by rw [HX.out.2.1, HX.out.2.2]; rfl, by rw [HX.out.1]; exact HO7.out.clip, HB7.out⟩
      · obtain ⟨hm, h0, h2, hle⟩ := Q.free hh hfr
        have HL : Hid (leaseL ls c = (lsMade ls c).1 ∧ leaseP ls c = (lsMade ls c).2 ∧ leaseB ls c = true) := ⟨by unfold leaseL; rw [hp, hh, if_pos ⟨rfl, rfl, by omega⟩], by unfold leaseP; rw [hp, hh]; rfl, by unfold leaseB; rw [hp, hh, decide_eq_true (by omega)]; rfl⟩
        rcases (show t.idx ⟨false, 0⟩ = 0 ∨ t.idx ⟨false, 0⟩ = 1 ∨ t.idx ⟨false, 0⟩ = 2 by omega) with hi | hi | hi
        · have HX : Hid (leaseL ls c = (t.put 10 c).leases ∧ leaseP ls c = 10 ∧ leaseB ls c = true) := by
            rw [hi] at hm hle
            exact ⟨by rw [HL.out.1, ← hle]; rfl, by rw [HL.out.2.1, hm]; rfl, HL.out.2.2⟩
          have HF : Hid (t.idx ⟨false, 0⟩ = 0) := hi
          clear hsq hno hp hh Q hfr hm h0 h2 hle HL hi
          go_enter Try.func19, Try.ntmps19
          go_wp2_with fail
          refine Calls.mono HS.out ?_
          rintro e w1 ⟨rfl, hb1⟩
          obtain ⟨w2, hw2⟩ : ∃ w2, w1.alloc (.cells t.cells 97) = w2 := ⟨_, rfl⟩
          have HB2 : Hid (Below w.heap.size w w2) := by show Below _ _ _; rw [← hw2]; exact hb1.alloc (by have := hb1.size; omega) _
          have hg2 : w2.heap[w1.heap.size]? = some (.cells t.cells 97 (0, 0)) := by rw [← hw2]; exact heap_alloc_new w1 _
          have hgs : w.heap.size ≤ w1.heap.size := hb1.size
          have q0 : w2.cell? ⟨w1.heap.size, 0, none⟩ = some (.bool t.s0.b) := (cell_of_row _ _ 0 _ _ _ hg2).trans rfl
          have fq0 : w2.frozen? ⟨w1.heap.size, 0, none⟩ = false := frozen_of_row _ _ 0 _ _ hg2
          have q1 : w2.cell? ⟨w1.heap.size, 1, none⟩ = some (.int .i64 t.s0.c) := (cell_of_row _ _ 1 _ _ _ hg2).trans rfl
          have fq1 : w2.frozen? ⟨w1.heap.size, 1, none⟩ = false := frozen_of_row _ _ 1 _ _ hg2
          have q2 : w2.cell? ⟨w1.heap.size, 2, none⟩ = some (.bool t.s1.b) := (cell_of_row _ _ 2 _ _ _ hg2).trans rfl
          have fq2 : w2.frozen? ⟨w1.heap.size, 2, none⟩ = false := frozen_of_row _ _ 2 _ _ hg2
          have q3 : w2.cell? ⟨w1.heap.size, 3, none⟩ = some (.int .i64 t.s1.c) := (cell_of_row _ _ 3 _ _ _ hg2).trans rfl
          have fq3 : w2.frozen? ⟨w1.heap.size, 3, none⟩ = false := frozen_of_row _ _ 3 _ _ hg2
          have q4 : w2.cell? ⟨w1.heap.size, 4, none⟩ = some (.bool t.s2.b) := (cell_of_row _ _ 4 _ _ _ hg2).trans rfl
          have fq4 : w2.frozen? ⟨w1.heap.size, 4, none⟩ = false := frozen_of_row _ _ 4 _ _ hg2
          have q5 : w2.cell? ⟨w1.heap.size, 5, none⟩ = some (.int .i64 t.s2.c) := (cell_of_row _ _ 5 _ _ _ hg2).trans rfl
          have fq5 : w2.frozen? ⟨w1.heap.size, 5, none⟩ = false := frozen_of_row _ _ 5 _ _ hg2
          clear hb1 HS
          go_wp2_with fail
          clear hw2
          refine Calls.mono (HH.out _) ?_
          rintro e w3 ⟨rfl, hb3⟩
          have HB3 : Hid (Below w.heap.size w w3) := HB2.out.trans (hb3.mono HB2.out.size)
          have hg3 : w3.heap[w1.heap.size]? = some (.cells t.cells 97 (0, 0)) := (hb3.block _ (Array.getElem?_eq_some_iff.1 hg2).1).trans hg2
          clear hb3 hg2 q0 fq0 q1 fq1 q2 fq2 q3 fq3 q4 fq4 q5 fq5
          have q0 : w3.cell? ⟨w1.heap.size, 0, none⟩ = some (.bool t.s0.b) := (cell_of_row _ _ 0 _ _ _ hg3).trans rfl
          have fq0 : w3.frozen? ⟨w1.heap.size, 0, none⟩ = false := frozen_of_row _ _ 0 _ _ hg3
          have q1 : w3.cell? ⟨w1.heap.size, 1, none⟩ = some (.int .i64 t.s0.c) := (cell_of_row _ _ 1 _ _ _ hg3).trans rfl
          have fq1 : w3.frozen? ⟨w1.heap.size, 1, none⟩ = false := frozen_of_row _ _ 1 _ _ hg3
          have q2 : w3.cell? ⟨w1.heap.size, 2, none⟩ = some (.bool t.s1.b) := (cell_of_row _ _ 2 _ _ _ hg3).trans rfl
          have fq2 : w3.frozen? ⟨w1.heap.size, 2, none⟩ = false := frozen_of_row _ _ 2 _ _ hg3
          have q3 : w3.cell? ⟨w1.heap.size, 3, none⟩ = some (.int .i64 t.s1.c) := (cell_of_row _ _ 3 _ _ _ hg3).trans rfl
          have fq3 : w3.frozen? ⟨w1.heap.size, 3, none⟩ = false := frozen_of_row _ _ 3 _ _ hg3
          have q4 : w3.cell? ⟨w1.heap.size, 4, none⟩ = some (.bool t.s2.b) := (cell_of_row _ _ 4 _ _ _ hg3).trans rfl
          have fq4 : w3.frozen? ⟨w1.heap.size, 4, none⟩ = false := frozen_of_row _ _ 4 _ _ hg3
          have q5 : w3.cell? ⟨w1.heap.size, 5, none⟩ = some (.int .i64 t.s2.c) := (cell_of_row _ _ 5 _ _ _ hg3).trans rfl
          have fq5 : w3.frozen? ⟨w1.heap.size, 5, none⟩ = false := frozen_of_row _ _ 5 _ _ hg3
          go_wp2_with fail
          have HI : Hid _ := seatIdx_any w1.heap.size t ⟨false, 0⟩ w3 hg3
          rw [HF.out] at HI
          refine Calls.mono HI.out ?_
          rintro e w6 ⟨rfl, hb6⟩
          have HB6 : Hid (Below w.heap.size w w6) := HB3.out.trans (hb6.mono HB3.out.size)
          have hg6 : w6.heap[w1.heap.size]? = some (.cells t.cells 97 (0, 0)) := (hb6.block _ (Array.getElem?_eq_some_iff.1 hg3).1).trans hg3
          clear hb6 HI hg3 q0 fq0 q1 fq1 q2 fq2 q3 fq3 q4 fq4 q5 fq5
          have q0 : w6.cell? ⟨w1.heap.size, 0, none⟩ = some (.bool t.s0.b) := (cell_of_row _ _ 0 _ _ _ hg6).trans rfl
          have fq0 : w6.frozen? ⟨w1.heap.size, 0, none⟩ = false := frozen_of_row _ _ 0 _ _ hg6
          have q1 : w6.cell? ⟨w1.heap.size, 1, none⟩ = some (.int .i64 t.s0.c) := (cell_of_row _ _ 1 _ _ _ hg6).trans rfl
          have fq1 : w6.frozen? ⟨w1.heap.size, 1, none⟩ = false := frozen_of_row _ _ 1 _ _ hg6
          have q2 : w6.cell? ⟨w1.heap.size, 2, none⟩ = some (.bool t.s1.b) := (cell_of_row _ _ 2 _ _ _ hg6).trans rfl
          have fq2 : w6.frozen? ⟨w1.heap.size, 2, none⟩ = false := frozen_of_row _ _ 2 _ _ hg6
          have q3 : w6.cell? ⟨w1.heap.size, 3, none⟩ = some (.int .i64 t.s1.c) := (cell_of_row _ _ 3 _ _ _ hg6).trans rfl
          have fq3 : w6.frozen? ⟨w1.heap.size, 3, none⟩ = false := frozen_of_row _ _ 3 _ _ hg6
          have q4 : w6.cell? ⟨w1.heap.size, 4, none⟩ = some (.bool t.s2.b) := (cell_of_row _ _ 4 _ _ _ hg6).trans rfl
          have fq4 : w6.frozen? ⟨w1.heap.size, 4, none⟩ = false := frozen_of_row _ _ 4 _ _ hg6
          have q5 : w6.cell? ⟨w1.heap.size, 5, none⟩ = some (.int .i64 t.s2.c) := (cell_of_row _ _ 5 _ _ _ hg6).trans rfl
          have fq5 : w6.frozen? ⟨w1.heap.size, 5, none⟩ = false := frozen_of_row _ _ 5 _ _ hg6
          have hg7 : ((w6.setCell ⟨w1.heap.size, 0, none⟩ (.bool true)).setCell ⟨w1.heap.size, 1, none⟩ (.int .i64 c)).heap[w1.heap.size]? = some (.cells #[.bool true, .int .i64 c, .bool t.s1.b, .int .i64 t.s1.c, .bool t.s2.b, .int .i64 t.s2.c] 97 (0, 0)) := (heap_setCell_same _ _ 1 _ _ _ (heap_setCell_same _ _ 0 _ _ _ hg6)).trans rfl
          have HB7 : Hid (Below w.heap.size w ((w6.setCell ⟨w1.heap.size, 0, none⟩ (.bool true)).setCell ⟨w1.heap.size, 1, none⟩ (.int .i64 c))) := (HB6.out.setCell (show w.heap.size ≤ w1.heap.size from hgs) _).setCell (show w.heap.size ≤ w1.heap.size from hgs) _
          have p0 : ((w6.setCell ⟨w1.heap.size, 0, none⟩ (.bool true)).setCell ⟨w1.heap.size, 1, none⟩ (.int .i64 c)).cell? ⟨w1.heap.size, 0, none⟩ = some (.bool true) := (cell_of_row _ _ 0 _ _ _ hg7).trans rfl
          have p1 : ((w6.setCell ⟨w1.heap.size, 0, none⟩ (.bool true)).setCell ⟨w1.heap.size, 1, none⟩ (.int .i64 c)).cell? ⟨w1.heap.size, 1, none⟩ = some (.int .i64 c) := (cell_of_row _ _ 1 _ _ _ hg7).trans rfl
          have p2 : ((w6.setCell ⟨w1.heap.size, 0, none⟩ (.bool true)).setCell ⟨w1.heap.size, 1, none⟩ (.int .i64 c)).cell? ⟨w1.heap.size, 2, none⟩ = some (.bool t.s1.b) := (cell_of_row _ _ 2 _ _ _ hg7).trans rfl
          have p3 : ((w6.setCell ⟨w1.heap.size, 0, none⟩ (.bool true)).setCell ⟨w1.heap.size, 1, none⟩ (.int .i64 c)).cell? ⟨w1.heap.size, 3, none⟩ = some (.int .i64 t.s1.c) := (cell_of_row _ _ 3 _ _ _ hg7).trans rfl
          have p4 : ((w6.setCell ⟨w1.heap.size, 0, none⟩ (.bool true)).setCell ⟨w1.heap.size, 1, none⟩ (.int .i64 c)).cell? ⟨w1.heap.size, 4, none⟩ = some (.bool t.s2.b) := (cell_of_row _ _ 4 _ _ _ hg7).trans rfl
          have p5 : ((w6.setCell ⟨w1.heap.size, 0, none⟩ (.bool true)).setCell ⟨w1.heap.size, 1, none⟩ (.int .i64 c)).cell? ⟨w1.heap.size, 5, none⟩ = some (.int .i64 t.s2.c) := (cell_of_row _ _ 5 _ _ _ hg7).trans rfl
          have HLL : Hid _ := seatLeases_any ⟨⟨true, c⟩, t.s1, t.s2⟩ ((w6.setCell ⟨w1.heap.size, 0, none⟩ (.bool true)).setCell ⟨w1.heap.size, 1, none⟩ (.int .i64 c))
          rw [show St.leases ⟨⟨true, c⟩, t.s1, t.s2⟩ = leaseL ls c from HX.out.1.symm] at HLL
          clear hg6 hg7
          go_wp2_with fail
          refine Calls.mono HLL.out ?_
          rintro e w8 ⟨v8, rfl, ho8, hb8⟩
          have HB8 : Hid (Below w.heap.size w w8) := HB7.out.trans (hb8.mono HB7.out.size)
          have HO8 : Hid (OwnLs w.heap.size w8 v8 (leaseL ls c)) := ho8.base HB7.out.size
          clear ho8 hb8 HLL q0 fq0 p0 q1 fq1 p1 q2 fq2 p2 q3 fq3 p3 q4 fq4 p4 q5 fq5 p5
          obtain ⟨a8, c8, rfl, -, -⟩ := HO8.out.row
          go_wp2
          go_ret3
          exact ⟨_, by rw [HX.out.2.1, HX.out.2.2]; rfl, HO8.out.clip, HB8.out⟩
        · have HX : Hid (leaseL ls c = (t.put 11 c).leases ∧ leaseP ls c = 11 ∧ leaseB ls c = true) := by
            rw [hi] at hm hle
            exact ⟨by rw [HL.out.1, ← hle]; rfl, by rw [HL.out.2.1, hm]; rfl, HL.out.2.2⟩
          have HF : Hid (t.idx ⟨false, 0⟩ = 1) := hi
          clear hsq hno hp hh Q hfr hm h0 h2 hle HL hi
          go_enter Try.func19, Try.ntmps19
          go_wp2_with fail
          refine Calls.mono HS.out ?_
          rintro e w1 ⟨rfl, hb1⟩
          obtain ⟨w2, hw2⟩ : ∃ w2, w1.alloc (.cells t.cells 97) = w2 := ⟨_, rfl⟩
          have HB2 : Hid (Below w.heap.size w w2) := by show Below _ _ _; rw [← hw2]; exact hb1.alloc (by have := hb1.size; omega) _
          have hg2 : w2.heap[w1.heap.size]? = some (.cells t.cells 97 (0, 0)) := by rw [← hw2]; exact heap_alloc_new w1 _
          have hgs : w.heap.size ≤ w1.heap.size := hb1.size
          have q0 : w2.cell? ⟨w1.heap.size, 0, none⟩ = some (.bool t.s0.b) := (cell_of_row _ _ 0 _ _ _ hg2).trans rfl
          have fq0 : w2.frozen? ⟨w1.heap.size, 0, none⟩ = false := frozen_of_row _ _ 0 _ _ hg2
          have q1 : w2.cell? ⟨w1.heap.size, 1, none⟩ = some (.int .i64 t.s0.c) := (cell_of_row _ _ 1 _ _ _ hg2).trans rfl
          have fq1 : w2.frozen? ⟨w1.heap.size, 1, none⟩ = false := frozen_of_row _ _ 1 _ _ hg2
          have q2 : w2.cell? ⟨w1.heap.size, 2, none⟩ = some (.bool t.s1.b) := (cell_of_row _ _ 2 _ _ _ hg2).trans rfl
          have fq2 : w2.frozen? ⟨w1.heap.size, 2, none⟩ = false := frozen_of_row _ _ 2 _ _ hg2
          have q3 : w2.cell? ⟨w1.heap.size, 3, none⟩ = some (.int .i64 t.s1.c) := (cell_of_row _ _ 3 _ _ _ hg2).trans rfl
          have fq3 : w2.frozen? ⟨w1.heap.size, 3, none⟩ = false := frozen_of_row _ _ 3 _ _ hg2
          have q4 : w2.cell? ⟨w1.heap.size, 4, none⟩ = some (.bool t.s2.b) := (cell_of_row _ _ 4 _ _ _ hg2).trans rfl
          have fq4 : w2.frozen? ⟨w1.heap.size, 4, none⟩ = false := frozen_of_row _ _ 4 _ _ hg2
          have q5 : w2.cell? ⟨w1.heap.size, 5, none⟩ = some (.int .i64 t.s2.c) := (cell_of_row _ _ 5 _ _ _ hg2).trans rfl
          have fq5 : w2.frozen? ⟨w1.heap.size, 5, none⟩ = false := frozen_of_row _ _ 5 _ _ hg2
          clear hb1 HS
          go_wp2_with fail
          clear hw2
          refine Calls.mono (HH.out _) ?_
          rintro e w3 ⟨rfl, hb3⟩
          have HB3 : Hid (Below w.heap.size w w3) := HB2.out.trans (hb3.mono HB2.out.size)
          have hg3 : w3.heap[w1.heap.size]? = some (.cells t.cells 97 (0, 0)) := (hb3.block _ (Array.getElem?_eq_some_iff.1 hg2).1).trans hg2
          clear hb3 hg2 q0 fq0 q1 fq1 q2 fq2 q3 fq3 q4 fq4 q5 fq5
          have q0 : w3.cell? ⟨w1.heap.size, 0, none⟩ = some (.bool t.s0.b) := (cell_of_row _ _ 0 _ _ _ hg3).trans rfl
          have fq0 : w3.frozen? ⟨w1.heap.size, 0, none⟩ = false := frozen_of_row _ _ 0 _ _ hg3
          have q1 : w3.cell? ⟨w1.heap.size, 1, none⟩ = some (.int .i64 t.s0.c) := (cell_of_row _ _ 1 _ _ _ hg3).trans rfl
          have fq1 : w3.frozen? ⟨w1.heap.size, 1, none⟩ = false := frozen_of_row _ _ 1 _ _ hg3
          have q2 : w3.cell? ⟨w1.heap.size, 2, none⟩ = some (.bool t.s1.b) := (cell_of_row _ _ 2 _ _ _ hg3).trans rfl
          have fq2 : w3.frozen? ⟨w1.heap.size, 2, none⟩ = false := frozen_of_row _ _ 2 _ _ hg3
          have q3 : w3.cell? ⟨w1.heap.size, 3, none⟩ = some (.int .i64 t.s1.c) := (cell_of_row _ _ 3 _ _ _ hg3).trans rfl
          have fq3 : w3.frozen? ⟨w1.heap.size, 3, none⟩ = false := frozen_of_row _ _ 3 _ _ hg3
          have q4 : w3.cell? ⟨w1.heap.size, 4, none⟩ = some (.bool t.s2.b) := (cell_of_row _ _ 4 _ _ _ hg3).trans rfl
          have fq4 : w3.frozen? ⟨w1.heap.size, 4, none⟩ = false := frozen_of_row _ _ 4 _ _ hg3
          have q5 : w3.cell? ⟨w1.heap.size, 5, none⟩ = some (.int .i64 t.s2.c) := (cell_of_row _ _ 5 _ _ _ hg3).trans rfl
          have fq5 : w3.frozen? ⟨w1.heap.size, 5, none⟩ = false := frozen_of_row _ _ 5 _ _ hg3
          go_wp2_with fail
          have HI : Hid _ := seatIdx_any w1.heap.size t ⟨false, 0⟩ w3 hg3
          rw [HF.out] at HI
          refine Calls.mono HI.out ?_
          rintro e w6 ⟨rfl, hb6⟩
          have HB6 : Hid (Below w.heap.size w w6) := HB3.out.trans (hb6.mono HB3.out.size)
          have hg6 : w6.heap[w1.heap.size]? = some (.cells t.cells 97 (0, 0)) := (hb6.block _ (Array.getElem?_eq_some_iff.1 hg3).1).trans hg3
          clear hb6 HI hg3 q0 fq0 q1 fq1 q2 fq2 q3 fq3 q4 fq4 q5 fq5
          have q0 : w6.cell? ⟨w1.heap.size, 0, none⟩ = some (.bool t.s0.b) := (cell_of_row _ _ 0 _ _ _ hg6).trans rfl
          have fq0 : w6.frozen? ⟨w1.heap.size, 0, none⟩ = false := frozen_of_row _ _ 0 _ _ hg6
          have q1 : w6.cell? ⟨w1.heap.size, 1, none⟩ = some (.int .i64 t.s0.c) := (cell_of_row _ _ 1 _ _ _ hg6).trans rfl
          have fq1 : w6.frozen? ⟨w1.heap.size, 1, none⟩ = false := frozen_of_row _ _ 1 _ _ hg6
          have q2 : w6.cell? ⟨w1.heap.size, 2, none⟩ = some (.bool t.s1.b) := (cell_of_row _ _ 2 _ _ _ hg6).trans rfl
          have fq2 : w6.frozen? ⟨w1.heap.size, 2, none⟩ = false := frozen_of_row _ _ 2 _ _ hg6
          have q3 : w6.cell? ⟨w1.heap.size, 3, none⟩ = some (.int .i64 t.s1.c) := (cell_of_row _ _ 3 _ _ _ hg6).trans rfl
          have fq3 : w6.frozen? ⟨w1.heap.size, 3, none⟩ = false := frozen_of_row _ _ 3 _ _ hg6
          have q4 : w6.cell? ⟨w1.heap.size, 4, none⟩ = some (.bool t.s2.b) := (cell_of_row _ _ 4 _ _ _ hg6).trans rfl
          have fq4 : w6.frozen? ⟨w1.heap.size, 4, none⟩ = false := frozen_of_row _ _ 4 _ _ hg6
          have q5 : w6.cell? ⟨w1.heap.size, 5, none⟩ = some (.int .i64 t.s2.c) := (cell_of_row _ _ 5 _ _ _ hg6).trans rfl
          have fq5 : w6.frozen? ⟨w1.heap.size, 5, none⟩ = false := frozen_of_row _ _ 5 _ _ hg6
          have hg7 : ((w6.setCell ⟨w1.heap.size, 2, none⟩ (.bool true)).setCell ⟨w1.heap.size, 3, none⟩ (.int .i64 c)).heap[w1.heap.size]? = some (.cells #[.bool t.s0.b, .int .i64 t.s0.c, .bool true, .int .i64 c, .bool t.s2.b, .int .i64 t.s2.c] 97 (0, 0)) := (heap_setCell_same _ _ 3 _ _ _ (heap_setCell_same _ _ 2 _ _ _ hg6)).trans rfl
          have HB7 : Hid (Below w.heap.size w ((w6.setCell ⟨w1.heap.size, 2, none⟩ (.bool true)).setCell ⟨w1.heap.size, 3, none⟩ (.int .i64 c))) := (HB6.out.setCell (show w.heap.size ≤ w1.heap.size from hgs) _).setCell (show w.heap.size ≤ w1.heap.size from hgs) _
          have p0 : ((w6.setCell ⟨w1.heap.size, 2, none⟩ (.bool true)).setCell ⟨w1.heap.size, 3, none⟩ (.int .i64 c)).cell? ⟨w1.heap.size, 0, none⟩ = some (.bool t.s0.b) := (cell_of_row _ _ 0 _ _ _ hg7).trans rfl
          have p1 : ((w6.setCell ⟨w1.heap.size, 2, none⟩ (.bool true)).setCell ⟨w1.heap.size, 3, none⟩ (.int .i64 c)).cell? ⟨w1.heap.size, 1, none⟩ = some (.int .i64 t.s0.c) := (cell_of_row _ _ 1 _ _ _ hg7).trans rfl
          have p2 : ((w6.setCell ⟨w1.heap.size, 2, none⟩ (.bool true)).setCell ⟨w1.heap.size, 3, none⟩ (.int .i64 c)).cell? ⟨w1.heap.size, 2, none⟩ = some (.bool true) := (cell_of_row _ _ 2 _ _ _ hg7).trans rfl
          have p3 : ((w6.setCell ⟨w1.heap.size, 2, none⟩ (.bool true)).setCell ⟨w1.heap.size, 3, none⟩ (.int .i64 c)).cell? ⟨w1.heap.size, 3, none⟩ = some (.int .i64 c) := (cell_of_row _ _ 3 _ _ _ hg7).trans rfl
          have p4 : ((w6.setCell ⟨w1.heap.size, 2, none⟩ (.bool true)).setCell ⟨w1.heap.size, 3, none⟩ (.int .i64 c)).cell? ⟨w1.heap.size, 4, none⟩ = some (.bool t.s2.b) := (cell_of_row _ _ 4 _ _ _ hg7).trans rfl
          have p5 : ((w6.setCell ⟨w1.heap.size, 2, none⟩ (.bool true)).setCell ⟨w1.heap.size, 3, none⟩ (.int .i64 c)).cell? ⟨w1.heap.size, 5, none⟩ = some (.int .i64 t.s2.c) := (cell_of_row _ _ 5 _ _ _ hg7).trans rfl
          have HLL : Hid _ := seatLeases_any ⟨t.s0, ⟨true, c⟩, t.s2⟩ ((w6.setCell ⟨w1.heap.size, 2, none⟩ (.bool true)).setCell ⟨w1.heap.size, 3, none⟩ (.int .i64 c))
          rw [show St.leases ⟨t.s0, ⟨true, c⟩, t.s2⟩ = leaseL ls c from HX.out.1.symm] at HLL
          clear hg6 hg7
          go_wp2_with fail
          refine Calls.mono HLL.out ?_
          rintro e w8 ⟨v8, rfl, ho8, hb8⟩
          have HB8 : Hid (Below w.heap.size w w8) := HB7.out.trans (hb8.mono HB7.out.size)
          have HO8 : Hid (OwnLs w.heap.size w8 v8 (leaseL ls c)) := ho8.base HB7.out.size
          clear ho8 hb8 HLL q0 fq0 p0 q1 fq1 p1 q2 fq2 p2 q3 fq3 p3 q4 fq4 p4 q5 fq5 p5
          obtain ⟨a8, c8, rfl, -, -⟩ := HO8.out.row
          go_wp2
          go_ret3
          exact ⟨_, by rw [HX.out.2.1, HX.out.2.2]; rfl, HO8.out.clip, HB8.out⟩
        · have HX : Hid (leaseL ls c = (t.put 12 c).leases ∧ leaseP ls c = 12 ∧ leaseB ls c = true) := by
            rw [hi] at hm hle
            exact ⟨by rw [HL.out.1, ← hle]; rfl, by rw [HL.out.2.1, hm]; rfl, HL.out.2.2⟩
          have HF : Hid (t.idx ⟨false, 0⟩ = 2) := hi
          clear hsq hno hp hh Q hfr hm h0 h2 hle HL hi
          go_enter Try.func19, Try.ntmps19
          go_wp2_with fail
          refine Calls.mono HS.out ?_
          rintro e w1 ⟨rfl, hb1⟩
          obtain ⟨w2, hw2⟩ : ∃ w2, w1.alloc (.cells t.cells 97) = w2 := ⟨_, rfl⟩
          have HB2 : Hid (Below w.heap.size w w2) := by show Below _ _ _; rw [← hw2]; exact hb1.alloc (by have := hb1.size; omega) _
          have hg2 : w2.heap[w1.heap.size]? = some (.cells t.cells 97 (0, 0)) := by rw [← hw2]; exact heap_alloc_new w1 _
          have hgs : w.heap.size ≤ w1.heap.size := hb1.size
          have q0 : w2.cell? ⟨w1.heap.size, 0, none⟩ = some (.bool t.s0.b) := (cell_of_row _ _ 0 _ _ _ hg2).trans rfl
          have fq0 : w2.frozen? ⟨w1.heap.size, 0, none⟩ = false := frozen_of_row _ _ 0 _ _ hg2
          have q1 : w2.cell? ⟨w1.heap.size, 1, none⟩ = some (.int .i64 t.s0.c) := (cell_of_row _ _ 1 _ _ _ hg2).trans rfl
          have fq1 : w2.frozen? ⟨w1.heap.size, 1, none⟩ = false := frozen_of_row _ _ 1 _ _ hg2
          have q2 : w2.cell? ⟨w1.heap.size, 2, none⟩ = some (.bool t.s1.b) := (cell_of_row _ _ 2 _ _ _ hg2).trans rfl
          have fq2 : w2.frozen? ⟨w1.heap.size, 2, none⟩ = false := frozen_of_row _ _ 2 _ _ hg2
          have q3 : w2.cell? ⟨w1.heap.size, 3, none⟩ = some (.int .i64 t.s1.c) := (cell_of_row _ _ 3 _ _ _ hg2).trans rfl
          have fq3 : w2.frozen? ⟨w1.heap.size, 3, none⟩ = false := frozen_of_row _ _ 3 _ _ hg2
          have q4 : w2.cell? ⟨w1.heap.size, 4, none⟩ = some (.bool t.s2.b) := (cell_of_row _ _ 4 _ _ _ hg2).trans rfl
          have fq4 : w2.frozen? ⟨w1.heap.size, 4, none⟩ = false := frozen_of_row _ _ 4 _ _ hg2
          have q5 : w2.cell? ⟨w1.heap.size, 5, none⟩ = some (.int .i64 t.s2.c) := (cell_of_row _ _ 5 _ _ _ hg2).trans rfl
          have fq5 : w2.frozen? ⟨w1.heap.size, 5, none⟩ = false := frozen_of_row _ _ 5 _ _ hg2
          clear hb1 HS
          go_wp2_with fail
          clear hw2
          refine Calls.mono (HH.out _) ?_
          rintro e w3 ⟨rfl, hb3⟩
          have HB3 : Hid (Below w.heap.size w w3) := HB2.out.trans (hb3.mono HB2.out.size)
          have hg3 : w3.heap[w1.heap.size]? = some (.cells t.cells 97 (0, 0)) := (hb3.block _ (Array.getElem?_eq_some_iff.1 hg2).1).trans hg2
          clear hb3 hg2 q0 fq0 q1 fq1 q2 fq2 q3 fq3 q4 fq4 q5 fq5
          have q0 : w3.cell? ⟨w1.heap.size, 0, none⟩ = some (.bool t.s0.b) := (cell_of_row _ _ 0 _ _ _ hg3).trans rfl
          have fq0 : w3.frozen? ⟨w1.heap.size, 0, none⟩ = false := frozen_of_row _ _ 0 _ _ hg3
          have q1 : w3.cell? ⟨w1.heap.size, 1, none⟩ = some (.int .i64 t.s0.c) := (cell_of_row _ _ 1 _ _ _ hg3).trans rfl
          have fq1 : w3.frozen? ⟨w1.heap.size, 1, none⟩ = false := frozen_of_row _ _ 1 _ _ hg3
          have q2 : w3.cell? ⟨w1.heap.size, 2, none⟩ = some (.bool t.s1.b) := (cell_of_row _ _ 2 _ _ _ hg3).trans rfl
          have fq2 : w3.frozen? ⟨w1.heap.size, 2, none⟩ = false := frozen_of_row _ _ 2 _ _ hg3
          have q3 : w3.cell? ⟨w1.heap.size, 3, none⟩ = some (.int .i64 t.s1.c) := (cell_of_row _ _ 3 _ _ _ hg3).trans rfl
          have fq3 : w3.frozen? ⟨w1.heap.size, 3, none⟩ = false := frozen_of_row _ _ 3 _ _ hg3
          have q4 : w3.cell? ⟨w1.heap.size, 4, none⟩ = some (.bool t.s2.b) := (cell_of_row _ _ 4 _ _ _ hg3).trans rfl
          have fq4 : w3.frozen? ⟨w1.heap.size, 4, none⟩ = false := frozen_of_row _ _ 4 _ _ hg3
          have q5 : w3.cell? ⟨w1.heap.size, 5, none⟩ = some (.int .i64 t.s2.c) := (cell_of_row _ _ 5 _ _ _ hg3).trans rfl
          have fq5 : w3.frozen? ⟨w1.heap.size, 5, none⟩ = false := frozen_of_row _ _ 5 _ _ hg3
          go_wp2_with fail
          have HI : Hid _ := seatIdx_any w1.heap.size t ⟨false, 0⟩ w3 hg3
          rw [HF.out] at HI
          refine Calls.mono HI.out ?_
          rintro e w6 ⟨rfl, hb6⟩
          have HB6 : Hid (Below w.heap.size w w6) := HB3.out.trans (hb6.mono HB3.out.size)
          have hg6 : w6.heap[w1.heap.size]? = some (.cells t.cells 97 (0, 0)) := (hb6.block _ (Array.getElem?_eq_some_iff.1 hg3).1).trans hg3
          clear hb6 HI hg3 q0 fq0 q1 fq1 q2 fq2 q3 fq3 q4 fq4 q5 fq5
          have q0 : w6.cell? ⟨w1.heap.size, 0, none⟩ = some (.bool t.s0.b) := (cell_of_row _ _ 0 _ _ _ hg6).trans rfl
          have fq0 : w6.frozen? ⟨w1.heap.size, 0, none⟩ = false := frozen_of_row _ _ 0 _ _ hg6
          have q1 : w6.cell? ⟨w1.heap.size, 1, none⟩ = some (.int .i64 t.s0.c) := (cell_of_row _ _ 1 _ _ _ hg6).trans rfl
          have fq1 : w6.frozen? ⟨w1.heap.size, 1, none⟩ = false := frozen_of_row _ _ 1 _ _ hg6
          have q2 : w6.cell? ⟨w1.heap.size, 2, none⟩ = some (.bool t.s1.b) := (cell_of_row _ _ 2 _ _ _ hg6).trans rfl
          have fq2 : w6.frozen? ⟨w1.heap.size, 2, none⟩ = false := frozen_of_row _ _ 2 _ _ hg6
          have q3 : w6.cell? ⟨w1.heap.size, 3, none⟩ = some (.int .i64 t.s1.c) := (cell_of_row _ _ 3 _ _ _ hg6).trans rfl
          have fq3 : w6.frozen? ⟨w1.heap.size, 3, none⟩ = false := frozen_of_row _ _ 3 _ _ hg6
          have q4 : w6.cell? ⟨w1.heap.size, 4, none⟩ = some (.bool t.s2.b) := (cell_of_row _ _ 4 _ _ _ hg6).trans rfl
          have fq4 : w6.frozen? ⟨w1.heap.size, 4, none⟩ = false := frozen_of_row _ _ 4 _ _ hg6
          have q5 : w6.cell? ⟨w1.heap.size, 5, none⟩ = some (.int .i64 t.s2.c) := (cell_of_row _ _ 5 _ _ _ hg6).trans rfl
          have fq5 : w6.frozen? ⟨w1.heap.size, 5, none⟩ = false := frozen_of_row _ _ 5 _ _ hg6
          have hg7 : ((w6.setCell ⟨w1.heap.size, 4, none⟩ (.bool true)).setCell ⟨w1.heap.size, 5, none⟩ (.int .i64 c)).heap[w1.heap.size]? = some (.cells #[.bool t.s0.b, .int .i64 t.s0.c, .bool t.s1.b, .int .i64 t.s1.c, .bool true, .int .i64 c] 97 (0, 0)) := (heap_setCell_same _ _ 5 _ _ _ (heap_setCell_same _ _ 4 _ _ _ hg6)).trans rfl
          have HB7 : Hid (Below w.heap.size w ((w6.setCell ⟨w1.heap.size, 4, none⟩ (.bool true)).setCell ⟨w1.heap.size, 5, none⟩ (.int .i64 c))) := (HB6.out.setCell (show w.heap.size ≤ w1.heap.size from hgs) _).setCell (show w.heap.size ≤ w1.heap.size from hgs) _
          have p0 : ((w6.setCell ⟨w1.heap.size, 4, none⟩ (.bool true)).setCell ⟨w1.heap.size, 5, none⟩ (.int .i64 c)).cell? ⟨w1.heap.size, 0, none⟩ = some (.bool t.s0.b) := (cell_of_row _ _ 0 _ _ _ hg7).trans rfl
          have p1 : ((w6.setCell ⟨w1.heap.size, 4, none⟩ (.bool true)).setCell ⟨w1.heap.size, 5, none⟩ (.int .i64 c)).cell? ⟨w1.heap.size, 1, none⟩ = some (.int .i64 t.s0.c) := (cell_of_row _ _ 1 _ _ _ hg7).trans rfl
          have p2 : ((w6.setCell ⟨w1.heap.size, 4, none⟩ (.bool true)).setCell ⟨w1.heap.size, 5, none⟩ (.int .i64 c)).cell? ⟨w1.heap.size, 2, none⟩ = some (.bool t.s1.b) := (cell_of_row _ _ 2 _ _ _ hg7).trans rfl
          have p3 : ((w6.setCell ⟨w1.heap.size, 4, none⟩ (.bool true)).setCell ⟨w1.heap.size, 5, none⟩ (.int .i64 c)).cell? ⟨w1.heap.size, 3, none⟩ = some (.int .i64 t.s1.c) := (cell_of_row _ _ 3 _ _ _ hg7).trans rfl
          have p4 : ((w6.setCell ⟨w1.heap.size, 4, none⟩ (.bool true)).setCell ⟨w1.heap.size, 5, none⟩ (.int .i64 c)).cell? ⟨w1.heap.size, 4, none⟩ = some (.bool true) := (cell_of_row _ _ 4 _ _ _ hg7).trans rfl
          have p5 : ((w6.setCell ⟨w1.heap.size, 4, none⟩ (.bool true)).setCell ⟨w1.heap.size, 5, none⟩ (.int .i64 c)).cell? ⟨w1.heap.size, 5, none⟩ = some (.int .i64 c) := (cell_of_row _ _ 5 _ _ _ hg7).trans rfl
          have HLL : Hid _ := seatLeases_any ⟨t.s0, t.s1, ⟨true, c⟩⟩ ((w6.setCell ⟨w1.heap.size, 4, none⟩ (.bool true)).setCell ⟨w1.heap.size, 5, none⟩ (.int .i64 c))
          rw [show St.leases ⟨t.s0, t.s1, ⟨true, c⟩⟩ = leaseL ls c from HX.out.1.symm] at HLL
          clear hg6 hg7
          go_wp2_with fail
          refine Calls.mono HLL.out ?_
          rintro e w8 ⟨v8, rfl, ho8, hb8⟩
          have HB8 : Hid (Below w.heap.size w w8) := HB7.out.trans (hb8.mono HB7.out.size)
          have HO8 : Hid (OwnLs w.heap.size w8 v8 (leaseL ls c)) := ho8.base HB7.out.size
          clear ho8 hb8 HLL q0 fq0 p0 q1 fq1 p1 q2 fq2 p2 q3 fq3 p3 q4 fq4 p4 q5 fq5 p5
          obtain ⟨a8, c8, rfl, -, -⟩ := HO8.out.row
          go_wp2
          go_ret3
          exact ⟨_, by rw [HX.out.2.1, HX.out.2.2]; rfl, HO8.out.clip, HB8.out⟩
end Go.Proofs.Ytclnhjkmhemebaa
