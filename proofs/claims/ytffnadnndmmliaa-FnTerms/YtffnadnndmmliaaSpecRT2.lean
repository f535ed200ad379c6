/- The contract of chapter 3's ReadTerm, the specification's. -/
import Derived.Test.YtffnadnndmmliaaSpecRT
import Derived.Test.YtffnadnndmmliaaSpecText
import Derived.Test.YtffnadnndmmliaaTermPut
import Derived.WalkKit
import Derived.WalkLawsBesides
import Derived.WalkSpells
import Derived.Laws.Rows
import Derived.Laws.ResultCell
namespace Go.Proofs.Ytffnadnndmmliaa
open Go.RowKit Go.PlainAid
set_option linter.unusedVariables false
/-- ReadTerm: what is answered. -/
def rtOk (s : ByteArray) (ns : List Nd) : Option (List Nd × Nat) :=
  match rdS s 2001 ns 0 with
  | none => none
  | some (ns', k, e, _) => if e = s.size ∧ inB (sizeN ns' (k : Int)) 1 2000 = true then some (ns', k) else none
theorem strOf_nums (s : ByteArray) : strOfNums (nums (tk s 0 (s.size - 0))) = s := by
  have h : (strOfNums (nums (tk s 0 (s.size - 0)))).data.toList = s.data.toList := by
    rw [strOfNums_data]
    rw [(strOfNums_eq (xs := nums (tk s 0 (s.size - 0))) (l := tk s 0 (s.size - 0)) (by
      intro x hx
      unfold nums at hx
      obtain ⟨b, _, rfl⟩ := List.mem_map.1 hx
      have := b.toNat_lt
      omega)).2 rfl]
    unfold tk
    have : s.size = s.data.toList.length := by rw [Array.length_toList]; rfl
    rw [List.drop_zero, Nat.sub_zero, this, List.take_length]
  cases s with
  | mk d =>
    generalize hq : strOfNums (nums (tk ⟨d⟩ 0 ((⟨d⟩ : ByteArray).size - 0))) = q at h
    cases q with
    | mk c =>
      congr 1
      exact Array.toList_inj.1 h
def RtPost (s : ByteArray) (ns : List Nd) (w : World) (e : Ending) (w' : World) : Prop := match rtOk s ns with
  | none => ∃ v, e = .returned (.tuple #[.agg #[v], .int .i64 (-1), .bool false]) ∧ OwnN w.heap.size w' v ns ∧ Below w.heap.size w w'
  | some (ms, k) => ∃ v, e = .returned (.tuple #[.agg #[v], .int .i64 (k : Int), .bool true]) ∧ OwnN w.heap.size w' v ms ∧ Below w.heap.size w w'
set_option maxHeartbeats 1600000 in
set_option maxRecDepth 20000 in
theorem specRT_any (a : Option Addr) (cap : Nat) (ns : List Nd) (s : ByteArray) (w : World) (hs : s.size ≤ 1048576) (hl : ns.length ≤ 1048576) (ha : AddrN a cap) (hr : RowN w.heap.size w a ns) :
    Calls Try.prog 16 #[.agg #[.slice a ns.length cap], .string s] w (RtPost s ns w) := by
  have hb00 : Below w.heap.size w (w.alloc (.cells #[.slice a ns.length cap] 28)) := (Below.refl _ _).alloc (Nat.le_refl _) _
  have hb0 : Below w.heap.size w ((w.alloc (.cells #[.slice a ns.length cap] 28)).alloc (.cells #[.slice none 0 0] 28)) := hb00.alloc hb00.size _
  have hs00 : (w.alloc (.cells #[.slice a ns.length cap] 28)).heap.size = w.heap.size + 1 := by simp
  have hs0 : ((w.alloc (.cells #[.slice a ns.length cap] 28)).alloc (.cells #[.slice none 0 0] 28)).heap.size = w.heap.size + 2 := by simp
  have hp0 := (heap_alloc_old (w.alloc (.cells #[.slice a ns.length cap] 28)) (.cells #[.slice none 0 0] 28) (show w.heap.size < (w.alloc (.cells #[.slice a ns.length cap] 28)).heap.size by omega)).trans (heap_alloc_new w (.cells #[.slice a ns.length cap] 28))
  have HP : Hid (((w.alloc (.cells #[.slice a ns.length cap] 28)).alloc (.cells #[.slice none 0 0] 28)).cell? ⟨w.heap.size, 0, none⟩ = some (.slice a ns.length cap)) := (cell_of_row _ _ 0 _ _ _ hp0).trans rfl
  have hq0 := heap_alloc_new (w.alloc (.cells #[.slice a ns.length cap] 28)) (.cells #[.slice none 0 0] 28)
  rw [hs00] at hq0
  have HQ : Hid (((w.alloc (.cells #[.slice a ns.length cap] 28)).alloc (.cells #[.slice none 0 0] 28)).heap[w.heap.size + 1]? = some (.cells #[.slice none 0 0] 28 (0, 0))) := hq0
  have HR0 : Hid (RowN w.heap.size ((w.alloc (.cells #[.slice a ns.length cap] 28)).alloc (.cells #[.slice none 0 0] 28)) a ns) := hr.later hb0
  have HB0 : Hid (Below w.heap.size w ((w.alloc (.cells #[.slice a ns.length cap] 28)).alloc (.cells #[.slice none 0 0] 28))) := hb0
  clear hb00 hb0 hs00 hp0 hq0 hr
  go_enter Try.func16, Try.ntmps16
  have q := HP.out
  go_wp2_with fail
  clear q
  generalize (w.alloc (.cells #[.slice a ns.length cap] 28)).alloc (.cells #[.slice none 0 0] 28) = w0 at HP HQ HR0 HB0 hs0 ⊢
  have hs0' : w.heap.size ≤ w0.heap.size := by omega
  refine (specCopy_any a cap ns _ hl ha (RowN.wide HR0.out (by omega))).mono ?_
  rintro e w1 ⟨v1, rfl, ho1, hb1⟩
  obtain ⟨a1, c1, rfl, -, -⟩ := ho1.row
  have hb2 : Below w1.heap.size w1 (w1.alloc (.cells #[.slice a1 ns.length c1] 28)) := (Below.refl _ _).alloc (Nat.le_refl _) _
  have hs1 := hb1.size
  have HA : Hid (ArenaAt w0.heap.size (w1.alloc (.cells #[.slice a1 ns.length c1] 28)) w1.heap.size ns) := ⟨hs1, by simp, _, heap_alloc_new w1 _, ho1.later hb2, fun e => by have := (ho1.lt _ e).2; omega⟩
  have HX2 : Hid (Below w0.heap.size w0 (w1.alloc (.cells #[.slice a1 ns.length c1] 28))) := hb1.trans (hb2.mono hs1)
  clear ho1 hb1 hb2
  go_wp2_with fail
  generalize w1.alloc (.cells #[.slice a1 ns.length c1] 28) = w2 at HA HX2 ⊢
  refine (specRd_any s w0.heap.size w1.heap.size hs 2001 0 ns 0 _ (by omega) (by omega) (Nat.zero_le _) hl HA.out HX2.out.size).mono ?_
  rintro e wX ⟨ms, x, y, rfl, haX, hbX, hlm, hcase⟩
  have HX : Hid (Below (w.heap.size + 2) w0 wX) := by rw [← hs0]; exact HX2.out.trans hbX
  have HAX : Hid (ArenaAt w0.heap.size wX w1.heap.size ms) := haX
  clear haX hbX HX2 HA
  rcases hcase with ⟨hn, rfl⟩ | ⟨k, e1, c, hn, rfl, rfl⟩
  · have HN : Hid (rtOk s ns = none) := by show _ = _; unfold rtOk; rw [hn]
    clear hn
    have q := (HX.out.cell (p := ⟨w.heap.size, 0, none⟩) (show w.heap.size < w.heap.size + 2 by omega)).trans HP.out
    go_wp2_with fail
    clear q
    refine (specCopy_any a cap ns _ hl ha (RowN.wide (HR0.out.later (HX.out.mono (by omega))) (Nat.le_trans hs0' HX.out.size))).mono ?_
    rintro e wY ⟨vY, rfl, hoY, hbY⟩
    have hsX := HX.out.size
    have hsY := hbY.size
    obtain ⟨aY, cY, rfl, -, -⟩ := hoY.row
    have hrb : wY.heap[w.heap.size + 1]? = some (.cells #[.slice none 0 0] 28 (0, 0)) := (hbY.block _ (by omega)).trans ((HX.out.block _ (by omega)).trans HQ.out)
    have r0 : wY.cell? ⟨w.heap.size + 1, 0, none⟩ = some (.slice none 0 0) := (cell_of_row _ _ 0 _ _ _ hrb).trans rfl
    have f0 : wY.frozen? ⟨w.heap.size + 1, 0, none⟩ = false := frozen_of_row _ _ 0 _ _ hrb
    have HBL : Hid ((wY.setCell ⟨w.heap.size + 1, 0, none⟩ (.slice aY ns.length cY)).heap[w.heap.size + 1]? = some (.cells #[.slice aY ns.length cY] 28 (0, 0))) := by
      show _ = _
      exact (heap_setCell_same _ _ 0 _ _ _ hrb).trans rfl
    have HOY : Hid (OwnN w.heap.size (wY.setCell ⟨w.heap.size + 1, 0, none⟩ (.slice aY ns.length cY)) (.slice aY ns.length cY) ns) := OwnN.base (ownsRow_setCell_below hoY (show w.heap.size + 1 < wX.heap.size by omega) _) (by omega)
    have HBY : Hid (Below w.heap.size w (wY.setCell ⟨w.heap.size + 1, 0, none⟩ (.slice aY ns.length cY))) := (((HB0.out.trans (HX.out.mono (by omega))).trans (hbY.mono (by omega))).setCell (show w.heap.size ≤ w.heap.size + 1 by omega) _)
    clear hrb hoY hbY
    go_wp2
    refine bodyPost_ret (res_cell3 rfl _ _ (w.heap.size + 1) 28 #[.slice aY ns.length cY] (0, 0) _ rfl ?_ Try.underlying28 rfl arenaSize) rfl ?_
    · exact HBL.out
    · unfold RtPost; rw [HN.out]; exact ⟨_, rfl, HOY.out, HBY.out⟩
  · have hk0 : ¬ (k : Int) < 0 := by omega
    by_cases he : e1 = s.size
    · obtain rfl := he
      obtain ⟨t1, t2, tv, t3, t4, t5⟩ := HAX.out
      obtain ⟨aM, cM, rfl, -, hrM⟩ := t4.row
      have q := (cell_of_row _ _ 0 _ _ _ t3).trans (show _ = some (.slice aM ms.length cM) from rfl)
      have HRM : Hid (RowN wX.heap.size wX aM ms) := hrM
      have HOM : Hid (OwnN w0.heap.size wX (.slice aM ms.length cM) ms) := t4
      have HBM : Hid (wX.heap[w1.heap.size]? = some (.cells #[.slice aM ms.length cM] 28 (0, 0))) := t3
      clear t1 t2 t3 t4 t5 hrM HAX
      have hne2 : ((s.size : Int) != (s.size : Int)) = false := by simp
      cases hz : inB (sizeN ms (k : Int)) 1 2000 with
      | false =>
        have HN : Hid (rtOk s ns = none) := by show _ = _; unfold rtOk; rw [hn]; simp [hz]
        have HZ : Hid (inB (sizeN ms (k : Int)) 1 2000 = false) := hz
        clear hn hz
        go_wp2_with fail
        clear q
        refine (specText_no aM cM ms k _ hlm HRM.out HZ.out).mono ?_
        rintro e wZ ⟨rfl, hbZ⟩
        replace HX : Hid (Below (w.heap.size + 2) w0 wZ) := HX.out.trans (hbZ.mono (by have := HX.out.size; omega))
        clear hbZ HRM HOM HBM
        clear hne2
        have q := (HX.out.cell (p := ⟨w.heap.size, 0, none⟩) (show w.heap.size < w.heap.size + 2 by omega)).trans HP.out
        go_wp2_with fail
        clear q
        refine (specCopy_any a cap ns _ hl ha (RowN.wide (HR0.out.later (HX.out.mono (by omega))) (Nat.le_trans hs0' HX.out.size))).mono ?_
        rintro e wY ⟨vY, rfl, hoY, hbY⟩
        have hsX := HX.out.size
        have hsY := hbY.size
        obtain ⟨aY, cY, rfl, -, -⟩ := hoY.row
        have hrb : wY.heap[w.heap.size + 1]? = some (.cells #[.slice none 0 0] 28 (0, 0)) := (hbY.block _ (by omega)).trans ((HX.out.block _ (by omega)).trans HQ.out)
        have r0 : wY.cell? ⟨w.heap.size + 1, 0, none⟩ = some (.slice none 0 0) := (cell_of_row _ _ 0 _ _ _ hrb).trans rfl
        have f0 : wY.frozen? ⟨w.heap.size + 1, 0, none⟩ = false := frozen_of_row _ _ 0 _ _ hrb
        have HBL : Hid ((wY.setCell ⟨w.heap.size + 1, 0, none⟩ (.slice aY ns.length cY)).heap[w.heap.size + 1]? = some (.cells #[.slice aY ns.length cY] 28 (0, 0))) := by
          show _ = _
          exact (heap_setCell_same _ _ 0 _ _ _ hrb).trans rfl
        have HOY : Hid (OwnN w.heap.size (wY.setCell ⟨w.heap.size + 1, 0, none⟩ (.slice aY ns.length cY)) (.slice aY ns.length cY) ns) := OwnN.base (ownsRow_setCell_below hoY (show w.heap.size + 1 < wZ.heap.size by omega) _) (by omega)
        have HBY : Hid (Below w.heap.size w (wY.setCell ⟨w.heap.size + 1, 0, none⟩ (.slice aY ns.length cY))) := (((HB0.out.trans (HX.out.mono (by omega))).trans (hbY.mono (by omega))).setCell (show w.heap.size ≤ w.heap.size + 1 by omega) _)
        clear hrb hoY hbY
        go_wp2
        refine bodyPost_ret (res_cell3 rfl _ _ (w.heap.size + 1) 28 #[.slice aY ns.length cY] (0, 0) _ rfl ?_ Try.underlying28 rfl arenaSize) rfl ?_
        · exact HBL.out
        · unfold RtPost; rw [HN.out]; exact ⟨_, rfl, HOY.out, HBY.out⟩
      | true =>
        have HN : Hid (rtOk s ns = some (ms, k)) := by show _ = _; unfold rtOk; rw [hn]; simp [hz]
        have hzb := inB_true hz
        obtain ⟨i, hi, hg, hsz⟩ := sizeN_good (show sizeN ms (k : Int) ≠ 0 by omega)
        obtain rfl : k = i := by omega
        have htx := ((rd_C s 2001 ns 0 ms k s.size c hn).2.2.2.2 ms (List.prefix_refl _) hg).1
        have HT : Hid (∀ wz, RowN wz.heap.size wz aM ms → Calls Try.prog 32 #[.agg #[.slice aM ms.length cM], .int .i64 (k : Int)] wz fun e w' => e = .returned (.tuple #[.string s, .bool true]) ∧ Below wz.heap.size wz w') := fun wz hrz => by
          have := specText_yes aM cM ms k wz hlm hrz hg (by omega)
          rw [htx, strOf_nums] at this
          exact this
        clear hn hz hzb hi hg hsz htx
        go_wp2_with fail
        clear q
        refine (HT.out _ HRM.out).mono ?_
        rintro e wZ ⟨rfl, hbZ⟩
        have hsX := HX.out.size
        have hsZ := hbZ.size
        have HXZ : Hid (Below (w.heap.size + 2) w0 wZ) := HX.out.trans (hbZ.mono (by omega))
        have hbl : w1.heap.size < wX.heap.size := (Array.getElem?_eq_some_iff.1 HBM.out).1
        have q : wZ.cell? ⟨w1.heap.size, 0, none⟩ = some (.slice aM ms.length cM) := (hbZ.cell (p := ⟨w1.heap.size, 0, none⟩) hbl).trans ((cell_of_row _ _ 0 _ _ _ HBM.out).trans rfl)
        have hrb : wZ.heap[w.heap.size + 1]? = some (.cells #[.slice none 0 0] 28 (0, 0)) := (HXZ.out.block _ (by omega)).trans HQ.out
        have r0 : wZ.cell? ⟨w.heap.size + 1, 0, none⟩ = some (.slice none 0 0) := (cell_of_row _ _ 0 _ _ _ hrb).trans rfl
        have f0 : wZ.frozen? ⟨w.heap.size + 1, 0, none⟩ = false := frozen_of_row _ _ 0 _ _ hrb
        have HBL : Hid ((wZ.setCell ⟨w.heap.size + 1, 0, none⟩ (.slice aM ms.length cM)).heap[w.heap.size + 1]? = some (.cells #[.slice aM ms.length cM] 28 (0, 0))) := by
          show _ = _
          exact (heap_setCell_same _ _ 0 _ _ _ hrb).trans rfl
        have HOY : Hid (OwnN w.heap.size (wZ.setCell ⟨w.heap.size + 1, 0, none⟩ (.slice aM ms.length cM)) (.slice aM ms.length cM) ms) := OwnN.base (ownsRow_setCell_below (HOM.out.later hbZ) (show w.heap.size + 1 < w0.heap.size by omega) _) (by omega)
        have HBY : Hid (Below w.heap.size w (wZ.setCell ⟨w.heap.size + 1, 0, none⟩ (.slice aM ms.length cM))) := ((HB0.out.trans (HXZ.out.mono (by omega))).setCell (show w.heap.size ≤ w.heap.size + 1 by omega) _)
        clear hrb hbZ HRM HOM HBM HT HX
        go_wp2
        refine bodyPost_ret (res_cell3 rfl _ _ (w.heap.size + 1) 28 #[.slice aM ms.length cM] (0, 0) _ rfl ?_ Try.underlying28 rfl arenaSize) rfl ?_
        · exact HBL.out
        · unfold RtPost; rw [HN.out]; exact ⟨_, rfl, HOY.out, HBY.out⟩
    · have hne2 : ((e1 : Int) != (s.size : Int)) = true := by simp; omega
      have HN : Hid (rtOk s ns = none) := by show _ = _; unfold rtOk; rw [hn]; simp [he]
      clear hn he HAX
      have q := (HX.out.cell (p := ⟨w.heap.size, 0, none⟩) (show w.heap.size < w.heap.size + 2 by omega)).trans HP.out
      go_wp2_with fail
      clear q
      refine (specCopy_any a cap ns _ hl ha (RowN.wide (HR0.out.later (HX.out.mono (by omega))) (Nat.le_trans hs0' HX.out.size))).mono ?_
      rintro e wY ⟨vY, rfl, hoY, hbY⟩
      have hsX := HX.out.size
      have hsY := hbY.size
      obtain ⟨aY, cY, rfl, -, -⟩ := hoY.row
      have hrb : wY.heap[w.heap.size + 1]? = some (.cells #[.slice none 0 0] 28 (0, 0)) := (hbY.block _ (by omega)).trans ((HX.out.block _ (by omega)).trans HQ.out)
      have r0 : wY.cell? ⟨w.heap.size + 1, 0, none⟩ = some (.slice none 0 0) := (cell_of_row _ _ 0 _ _ _ hrb).trans rfl
      have f0 : wY.frozen? ⟨w.heap.size + 1, 0, none⟩ = false := frozen_of_row _ _ 0 _ _ hrb
      have HBL : Hid ((wY.setCell ⟨w.heap.size + 1, 0, none⟩ (.slice aY ns.length cY)).heap[w.heap.size + 1]? = some (.cells #[.slice aY ns.length cY] 28 (0, 0))) := by
        show _ = _
        exact (heap_setCell_same _ _ 0 _ _ _ hrb).trans rfl
      have HOY : Hid (OwnN w.heap.size (wY.setCell ⟨w.heap.size + 1, 0, none⟩ (.slice aY ns.length cY)) (.slice aY ns.length cY) ns) := OwnN.base (ownsRow_setCell_below hoY (show w.heap.size + 1 < wX.heap.size by omega) _) (by omega)
      have HBY : Hid (Below w.heap.size w (wY.setCell ⟨w.heap.size + 1, 0, none⟩ (.slice aY ns.length cY))) := (((HB0.out.trans (HX.out.mono (by omega))).trans (hbY.mono (by omega))).setCell (show w.heap.size ≤ w.heap.size + 1 by omega) _)
      clear hrb hoY hbY
      go_wp2
      refine bodyPost_ret (res_cell3 rfl _ _ (w.heap.size + 1) 28 #[.slice aY ns.length cY] (0, 0) _ rfl ?_ Try.underlying28 rfl arenaSize) rfl ?_
      · exact HBL.out
      · unfold RtPost; rw [HN.out]; exact ⟨_, rfl, HOY.out, HBY.out⟩
end Go.Proofs.Ytffnadnndmmliaa
