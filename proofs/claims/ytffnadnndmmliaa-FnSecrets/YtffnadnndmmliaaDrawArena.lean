/- The contract of chapter 3's l03Arena, the specification's: a drawn arena that is right. -/
import Derived.Test.YtffnadnndmmliaaTermPut2
import Derived.Test.YtffnadnndmmliaaPlainPlaces
import Derived.Test.YtffnadnndmmliaaPlainText
import Derived.Test.YtffnadnndmmliaaCurW
import Derived.Test.YtffnadnndmmliaaCodeW
import Derived.WalkKit
import Derived.WalkLawsBesides
import Derived.WalkSpells
import Derived.Laws.Rows
import Derived.Laws.ResultCell
namespace Go.Proofs.Ytffnadnndmmliaa
open Go.RowKit
set_option linter.unusedVariables false

theorem ArenaAt.cur {B ga g : Nat} {w w' : World} {ns : List Nd} (h : ArenaAt B w ga ns) (hg : w.grownBy w' (some g)) (hlt : g < B) : ArenaAt B w' ga ns := by
  obtain ⟨h1, h2, v, h3, h4, h5⟩ := h
  refine ⟨h1, Nat.lt_of_lt_of_le h2 hg.size, v, (hg.block ga h2 (by simp; omega)).trans h3, h4.kept hg ?_, h5⟩
  cases hv : v.ownBlock with
  | none => exact .inl rfl
  | some k => right; intro e; simp at e; have := (h4.lt k hv).1; omega
theorem ArenaAt.len {B ga : Nat} {w : World} {ns : List Nd} (h : ArenaAt B w ga ns) : ∃ a cap, w.cell? ⟨ga, 0, none⟩ = some (.slice a ns.length cap) := by
  obtain ⟨h1, h2, v, h3, h4, h5⟩ := h
  obtain ⟨a, cap, rfl, _, _⟩ := h4.row
  exact ⟨a, cap, by rw [cell_of_row w ga 0 _ _ _ h3]; rfl⟩
/-- What the drawing of an arena carries. -/
structure Dr (w : World) (B g i : Nat) (ns : List Nd) (wr : World) : Prop where
  len : ns.length ≤ i
  pos : 0 < i → 1 ≤ ns.length
  all : allFrom ns ns 0 = true
  at_ : ArenaAt (w.heap.size + 1) wr (w.heap.size + 1) ns
  cur : Cur B wr g
  gr : w.grownBy wr (some g)
  box : wr.heap[w.heap.size]? = some (.cells #[.slice none 0 0] 28 (0, 0))
  lt : g < w.heap.size
theorem Dr.draw {w : World} {B g i : Nat} {ns : List Nd} {wr w1 : World} (h : Dr w B g i ns wr) (hc : Cur B w1 g) (hg : wr.grownBy w1 (some g)) : Dr w B g i ns w1 :=
  ⟨h.len, h.pos, h.all, h.at_.cur hg (Nat.lt_succ_of_lt h.lt), hc, grown_trans h.gr hg, (hg.block _ (Nat.lt_of_lt_of_le (Nat.lt_succ_self _) (Nat.le_trans h.at_.1 (Nat.le_of_lt h.at_.2.1))) (by simp; have := h.lt; omega)).trans h.box, h.lt⟩
theorem Dr.made {w : World} {B g i : Nat} {ns : List Nd} {wr w1 : World} (h : Dr w B g i ns wr) (hb : Below wr.heap.size wr w1) : Dr w B g i ns w1 :=
  ⟨h.len, h.pos, h.all, h.at_.later hb, h.cur.grown hb, grown_then h.gr (hb.mono h.gr.size), (hb.block _ (Nat.lt_of_lt_of_le (Nat.lt_succ_self _) (Nat.le_trans h.at_.1 (Nat.le_of_lt h.at_.2.1)))).trans h.box, h.lt⟩
theorem Dr.put {w : World} {B g i : Nat} {ns : List Nd} {wr w1 : World} {x : Nd} (h : Dr w B g i ns wr) (ha : ArenaAt (w.heap.size + 1) w1 (w.heap.size + 1) (putA ns x)) (hb : Below (w.heap.size + 1) wr w1) (hp : 1 ≤ (putA ns x).length) : Dr w B g (i + 1) (putA ns x) w1 :=
  ⟨by have := (put_len (ns := ns) (x := x)).1; have := h.len; omega, fun _ => hp, all_put h.all, ha, h.cur.beyond (Nat.lt_succ_of_lt h.lt) hb, grown_then h.gr (hb.mono (Nat.le_succ _)), (hb.block _ (Nat.lt_succ_self _)).trans h.box, h.lt⟩
set_option maxHeartbeats 3200000 in
set_option maxRecDepth 20000 in
theorem arena_any (B g : Nat) (w : World) (hc : Cur B w g) :
    Calls Try.prog 86 #[.pointer (some ⟨g, 0, none⟩)] w fun e w' => ∃ v ns, e = .returned (.agg #[v]) ∧ 1 ≤ ns.length ∧ ns.length ≤ 13 ∧ allFrom ns ns 0 = true ∧ OwnN w.heap.size w' v ns ∧ Cur B w' g ∧ w.grownBy w' (some g) := by
  have hgl := hc.2.1
  have HC : Hid (Cur B w g) := hc
  clear hc
  go_enter Try.func86, Try.ntmps86
  go_wp2
  go_loopw [4] (fun iv wr => ∃ (i : Nat) (ns : List Nd), i ≤ 13 ∧ iv = .int .i64 (i : Int) ∧ Hid (Dr w B g i ns wr))
    (fun iv _ => 14 - (intOf iv).toNat)
  case atStart =>
    have hb : Below w.heap.size w ((w.alloc (.cells #[.slice none 0 0] 28)).alloc (.cells #[.slice none 0 0] 28)) := ((Below.refl _ _).alloc (Nat.le_refl _) _).alloc (by simp) _
    have hn := heap_alloc_new (w.alloc (.cells #[.slice none 0 0] 28)) (.cells #[.slice none 0 0] 28)
    have hsz : (w.alloc (.cells #[.slice none 0 0] 28)).heap.size = w.heap.size + 1 := by simp
    rw [hsz] at hn
    exact ⟨0, [], by omega, rfl, ⟨Nat.zero_le _, fun h => by omega, rfl, ⟨Nat.le_refl _, by simp, _, hn, ⟨rfl, .inl ⟨rfl, rfl⟩⟩, by simp [Value.ownBlock]⟩, HC.out.grown hb, grown_below hb _, (heap_alloc_old _ _ (by simp)).trans (heap_alloc_new w _), hgl⟩⟩
  case round =>
    obtain ⟨i, ns, hi, rfl, HD0⟩ := hrel
    clear HC
    have hd0 := HD0.out
    go_wp2_with fail
    refine (below_any B g 10 _ (by omega) (by omega) hd0.cur).mono ?_
    rintro e wb ⟨x, rfl, hx, hcb, hgb⟩
    have hd1 := hd0.draw hcb hgb
    clear hcb hgb hd0 HD0
    by_cases hlt : i < 3 + x
    · have hlt' : (i : Int) < 3 + (x : Int) := by omega
      obtain ⟨al, cl, hal⟩ := hd1.at_.len
      have hll := hd1.len
      by_cases h2 : ns.length < 2
      · have h2' : (ns.length : Int) < 2 := by omega
        obtain ⟨wd, hwd⟩ : ∃ wd, wd = wb := ⟨_, rfl⟩
        rw [← hwd] at hal hd1 ⊢
        have hd := hd1
        clear hwd hd1
        have hcl : ∀ j, j < 7 → (wd.alloc (.cells #[.int .i64 0, .int .i64 1, .int .i64 5, .int .i64 1000, .int .i64 5000, .int .i64 10000, .int .i64 10001] 3)).cell? ⟨wd.heap.size, j, none⟩ = some (.int .i64 (([0, 1, 5, 1000, 5000, 10000, 10001] : List Int).getD j 0)) := fun j hj => by
          rw [cell_of_row _ wd.heap.size j _ _ _ (heap_alloc_new wd _)]
          rcases (show j = 0 ∨ j = 1 ∨ j = 2 ∨ j = 3 ∨ j = 4 ∨ j = 5 ∨ j = 6 by omega) with rfl | rfl | rfl | rfl | rfl | rfl | rfl <;> rfl
        have hda := hd.made ((Below.refl _ _).alloc (Nat.le_refl _) (.cells #[.int .i64 0, .int .i64 1, .int .i64 5, .int .i64 1000, .int .i64 5000, .int .i64 10000, .int .i64 10001] 3))
        have HP : Hid _ := pickInt_any B g wd.heap.size 7 7 [0, 1, 5, 1000, 5000, 10000, 10001] _ (by omega) (by omega) rfl (by have := hd.lt; have := hd.gr.size; omega) hcl hda.cur
        clear hcl
        go_wp2_with fail
        refine Calls.mono HP.out ?_
        rintro e we ⟨z, hz, rfl, hc2, hg2⟩
        have hz' : 0 ≤ z ∧ z ≤ 10001 := by simp at hz; omega
        have hde := hda.draw hc2 hg2
        have HPP : Hid _ := specPutP_any (w.heap.size + 1) (w.heap.size + 1) ns ⟨1, z, 0, 0⟩ we (by have := hde.len; omega) hde.at_ (Nat.le_of_lt hde.at_.2.1)
        have hpos := put_pos (ns := ns) (x := ⟨1, z, 0, 0⟩) (atomB hz'.1 (by omega) _) (by have := hde.len; omega)
        clear hz hda HP hc2 hg2 hd
        go_wp2_with fail
        refine Calls.mono HPP.out ?_
        rintro e wf ⟨rfl, hat, hbf⟩
        have HD : Hid (Dr w B g (i + 1) (putA ns ⟨1, z, 0, 0⟩) wf) := hde.put hat hbf hpos
        clear hat hbf hpos hde HPP
        go_wp2
        go_roundw
        case rel => first | exact ⟨i + 1, _, by omega, by go_num, HD⟩ | ((repeat apply Exists.intro); exact ⟨⟨i + 1, _, by omega, by go_num, HD⟩, rfl⟩)
        case measure => simp [intOf] <;> omega
      · have h2' : ¬ (ns.length : Int) < 2 := by omega
        go_wp2_with fail
        refine (once_any B g 3 _ (by omega) (by omega) hd1.cur).mono ?_
        rintro e wd ⟨o, rfl, hcd, hgd⟩
        have hd := hd1.draw hcd hgd
        clear hcd hgd hd1 hal
        cases o with
        | true =>
          have hcl : ∀ j, j < 7 → (wd.alloc (.cells #[.int .i64 0, .int .i64 1, .int .i64 5, .int .i64 1000, .int .i64 5000, .int .i64 10000, .int .i64 10001] 3)).cell? ⟨wd.heap.size, j, none⟩ = some (.int .i64 (([0, 1, 5, 1000, 5000, 10000, 10001] : List Int).getD j 0)) := fun j hj => by
            rw [cell_of_row _ wd.heap.size j _ _ _ (heap_alloc_new wd _)]
            rcases (show j = 0 ∨ j = 1 ∨ j = 2 ∨ j = 3 ∨ j = 4 ∨ j = 5 ∨ j = 6 by omega) with rfl | rfl | rfl | rfl | rfl | rfl | rfl <;> rfl
          have hda := hd.made ((Below.refl _ _).alloc (Nat.le_refl _) (.cells #[.int .i64 0, .int .i64 1, .int .i64 5, .int .i64 1000, .int .i64 5000, .int .i64 10000, .int .i64 10001] 3))
          have HP : Hid _ := pickInt_any B g wd.heap.size 7 7 [0, 1, 5, 1000, 5000, 10000, 10001] _ (by omega) (by omega) rfl (by have := hd.lt; have := hd.gr.size; omega) hcl hda.cur
          clear hcl
          go_wp2_with fail
          refine Calls.mono HP.out ?_
          rintro e we ⟨z, hz, rfl, hc2, hg2⟩
          have hz' : 0 ≤ z ∧ z ≤ 10001 := by simp at hz; omega
          have hde := hda.draw hc2 hg2
          have HPP : Hid _ := specPutP_any (w.heap.size + 1) (w.heap.size + 1) ns ⟨1, z, 0, 0⟩ we (by have := hde.len; omega) hde.at_ (Nat.le_of_lt hde.at_.2.1)
          have hpos := put_pos (ns := ns) (x := ⟨1, z, 0, 0⟩) (atomB hz'.1 (by omega) _) (by have := hde.len; omega)
          clear hz hda HP hc2 hg2 hd
          go_wp2_with fail
          refine Calls.mono HPP.out ?_
          rintro e wf ⟨rfl, hat, hbf⟩
          have HD : Hid (Dr w B g (i + 1) (putA ns ⟨1, z, 0, 0⟩) wf) := hde.put hat hbf hpos
          clear hat hbf hpos hde HPP
          go_wp2
          go_roundw
          case rel => first | exact ⟨i + 1, _, by omega, by go_num, HD⟩ | ((repeat apply Exists.intro); exact ⟨⟨i + 1, _, by omega, by go_num, HD⟩, rfl⟩)
          case measure => simp [intOf] <;> omega
        | false =>
          go_wp2_with fail
          refine (below_any B g 8 _ (by omega) (by omega) hd.cur).mono ?_
          rintro e w3 ⟨x3, rfl, hx3, hc3, hg3⟩
          have hd3 := hd.draw hc3 hg3
          clear hc3 hg3 hd
          go_wp2_with fail
          refine (below_any B g ns.length _ (by omega) (by omega) hd3.cur).mono ?_
          rintro e w4 ⟨x4, rfl, hx4, hc4, hg4⟩
          have hd4 := hd3.draw hc4 hg4
          clear hc4 hg4 hd3
          go_wp2_with fail
          refine (below_any B g ns.length _ (by omega) (by omega) hd4.cur).mono ?_
          rintro e w5 ⟨x5, rfl, hx5, hc5, hg5⟩
          have hd5 := hd4.draw hc5 hg5
          clear hc5 hg5 hd4
          obtain ⟨ob, HO⟩ : ∃ ob, Hid (oneK (2 + (x3 : Int)) = ob) := ⟨_, rfl⟩
          cases ob
          all_goals
            go_wp2_with (go_at_call 102; refine (specOne_any _ _).mono ?_; rintro e w' ⟨rfl, rfl⟩; rw [HO.out])
            refine (specPutP_any (w.heap.size + 1) (w.heap.size + 1) ns ⟨2 + (x3 : Int), 0, (x4 : Int), _⟩ w5 (by omega) hd5.at_ (Nat.le_of_lt hd5.at_.2.1)).mono ?_
            rintro e wf ⟨rfl, hat, hbf⟩
            have HD := hd5.put hat hbf (Nat.le_trans (show 1 ≤ ns.length by omega) put_len.2)
            clear hat hbf hd5
            go_wp2
            go_roundw
            case rel => first | exact ⟨i + 1, _, by omega, by go_num, HD⟩ | ((repeat apply Exists.intro); exact ⟨⟨i + 1, _, by omega, by go_num, HD⟩, rfl⟩)
            case measure => simp [intOf] <;> omega
    · have hlt' : ¬ (i : Int) < 3 + (x : Int) := by omega
      obtain ⟨h1, h2, v, h3, h4, h5⟩ := hd1.at_
      obtain ⟨av, cv, rfl, _, _⟩ := h4.row
      have ca : wb.cell? ⟨w.heap.size + 1, 0, none⟩ = some (.slice av ns.length cv) := by rw [cell_of_row wb _ 0 _ _ _ h3]; rfl
      have r0 : wb.cell? ⟨w.heap.size, 0, none⟩ = some (.slice none 0 0) := by rw [cell_of_row wb _ 0 _ _ _ hd1.box]; rfl
      have f0 : wb.frozen? ⟨w.heap.size, 0, none⟩ = false := frozen_of_row wb _ 0 _ _ hd1.box
      have HBL : Hid ((wb.setCell ⟨w.heap.size, 0, none⟩ (.slice av ns.length cv)).heap[w.heap.size]? = some (.cells #[.slice av ns.length cv] 28 (0, 0))) := by
        show _ = _
        rw [heap_setCell_same wb _ 0 _ _ _ hd1.box]; rfl
      have hB : Below w.heap.size wb (wb.setCell ⟨w.heap.size, 0, none⟩ (.slice av ns.length cv)) := (Below.refl w.heap.size wb).setCell (show w.heap.size ≤ w.heap.size by omega) _
      have HO : Hid (OwnN w.heap.size (wb.setCell ⟨w.heap.size, 0, none⟩ (.slice av ns.length cv)) (.slice av ns.length cv) ns) := OwnN.base (ownsRow_setCell_below h4 (show w.heap.size < w.heap.size + 1 by omega) _) (Nat.le_succ _)
      have HF : Hid (1 ≤ ns.length ∧ ns.length ≤ 13 ∧ allFrom ns ns 0 = true ∧ Cur B (wb.setCell ⟨w.heap.size, 0, none⟩ (.slice av ns.length cv)) g ∧ w.grownBy (wb.setCell ⟨w.heap.size, 0, none⟩ (.slice av ns.length cv)) (some g)) := ⟨hd1.pos (by omega), Nat.le_trans hd1.len hi, hd1.all, hd1.cur.beyond hgl hB, grown_then hd1.gr hB⟩
      clear h1 h2 h3 h4 h5 hd1 hB
      go_wp2
      refine bodyPost_ret (results_cell_row rfl _ _ w.heap.size 28 #[.slice av ns.length cv] (0, 0) _ rfl ?_ Try.underlying28 rfl arenaSize) rfl ?_
      · exact HBL.out
      · exact ⟨_, ns, rfl, HF.out.1, HF.out.2.1, HF.out.2.2.1, HO.out, HF.out.2.2.2.1, HF.out.2.2.2.2⟩
end Go.Proofs.Ytffnadnndmmliaa
