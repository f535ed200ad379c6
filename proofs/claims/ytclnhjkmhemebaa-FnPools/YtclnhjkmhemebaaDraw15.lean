/- The drawing functions of chapter 15's laws, the specification's: l15Pool, DrawPool, l15Pair, DrawLeased, DrawCidOf. -/
import Derived.Test.YtclnhjkmhemebaaPoolP15
import Derived.Test.YtclnhjkmhemebaaCurW
namespace Go.Proofs.Ytclnhjkmhemebaa
open Go.RowKit
set_option linter.unusedVariables false
theorem mem_step {ls : List Ls} {c : Int} {st : List Ls × Int} {p : Int} {y : Ls} (h : y ∈ (lsStep ls c st p).1) : y ∈ st.1 ∨ y ∈ ls ∨ y = ⟨p, c⟩ := by
  unfold lsStep at h
  split at h
  · simp at h
    rcases h with h | h
    · exact .inl h
    · exact .inr (.inr h)
  · simp [lsAt] at h
    rcases h with h | h
    · exact .inl h
    · exact .inr (.inl h.1)
theorem lease_fits {ls : List Ls} {c : Int} (h : ∀ y ∈ ls, y.Fits) (hc : -9223372036854775808 ≤ c ∧ c ≤ 9223372036854775807) : ∀ y ∈ leaseL ls c, y.Fits := fun y hy => by
  unfold leaseL at hy
  split at hy
  · unfold lsMade at hy
    have hf : ∀ p : Int, 10 ≤ p → p ≤ 12 → (⟨p, c⟩ : Ls).Fits := fun p h1 h2 => ⟨⟨by simp only; omega, by simp only; omega⟩, hc⟩
    rcases mem_step hy with h1 | h1 | rfl
    · rcases mem_step h1 with h2 | h2 | rfl
      · rcases mem_step h2 with h3 | h3 | rfl
        · cases h3
        · exact h y h3
        · exact hf _ (by omega) (by omega)
      · exact h y h2
      · exact hf _ (by omega) (by omega)
    · exact h y h1
    · exact hf _ (by omega) (by omega)
  · exact h y hy
theorem given_fits {ls : List Ls} {c : Int} (h : ∀ y ∈ ls, y.Fits) : ∀ y ∈ givenL ls c, y.Fits := fun y hy => h y (List.mem_filter.1 hy).1
theorem OwnLs.draw {B g : Nat} {w w' : World} {v : Value} {ls : List Ls} (h : OwnLs B w v ls) (hg : w.grownBy w' (some g)) (hB : g < B) : OwnLs B w' v ls := by
  refine World.ownsRow.kept h hg ?_
  cases hv : v.ownBlock with
  | none => exact .inl rfl
  | some k =>
    right
    intro e
    have := World.ownsRow.lt h k hv
    simp at e
    omega
/-- A pool that is drawn. -/
structure Pd (w : World) (B g : Nat) (v : Value) (ls : List Ls) (wr : World) : Prop where
  own : OwnLs w.heap.size wr v ls
  adr : ∃ gg cap, v = .slice (some ⟨gg, 0, none⟩) ls.length cap
  ok : poolB ls = true
  fits : ∀ y ∈ ls, y.Fits
  cur : Cur B wr g
  gr : w.grownBy wr (some g)
  lt : g < w.heap.size
theorem Pd.draw {w : World} {B g : Nat} {v : Value} {ls : List Ls} {wr w1 : World} (h : Pd w B g v ls wr) (hc : Cur B w1 g) (hg : wr.grownBy w1 (some g)) : Pd w B g v ls w1 :=
  ⟨h.own.draw hg h.lt, h.adr, h.ok, h.fits, hc, grown_trans h.gr hg, h.lt⟩
theorem Pd.next {w : World} {B g : Nat} {v v' : Value} {ls ls' : List Ls} {wr w1 : World} (h : Pd w B g v ls wr) (ho : OwnLs wr.heap.size w1 v' ls') (hs : ∃ gg cap, v' = .slice (some ⟨gg, 0, none⟩) ls'.length cap) (hp : poolB ls' = true) (hf : ∀ y ∈ ls', y.Fits) (hb : Below wr.heap.size wr w1) : Pd w B g v' ls' w1 :=
  ⟨ho.base h.gr.size, hs, hp, hf, h.cur.grown hb, grown_then h.gr (hb.mono h.gr.size), h.lt⟩
set_option maxHeartbeats 1600000 in
set_option maxRecDepth 20000 in
theorem pool15_any (B g : Nat) (w : World) (hc : Cur B w g) :
    Calls Try.prog 68 #[.pointer (some ⟨g, 0, none⟩)] w fun e w' => ∃ v ls, e = .returned v ∧ Pd w B g v ls w' := by
  have hgl := hc.2.1
  have HP0 : Hid (Pd w B g (.slice (some ⟨w.heap.size, 0, none⟩) 0 0) [] (w.alloc (.cells #[] 103))) := ⟨own_newLs w (Nat.le_refl _), ⟨_, _, rfl⟩, rfl, by simp, hc.grown ((Below.refl _ _).alloc (Nat.le_refl _) _), grown_below ((Below.refl _ _).alloc (Nat.le_refl _) _) _, hgl⟩
  clear hc
  go_enter Try.func68, Try.ntmps68
  go_wp2
  go_loopw [3, 4] (fun v i wr => ∃ (k : Nat) (ls : List Ls), k ≤ 6 ∧ i = .int .i64 (k : Int) ∧ Hid (Pd w B g v ls wr)) (fun _ i _ => 7 - (intOf i).toNat)
  case atStart => exact ⟨0, [], by omega, rfl, HP0⟩
  case round =>
    obtain ⟨k, ls, hk, rfl, HP⟩ := hrel
    clear HP0
    go_wp2_with fail
    refine (below_any B g 6 _ (by omega) (by omega) HP.out.cur).mono ?_
    rintro e w1 ⟨n, rfl, hn, hc1, hg1⟩
    replace HP : Hid (Pd w B g _ ls w1) := HP.out.draw hc1 hg1
    clear hc1 hg1
    by_cases hlt : k < n
    · have hlt' : (k : Int) < (n : Int) := by omega
      go_wp2_with fail
      refine (once_any B g 3 _ (by omega) (by omega) HP.out.cur).mono ?_
      rintro e w2 ⟨t, rfl, hc2, hg2⟩
      replace HP : Hid (Pd w B g _ ls w2) := HP.out.draw hc2 hg2
      clear hc2 hg2
      cases t with
      | true =>
        go_wp2_with fail
        refine (below_any B g 5 _ (by omega) (by omega) HP.out.cur).mono ?_
        rintro e w3 ⟨c, rfl, hc', hc3, hg3⟩
        replace HP : Hid (Pd w B g _ ls w3) := HP.out.draw hc3 hg3
        clear hc3 hg3
        obtain ⟨gg, cap, hv⟩ := HP.out.adr
        subst hv
        obtain ⟨_, _, e1, _, hrow⟩ := HP.out.own.row
        cases e1
        have hl3 := (pq_of (pf_of HP.out.ok) (c : Int)).len
        go_wp2_with fail
        refine (specGivenN_any _ _ ls c w3 (by omega) hrow).mono ?_
        rintro e w4 ⟨v4, rfl, hs4, ho4, hb4⟩
        have HP4 : Hid (Pd w B g v4 (givenL ls c) w4) := HP.out.next ho4 hs4 (pq_of (pf_of HP.out.ok) (c : Int)).given (given_fits HP.out.fits) hb4
        clear ho4 hs4 hb4 HP hrow
        go_wp2
        go_roundw
        case rel => exact ⟨k + 1, _, by omega, by go_num, HP4⟩
        case measure => simp [intOf]; omega
      | false =>
        go_wp2_with fail
        refine (below_any B g 5 _ (by omega) (by omega) HP.out.cur).mono ?_
        rintro e w3 ⟨c, rfl, hc', hc3, hg3⟩
        replace HP : Hid (Pd w B g _ ls w3) := HP.out.draw hc3 hg3
        clear hc3 hg3
        obtain ⟨gg, cap, hv⟩ := HP.out.adr
        subst hv
        obtain ⟨_, _, e1, _, hrow⟩ := HP.out.own.row
        cases e1
        have hl3 := (pq_of (pf_of HP.out.ok) (c : Int)).len
        go_wp2_with fail
        refine (specLeasedN_any gg 0 cap ls c w3 (by omega) hrow).mono ?_
        rintro e w4 ⟨v4, rfl, hs4, ho4, hb4⟩
        have HP4 : Hid (Pd w B g v4 (leaseL ls c) w4) := HP.out.next ho4 hs4 (pq_of (pf_of HP.out.ok) (c : Int)).lease (lease_fits HP.out.fits (by omega)) hb4
        clear ho4 hs4 hb4 HP hrow
        go_wp2
        go_roundw
        case rel => exact ⟨k + 1, _, by omega, by go_num, HP4⟩
        case measure => simp [intOf]; omega
    · have hlt' : ¬ (k : Int) < (n : Int) := by omega
      go_wp2
      go_ret
      exact ⟨_, ls, rfl, HP.out⟩
theorem drawPool_any (a : Option Addr) (len cap : Nat) (w : World) (hc : CodeIn w.heap.size w a len) :
    Calls Try.prog 17 #[.slice a len cap] w fun e w' => ∃ v ls, e = .returned v ∧ (∃ gg cap, v = .slice (some ⟨gg, 0, none⟩) ls.length cap) ∧ poolB ls = true ∧ (∀ y ∈ ls, y.Fits) ∧ OwnLs w.heap.size w' v ls ∧ Below w.heap.size w w' := by
  have HC : Hid (CodeIn w.heap.size w a len) := hc
  clear hc
  go_enter Try.func17, Try.ntmps17
  go_wp2_with fail
  refine (new_any _ _ _ _ HC.out).mono ?_
  rintro e w1 ⟨g, rfl, hc1, hb1⟩
  have HB1 : Hid (Below w.heap.size w w1) := hb1
  have hge := hc1.1
  go_wp2_with fail
  refine (pool15_any w.heap.size g w1 hc1).mono ?_
  rintro e w2 ⟨v, ls, rfl, hp⟩
  have HP : Hid (Pd w1 w.heap.size g v ls w2) := hp
  have HB2 : Hid (Below w.heap.size w w2) := HB1.out.grown hp.gr HB1.out.size (fun k hk => by cases hk; exact hge)
  clear hp hc1 hb1
  go_wp2
  go_ret
  exact ⟨v, ls, rfl, HP.out.adr, HP.out.ok, HP.out.fits, HP.out.own.base HB1.out.size, HB2.out⟩
/-- A list that is drawn, right or not. -/
structure Qd (w : World) (g : Nat) (v : Value) (ls : List Ls) (wr : World) : Prop where
  own : OwnLs w.heap.size wr v ls
  adr : ∃ gg cap, v = .slice (some ⟨gg, 0, none⟩) ls.length cap
  fits : ∀ y ∈ ls, y.Fits
  cur : Cur w.heap.size wr g
  bel : Below w.heap.size w wr
theorem Qd.draw {w : World} {g : Nat} {v : Value} {ls : List Ls} {wr w1 : World} (h : Qd w g v ls wr) (hne : v.ownBlock ≠ some g) (hc : Cur w.heap.size w1 g) (hg : wr.grownBy w1 (some g)) : Qd w g v ls w1 :=
  ⟨World.ownsRow.kept h.own hg (.inr hne), h.adr, h.fits, hc, h.bel.grown hg h.bel.size (fun k hk => by cases hk; exact hc.1)⟩
set_option maxHeartbeats 1600000 in
set_option maxRecDepth 20000 in
theorem pair15_any (a : Option Addr) (len cap : Nat) (w : World) (hc : CodeIn w.heap.size w a len) :
    Calls Try.prog 79 #[.slice a len cap] w fun e w' => ∃ v ls, ∃ n : Nat, e = .returned (.tuple #[v, .int .i64 (n : Int)]) ∧ n ≤ 5 ∧ (∃ gg cap, v = .slice (some ⟨gg, 0, none⟩) ls.length cap) ∧ ls.length ≤ 4 ∧ (∀ y ∈ ls, y.Fits) ∧ OwnLs w.heap.size w' v ls ∧ Below w.heap.size w w' := by
  obtain ⟨i0, hi, hz0, hz1, hz2⟩ := info_parts infoLs
  have HC : Hid (CodeIn w.heap.size w a len) := hc
  clear hc
  go_enter Try.func79, Try.ntmps79
  go_wp2_with fail
  refine (new_any _ _ _ _ HC.out).mono ?_
  rintro e w1 ⟨g, rfl, hc1, hb1⟩
  have hge := hc1.1
  have HB1 : Hid (Below w.heap.size w w1) := hb1
  clear hb1 HC
  go_wp2_with fail
  refine (below_any w.heap.size g 6 _ (by omega) (by omega) hc1).mono ?_
  rintro e w2 ⟨n, rfl, hn, hc2, hg2⟩
  have HB2 : Hid (Below w.heap.size w w2) := HB1.out.grown hg2 HB1.out.size (fun k hk => by cases hk; exact hge)
  clear hc1 hg2 HB1
  have hs2 : w.heap.size ≤ w2.heap.size := HB2.out.size
  have hgl := hc2.2.1
  have hc3 := hc2.grown ((Below.refl _ _).alloc (Nat.le_refl _) (.cells #[] 103))
  have HO3 : Hid (OwnLs w2.heap.size (w2.alloc (.cells #[] 103)) (.slice (some ⟨w2.heap.size, 0, none⟩) 0 0) []) := own_newLs w2 (Nat.le_refl _)
  have HB3 : Hid (Below w.heap.size w (w2.alloc (.cells #[] 103))) := HB2.out.alloc hs2 _
  have hs3 : (w2.alloc (.cells #[] 103)).heap.size = w2.heap.size + 1 := by simp
  clear hc2 HB2
  go_wp2_with fail
  generalize w2.alloc (.cells #[] 103) = w3 at hc3 HO3 HB3 hs3 ⊢
  refine (pool15_any w.heap.size g w3 hc3).mono ?_
  rintro e w4 ⟨v4, ls, rfl, hp⟩
  obtain ⟨gg, cap4, rfl⟩ := hp.adr
  obtain ⟨_, _, e1, _, hrow⟩ := hp.own.row
  cases e1
  have HO4 : Hid (OwnLs w2.heap.size w4 (.slice (some ⟨w2.heap.size, 0, none⟩) 0 0) []) := HO3.out.draw hp.gr hgl
  have HC4 : Hid (Cur w.heap.size w4 g) := hp.cur
  have HB4 : Hid (Below w.heap.size w w4) := HB3.out.grown hp.gr HB3.out.size (fun k hk => by cases hk; exact hge)
  have HF4 : Hid (∀ y ∈ ls, y.Fits) := hp.fits
  have hl3 := pool_len hp.ok
  have HRW : Hid (RowLs w4.heap.size w4 (some ⟨gg, 0, none⟩) ls) := hrow
  have hs4 := hp.gr.size
  clear hp hrow hc3 HO3 HB3
  go_wp2_with (at_builtin; refine wpList_append_own _ rfl _ _ 24 rfl w2.heap.size 103 i0 _ 2 16 Try.underlying24 hi hz0 hz1 hz2 rfl (by decide) _ 0 _ rfl HO4.out ⟨gg, 0, none⟩ ls.length cap4 (cellsLs ls) rfl (cellsLs_len ls) ?c1 (cellsLs_one ls) ?c3 ?c4 ?c5 ?_)
  case c1 => exact HRW.out.cells
  case c3 => unfold maxLen; omega
  case c4 => omega
  case c5 => omega
  intro v5 w5 hown5 hgrow5 hnn5
  have hown5' : OwnLs w2.heap.size w5 v5 ls := by
    have e : cellsLs [] ++ cellsLs ls = cellsLs ls := rfl
    rw [e] at hown5; unfold OwnLs; simpa using hown5
  have hB5 : Below w2.heap.size w4 w5 := (Below.refl _ _).grown hgrow5 (by omega) (fun k hk => by simp [Value.ownBlock] at hk; omega)
  have hne5 : v5.ownBlock ≠ some g := fun e => by have := (World.ownsRow.lt hown5' g e).1; omega
  have HQ5 : Hid (Qd w g v5 ls w5) := ⟨hown5'.base hs2, own_someLs hown5' hnn5, HF4.out, HC4.out.beyond hgl hB5, HB4.out.trans (hB5.mono hs2)⟩
  clear hown5 hgrow5 hnn5 hown5' hB5 HO4 HC4 HB4 HF4 HRW
  go_wp2_with fail
  refine (below_any w.heap.size g 8 _ (by omega) (by omega) HQ5.out.cur).mono ?_
  rintro e w6 ⟨x, rfl, hx, hc6, hg6⟩
  have HQ6 : Hid (Qd w g v5 ls w6) := HQ5.out.draw hne5 hc6 hg6
  clear hc6 hg6 HQ5
  rcases (show x = 0 ∨ x = 1 ∨ 1 < x by omega) with rfl | rfl | hx2
  · go_wp2_with fail
    refine (below_any w.heap.size g 5 _ (by omega) (by omega) HQ6.out.cur).mono ?_
    rintro e w7 ⟨p, rfl, hp, hc7, hg7⟩
    have HQ7 : Hid (Qd w g v5 ls w7) := HQ6.out.draw hne5 hc7 hg7
    clear hc7 hg7 HQ6
    go_wp2_with fail
    refine (below_any w.heap.size g 5 _ (by omega) (by omega) HQ7.out.cur).mono ?_
    rintro e w8 ⟨c, rfl, hc, hc8, hg8⟩
    have HQ8 : Hid (Qd w g v5 ls w8) := HQ7.out.draw hne5 hc8 hg8
    clear hc8 hg8 HQ7
    obtain ⟨y, HY⟩ : ∃ y : Ls, Hid (y = ⟨9 + (p : Int), (c : Int)⟩) := ⟨_, rfl⟩
    have hyp : (9 : Int) + (p : Int) = y.p := by rw [HY.out]
    have hyc : (c : Int) = y.c := by rw [HY.out]
    have HYF : Hid (y.Fits) := by show y.Fits; rw [HY.out]; unfold Ls.Fits; simp only; omega
    rw [hyc]
    go_wp2_with (at_builtin; refine wpList_append_own _ rfl _ _ 24 rfl w.heap.size 103 i0 _ 2 16 Try.underlying24 hi hz0 hz1 hz2 rfl (by decide) _ _ _ rfl (World.ownsRow.alloc HQ8.out.own _) ⟨w8.heap.size, 0, none⟩ 1 1 y.cells rfl rfl ?c1 ?c2 ?c3 ?c4 ?c5 ?_)
    case c1 => exact World.news_of_block (cs := #[.int .i64 y.p, .int .i64 y.c]) (t := 103) (fr := (0, 0)) (heap_alloc_new w8 _)
    case c2 => exact cellsLs_one [y]
    case c3 => unfold maxLen; omega
    case c4 => omega
    case c5 => have := HQ8.out.bel.size; simp; omega
    intro v9 w9 hown9 hgrow9 hnn9
    have HB9 : Hid (Below w.heap.size w w9) := below_appLs HQ8.out.bel (Nat.le_refl _) HQ8.out.own hgrow9
    have hown9' : OwnLs w.heap.size w9 v9 (ls ++ [y]) := by unfold OwnLs; rw [cellsLs_append, show cellsLs [y] = y.cells by simp [cellsLs]]; simpa using hown9
    have HA9 : Hid (∃ gg cap, v9 = .slice (some ⟨gg, 0, none⟩) (ls ++ [y]).length cap) := own_someLs hown9' hnn9
    have HF9 : Hid (∀ z ∈ ls ++ [y], z.Fits) := fun z hz => by
      rcases List.mem_append.1 hz with h | h
      · exact HQ8.out.fits z h
      · simp at h; rw [h]; exact HYF.out
    have HO9 : Hid (OwnLs w.heap.size w9 v9 (ls ++ [y])) := hown9'
    clear hown9 hgrow9 hnn9 hown9' HQ8
    go_wp2
    go_ret2
    exact ⟨v9, ls ++ [y], n, rfl, by omega, HA9.out, by simp; omega, HF9.out, HO9.out, HB9.out⟩
  · obtain ⟨g5, cap5, hv5⟩ := HQ6.out.adr
    subst hv5
    obtain ⟨_, _, e5, _, hrow5⟩ := HQ6.out.own.row
    cases e5
    have HRW : Hid (RowLs w6.heap.size w6 (some ⟨g5, 0, none⟩) ls) := hrow5
    have HO7 : Hid (OwnLs w6.heap.size (w6.alloc (.cells #[.int .i64 12, .int .i64 9] 103)) (.slice (some ⟨w6.heap.size, 0, none⟩) 1 1) [⟨12, 9⟩]) := ⟨rfl, .inr ⟨w6.heap.size, 1, _, rfl, Nat.le_refl _, heap_alloc_new w6 _, Nat.le_refl _, by decide, rfl, rfl⟩⟩
    have hb7 : Below w6.heap.size w6 (w6.alloc (.cells #[.int .i64 12, .int .i64 9] 103)) := (Below.refl _ _).alloc (Nat.le_refl _) _
    have HR7 : Hid _ := HRW.out.grown hb7
    have HB7 : Hid _ := hb7
    clear hrow5 hb7 HRW
    go_wp2_with (at_builtin; refine wpList_append_own _ rfl _ _ 24 rfl w6.heap.size 103 i0 _ 2 16 Try.underlying24 hi hz0 hz1 hz2 rfl (by decide) _ 1 _ rfl HO7.out ⟨g5, 0, none⟩ ls.length cap5 (cellsLs ls) rfl (cellsLs_len ls) ?c1 (cellsLs_one ls) ?c3 ?c4 ?c5 ?_)
    case c1 => exact RowLs.cells HR7.out
    case c3 => unfold maxLen; omega
    case c4 => omega
    case c5 => simp
    intro v9 w9 hown9 hgrow9 hnn9
    have hown9' : OwnLs w6.heap.size w9 v9 (⟨12, 9⟩ :: ls) := by
      have e : cellsLs [⟨12, 9⟩] ++ cellsLs ls = cellsLs (⟨12, 9⟩ :: ls) := by simp [cellsLs]
      rw [e] at hown9; unfold OwnLs; rw [List.length_cons, Nat.add_comm]; exact hown9
    have HB9 : Hid (Below w.heap.size w w9) := HQ6.out.bel.trans ((below_newLs HB7.out (Nat.le_refl _) HO7.out hgrow9).mono HQ6.out.bel.size)
    have HA9 : Hid (∃ gg cap, v9 = .slice (some ⟨gg, 0, none⟩) (⟨12, 9⟩ :: ls : List Ls).length cap) := own_someLs hown9' hnn9
    have HF9 : Hid (∀ z ∈ (⟨12, 9⟩ :: ls : List Ls), z.Fits) := fun z hz => by
      rcases List.mem_cons.1 hz with h | h
      · rw [h]; unfold Ls.Fits; simp only; omega
      · exact HQ6.out.fits z h
    have HO9 : Hid (OwnLs w.heap.size w9 v9 (⟨12, 9⟩ :: ls)) := hown9'.base HQ6.out.bel.size
    clear hown9 hgrow9 hnn9 hown9' HQ6 HO7 HR7 HB7
    go_wp2
    go_ret2
    exact ⟨v9, ⟨12, 9⟩ :: ls, n, rfl, by omega, HA9.out, by simp; omega, HF9.out, HO9.out, HB9.out⟩
  · have hx0 : ((x : Int) == 0) = false := by simp; omega
    have hx1 : ((x : Int) == 1) = false := by simp; omega
    clear hx2 hx
    go_wp2
    go_ret2
    exact ⟨v5, ls, n, rfl, by omega, HQ6.out.adr, by omega, HQ6.out.fits, HQ6.out.own, HQ6.out.bel⟩
theorem drawLeased_any (a : Option Addr) (len cap : Nat) (w : World) (hc : CodeIn w.heap.size w a len) :
    Calls Try.prog 21 #[.slice a len cap] w fun e w' => ∃ v ls, ∃ n : Nat, e = .returned (.tuple #[v, .int .i64 (n : Int)]) ∧ n ≤ 5 ∧ (∃ gg cap, v = .slice (some ⟨gg, 0, none⟩) ls.length cap) ∧ ls.length ≤ 4 ∧ (∀ y ∈ ls, y.Fits) ∧ OwnLs w.heap.size w' v ls ∧ Below w.heap.size w w' := by
  have HC : Hid (CodeIn w.heap.size w a len) := hc
  clear hc
  go_enter Try.func21, Try.ntmps21
  go_wp2_with fail
  refine (pair15_any _ _ _ _ HC.out).mono ?_
  rintro e w1 ⟨v, ls, n, rfl, hn, ha, hl, hf, ho, hb⟩
  have HR : Hid _ := And.intro ha (And.intro hf (And.intro ho hb))
  clear ha hf ho hb HC
  go_wp2
  go_ret2
  exact ⟨v, ls, n, rfl, hn, HR.out.1, hl, HR.out.2.1, HR.out.2.2.1, HR.out.2.2.2⟩
theorem drawCidOf_any (a : Option Addr) (len cap : Nat) (w : World) (hc : CodeIn w.heap.size w a len) :
    Calls Try.prog 23 #[.slice a len cap] w fun e w' => ∃ v ls, ∃ n : Nat, e = .returned (.tuple #[v, .int .i64 (8 + (n : Int))]) ∧ n ≤ 5 ∧ (∃ gg cap, v = .slice (some ⟨gg, 0, none⟩) ls.length cap) ∧ ls.length ≤ 4 ∧ (∀ y ∈ ls, y.Fits) ∧ OwnLs w.heap.size w' v ls ∧ Below w.heap.size w w' := by
  have HC : Hid (CodeIn w.heap.size w a len) := hc
  clear hc
  go_enter Try.func23, Try.ntmps23
  go_wp2_with fail
  refine (pair15_any _ _ _ _ HC.out).mono ?_
  rintro e w1 ⟨v, ls, n, rfl, hn, ha, hl, hf, ho, hb⟩
  have HR : Hid _ := And.intro ha (And.intro hf (And.intro ho hb))
  clear ha hf ho hb HC
  go_wp2
  go_ret2
  exact ⟨v, ls, n, rfl, hn, HR.out.1, hl, HR.out.2.1, HR.out.2.2.1, HR.out.2.2.2⟩
end Go.Proofs.Ytclnhjkmhemebaa
