/- The program's chapter 15: slices.Clone and slices.DeleteFunc over leases, Given. -/
import Derived.Test.YtclnhjkmhemebaaIdx15
import Derived.Lib.SliceRun
import Derived.Laws.IdiomCopy
import Derived.Laws.AppendOwnNone
namespace Go.Proofs.Ytclnhjkmhemebaa
open Go.RowKit
set_option linter.unusedVariables false
set_option maxHeartbeats 400000 in
set_option maxRecDepth 20000 in
/-- slices.Clone over leases. -/
theorem cloneLs_any (a : Option Addr) (cap : Nat) (ls : List Ls) (w : World) (hl : ls.length ≤ 1048576) (hr : RowLs w.heap.size w a ls) :
    Calls Try.prog 74 #[.slice a ls.length cap] w fun e w' => ∃ v, e = .returned v ∧ OwnLs w.heap.size w' v ls ∧ Below w.heap.size w w' := by
  obtain ⟨i0, hi, hz0, hz1, hz2⟩ := info_parts infoLs
  have HR : Hid (RowLs w.heap.size w a ls) := hr
  clear hr
  have HB0 : Hid (Below w.heap.size w (w.alloc (.cells #[] 103))) := (Below.refl _ _).alloc (Nat.le_refl _) _
  have HO : Hid (OwnLs w.heap.size (w.alloc (.cells #[] 103)) (.slice (some ⟨w.heap.size, 0, none⟩) 0 0) []) := own_newLs w (Nat.le_refl _)
  have HNW : Hid (∀ ad, a = some ad → ∀ j u, (cellsLs ls)[j]? = some u → (w.alloc (.cells #[] 103)).cell? (ad.add j) = some u) := fun ad e j u h => by
    subst e
    rcases HR.out with h0 | ⟨b, off, e, hlt, hc⟩
    · subst h0; simp [cellsLs] at h
    · cases e
      exact (HR.out.later HB0.out).cells j u h
  rcases a with _ | ad
  · rcases HR.out with h0 | ⟨_, _, e, _⟩
    · subst h0
      have hq := Lib.run_eql_slice_nil (P := Try.prog) w 24 _ none 0 cap 0 0 Try.underlying24
      go_enter Try.func74, Try.ntmps74
      go_wp2
      go_ret
      exact ⟨_, rfl, ⟨rfl, .inl ⟨rfl, rfl⟩⟩, Below.refl _ _⟩
    · cases e
  · have hq := Lib.run_eql_slice_nil (P := Try.prog) w 24 _ (some ad) ls.length cap 0 0 Try.underlying24
    go_enter Try.func74, Try.ntmps74
    go_wp2_with (at_builtin; refine wpList_append_own _ rfl _ _ 24 rfl w.heap.size 103 i0 _ 2 16 Try.underlying24 hi hz0 hz1 hz2 rfl (by decide) _ 0 _ rfl HO.out ad ls.length cap (cellsLs ls) rfl (cellsLs_len ls) ?c1 (cellsLs_one ls) ?c3 ?c4 ?c5 ?_)
    case c1 => exact HNW.out ad rfl
    case c3 => unfold maxLen; omega
    case c4 => omega
    case c5 => simp
    · intro v' w2 hown' hgrow _
      have HO2 : Hid (OwnLs w.heap.size w2 v' ls) := by
        show OwnLs w.heap.size w2 v' ls
        have e : cellsLs [] ++ cellsLs ls = cellsLs ls := rfl
        rw [e] at hown'; unfold OwnLs; simpa using hown'
      have HB2 : Hid (Below w.heap.size w w2) := HB0.out.grown hgrow (by simp) (fun k hk => by simp [Value.ownBlock] at hk; omega)
      clear hown' hgrow
      obtain ⟨a2, cap2, rfl, _, _⟩ := HO2.out.row
      go_wp2
      go_ret
      exact ⟨_, rfl, HO2.out, HB2.out⟩
theorem cellsLs_set : ∀ (xs : List Ls) (i : Nat) (y : Ls), ((cellsLs xs).set (i * 2) (.int .i64 y.p)).set (i * 2 + 1) (.int .i64 y.c) = cellsLs (xs.set i y)
  | [], i, y => by simp [cellsLs]
  | x :: xs, 0, y => by simp [cellsLs, Ls.cells]
  | x :: xs, i + 1, y => by
    have := cellsLs_set xs i y
    simp only [cellsLs, List.flatMap_cons, Ls.cells, List.set_cons_succ, List.cons_append, List.nil_append, show (i + 1) * 2 = i * 2 + 2 by omega] at this ⊢
    rw [this]
theorem OwnLs.set {B g n cap i : Nat} {w : World} {xs : List Ls} (h : OwnLs B w (.slice (some ⟨g, 0, none⟩) n cap) xs) (hn : xs.length = n) (y : Ls) :
    OwnLs B ((w.setCell ⟨g, i * 2, none⟩ (.int .i64 y.p)).setCell ⟨g, i * 2 + 1, none⟩ (.int .i64 y.c)) (.slice (some ⟨g, 0, none⟩) n cap) (xs.set i y) ∧ w.grownBy ((w.setCell ⟨g, i * 2, none⟩ (.int .i64 y.p)).setCell ⟨g, i * 2 + 1, none⟩ (.int .i64 y.c)) (some g) := by
  subst hn
  obtain ⟨h1, g1⟩ := World.ownsRow.stored h (i * 2) (.int .i64 y.p)
  obtain ⟨h2, g2⟩ := World.ownsRow.stored h1 (i * 2 + 1) (.int .i64 y.c)
  refine ⟨?_, ⟨g2.os.trans g1.os, g2.tape.trans g1.tape, g2.output.trans g1.output, Nat.le_trans g1.size g2.size, fun k hk hne => (g2.block k (Nat.lt_of_lt_of_le hk g1.size) hne).trans (g1.block k hk hne)⟩⟩
  unfold OwnLs
  rw [← cellsLs_set]
  simpa using h2
/-- What is written from a cell on leaves what stands ahead of it. -/
theorem own_cells {base e size g n cap : Nat} : ∀ (vs : List Value) (o : Nat) (w : World) (xs : List Value), w.ownsRow base e size (.slice (some ⟨g, 0, none⟩) n cap) n xs →
    ∃ ys, (w.setCells g o vs).ownsRow base e size (.slice (some ⟨g, 0, none⟩) n cap) n ys ∧ ys.take o = xs.take o ∧ w.grownBy (w.setCells g o vs) (some g)
  | [], o, w, xs, h => ⟨xs, h, rfl, ⟨rfl, rfl, rfl, Nat.le_refl _, fun _ _ _ => rfl⟩⟩
  | v :: r, o, w, xs, h => by
    obtain ⟨h1, g1⟩ := World.ownsRow.stored h o v
    obtain ⟨ys, h2, ht, g2⟩ := own_cells r (o + 1) _ _ h1
    refine ⟨ys, h2, ?_, ⟨g2.os.trans g1.os, g2.tape.trans g1.tape, g2.output.trans g1.output, Nat.le_trans g1.size g2.size, fun k hk hne => (g2.block k (Nat.lt_of_lt_of_le hk g1.size) hne).trans (g1.block k hk hne)⟩⟩
    have : (ys.take (o + 1)).take o = ((xs.set o v).take (o + 1)).take o := by rw [ht]
    simp only [List.take_take, Nat.min_eq_left (Nat.le_succ o)] at this
    rw [this, List.take_set, List.set_eq_of_length_le (by simp; omega)]
theorem OwnLs.cut {B g n cap i : Nat} {w : World} {xs : List Ls} {ys : List Value} (h : w.ownsRow B 103 2 (.slice (some ⟨g, 0, none⟩) n cap) n ys) (hn : xs.length = n) (hi : i ≤ n) (ht : ys.take (i * 2) = (cellsLs xs).take (i * 2)) :
    OwnLs B w (.slice (some ⟨g, 0, none⟩) i cap) (xs.take i) := by
  rcases h.2 with ⟨h', _⟩ | ⟨g', cap', cur, h', hb, hg, hnc, hcm, hcs, htake⟩
  · simp at h'
  · simp only [Value.slice.injEq, Option.some.injEq, Addr.mk.injEq, and_true, true_and] at h'
    obtain ⟨rfl, rfl⟩ := h'
    have hc : ∀ (m : Nat) (zs : List Ls), (cellsLs zs).take (m * 2) = cellsLs (zs.take m) := by
      intro m zs
      induction m generalizing zs with
      | zero => simp [cellsLs]
      | succ m ih =>
        cases zs with
        | nil => simp [cellsLs]
        | cons z zs =>
          have := ih zs
          simp only [cellsLs, List.flatMap_cons, Ls.cells, List.take_succ_cons, List.cons_append, List.nil_append, show (m + 1) * 2 = m * 2 + 1 + 1 by omega] at this ⊢
          rw [this]
    have hlen : (xs.take i).length = i := by simp; omega
    unfold OwnLs
    rw [hlen]
    refine ⟨by rw [cellsLs_len, hlen], .inr ⟨g, cap, cur, rfl, hb, hg, Nat.le_trans hi hnc, hcm, hcs, ?_⟩⟩
    rw [← hc, ← ht, ← htake, List.take_take, Nat.min_eq_left (by omega)]
theorem zeroLs_run (w : World) : (zeroValue 103).run Try.prog w = .ok (.agg #[.int .i64 0, .int .i64 0]) w := by kernel_rfl
theorem clear_two (w : World) (t e ty : TypeId) (ht : Try.prog.underlying t = some (.slice e)) (hv : ∀ w, (zeroValue e).run Try.prog w = .ok (.agg #[.int .i64 0, .int .i64 0]) w) (b o n c : Nat)
    (hc : ∀ j, j < n * 2 → (w.cell? ⟨b, o + j, none⟩).isSome = true) (hf : ∀ j, j < n * 2 → w.frozen? ⟨b, o + j, none⟩ = false) :
    ∃ vs : List Value, (Builtin.clear_ #[t] ty #[.slice (some ⟨b, o, none⟩) n c]).run Try.prog w = .ok (.tuple #[]) (w.setCells b o vs) := by
  rcases Nat.eq_zero_or_pos n with rfl | hn
  · refine ⟨[], ?_⟩
    simp [Builtin.clear_, run_underlying ht, World.setCells]
  · refine ⟨List.replicate (n * 2) (.int .i64 0), ?_⟩
    have hzc : (Builtin.zeroCells (Value.cells (.agg #[.int .i64 0, .int .i64 0])) n).toList = List.replicate (n * 2) (.int .i64 0) := by
      have hcl : Value.cells (.agg #[.int .i64 0, .int .i64 0]) = #[.int .i64 0, .int .i64 0] := by rfl
      rw [hcl]
      unfold Builtin.zeroCells
      apply List.ext_getElem
      · simp
      · intro i h1 h2
        simp
        rcases Nat.mod_two_eq_zero_or_one i with h | h <;> rw [h] <;> rfl
    have hst := run_storeCells_cells (P := Try.prog) b o (List.replicate (n * 2) (.int .i64 0)) 0 w (by simpa using hc) (by simpa using hf) (by intro v hv'; rw [List.eq_of_mem_replicate hv']; rfl)
    simp only [Nat.add_zero] at hst
    obtain ⟨m, rfl⟩ : ∃ m, n = m + 1 := ⟨n - 1, by omega⟩
    simp [Builtin.clear_, run_underlying ht, hv, hzc, hst]
theorem own_sliceLs {B : Nat} {w : World} {v : Value} {ls : List Ls} (h : OwnLs B w v ls) (h0 : 0 < ls.length) : ∃ g cap, v = .slice (some ⟨g, 0, none⟩) ls.length cap ∧ B ≤ g ∧ g < w.heap.size ∧ ls.length ≤ cap := by
  rcases h.2 with ⟨_, e⟩ | ⟨g, cap, cur, e, hb, hg, hn, _⟩
  · omega
  · exact ⟨g, cap, e, hb, (Array.getElem?_eq_some_iff.1 hg).1, hn⟩
theorem grown_trans {w w1 w2 : World} {r : Option Nat} (h1 : w.grownBy w1 r) (h2 : w1.grownBy w2 r) : w.grownBy w2 r :=
  ⟨h2.os.trans h1.os, h2.tape.trans h1.tape, h2.output.trans h1.output, Nat.le_trans h1.size h2.size, fun k hk hne => (h2.block k (Nat.lt_of_lt_of_le hk h1.size) hne).trans (h1.block k hk hne)⟩
theorem grown_of_below {w w1 : World} {r : Option Nat} (h : Below w.heap.size w w1) : w.grownBy w1 r := ⟨h.os, h.tape, h.output, h.size, fun k hk _ => h.block k hk⟩
theorem keep_next {q : Ls → Bool} {ls : List Ls} {j : Nat} (h : j < ls.length) : (ls.take (j + 1)).filter (fun x => !q x) = (ls.take j).filter (fun x => !q x) ++ (if q (ls.getD j Ls.zero) = true then [] else [ls.getD j Ls.zero]) := by
  rw [take_next h, List.filter_append]
  congr 1
  generalize ls.getD j Ls.zero = y
  cases e : q y <;> simp [e]
theorem keep_first {q : Ls → Bool} : ∀ {ls : List Ls} {k : Nat}, k < ls.length → q (ls.getD k Ls.zero) = true → (∀ j, j < k → q (ls.getD j Ls.zero) = false) → (ls.take (k + 1)).filter (fun x => !q x) = ls.take k
  | [], k, h, _, _ => by simp at h
  | x :: l, 0, h, h1, _ => by
    have h0 : q x = true := by simpa using h1
    simp [h0]
  | x :: l, k + 1, h, h1, h2 => by
    have h0 : q x = false := by simpa using h2 0 (by omega)
    have := keep_first (q := q) (ls := l) (k := k) (by simpa using h) (by simpa using h1) fun j hj => by simpa using h2 (j + 1) (by omega)
    rw [List.take_succ_cons, List.filter_cons, this]
    simp [h0]
theorem getD_of_drop {ls xs : List Ls} {j : Nat} (h : xs.drop j = ls.drop j) : xs.getD j Ls.zero = ls.getD j Ls.zero := by
  have := congrArg (fun l => l.getD 0 Ls.zero) h
  simpa [List.getD_eq_getElem?_getD] using this
theorem OwnLs.rowg {B g n cap : Nat} {w : World} {xs : List Ls} (h : OwnLs B w (.slice (some ⟨g, 0, none⟩) n cap) xs) : RowLs w.heap.size w (some ⟨g, 0, none⟩) xs := by
  obtain ⟨a, c, e, _, hr⟩ := h.row
  injection e with e1 _ _
  rw [e1]; exact hr
set_option maxHeartbeats 3200000 in
set_option maxRecDepth 20000 in
/-- slices.DeleteFunc over leases that the call owns, with whatever function that answers q. -/
theorem delLs_any (F : FuncId) (cs : Array Value) (q : Ls → Bool) (eg : ∀ args w, (callFunc F args).run Try.prog w = .ok (.enter F args) w) (B : Nat) (v : Value) (ls : List Ls) (w : World) (hl : ls.length ≤ 1048576) (hB : B ≤ w.heap.size) (ho : OwnLs B w v ls)
    (hx : ∀ (y : Ls) (w' : World), w.grownBy w' v.ownBlock → Calls Try.prog F (#[.agg #[.int .i64 y.p, .int .i64 y.c]] ++ cs) w' fun e w'' => e = .returned (.bool (q y)) ∧ Below w'.heap.size w' w'') :
    Calls Try.prog 77 #[v, .func (.func F) #[] cs] w fun e w' => ∃ v', e = .returned v' ∧ OwnLsC B w' v' (ls.filter fun x => !q x) ∧ Below B w w' := by
  obtain ⟨a0, cap0, rfl, ha0, hr0⟩ := ho.row
  have HC : Hid _ := idxLs_any F cs q eg a0 cap0 ls w hl hr0 (fun y w' hb => hx y w' (grown_of_below hb))
  have HO : Hid (OwnLs B w (.slice a0 ls.length cap0) ls) := ho
  have HX : Hid _ := hx
  obtain ⟨V, HV⟩ : ∃ V, Hid ((ls.filter fun x => !q x) = V) := ⟨_, rfl⟩
  rw [HV.out]
  clear ho hx
  rcases idxF_cases q ls 0 with ⟨e0, hn⟩ | ⟨k, hk, e0, ht, hn⟩
  · have HE : Hid (ls = V) := by
      show _ = _
      rw [← HV.out, List.filter_eq_self.2 (fun y hy => by rw [hn y hy]; rfl)]
    rw [e0] at HC
    clear hn e0 HV HX hr0 ha0
    go_enter Try.func77, Try.ntmps77
    go_wp2_with fail
    refine Calls.mono HC.out ?_
    rintro e w2 ⟨rfl, hb2⟩
    have HO2 : Hid (OwnLs B w2 (.slice a0 ls.length cap0) ls) := HO.out.later hb2
    have HB2 : Hid (Below B w w2) := hb2.mono hB
    clear HC hb2
    go_wp2
    go_ret
    exact ⟨_, rfl, by rw [← HE.out]; exact HO2.out.clip, HB2.out⟩
  · obtain ⟨g, cap, e1, hBg, hgl, hnc⟩ := own_sliceLs HO.out (by omega)
    cases e1
    have hgz : (Value.slice (some ⟨g, 0, none⟩) ls.length cap0).ownBlock = some g := rfl
    rw [hgz] at HX
    rw [e0, show 0 + k = k by omega] at HC
    have HKE : Hid ((ls.take (k + 1)).filter (fun x => !q x) = ls.take k) := keep_first hk ht hn
    have hcm : cap0 ≤ 9223372036854775807 := by
      rcases HO.out.2 with ⟨h', _⟩ | ⟨g', cap', cur, h', hb, hg, hnc, hcm, hcs, htake⟩
      · simp at h'
      · simp only [Value.slice.injEq, Option.some.injEq, Addr.mk.injEq, and_true, true_and] at h'
        obtain ⟨rfl, rfl⟩ := h'
        unfold maxLen at hcm
        omega
    clear hn e0 ht hr0 ha0 hgz
    have HBg : Hid (B ≤ g) := hBg
    have hk1 : ((k : Int) == -1) = false := by simp
    clear hBg
    go_enter Try.func77, Try.ntmps77
    go_wp2_with fail
    refine Calls.mono HC.out ?_
    rintro e w2 ⟨rfl, hb2⟩
    have HO2 : Hid (OwnLs B w2 (.slice (some ⟨g, 0, none⟩) ls.length cap0) ls) := HO.out.later hb2
    have HG2 : Hid (w.grownBy w2 (some g)) := grown_of_below hb2
    clear HC hb2
    go_wp2
    go_loopw [5, 6] (fun iv jv wr => ∃ (i j : Nat) (xs : List Ls), i < j ∧ j ≤ ls.length ∧ iv = .int .i64 (i : Int) ∧ jv = .int .i64 (j : Int) ∧ Hid (OwnLs B wr (.slice (some ⟨g, 0, none⟩) ls.length cap0) xs) ∧ Hid (xs.length = ls.length) ∧ Hid (xs.take i = (ls.take j).filter (fun x => !q x)) ∧ Hid (xs.drop j = ls.drop j) ∧ Hid (w.grownBy wr (some g)))
      (fun _ jv _ => ls.length - (intOf jv).toNat)
    case atStart => exact ⟨k, k + 1, ls, by omega, by omega, rfl, by go_num, HO2, rfl, HKE.out.symm, rfl, HG2⟩
    case round =>
      obtain ⟨i, j, xs, hij, hjl, rfl, rfl, HOX, HXL, HXT, HXD, HGW⟩ := hrel
      by_cases hlt : j < ls.length
      · have hxl : xs.length = ls.length := HXL.out
        have hrow := HOX.out.rowg
        obtain ⟨hgw, c0, c1⟩ := hrow.at (Below.refl _ _) (i := j) (by omega)
        have hi0 : (0 : Int) ≤ (j : Int) := by omega
        have hi1 : (j : Int) < (ls.length : Int) := by omega
        have hj0 : (0 : Int) ≤ (i : Int) := by omega
        have hj1 : (i : Int) < (ls.length : Int) := by omega
        have HN : Hid _ := keep_next (q := q) hlt
        have HND : Hid (ls.drop j = ls.getD j Ls.zero :: ls.drop (j + 1)) := drop_cons hlt
        rw [getD_of_drop HXD.out] at c0 c1
        simp only [Nat.zero_add] at c0 c1
        generalize ls.getD j Ls.zero = y at c0 c1 HN HND
        have hb3 : Below wr.heap.size wr (wr.alloc (.cells #[.int .i64 y.p, .int .i64 y.c] 103)) := (Below.refl _ _).alloc (Nat.le_refl _) _
        have HG3 : Hid (w.grownBy (wr.alloc (.cells #[.int .i64 y.p, .int .i64 y.c] 103)) (some g)) := grown_trans HGW.out (grown_of_below hb3)
        have HCQ : Hid _ := HX.out y _ HG3.out
        have HA3 : Hid ((wr.alloc (.cells #[.int .i64 y.p, .int .i64 y.c] 103)).heap[wr.heap.size]? = some (.cells #[.int .i64 y.p, .int .i64 y.c] 103 (0, 0))) := heap_alloc_new wr _
        have HS3 : Hid ((wr.alloc (.cells #[.int .i64 y.p, .int .i64 y.c] 103)).heap.size = wr.heap.size + 1) := by show _ = _; simp
        have HO3 : Hid (OwnLs B (wr.alloc (.cells #[.int .i64 y.p, .int .i64 y.c] 103)) (.slice (some ⟨g, 0, none⟩) ls.length cap0) xs) := HOX.out.later hb3
        have hne : wr.heap.size ≠ g := by omega
        obtain ⟨d, hd⟩ : ∃ d, q y = d := ⟨_, rfl⟩
        rw [hd] at HCQ
        have HD : Hid (q y = d) := hd
        clear hd hb3 hrow hxl
        go_wp2_with fail
        refine Calls.mono HCQ.out ?_
        rintro e w4 ⟨rfl, hb4⟩
        have HG4 : Hid (w.grownBy w4 (some g)) := grown_trans HG3.out (grown_of_below hb4)
        have HO4 : Hid (OwnLs B w4 (.slice (some ⟨g, 0, none⟩) ls.length cap0) xs) := HO3.out.later hb4
        have hA4 : w4.heap[wr.heap.size]? = some (.cells #[.int .i64 y.p, .int .i64 y.c] 103 (0, 0)) := (hb4.block _ (by have := HS3.out; omega)).trans HA3.out
        clear hb4 HCQ HG3 HA3 HS3 HO3 HOX c0 c1
        cases d with
        | true =>
          have HE : Hid (xs.take i = (ls.take (j + 1)).filter (fun x => !q x)) := by show _ = _; rw [HN.out, HD.out, HXT.out]; simp
          have HE2 : Hid (xs.drop (j + 1) = ls.drop (j + 1)) := by
            show _ = _
            rw [← List.drop_drop, ← List.drop_drop, HXD.out]
          clear HN HND HXT HXD hA4
          go_wp2
          go_roundw
          case rel => exact ⟨i, j + 1, xs, by omega, by omega, rfl, by go_num, HO4, HXL, HE, HE2, HG4⟩
          case measure => simp [intOf]; omega
        | false =>
          have hxl : xs.length = ls.length := HXL.out
          have d0 : w4.cell? ⟨wr.heap.size, 0, none⟩ = some (.int .i64 y.p) := (cell_of_row _ _ 0 _ _ _ hA4).trans rfl
          have d1 : w4.cell? ⟨wr.heap.size, 1, none⟩ = some (.int .i64 y.c) := (cell_of_row _ _ 1 _ _ _ hA4).trans rfl
          have hrow := HO4.out.rowg
          obtain ⟨hgw, c0, c1⟩ := hrow.at (Below.refl _ _) (i := i) (by omega)
          simp only [Nat.zero_add] at c0 c1
          have f0 : w4.frozen? ⟨g, i * 2, none⟩ = false := World.ownsRow.frozenAt (show w4.ownsRow B 103 2 (.slice (some ⟨g, 0, none⟩) xs.length cap0) xs.length (cellsLs xs) from by have := HO4.out; unfold OwnLs at this; rw [← hxl] at this; exact this) _
          have f1 : w4.frozen? ⟨g, i * 2 + 1, none⟩ = false := World.ownsRow.frozenAt (show w4.ownsRow B 103 2 (.slice (some ⟨g, 0, none⟩) xs.length cap0) xs.length (cellsLs xs) from by have := HO4.out; unfold OwnLs at this; rw [← hxl] at this; exact this) _
          have HST : Hid _ := HO4.out.set (i := i) hxl y
          have HE : Hid ((xs.set i y).take (i + 1) = (ls.take (j + 1)).filter (fun x => !q x)) := by
            show _ = _
            rw [HN.out, HD.out, ← HXT.out, List.take_set, List.take_succ_eq_append_getElem (by omega), List.set_append]
            simp [show min i xs.length = i by omega]
          have HE2 : Hid ((xs.set i y).drop (j + 1) = ls.drop (j + 1)) := by
            show _ = _
            rw [List.drop_set_of_lt (by omega), ← List.drop_drop, ← List.drop_drop, HXD.out]
          have HXL2 : Hid ((xs.set i y).length = ls.length) := by show _ = _; simp; exact hxl
          clear HN HND HXT HXD hA4 hrow hxl HXL
          go_wp2_with fail
          go_roundw
          case rel => exact ⟨i + 1, j + 1, xs.set i y, by omega, by omega, by go_num, by go_num, by show OwnLs _ _ _ _; simpa using HST.out.1, HXL2, HE, HE2, by show World.grownBy _ _ _; exact grown_trans HG4.out (by simpa using HST.out.2)⟩
          case measure => simp [intOf]; omega
      · obtain rfl : j = ls.length := by omega
        have HVI : Hid (xs.take i = V) := by show _ = _; rw [HXT.out, List.take_length, HV.out]
        have hxl : xs.length = ls.length := HXL.out
        have HOW : Hid (wr.ownsRow B 103 2 (.slice (some ⟨g, 0, none⟩) ls.length cap0) ls.length (cellsLs xs)) := by
          show World.ownsRow _ _ _ _ _ _ _
          have := HOX.out; unfold OwnLs at this; rw [hxl] at this; exact this
        obtain ⟨vs, hcl⟩ := clear_two wr 24 103 0 Try.underlying24 zeroLs_run g (i * 2) (ls.length - i) (cap0 - i)
          (fun m hm => by rw [World.ownsRow.cellAt HOW.out (i * 2 + m) (by omega), List.getElem?_eq_getElem (by rw [cellsLs_len]; omega)]; rfl)
          (fun m hm => World.ownsRow.frozenAt HOW.out (i * 2 + m))
        obtain ⟨ys, hoy, hyt, hgy⟩ := own_cells vs (i * 2) wr _ HOW.out
        have HOC : Hid (OwnLs B (wr.setCells g (i * 2) vs) (.slice (some ⟨g, 0, none⟩) i cap0) (xs.take i)) := OwnLs.cut hoy hxl (by omega) hyt
        have HGF : Hid (Below B w (wr.setCells g (i * 2) vs)) := by
          have h := grown_trans HGW.out hgy
          show Below _ _ _
          exact ⟨h.os, h.tape, h.output, h.size, fun k hk => h.block k (by omega) (fun e => by injection e with e; have := HBg.out; omega)⟩
        have HIL : Hid ((xs.take i).length = i) := by show _ = _; simp; omega
        clear hoy hyt hgy HOW HXT HXD HGW HOX HXL hxl
        generalize wr.setCells g (i * 2) vs = w5 at hcl HOC HGF
        have h1 : (i : Int) ≤ (ls.length : Int) := by omega
        have h2 : (0 : Int) ≤ (i : Int) := by omega
        have h3 : (ls.length : Int) ≤ (cap0 : Int) := by omega
        go_wp2_with fail
        go_ret
        exact ⟨_, rfl, by rw [← HVI.out]; exact ⟨some ⟨g, 0, none⟩, cap0, cap0, by rw [HIL.out]; rfl, .inr ⟨g, 0, rfl⟩, by rw [HIL.out]; exact HOC.out⟩, HGF.out⟩
set_option maxHeartbeats 800000 in
theorem implGiven_any (a : Option Addr) (cap : Nat) (ls : List Ls) (c : Int) (w : World) (hl : ls.length ≤ 1048576) (hf : ∀ y ∈ ls, y.Fits) (hr : RowLs w.heap.size w a ls) :
    Calls Try.prog 20 #[.slice a ls.length cap, .int .i64 c] w fun e w' => ∃ v, e = .returned v ∧ OwnLsC w.heap.size w' v (givenL ls c) ∧ Below w.heap.size w w' := by
  have hb0 : Below w.heap.size w (w.alloc (.cells #[.int .i64 c] 3)) := (Below.refl _ _).alloc (Nat.le_refl _) _
  have HG : Hid ((w.alloc (.cells #[.int .i64 c] 3)).heap[w.heap.size]? = some (.cells #[.int .i64 c] 3 (0, 0))) := heap_alloc_new w _
  have HS : Hid ((w.alloc (.cells #[.int .i64 c] 3)).heap.size = w.heap.size + 1) := by show _ = _; simp
  have HC : Hid _ := cloneLs_any a cap ls (w.alloc (.cells #[.int .i64 c] 3)) hl (hr.grown hb0)
  have HB0 : Hid (Below w.heap.size w (w.alloc (.cells #[.int .i64 c] 3))) := hb0
  clear hr hb0
  go_enter Try.func20, Try.ntmps20
  go_wp2_with fail
  refine Calls.mono HC.out ?_
  rintro e w2 ⟨v, rfl, ho2, hb2⟩
  have HB2 : Hid (Below w.heap.size w w2) := HB0.out.trans (hb2.mono HB0.out.size)
  have HG2 : Hid (w2.heap[w.heap.size]? = some (.cells #[.int .i64 c] 3 (0, 0))) := (hb2.block _ (by have := HS.out; omega)).trans HG.out
  have HO2 : Hid (OwnLs (w.heap.size + 1) w2 v ls) := by
    show OwnLs _ _ _ _
    have := ho2; rw [HS.out] at this; exact this
  have HSZ : Hid (w.heap.size + 1 ≤ w2.heap.size) := by have := hb2.size; have := HS.out; show _ ≤ _; omega
  have HD : Hid _ := delLs_any 78 #[.pointer (some ⟨w.heap.size, 0, none⟩)] (fun y => decide (y.c = c)) Try.call78 (w.heap.size + 1) v ls w2 hl HSZ.out HO2.out
    (fun y w' hg => givenQ w.heap.size c y w' ((hg.block _ (by have := HSZ.out; omega) (fun e => by
      rcases HO2.out.2 with ⟨h', _⟩ | ⟨g', cap', cur, h', hb, _⟩
      · rw [h'] at e; simp [Value.ownBlock] at e
      · rw [h'] at e; simp [Value.ownBlock] at e; omega)).trans HG2.out))
  obtain ⟨a2, cap2, rfl, _, _⟩ := HO2.out.row
  clear ho2 hb2 HC HG HS HG2 HO2
  go_wp2_with fail
  refine Calls.mono HD.out ?_
  rintro e w3 ⟨v3, rfl, ho3, hb3⟩
  have HB3 : Hid (Below w.heap.size w w3) := HB2.out.trans (hb3.mono (by omega))
  have HO3 : Hid (OwnLsC w.heap.size w3 v3 (givenL ls c)) := by
    obtain ⟨a9, c9, p9, e9, h9, o9⟩ := ho3
    exact ⟨a9, c9, p9, e9, h9, o9.base (by omega)⟩
  obtain ⟨a9, c9, p9, rfl, -, -⟩ := HO3.out
  clear ho3 hb3 HD HB2
  go_wp2
  go_ret
  exact ⟨_, rfl, HO3.out, HB3.out⟩
end Go.Proofs.Ytclnhjkmhemebaa
