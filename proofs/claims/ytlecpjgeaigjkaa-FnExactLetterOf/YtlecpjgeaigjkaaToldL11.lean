/- The program's letters (chapter 11), told: letter.asTold, over a row that is made with room for all. -/
import Derived.Test.YtlecpjgeaigjkaaTold8
import Derived.Test.YtlecpjgeaigjkaaLet11
import Derived.Test.YtlecpjgeaigjkaaLawInts
import Derived.Laws.MakeOwn
import Derived.Laws.OwnMore
namespace Go.Proofs.Ytlecpjgeaigjkaa
open Go.RowKit Go.Maps
set_option linter.unusedVariables false
theorem infoTold : (Try.prog.info? 73).map (fun i => (i.zero, i.size, i.bytes)) = some (some .nilFunc, 1, 8) := by kernel_rfl
theorem ToldIs.lower {L L' B : Nat} {w : World} {t : Tl} {v : Value} (hL : L ≤ L') (h : ToldIs L' B w t v) : ToldIs L B w t v := by
  obtain ⟨h0, F, cs, h1, h2, h3⟩ := h
  exact ⟨h0, F, cs, h1, h2, fun hw w2 mx B' gb gm fl ns u hmx ha hp => h3 hw w2 mx B' gb gm fl ns u hmx (fun k hk hk2 => ha k (by omega) hk2) (fun k hk hk2 => hp k (by omega) hk2)⟩
/-- The terms of a letter. -/
def lts (kd : Int) (xs : List Int) : List Tl := .atom kd :: xs.map Tl.pl
theorem lts_len (kd : Int) (xs : List Int) : (lts kd xs).length = xs.length + 1 := by simp [lts]
theorem lts_at (kd : Int) (xs : List Int) {m : Nat} (h : m < xs.length) : (lts kd xs).getD (m + 1) (.pl 0) = .pl (xs.getD m 0) := by
  simp [lts, List.getD_eq_getElem?_getD, List.getElem?_eq_getElem h]
theorem fs_pls (ns : List Nd) : ∀ xs : List Int, Tl.fs (xs.map Tl.pl) ns = (ns, xs)
  | [] => rfl
  | x :: xs => by rw [List.map_cons, Tl.fs_cons]; show ((Tl.fs (xs.map Tl.pl) ns).1, x :: (Tl.fs (xs.map Tl.pl) ns).2) = _; rw [fs_pls ns xs]
theorem wfs_pls : ∀ xs : List Int, (∀ x ∈ xs, -9223372036854775808 ≤ x ∧ x ≤ 9223372036854775807) → Tl.Wfs (xs.map Tl.pl)
  | [], _ => trivial
  | x :: xs, h => ⟨WalkArith.wf_i64 (h x (List.mem_cons_self ..)), wfs_pls xs fun y hy => h y (List.mem_cons_of_mem _ hy)⟩
theorem lts_f (kd : Int) (xs : List Int) (ns : List Nd) : (Tl.list (lts kd xs)).f ns = (ltA ns kd xs, ltK ns kd xs) := by
  rw [Tl.f_list]
  unfold lts
  rw [Tl.fs_cons]
  show listF ((putK ns ⟨1, kd, 0, 0⟩) :: (Tl.fs (xs.map Tl.pl) (putA ns ⟨1, kd, 0, 0⟩)).2) (Tl.fs (xs.map Tl.pl) (putA ns ⟨1, kd, 0, 0⟩)).1 = _
  rw [fs_pls]
  rfl
/-- One more told term goes behind a row that has room for it. -/
theorem row_more {w : World} {g m c : Nat} {vs : List Value} (F : FuncId) (cs : Array Value) (hown : w.ownsRow g 73 1 (.slice (some ⟨g, 0, none⟩) m c) m vs) (hm : m + 1 ≤ c) :
    ∃ w', (∀ ty, (Builtin.append_ #[134, 134] ty #[.slice (some ⟨g, 0, none⟩) m c, .slice (some ⟨w.heap.size, 0, none⟩) 1 1]).run Try.prog (w.alloc (.cells #[.func (.func F) #[] cs] 73)) = .ok (.slice (some ⟨g, 0, none⟩) (m + 1) c) w') ∧
      w'.ownsRow g 73 1 (.slice (some ⟨g, 0, none⟩) (m + 1) c) (m + 1) (vs ++ [.func (.func F) #[] cs]) ∧ (w.alloc (.cells #[.func (.func F) #[] cs] 73)).grownBy w' (some g) := by
  obtain ⟨i0, hi, hz0, hz1, hz2⟩ := info_parts infoTold
  have hb : Below w.heap.size w (w.alloc (.cells #[.func (.func F) #[] cs] 73)) := (Below.refl _ _).alloc (Nat.le_refl _) _
  have hn := heap_alloc_new w (.cells #[.func (.func F) #[] cs] 73)
  have ho : (w.alloc (.cells #[.func (.func F) #[] cs] 73)).ownsRow g 73 1 (.slice (some ⟨g, 0, none⟩) m c) m vs := World.ownsRow.alloc hown _
  have hf := fun ty => run_append_fits (P := Try.prog) (w.alloc (.cells #[.func (.func F) #[] cs] 73)) g 134 ty 73 i0 1 Try.underlying134 hi hz1 g m c vs ho ⟨w.heap.size, 0, none⟩ 1 1 [.func (.func F) #[] cs] rfl
    (fun j u hu => by
      have hc := cell_of_row (w.alloc (.cells #[.func (.func F) #[] cs] 73)) w.heap.size 0 _ _ _ hn
      cases j with
      | zero => simp at hu; subst hu; exact hc
      | succ j => simp at hu) (fun u hu => by simp at hu; subst hu; rfl) hm
  obtain ⟨w', h3, ho3, hg3⟩ := hf 0
  exact ⟨w', fun ty => h3, ho3, hg3⟩
/-- An append whose run is known, inside a fixed region. -/
theorem wpList_append_run {P : Program} {ops : Array Oper} {rest : List Oper} {o : Oper} {a : Act} {w w' : World} {v : Value} {Q : Exit → Act → World → Prop} (hgd : o.guard = none) (s x : Operand) (t : TypeId)
    (ho : o.op = .call { callee := .builtin .append, args := #[s, x], argTypes := #[t, t] }) (hrun : (Builtin.append_ #[t, t] o.type #[a.eval s, a.eval x]).run P w = .ok v w') (h : wpList P ops Q rest (a.put o.dst v) w') : wpList P ops Q (o :: rest) a w := by
  refine wpList_plain hgd fun K hK => ?_
  unfold Oper.wp
  simp [execOp, ho, resolve, invoke, builtin, hrun, Result.andThen]
  exact hK _ _ h
/-- While a letter is told: the row of its first m + 1 terms. -/
structure LtSt (la : Option Addr) (lc : Nat) (kd : Int) (xs : List Int) (m : Nat) (w wr : World) : Prop where
  row : ∃ vs, vs.length = m + 1 ∧ wr.ownsRow (w.heap.size + 1) 73 1 (.slice (some ⟨w.heap.size + 1, 0, none⟩) (m + 1) (xs.length + 1)) (m + 1) vs ∧ ∀ j, j < m + 1 → ToldIs (w.heap.size + 2) wr.heap.size wr ((lts kd xs).getD j (.pl 0)) (vs.getD j undef)
  below : Below w.heap.size w wr
  box : wr.heap[w.heap.size]? = some (.cells #[.int .i64 kd, .slice la xs.length lc] 83 (0, 0))
  size : w.heap.size + 2 ≤ wr.heap.size
theorem LtSt.more {la : Option Addr} {lc : Nat} {kd : Int} {xs vs : List Int} {m : Nat} {us : List Value} {w w1 w2 w3 : World} {F : FuncId} {cs : Array Value} {t : Tl} (hm : m < xs.length + 1) (ht : (lts kd xs).getD m (.pl 0) = t)
    (hl : us.length = m) (hold : ∀ j, j < m → ToldIs (w.heap.size + 2) w1.heap.size w1 ((lts kd xs).getD j (.pl 0)) (us.getD j undef))
    (hB : Below w.heap.size w w1) (hbox : w1.heap[w.heap.size]? = some (.cells #[.int .i64 kd, .slice la xs.length lc] 83 (0, 0))) (hs : w.heap.size + 2 ≤ w1.heap.size)
    (hb : Below w1.heap.size w1 w2) (h2 : ToldIs (w.heap.size + 2) w2.heap.size w2 t (.func (.func F) #[] cs))
    (ho : w3.ownsRow (w.heap.size + 1) 73 1 (.slice (some ⟨w.heap.size + 1, 0, none⟩) (m + 1) (xs.length + 1)) (m + 1) (us ++ [.func (.func F) #[] cs])) (hg : (w2.alloc (.cells #[.func (.func F) #[] cs] 73)).grownBy w3 (some (w.heap.size + 1))) : LtSt la lc kd xs m w w3 := by
  have hb2 : Below w2.heap.size w2 (w2.alloc (.cells #[.func (.func F) #[] cs] 73)) := (Below.refl _ _).alloc (Nat.le_refl _) _
  have hs2 := hb.size
  have hs3 : (w2.alloc (.cells #[.func (.func F) #[] cs] 73)).heap.size = w2.heap.size + 1 := by simp
  have hs4 := hg.size
  have keep : ∀ k, k < w2.heap.size → k ≠ w.heap.size + 1 → w3.heap[k]? = w2.heap[k]? := fun k hk hne => (hg.block k (by omega) (by simpa using hne)).trans (hb2.block k hk)
  have told : ∀ {t' : Tl} {v : Value}, ToldIs (w.heap.size + 2) w2.heap.size w2 t' v → ToldIs (w.heap.size + 2) w3.heap.size w3 t' v := fun {t' v} h => ToldIs.base (by omega) _ (ToldIs.kept (fun k hk hk2 => keep k hk2 (by omega)) _ h)
  refine ⟨⟨_, by simp [hl], ho, fun j hj => ?_⟩, ?_, (keep _ (by omega) (by omega)).trans ((hb.block _ (by omega)).trans hbox), by omega⟩
  · by_cases hjm : j < m
    · rw [show (us ++ [Value.func (.func F) #[] cs]).getD j undef = us.getD j undef by rw [List.getD_eq_getElem?_getD, List.getElem?_append_left (by omega), ← List.getD_eq_getElem?_getD]]
      exact told (ToldIs.nx hb (hold j hjm))
    · obtain rfl : j = m := by omega
      rw [ht, show (us ++ [Value.func (.func F) #[] cs]).getD j undef = .func (.func F) #[] cs by simp [List.getD_eq_getElem?_getD, ← hl]]
      exact told h2
  · exact ((hB.trans (hb.mono hB.size)).trans (hb2.mono (by omega))).grown hg (by omega) (fun k hk => by cases hk; omega)
set_option maxHeartbeats 3200000 in
set_option maxRecDepth 20000 in
theorem ltTold_any {L : Nat} (kd : Int) (xs : List Int) (la : Option Addr) (lc : Nat) (w : World) (hL : L ≤ w.heap.size) (hxl : xs.length ≤ 1048576) (hx : RowI w.heap.size w la xs) :
    Calls Try.prog 53 #[.agg #[.int .i64 kd, .slice la xs.length lc]] w (ToldP L (.list (lts kd xs)) w) := by
  obtain ⟨i0, hi, hz0, hz1, hz2⟩ := info_parts infoTold
  have hs0 : (w.alloc (.cells #[.int .i64 kd, .slice la xs.length lc] 83)).heap.size = w.heap.size + 1 := by simp
  have hb0 : Below w.heap.size w (w.alloc (.cells #[.int .i64 kd, .slice la xs.length lc] 83)) := (Below.refl _ _).alloc (Nat.le_refl _) _
  have hx0 := heap_alloc_new w (.cells #[.int .i64 kd, .slice la xs.length lc] 83)
  have c0 : (w.alloc (.cells #[.int .i64 kd, .slice la xs.length lc] 83)).cell? ⟨w.heap.size, 0, none⟩ = some (.int .i64 kd) := (cell_of_row _ _ 0 _ _ _ hx0).trans rfl
  have c1 : (w.alloc (.cells #[.int .i64 kd, .slice la xs.length lc] 83)).cell? ⟨w.heap.size, 1, none⟩ = some (.slice la xs.length lc) := (cell_of_row _ _ 1 _ _ _ hx0).trans rfl
  obtain ⟨w1, hmk, ho1, hg1⟩ := run_make_own (P := Try.prog) (w.alloc (.cells #[.int .i64 kd, .slice la xs.length lc] 83)) (w.heap.size + 1) 134 73 i0 _ 1 Try.underlying134 hi hz0 hz1 .i64 .i64 (xs.length + 1) (by rw [hz2]; omega) (by unfold maxLen; omega) (by omega)
  rw [hs0] at hmk ho1
  rw [show ((xs.length + 1 : Nat) : Int) = (xs.length : Int) + 1 by omega] at hmk
  have hb1 : Below (w.heap.size + 1) (w.alloc (.cells #[.int .i64 kd, .slice la xs.length lc] 83)) w1 := (Below.refl _ _).grown hg1 (by omega) (by simp)
  have hs1 : w.heap.size + 2 ≤ w1.heap.size := by
    rcases ho1.2 with ⟨h, _⟩ | ⟨g, cap, cur, h, _, hh, _⟩
    · cases h
    · cases h; have := (Array.getElem?_eq_some_iff.1 hh).1; omega
  have HB1 : Hid (Below w.heap.size w w1) := hb0.trans (hb1.mono (by omega))
  have HX1 : Hid (w1.heap[w.heap.size]? = some (.cells #[.int .i64 kd, .slice la xs.length lc] 83 (0, 0))) := (hb1.block _ (by omega)).trans hx0
  have d0 : w1.cell? ⟨w.heap.size, 0, none⟩ = some (.int .i64 kd) := (cell_of_row _ _ 0 _ _ _ HX1.out).trans rfl
  have HO1 : Hid (w1.ownsRow (w.heap.size + 1) 73 1 (.slice (some ⟨w.heap.size + 1, 0, none⟩) 0 (xs.length + 1)) 0 []) := ho1
  have HX : Hid (RowI w.heap.size w la xs) := hx
  have HL : Hid (L ≤ w.heap.size) := hL
  clear hx hL hb0 hb1 hg1 ho1 hx0 hi hz0 hz1 hz2
  go_enter Try.func53, Try.ntmps53
  go_wp2_with fail
  clear c0 c1 hmk
  refine Calls.mono (toldAtom_any (L := w.heap.size + 2) kd w1 hs1) ?_
  rintro e w2 ⟨v2, rfl, t2, b2⟩
  obtain ⟨F2, c2, rfl⟩ := t2.fn
  have ho2 : w2.ownsRow (w.heap.size + 1) 73 1 (.slice (some ⟨w.heap.size + 1, 0, none⟩) 0 (xs.length + 1)) 0 [] := World.ownsRow.kept HO1.out (grown_ofB b2) (.inr (by simp [Value.ownBlock]))
  obtain ⟨w3, hap, ho3, hg3⟩ := row_more F2 c2 ho2 (by omega)
  have HS3 : Hid (LtSt la lc kd xs 0 w w3) := LtSt.more (vs := []) (m := 0) (us := []) (by omega) rfl rfl (fun j hj => absurd hj (by omega)) HB1.out HX1.out hs1 b2 t2 ho3 hg3
  have e1 : w3.cell? ⟨w.heap.size, 1, none⟩ = some (.slice la xs.length lc) := (cell_of_row _ _ 1 _ _ _ HS3.out.box).trans rfl
  rw [Nat.zero_add] at hap
  clear t2 b2 ho2 ho3 hg3 d0 HB1 HX1 HO1
  go_wp2_with (at_builtin; refine wpList_append_run rfl _ _ _ rfl (hap _) ?_)
  clear hap
  go_loopw [3, 20] (fun sv i wr => ∃ m : Nat, m ≤ xs.length ∧ i = .int .i64 (m : Int) ∧ sv = .slice (some ⟨w.heap.size + 1, 0, none⟩) (m + 1) (xs.length + 1) ∧ Hid (LtSt la lc kd xs m w wr))
    (fun _ i _ => xs.length - (intOf i).toNat)
  case atStart => exact ⟨0, by omega, rfl, rfl, HS3.out⟩
  case round =>
    obtain ⟨m, hm, rfl, rfl, HS⟩ := hrel
    clear HS3 e1
    by_cases hd : m < xs.length
    · obtain ⟨b, off, rfl⟩ := HX.out.addr hd
      have cX := (HX.out.at HS.out.below hd).2
      have hi0 : (0 : Int) ≤ (m : Int) := by omega
      have hi1 : (m : Int) < (xs.length : Int) := by omega
      obtain ⟨y, HY⟩ : ∃ y, Hid (xs.getD m 0 = y) := ⟨_, rfl⟩
      rw [HY.out] at cX
      have hsr := HS.out.size
      obtain ⟨vs, hvl, hov, htv⟩ := HS.out.row
      have HV : Hid (vs.length = m + 1 ∧ wr.ownsRow (w.heap.size + 1) 73 1 (.slice (some ⟨w.heap.size + 1, 0, none⟩) (m + 1) (xs.length + 1)) (m + 1) vs ∧ ∀ j, j < m + 1 → ToldIs (w.heap.size + 2) wr.heap.size wr ((lts kd xs).getD j (.pl 0)) (vs.getD j undef)) := ⟨hvl, hov, htv⟩
      clear hvl hov htv
      go_wp2_with fail
      refine Calls.mono (toldAt_any (L := w.heap.size + 2) y wr hsr) ?_
      rintro e w4 ⟨v4, rfl, t4, b4⟩
      obtain ⟨F4, c4, rfl⟩ := t4.fn
      have ho4 : w4.ownsRow (w.heap.size + 1) 73 1 (.slice (some ⟨w.heap.size + 1, 0, none⟩) (m + 1) (xs.length + 1)) (m + 1) vs := World.ownsRow.kept HV.out.2.1 (grown_ofB b4) (.inr (by simp [Value.ownBlock]))
      obtain ⟨w5, hap, ho5, hg5⟩ := row_more F4 c4 ho4 (by omega)
      have HS5 : Hid (LtSt (some ⟨b, off, none⟩) lc kd xs (m + 1) w w5) := LtSt.more (vs := []) (m := m + 1) (us := vs) (by omega) (by rw [lts_at kd xs hd, HY.out]) HV.out.1 HV.out.2.2 HS.out.below HS.out.box hsr b4 t4 ho5 hg5
      clear t4 b4 ho4 ho5 hg5 cX HV HS
      go_wp2_with (at_builtin; refine wpList_append_run rfl _ _ _ rfl (hap _) ?_)
      go_roundw
      case rel => exact ⟨m + 1, by omega, by go_num, rfl, HS5.out⟩
      case measure => simp [intOf] <;> omega
    · obtain rfl : m = xs.length := by omega
      have HC : Hid (Calls Try.prog 75 #[.slice (some ⟨w.heap.size + 1, 0, none⟩) (xs.length + 1) (xs.length + 1)] wr (ToldP L (.list (lts kd xs)) wr)) := by
        obtain ⟨vs, hvl, hov, htv⟩ := HS.out.row
        have hcells : wr.heap[w.heap.size + 1]? = some (.cells vs.toArray 73 (0, 0)) := by
          rcases hov.2 with ⟨h, _⟩ | ⟨g, cap, cur, h, _, hh, _, _, hsz, htk⟩
          · cases h
          · cases h
            rw [hh, ← htk]
            have : cur.toList.take ((xs.length + 1) * 1) = cur.toList := List.take_of_length_le (by rw [Array.length_toList, hsz]; omega)
            rw [this]
        have hsr := HS.out.size
        have hLw := HL.out
        have := toldList_any (L := L) (h := w.heap.size + 1) (lts kd xs) vs wr (by omega) ⟨by omega, by omega⟩ hcells ⟨by rw [hvl, lts_len], fun j hj => ToldIs.lower (by omega) (htv j (by rw [lts_len] at hj; exact hj))⟩
        rw [hvl] at this
        exact this
      have HB : Hid (Below w.heap.size w wr) := HS.out.below
      clear HS
      go_wp2_with fail
      refine Calls.mono HC.out ?_
      rintro e w6 ⟨v6, rfl, t6, b6⟩
      have HE : Hid (ToldP L (.list (lts kd xs)) w (.returned v6) w6) := ⟨v6, rfl, t6, HB.out.trans (b6.mono HB.out.size)⟩
      clear t6 b6 HC
      go_wp2
      go_ret
      exact HE.out
end Go.Proofs.Ytlecpjgeaigjkaa
