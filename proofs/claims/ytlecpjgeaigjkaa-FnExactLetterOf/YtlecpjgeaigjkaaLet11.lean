/- The contracts of chapter 11's LetterOf, the specification's, and what it makes in plain words. -/
import Derived.Test.YtlecpjgeaigjkaaArenaD
import Derived.Test.YtlecpjgeaigjkaaKeptS
import Derived.Test.YtlecpjgeaigjkaaListLit
import Derived.Test.YtlecpjgeaigjkaaLawInts
import Derived.Test.YtlecpjgeaigjkaaMakeParts
import Derived.WalkKit
import Derived.WalkLawsBesides
import Derived.WalkSpells
import Derived.Laws.Rows
import Derived.Laws.AppendOwn
namespace Go.Proofs.Ytlecpjgeaigjkaa
open Go.RowKit
set_option linter.unusedVariables false
/-- A letter. -/
def ltL (ns : List Nd) (kd : Int) (xs : List Int) : List Nd × Int := listF (putK ns ⟨1, kd, 0, 0⟩ :: xs) (putA ns ⟨1, kd, 0, 0⟩)
def ltA (ns : List Nd) (kd : Int) (xs : List Int) : List Nd := (ltL ns kd xs).1
def ltK (ns : List Nd) (kd : Int) (xs : List Int) : Int := (ltL ns kd xs).2
theorem ltA_le {ns : List Nd} {kd : Int} {xs : List Int} (h : ns.length ≤ 1048576) : (ltA ns kd xs).length ≤ 1048576 := listF_le _ (putA_le2 h)
/-- Behind nothing an append changes nothing. -/
theorem append_none (la : Option Addr) (lc b : Nat) (w : World) : (Builtin.append_ #[41, 41] 41 #[.slice (some ⟨b, 0, none⟩) 1 1, .slice la 0 lc]).run Try.prog w = .ok (.slice (some ⟨b, 0, none⟩) 1 1) w := by
  obtain ⟨i0, hi, hz0, hz1, hz2⟩ := info_parts infoIntS
  cases la <;> simp [Builtin.append_, run_underlying Try.underlying41, sizeOf, typeInfo, hi, Builtin.lenOf, Builtin.firstCells, loadCells, loadCellsFrom, storeCells]
theorem rowD_of {D : Nat → Prop} {w : World} {B : Nat} {la : Option Addr} {xs : List Int} (h : RowI B w la xs) (hD : ∀ k, k < B → D k) : RowD D w la xs := by
  rcases h with h | ⟨b, off, e, hb, hc⟩
  · exact .inl h
  · exact .inr ⟨b, off, e, hD b hb, hc⟩
theorem RowD.later {D : Nat → Prop} {w w' : World} {la : Option Addr} {xs : List Int} (h : RowD D w la xs) (hs : Safe D w w') : RowD D w' la xs := by
  rcases h with h | ⟨b, off, e, hb, hc⟩
  · exact .inl h
  · exact .inr ⟨b, off, e, hb, fun j hj => (hs.cell (p := ⟨b, off + j, none⟩) hb).trans (hc j hj)⟩
/-- A row that is owned is one that stays, where its block does. -/
theorem rowD_own {D : Nat → Prop} {B : Nat} {w : World} {g n cap : Nat} {xs : List Int} (h : w.ownsRow B 3 1 (.slice (some ⟨g, 0, none⟩) n cap) n (xs.map (Value.int .i64))) (hD : D g) : RowD D w (some ⟨g, 0, none⟩) xs := by
  refine .inr ⟨g, 0, rfl, hD, fun j hj => ?_⟩
  have hc := h.cells (g := g) rfl j (.int .i64 (xs.getD j 0)) (by rw [List.getElem?_map, List.getElem?_eq_getElem hj, List.getD_eq_getElem?_getD, List.getElem?_eq_getElem hj]; rfl)
  rw [add_off] at hc
  exact hc
theorem own_one {w : World} {z : Int} (B : Nat) (hB : B ≤ w.heap.size) : (w.alloc (.cells #[.int .i64 z] 3)).ownsRow B 3 1 (.slice (some ⟨w.heap.size, 0, none⟩) 1 1) 1 [.int .i64 z] :=
  ⟨rfl, .inr ⟨w.heap.size, 1, #[.int .i64 z], rfl, hB, heap_alloc_new w _, Nat.le_refl _, by unfold maxLen; omega, rfl, rfl⟩⟩
theorem wpList_append_none {P : Program} {ops : Array Oper} {rest : List Oper} {o : Oper} {a : Act} {Q : Exit → Act → World → Prop} {w : World} {v x : Value} {s y : Operand} {t ty : TypeId} (hap : ∀ wz : World, (Builtin.append_ #[t, t] ty #[v, x]).run P wz = .ok v wz)
    (hgd : o.guard = none := by rfl) (ho : o.op = .call { callee := .builtin .append, args := #[s, y], argTypes := #[t, t] } := by rfl) (hty : o.type = ty := by rfl) (hs : a.eval s = v := by rfl) (hx : a.eval y = x := by rfl) (h : wpList P ops Q rest (a.put o.dst v) w) : wpList P ops Q (o :: rest) a w := by
  refine wpList_plain hgd fun K hK => ?_
  simp only [Oper.wp, execOp, ho, resolve, invoke, builtin, Sem.run_bind, Sem.run_pure, Result.andThen_ok, List.map_toArray, List.map_cons, List.map_nil, hs, hx, hty, hap]
  exact hK _ _ h
set_option maxHeartbeats 3200000 in
theorem specLetD_any (D : Nat → Prop) (g : Nat) (ns : List Nd) (kd : Int) (xs : List Int) (la : Option Addr) (lc : Nat) (w : World) (hl : ns.length ≤ 1048576) (hxl : xs.length ≤ 1048576) (hx : RowD D w la xs) (h : ArD D w g ns) (hB : ∀ k, D k → k < w.heap.size) :
    Calls Try.prog 52 #[.pointer (some ⟨g, 0, none⟩), .int .i64 kd, .slice la xs.length lc] w fun e w' => e = .returned (.int .i64 (ltK ns kd xs)) ∧ ArD D w' g (ltA ns kd xs) ∧ Safe D w w' := by
  have HX : Hid (RowD D w la xs) := hx
  have HBO : Hid (∀ k, D k → k < w.heap.size) := hB
  have H0 : Hid _ := specAtomD_any D g ns kd w hl h hB
  clear hx h hB
  go_enter Try.func52, Try.ntmps52
  go_wp2_with fail
  refine Calls.mono H0.out ?_
  rintro e w1 ⟨rfl, ha1, hb1⟩
  obtain ⟨z, HZ⟩ : ∃ z, Hid (putK ns ⟨1, kd, 0, 0⟩ = z) := ⟨_, rfl⟩
  rw [HZ.out]
  have H1 : Hid (ArD D w1 g (putA ns ⟨1, kd, 0, 0⟩) ∧ Safe D w w1) := ⟨ha1, hb1⟩
  clear ha1 hb1 H0
  have HEND : Hid (∀ (gg cap1 : Nat) (w2 : World), w2.ownsRow w1.heap.size 3 1 (.slice (some ⟨gg, 0, none⟩) (xs.length + 1) cap1) (xs.length + 1) ((z :: xs).map (Value.int .i64)) → w1.heap.size ≤ gg → Below w1.heap.size w1 w2 → Calls Try.prog 83 #[.pointer (some ⟨g, 0, none⟩), .slice (some ⟨gg, 0, none⟩) (xs.length + 1) cap1] w2 fun e w' => e = .returned (.int .i64 (ltK ns kd xs)) ∧ Hid (ArD D w' g (ltA ns kd xs) ∧ Safe D w w')) := by
    intro gg cap1 w2 how hgg hbw
    have hw2 : gg < w2.heap.size := (how.lt gg rfl).2
    have hA := H1.out.1.wide hgg w2 hbw
    have hS : Safe D w1 w2 := Safe.of_below hbw (H1.out.2.old HBO.out)
    refine (listD_any (fun k => D k ∨ k = gg) g (putA ns ⟨1, kd, 0, 0⟩) (some ⟨gg, 0, none⟩) cap1 (z :: xs) w2 (putA_le2 hl) (by simp; omega) (rowD_own how (.inr rfl)) hA (fun k hk => ?_)).mono fun e w' ⟨he, ha, hs⟩ => ?_
    · rcases hk with hk | hk
      · have := H1.out.2.old HBO.out k hk; have := hbw.size; omega
      · subst hk; exact hw2
    · rw [← HZ.out] at he ha
      exact ⟨he, ha.narrow (fun k hk => .inl hk), (H1.out.2.trans hS).trans (hs.mono (fun k hk => .inl hk))⟩
  by_cases hxs : xs = []
  · subst hxs
    have hap : ∀ wz : World, (Builtin.append_ #[41, 41] 41 #[.slice (some ⟨w1.heap.size, 0, none⟩) 1 1, .slice la 0 lc]).run Try.prog wz = .ok (.slice (some ⟨w1.heap.size, 0, none⟩) 1 1) wz := fun wz => append_none la lc w1.heap.size wz
    go_wp2_with (at_builtin; refine wpList_append_none hap (h := ?_))
    refine (HEND.out _ _ _ (own_one _ (Nat.le_refl _)) (Nat.le_refl _) ((Below.refl _ _).alloc (Nat.le_refl _) _)).mono ?_
    rintro e w3 ⟨rfl, HE⟩
    clear HEND H1
    go_wp2
    go_ret
    exact ⟨rfl, HE.out.1, HE.out.2⟩
  · obtain ⟨b, off, rfl⟩ := HX.out.addr (i := 0) (by cases xs with | nil => exact absurd rfl hxs | cons x xs => simp)
    have hbA : Below w1.heap.size w1 (w1.alloc (.cells #[.int .i64 z] 3)) := (Below.refl _ _).alloc (Nat.le_refl _) _
    have HXC : Hid (∀ j u, (xs.map (Value.int .i64))[j]? = some u → (w1.alloc (.cells #[.int .i64 z] 3)).cell? ((⟨b, off, none⟩ : Addr).add j) = some u) := fun j u hu => by
      rw [List.getElem?_map] at hu
      have hj : j < xs.length := by rcases Nat.lt_or_ge j xs.length with h | h; exact h; rw [List.getElem?_eq_none h] at hu; simp at hu
      rw [List.getElem?_eq_getElem hj] at hu
      simp only [Option.map_some, Option.some.injEq] at hu
      have hc := HX.out.at (H1.out.2.trans (Safe.of_below hbA (H1.out.2.old HBO.out))) hj
      rw [add_off, hc.2, List.getD_eq_getElem?_getD, List.getElem?_eq_getElem hj, ← hu]; rfl
    have hxp : 0 < xs.length := by cases xs with | nil => exact absurd rfl hxs | cons x xs => simp
    obtain ⟨i0, hi, hz0, hz1, hz2⟩ := info_parts infoIntS
    have HOW : Hid ((w1.alloc (.cells #[.int .i64 z] 3)).ownsRow w1.heap.size 3 1 (.slice (some ⟨w1.heap.size, 0, none⟩) 1 1) 1 [.int .i64 z]) := own_one _ (Nat.le_refl _)
    go_wp2_with (at_builtin; refine wpList_append_lies _ rfl _ _ 41 rfl w1.heap.size 3 i0 (.int .i64 0) 1 8 Try.underlying41 hi hz0 hz1 hz2 rfl (by decide) _ _ _ rfl HOW.out ⟨b, off, none⟩ xs.length lc (xs.map (Value.int .i64)) rfl ?c0 HXC.out ?c2 hxp ?c3 ?c4 ?c5 _ rfl ?_)
    case c0 => simp
    case c2 => intro u hu; simp only [List.mem_map] at hu; obtain ⟨q, _, rfl⟩ := hu; rfl
    case c3 => unfold maxLen; omega
    case c4 => omega
    case c5 => simp
    intro gg cap1 w2 hown1 hgrow hat hgl
    have hgg : w1.heap.size ≤ gg := by rcases hat with h | h; simp [Value.ownBlock] at h; omega; rw [h]; simp
    have hbw : Below w1.heap.size w1 w2 := hbA.trans ⟨hgrow.os, hgrow.tape, hgrow.output, hgrow.size, fun k hk => hgrow.block k (by simp; omega) (fun e => by simp [Value.ownBlock] at e; omega)⟩
    have HC := HEND.out gg cap1 w2 (by simpa [Nat.add_comm] using hown1) hgg hbw
    have HCH : Hid _ := HC
    clear HC hown1 hgrow hat HOW HXC hbA
    have e1 : 1 + xs.length = xs.length + 1 := Nat.add_comm _ _
    rw [e1]
    go_wp2_with fail
    refine Calls.mono HCH.out ?_
    rintro e w3 ⟨rfl, HE⟩
    clear HEND H1 HCH
    go_wp2
    go_ret
    exact ⟨rfl, HE.out.1, HE.out.2⟩
set_option maxHeartbeats 1600000 in
theorem specLetter_any (a : Option Addr) (cap : Nat) (ns : List Nd) (kd : Int) (xs : List Int) (la : Option Addr) (lc : Nat) (w : World) (hl : ns.length ≤ 1048576) (hxl : xs.length ≤ 1048576) (ha : AddrN a cap) (hr : RowN w.heap.size w a ns) (hx : RowI w.heap.size w la xs) :
    Calls Try.prog 19 #[.agg #[.slice a ns.length cap], .int .i64 kd, .slice la xs.length lc] w fun e w' => ∃ v, e = .returned (.tuple #[.agg #[v], .int .i64 (ltK ns kd xs)]) ∧ OwnN w.heap.size w' v (keptA ns (ltA ns kd xs) (ltK ns kd xs)) ∧ Below w.heap.size w w' := by
  obtain ⟨A, K, HP, HN, hEK, hEA⟩ : ∃ (A : List Nd) (K : Int), Hid (∀ (B g : Nat) (wz : World), w.heap.size ≤ B → Below w.heap.size w wz → ArenaAt B wz g ns → B ≤ wz.heap.size → Calls Try.prog 52 #[.pointer (some ⟨g, 0, none⟩), .int .i64 kd, .slice la xs.length lc] wz fun e w' => e = .returned (.int .i64 K) ∧ ArenaAt B w' g A ∧ Below B wz w') ∧ Hid True ∧ K = ltK ns kd xs ∧ A = ltA ns kd xs := ⟨_, _, fun B g wz hwB hwz h hB => (specLetD_any (fun k => k < B) g ns kd xs la lc wz hl hxl (rowD_of (hx.later hwz) (fun k hk => by omega)) h.toD (fun k hk => Nat.lt_of_lt_of_le hk hB)).mono fun _ _ ⟨he, ha, hs⟩ => ⟨he, ha.toB, hs.below (fun k hk => hk)⟩, trivial, rfl, rfl⟩
  rw [← hEK, ← hEA]
  clear hEK hEA HN
  have hb0 : Below w.heap.size w ((w.alloc (.cells #[.slice a ns.length cap] 30)).alloc (.cells #[.slice none 0 0] 30)) := ((Below.refl _ _).alloc (Nat.le_refl _) _).alloc (by simp) _
  have hs0 : ((w.alloc (.cells #[.slice a ns.length cap] 30)).alloc (.cells #[.slice none 0 0] 30)).heap.size = w.heap.size + 2 := by simp
  have hA0 : ((w.alloc (.cells #[.slice a ns.length cap] 30)).alloc (.cells #[.slice none 0 0] 30)).heap[w.heap.size]? = some (.cells #[.slice a ns.length cap] 30 (0, 0)) := (heap_alloc_old _ _ (by simp)).trans (heap_alloc_new w _)
  have hr0 : ((w.alloc (.cells #[.slice a ns.length cap] 30)).alloc (.cells #[.slice none 0 0] 30)).heap[w.heap.size + 1]? = some (.cells #[.slice none 0 0] 30 (0, 0)) := by
    have := heap_alloc_new (w.alloc (.cells #[.slice a ns.length cap] 30)) (.cells #[.slice none 0 0] 30)
    simpa using this
  clear hx
  have HR : Hid (RowN w.heap.size w a ns) := hr
  have HA : Hid (AddrN a cap) := ha
  clear hr ha
  go_enter Try.func19, Try.ntmps19
  go_wp2_with fail
  generalize (w.alloc (.cells #[.slice a ns.length cap] 30)).alloc (.cells #[.slice none 0 0] 30) = w0 at hb0 hs0 hA0 hr0 ⊢
  refine (specCopy_any a cap ns w0 hl HA.out (HR.out.grown hb0)).mono ?_
  rintro e w1 ⟨v, rfl, hown, hb1⟩
  obtain ⟨a1, cap1, rfl, ha1, hr1⟩ := hown.row
  have hs1 := hb1.size
  have hbA : Below w1.heap.size w1 (w1.alloc (.cells #[.slice a1 ns.length cap1] 30)) := (Below.refl _ _).alloc (Nat.le_refl _) _
  have HAt : Hid (ArenaAt w0.heap.size (w1.alloc (.cells #[.slice a1 ns.length cap1] 30)) w1.heap.size ns) := ⟨hs1, by simp, _, heap_alloc_new w1 _, hown.later hbA, fun h => by have := (hown.lt _ h).2; omega⟩
  have HB1 : Hid (Below w.heap.size w (w1.alloc (.cells #[.slice a1 ns.length cap1] 30))) := (hb0.trans (hb1.mono (by omega))).trans (hbA.mono (by omega))
  have HA1 : Hid ((w1.alloc (.cells #[.slice a1 ns.length cap1] 30)).heap[w.heap.size]? = some (.cells #[.slice a ns.length cap] 30 (0, 0))) := (hbA.block _ (by omega)).trans ((hb1.block w.heap.size (by omega)).trans hA0)
  have HR1 : Hid ((w1.alloc (.cells #[.slice a1 ns.length cap1] 30)).heap[w.heap.size + 1]? = some (.cells #[.slice none 0 0] 30 (0, 0))) := (hbA.block _ (by omega)).trans ((hb1.block (w.heap.size + 1) (by omega)).trans hr0)
  clear hown hb0 hb1 hA0 hr0 ha1 hr1 hbA
  go_wp2_with fail
  refine Calls.mono (HP.out _ _ _ (by omega) HB1.out HAt.out (by simp; omega)) ?_
  rintro e w2 ⟨rfl, hat, hb2⟩
  obtain ⟨t1, t2, v2, t3, t4, t5⟩ := hat
  obtain ⟨a2, cap2, rfl, -, -⟩ := t4.row
  have HB2 : Hid (Below w.heap.size w w2) := HB1.out.trans (hb2.mono (by omega))
  have hA2 := (hb2.block w.heap.size (by omega)).trans HA1.out
  have hR2 := (hb2.block (w.heap.size + 1) (by omega)).trans HR1.out
  have o0 : w2.cell? ⟨w.heap.size, 0, none⟩ = some (.slice a ns.length cap) := (cell_of_row w2 _ 0 _ _ _ hA2).trans rfl
  have o1 : w2.cell? ⟨w1.heap.size, 0, none⟩ = some (.slice a2 A.length cap2) := (cell_of_row w2 _ 0 _ _ _ t3).trans rfl
  have HR2 : Hid (w2.heap[w.heap.size + 1]? = some (.cells #[.slice none 0 0] 30 (0, 0))) := hR2
  have HO2 : Hid (OwnN w0.heap.size w2 (.slice a2 A.length cap2) A) := t4
  have hs2 : w1.heap.size < w2.heap.size := t2
  clear HP HAt hb2 HB1 HA1 HR1 t1 t2 t3 t4 t5 hA2 hR2
  go_wp2_with fail
  refine (kept_any a a2 cap cap2 ns A K w2 hl HA.out (HR.out.grown HB2.out)).mono ?_
  rintro e w3 ⟨v3, rfl, hb3, hn3, hp3⟩
  obtain ⟨a3, n3, c3, rfl⟩ : ∃ a n c, v3 = .slice a n c := by
    by_cases hk : K < 0
    · obtain ⟨a3, c3, rfl, -, -⟩ := (hn3 hk).row; exact ⟨_, _, _, rfl⟩
    · exact ⟨_, _, _, hp3 hk⟩
  have hR3 := (hb3.block (w.heap.size + 1) (by omega)).trans HR2.out
  have r0 : w3.cell? ⟨w.heap.size + 1, 0, none⟩ = some (.slice none 0 0) := (cell_of_row w3 _ 0 _ _ _ hR3).trans rfl
  have f0 : w3.frozen? ⟨w.heap.size + 1, 0, none⟩ = false := frozen_of_row w3 _ 0 _ _ hR3
  have HBL : Hid ((w3.setCell ⟨w.heap.size + 1, 0, none⟩ (.slice a3 n3 c3)).heap[w.heap.size + 1]? = some (.cells #[.slice a3 n3 c3] 30 (0, 0))) := (heap_setCell_same w3 _ 0 _ _ _ hR3).trans rfl
  have HO3 : Hid (OwnN w.heap.size (w3.setCell ⟨w.heap.size + 1, 0, none⟩ (.slice a3 n3 c3)) (.slice a3 n3 c3) (keptA ns A K)) := by
    by_cases hk : K < 0
    · show OwnN _ _ _ _; rw [keptA_neg hk]; exact OwnN.base (ownsRow_setCell_below (hn3 hk) (show w.heap.size + 1 < w2.heap.size by omega) _) (by omega)
    · show OwnN _ _ _ _; rw [keptA_pos hk, hp3 hk]; exact OwnN.base (ownsRow_setCell_below (HO2.out.later hb3) (show w.heap.size + 1 < w0.heap.size by omega) _) (by omega)
  have HB3 : Hid (Below w.heap.size w (w3.setCell ⟨w.heap.size + 1, 0, none⟩ (.slice a3 n3 c3))) := (HB2.out.trans (hb3.mono (by omega))).setCell (show w.heap.size ≤ w.heap.size + 1 by omega) _
  clear hb3 hn3 hp3 hR3 o0 o1 HO2 HR2 HB2
  go_wp2
  refine bodyPost_ret (res_cell2 rfl _ _ (w.heap.size + 1) 30 #[.slice a3 n3 c3] (0, 0) _ rfl ?_ Try.underlying30 rfl arenaSize) rfl ?_
  · exact HBL.out
  · exact ⟨_, rfl, HO3.out, HB3.out⟩
end Go.Proofs.Ytlecpjgeaigjkaa
