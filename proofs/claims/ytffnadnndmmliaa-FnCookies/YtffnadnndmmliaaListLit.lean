/- l04List of a list that is written out, the specification's. -/
import Derived.Test.YtffnadnndmmliaaArenaD
import Derived.WalkKit
import Derived.WalkLawsBesides
import Derived.WalkSpells
import Derived.Laws.Rows
import Derived.Test.YtffnadnndmmliaaKeptS
import Derived.Test.YtffnadnndmmliaaTold7
namespace Go.Proofs.Ytffnadnndmmliaa
open Go.RowKit
set_option linter.unusedVariables false
/-- A row of ints that was just made. -/
theorem rowD_new (D : Nat → Prop) (w : World) (xs : List Int) : RowD (fun k => D k ∨ k = w.heap.size) (w.alloc (.cells (xs.map (Value.int .i64)).toArray 3)) (some ⟨w.heap.size, 0, none⟩) xs := by
  refine .inr ⟨w.heap.size, 0, rfl, .inr rfl, fun j hj => ?_⟩
  rw [Nat.zero_add]
  refine (cell_of_row _ w.heap.size j _ _ _ (heap_alloc_new w _)).trans ?_
  simp [List.getD_eq_getElem?_getD, List.getElem?_eq_getElem hj]
/-- l04List of a list that is written out. -/
theorem listLit_any (D : Nat → Prop) (g : Nat) (ns : List Nd) (xs : List Int) (w : World) (hl : ns.length ≤ 1048576) (hxl : xs.length ≤ 2000000) (h : ArD D w g ns) (hB : ∀ k, D k → k < w.heap.size) :
    Calls Try.prog 138 #[.pointer (some ⟨g, 0, none⟩), .slice (some ⟨w.heap.size, 0, none⟩) xs.length xs.length] (w.alloc (.cells (xs.map (Value.int .i64)).toArray 3)) fun e w' => e = .returned (.int .i64 (listF xs ns).2) ∧ ArD D w' g (listF xs ns).1 ∧ Safe D w w' := by
  have hbA : Below w.heap.size w (w.alloc (.cells (xs.map (Value.int .i64)).toArray 3)) := (Below.refl _ _).alloc (Nat.le_refl _) _
  refine (listD_any (fun k => D k ∨ k = w.heap.size) g ns _ xs.length xs _ hl hxl (rowD_new D w xs) (h.wide (Nat.le_refl _) _ hbA) (fun k hk => ?_)).mono fun e w' ⟨he, ha, hs⟩ => ⟨he, ha.narrow (fun k hk => .inl hk), (Safe.of_below hbA hB).trans (hs.mono (fun k hk => .inl hk))⟩
  rcases hk with hk | hk
  · have := hB k hk; simp; omega
  · subst hk; simp
end Go.Proofs.Ytffnadnndmmliaa

namespace Go.Proofs.Ytffnadnndmmliaa
open Go.RowKit
set_option linter.unusedVariables false
/-- A cookie, made step by step. -/
def ckA1 (ns : List Nd) (s : Int) : List Nd := putA ns ⟨1, s, 0, 0⟩
def ckK1 (ns : List Nd) (s : Int) : Int := putK ns ⟨1, s, 0, 0⟩
def ckA2 (ns : List Nd) (s d : Int) : List Nd := putA (ckA1 ns s) ⟨1, d, 0, 0⟩
def ckK2 (ns : List Nd) (s d : Int) : Int := putK (ckA1 ns s) ⟨1, d, 0, 0⟩
def ckA3 (ns : List Nd) (s d h : Int) : List Nd := makeA (ckA2 ns s d) 3 h 0
def ckK3 (ns : List Nd) (s d h : Int) : Int := makeK (ckA2 ns s d) 3 h 0
def ckL (ns : List Nd) (s d h : Int) : List Nd × Int := listF [ckK2 ns s d, ckK3 ns s d h] (ckA3 ns s d h)
def ckA (ns : List Nd) (s d h : Int) : List Nd := makeA (ckL ns s d h).1 9 (ckK1 ns s) (ckL ns s d h).2
def ckK (ns : List Nd) (s d h : Int) : Int := makeK (ckL ns s d h).1 9 (ckK1 ns s) (ckL ns s d h).2
theorem ckA2_le {ns : List Nd} {s d : Int} (h : ns.length ≤ 1048576) : (ckA2 ns s d).length ≤ 1048576 := putA_le2 (putA_le2 h)
theorem ckA3_le {ns : List Nd} {s d x : Int} (h : ns.length ≤ 1048576) : (ckA3 ns s d x).length ≤ 1048576 := makeA_le (ckA2_le h)
theorem ckL_le {ns : List Nd} {s d x : Int} (h : ns.length ≤ 1048576) : (ckL ns s d x).1.length ≤ 1048576 := listF_le _ (ckA3_le h)
theorem ckA_le {ns : List Nd} {s d x : Int} (h : ns.length ≤ 1048576) : (ckA ns s d x).length ≤ 1048576 := makeA_le (ckL_le h)
/-- Whether it is that. -/
def ckOk (ns : List Nd) (s d h c : Int) : Bool := decide (0 ≤ ckK ns s d h) && decide (ckK ns s d h = c)
set_option maxHeartbeats 3200000 in
theorem specCookD_any (D : Nat → Prop) (g : Nat) (ns : List Nd) (se : Int) (ad : Int) (he : Int) (w : World) (hl : ns.length ≤ 1048576) (h : ArD D w g ns) (hB : ∀ k, D k → k < w.heap.size) :
    Calls Try.prog 128 #[.pointer (some ⟨g, 0, none⟩), .int .i64 se, .int .i64 ad, .int .i64 he] w fun e w' => e = .returned (.int .i64 (ckK ns se ad he)) ∧ ArD D w' g (ckA ns se ad he) ∧ Safe D w w' := by
  have H0 : Hid (ArD D w g ns ∧ Safe D w w) := ⟨h, Safe.refl _ _⟩
  have HBO : Hid (∀ k, D k → k < w.heap.size) := hB
  clear h hB
  go_enter Try.func128, Try.ntmps128
  go_wp2_with fail
  refine Calls.mono (specAtomD_any D g (ns) (se) w (hl) H0.out.1 (H0.out.2.old HBO.out)) ?_
  rintro e w1 ⟨rfl, ha, hb⟩
  have H1 : Hid (ArD D w1 g _ ∧ Safe D w w1) := ⟨ha, H0.out.2.trans hb⟩
  clear ha hb H0
  go_wp2_with fail
  refine Calls.mono (specAtomD_any D g (ckA1 ns se) (ad) w1 (putA_le2 hl) H1.out.1 (H1.out.2.old HBO.out)) ?_
  rintro e w2 ⟨rfl, ha, hb⟩
  have H2 : Hid (ArD D w2 g _ ∧ Safe D w w2) := ⟨ha, H1.out.2.trans hb⟩
  clear ha hb H1
  go_wp2_with fail
  refine Calls.mono (specMakeD_any D g (ckA2 ns se ad) 3 (he) (0) w2 (ckA2_le hl) H2.out.1 (H2.out.2.old HBO.out)) ?_
  rintro e w3 ⟨rfl, ha, hb⟩
  have H3 : Hid (ArD D w3 g _ ∧ Safe D w w3) := ⟨ha, H2.out.2.trans hb⟩
  clear ha hb H2
  go_wp2_with fail
  refine Calls.mono (listLit_any D g (ckA3 ns se ad he) [ckK2 ns se ad, ckK3 ns se ad he] w3 (ckA3_le hl) (by simp) H3.out.1 (H3.out.2.old HBO.out)) ?_
  rintro e w4 ⟨rfl, ha, hb⟩
  have H4 : Hid (ArD D w4 g _ ∧ Safe D w w4) := ⟨ha, H3.out.2.trans hb⟩
  clear ha hb H3
  go_wp2_with fail
  refine Calls.mono (specMakeD_any D g ((ckL ns se ad he).1) 9 (ckK1 ns se) ((ckL ns se ad he).2) w4 (ckL_le hl) H4.out.1 (H4.out.2.old HBO.out)) ?_
  rintro e w5 ⟨rfl, ha, hb⟩
  have H5 : Hid (ArD D w5 g _ ∧ Safe D w w5) := ⟨ha, H4.out.2.trans hb⟩
  clear ha hb H4
  go_wp2
  go_ret
  exact ⟨rfl, H5.out.1, H5.out.2⟩
set_option maxHeartbeats 1600000 in
theorem specCookie_any (a : Option Addr) (cap : Nat) (ns : List Nd) (se : Int) (ad : Int) (he : Int) (w : World) (hl : ns.length ≤ 1048576) (ha : AddrN a cap) (hr : RowN w.heap.size w a ns) :
    Calls Try.prog 56 #[.agg #[.slice a ns.length cap], .int .i64 se, .int .i64 ad, .int .i64 he] w fun e w' => ∃ v, e = .returned (.tuple #[.agg #[v], .int .i64 (ckK ns se ad he)]) ∧ OwnN w.heap.size w' v (keptA ns (ckA ns se ad he) (ckK ns se ad he)) ∧ Below w.heap.size w w' := by
  obtain ⟨A, K, HP, HN, hEK, hEA⟩ : ∃ (A : List Nd) (K : Int), Hid (∀ (B g : Nat) (wz : World), ArenaAt B wz g ns → B ≤ wz.heap.size → Calls Try.prog 128 #[.pointer (some ⟨g, 0, none⟩), .int .i64 se, .int .i64 ad, .int .i64 he] wz fun e w' => e = .returned (.int .i64 K) ∧ ArenaAt B w' g A ∧ Below B wz w') ∧ Hid True ∧ K = ckK ns se ad he ∧ A = ckA ns se ad he := ⟨_, _, fun B g wz h hB => (specCookD_any (fun k => k < B) g ns se ad he wz hl h.toD (fun k hk => Nat.lt_of_lt_of_le hk hB)).mono fun _ _ ⟨he, ha, hs⟩ => ⟨he, ha.toB, hs.below (fun k hk => hk)⟩, trivial, rfl, rfl⟩
  rw [← hEK, ← hEA]
  clear hEK hEA HN
  have hb0 : Below w.heap.size w ((w.alloc (.cells #[.slice a ns.length cap] 28)).alloc (.cells #[.slice none 0 0] 28)) := ((Below.refl _ _).alloc (Nat.le_refl _) _).alloc (by simp) _
  have hs0 : ((w.alloc (.cells #[.slice a ns.length cap] 28)).alloc (.cells #[.slice none 0 0] 28)).heap.size = w.heap.size + 2 := by simp
  have hA0 : ((w.alloc (.cells #[.slice a ns.length cap] 28)).alloc (.cells #[.slice none 0 0] 28)).heap[w.heap.size]? = some (.cells #[.slice a ns.length cap] 28 (0, 0)) := (heap_alloc_old _ _ (by simp)).trans (heap_alloc_new w _)
  have hr0 : ((w.alloc (.cells #[.slice a ns.length cap] 28)).alloc (.cells #[.slice none 0 0] 28)).heap[w.heap.size + 1]? = some (.cells #[.slice none 0 0] 28 (0, 0)) := by
    have := heap_alloc_new (w.alloc (.cells #[.slice a ns.length cap] 28)) (.cells #[.slice none 0 0] 28)
    simpa using this
  have HR : Hid (RowN w.heap.size w a ns) := hr
  have HA : Hid (AddrN a cap) := ha
  clear hr ha
  go_enter Try.func56, Try.ntmps56
  go_wp2_with fail
  generalize (w.alloc (.cells #[.slice a ns.length cap] 28)).alloc (.cells #[.slice none 0 0] 28) = w0 at hb0 hs0 hA0 hr0 ⊢
  refine (specCopy_any a cap ns w0 hl HA.out (HR.out.grown hb0)).mono ?_
  rintro e w1 ⟨v, rfl, hown, hb1⟩
  obtain ⟨a1, cap1, rfl, ha1, hr1⟩ := hown.row
  have hs1 := hb1.size
  have hbA : Below w1.heap.size w1 (w1.alloc (.cells #[.slice a1 ns.length cap1] 28)) := (Below.refl _ _).alloc (Nat.le_refl _) _
  have HAt : Hid (ArenaAt w0.heap.size (w1.alloc (.cells #[.slice a1 ns.length cap1] 28)) w1.heap.size ns) := ⟨hs1, by simp, _, heap_alloc_new w1 _, hown.later hbA, fun h => by have := (hown.lt _ h).2; omega⟩
  have HB1 : Hid (Below w.heap.size w (w1.alloc (.cells #[.slice a1 ns.length cap1] 28))) := (hb0.trans (hb1.mono (by omega))).trans (hbA.mono (by omega))
  have HA1 : Hid ((w1.alloc (.cells #[.slice a1 ns.length cap1] 28)).heap[w.heap.size]? = some (.cells #[.slice a ns.length cap] 28 (0, 0))) := (hbA.block _ (by omega)).trans ((hb1.block w.heap.size (by omega)).trans hA0)
  have HR1 : Hid ((w1.alloc (.cells #[.slice a1 ns.length cap1] 28)).heap[w.heap.size + 1]? = some (.cells #[.slice none 0 0] 28 (0, 0))) := (hbA.block _ (by omega)).trans ((hb1.block (w.heap.size + 1) (by omega)).trans hr0)
  clear hown hb0 hb1 hA0 hr0 ha1 hr1 hbA
  go_wp2_with fail
  refine Calls.mono (HP.out _ _ _ HAt.out (by simp; omega)) ?_
  rintro e w2 ⟨rfl, hat, hb2⟩
  obtain ⟨t1, t2, v2, t3, t4, t5⟩ := hat
  obtain ⟨a2, cap2, rfl, -, -⟩ := t4.row
  have HB2 : Hid (Below w.heap.size w w2) := HB1.out.trans (hb2.mono (by omega))
  have hA2 := (hb2.block w.heap.size (by omega)).trans HA1.out
  have hR2 := (hb2.block (w.heap.size + 1) (by omega)).trans HR1.out
  have o0 : w2.cell? ⟨w.heap.size, 0, none⟩ = some (.slice a ns.length cap) := (cell_of_row w2 _ 0 _ _ _ hA2).trans rfl
  have o1 : w2.cell? ⟨w1.heap.size, 0, none⟩ = some (.slice a2 A.length cap2) := (cell_of_row w2 _ 0 _ _ _ t3).trans rfl
  have HR2 : Hid (w2.heap[w.heap.size + 1]? = some (.cells #[.slice none 0 0] 28 (0, 0))) := hR2
  have HO2 : Hid (OwnN w0.heap.size w2 (.slice a2 A.length cap2) A) := t4
  have hs2 : w1.heap.size < w2.heap.size := t2
  clear HP HAt hb2 HB1 HA1 HR1 t1 t2 t3 t4 t5 hA2 hR2
  go_wp2_with fail
  refine (kept_any a a2 cap cap2 ns A K w2 hl HA.out (HR.out.grown HB2.out)).mono ?_
  rintro e w3 ⟨v3, rfl, hb3, hn3, hp3⟩
  obtain ⟨a3, n3, c3, rfl⟩ : ∃ a n c, v3 = .slice a n c := by
    by_cases hk : K < 0
    · obtain ⟨a3, c3, rfl, -, -⟩ := (hn3 hk).row; exact ⟨_, _, _, rfl⟩
    · exact ⟨_, _, _, hp3 hk⟩
  have hR3 := (hb3.block (w.heap.size + 1) (by omega)).trans HR2.out
  have r0 : w3.cell? ⟨w.heap.size + 1, 0, none⟩ = some (.slice none 0 0) := (cell_of_row w3 _ 0 _ _ _ hR3).trans rfl
  have f0 : w3.frozen? ⟨w.heap.size + 1, 0, none⟩ = false := frozen_of_row w3 _ 0 _ _ hR3
  have HBL : Hid ((w3.setCell ⟨w.heap.size + 1, 0, none⟩ (.slice a3 n3 c3)).heap[w.heap.size + 1]? = some (.cells #[.slice a3 n3 c3] 28 (0, 0))) := (heap_setCell_same w3 _ 0 _ _ _ hR3).trans rfl
  have HO3 : Hid (OwnN w.heap.size (w3.setCell ⟨w.heap.size + 1, 0, none⟩ (.slice a3 n3 c3)) (.slice a3 n3 c3) (keptA ns A K)) := by
    by_cases hk : K < 0
    · show OwnN _ _ _ _; rw [keptA_neg hk]; exact OwnN.base (ownsRow_setCell_below (hn3 hk) (show w.heap.size + 1 < w2.heap.size by omega) _) (by omega)
    · show OwnN _ _ _ _; rw [keptA_pos hk, hp3 hk]; exact OwnN.base (ownsRow_setCell_below (HO2.out.later hb3) (show w.heap.size + 1 < w0.heap.size by omega) _) (by omega)
  have HB3 : Hid (Below w.heap.size w (w3.setCell ⟨w.heap.size + 1, 0, none⟩ (.slice a3 n3 c3))) := (HB2.out.trans (hb3.mono (by omega))).setCell (show w.heap.size ≤ w.heap.size + 1 by omega) _
  clear hb3 hn3 hp3 hR3 o0 o1 HO2 HR2 HB2
  go_wp2
  refine bodyPost_ret (res_cell2 rfl _ _ (w.heap.size + 1) 28 #[.slice a3 n3 c3] (0, 0) _ rfl ?_ Try.underlying28 rfl arenaSize) rfl ?_
  · exact HBL.out
  · exact ⟨_, rfl, HO3.out, HB3.out⟩
set_option maxHeartbeats 1600000 in
theorem specCookOk_any (a : Option Addr) (cap : Nat) (ns : List Nd) (se ad he c : Int) (w : World) (hl : ns.length ≤ 1048576) (ha : AddrN a cap) (hr : RowN w.heap.size w a ns) :
    Calls Try.prog 61 #[.agg #[.slice a ns.length cap], .int .i64 se, .int .i64 ad, .int .i64 he, .int .i64 c] w fun e w' => e = .returned (.bool (ckOk ns se ad he c)) ∧ Below w.heap.size w w' := by
  obtain ⟨A, K, HP, HN, hEK⟩ : ∃ (A : List Nd) (K : Int), Hid (∀ (B g : Nat) (wz : World), ArenaAt B wz g ns → B ≤ wz.heap.size → Calls Try.prog 128 #[.pointer (some ⟨g, 0, none⟩), .int .i64 se, .int .i64 ad, .int .i64 he] wz fun e w' => e = .returned (.int .i64 K) ∧ ArenaAt B w' g A ∧ Below B wz w') ∧ Hid True ∧ K = ckK ns se ad he := ⟨_, _, fun B g wz h hB => (specCookD_any (fun k => k < B) g ns se ad he wz hl h.toD (fun k hk => Nat.lt_of_lt_of_le hk hB)).mono fun _ _ ⟨he, ha, hs⟩ => ⟨he, ha.toB, hs.below (fun k hk => hk)⟩, trivial, rfl⟩
  have HQ : Hid (ckOk ns se ad he c = (decide (0 ≤ K) && decide (K = c))) := by show _ = _; unfold ckOk; rw [← hEK]
  clear hEK HN
  have hb0 : Below w.heap.size w (w.alloc (.cells #[.slice a ns.length cap] 28)) := (Below.refl _ _).alloc (Nat.le_refl _) _
  have hs0 : (w.alloc (.cells #[.slice a ns.length cap] 28)).heap.size = w.heap.size + 1 := by simp
  have hA0 : (w.alloc (.cells #[.slice a ns.length cap] 28)).heap[w.heap.size]? = some (.cells #[.slice a ns.length cap] 28 (0, 0)) := heap_alloc_new w _
  have HR : Hid (RowN w.heap.size w a ns) := hr
  have HA : Hid (AddrN a cap) := ha
  clear hr ha
  go_enter Try.func61, Try.ntmps61
  go_wp2_with fail
  generalize w.alloc (.cells #[.slice a ns.length cap] 28) = w0 at hb0 hs0 hA0 ⊢
  refine (specCopy_any a cap ns w0 hl HA.out (HR.out.grown hb0)).mono ?_
  rintro e w1 ⟨v, rfl, hown, hb1⟩
  obtain ⟨a1, cap1, rfl, ha1, hr1⟩ := hown.row
  have hs1 := hb1.size
  have hbA : Below w1.heap.size w1 (w1.alloc (.cells #[.slice a1 ns.length cap1] 28)) := (Below.refl _ _).alloc (Nat.le_refl _) _
  have HAt : Hid (ArenaAt w0.heap.size (w1.alloc (.cells #[.slice a1 ns.length cap1] 28)) w1.heap.size ns) := ⟨hs1, by simp, _, heap_alloc_new w1 _, hown.later hbA, fun h => by have := (hown.lt _ h).2; omega⟩
  have HB1 : Hid (Below w.heap.size w (w1.alloc (.cells #[.slice a1 ns.length cap1] 28))) := (hb0.trans (hb1.mono (by omega))).trans (hbA.mono (by omega))
  clear hown hb0 hb1 hA0 ha1 hr1 hbA
  go_wp2_with fail
  refine Calls.mono (HP.out _ _ _ HAt.out (by simp; omega)) ?_
  rintro e w2 ⟨rfl, -, hb2⟩
  have HB2 : Hid (Below w.heap.size w w2) := HB1.out.trans (hb2.mono (by omega))
  clear HP HAt hb2 HB1
  by_cases h1 : 0 ≤ K
  · by_cases h2 : K = c
    · have HF : Hid ((decide (0 ≤ K) && decide (K = c)) = true) := by show _ = _; rw [decide_eq_true h1, decide_eq_true h2]; rfl
      have hq : (K == c) = true := by rw [h2]; simp
      clear h2
      go_wp2
      go_ret
      exact ⟨by rw [HQ.out, HF.out]; rfl, HB2.out⟩
    · have HF : Hid ((decide (0 ≤ K) && decide (K = c)) = false) := by show _ = _; rw [decide_eq_true h1, decide_eq_false h2]; rfl
      have hq : (K == c) = false := by simpa using h2
      clear h2
      go_wp2
      go_ret
      exact ⟨by rw [HQ.out, HF.out]; rfl, HB2.out⟩
  · have HF : Hid ((decide (0 ≤ K) && decide (K = c)) = false) := by show _ = _; rw [decide_eq_false h1]; rfl
    go_wp2
    go_ret
    exact ⟨by rw [HQ.out, HF.out]; rfl, HB2.out⟩
end Go.Proofs.Ytffnadnndmmliaa

namespace Go.Proofs.Ytffnadnndmmliaa
open Go.RowKit
set_option linter.unusedVariables false
theorem make_as9 {ns : List Nd} {k x y : Int} (h : ¬ (k = 1 ∨ k = 7)) : makeA ns k x y = putA ns (mkNd k x y) ∧ makeK ns k x y = putK ns (mkNd k x y) := by
  unfold makeA makeK; rw [if_neg h, if_neg h]; exact ⟨rfl, rfl⟩
def cookT (s d h : Int) : Tl := .two 9 (.atom s) (.list [.atom d, .hash (.pl h)])
theorem cookT_f (ns : List Nd) (s d h : Int) : (cookT s d h).f ns = (ckA ns s d h, ckK ns s d h) := by
  unfold ckA ckK ckL ckA3 ckK3
  rw [(make_as9 (k := 9) (by omega)).1, (make_as9 (k := 9) (by omega)).2, (make_as9 (k := 3) (by omega)).1, (make_as9 (k := 3) (by omega)).2]
  rfl
theorem ckK_neg {ns : List Nd} {s d h : Int} (hk : ckK ns s d h < 0) : ckK ns s d h = -1 := makeK_neg (show makeK _ _ _ _ < 0 from hk)
theorem cookT_wf {s d h : Int} (hs : (Lit.int .i64 s).wf = true) (hd : (Lit.int .i64 d).wf = true) (hh : (Lit.int .i64 h).wf = true) : (cookT s d h).Wf := ⟨by omega, by omega, hs, by simp, hd, hh, trivial⟩
theorem ifneg9 {K : Int} (h : K < 0 → K = -1) : (if K < 0 then -1 else K) = K := by
  split
  · rename_i h1; exact (h h1).symm
  · rfl
/-- What putIn gives of it. -/
theorem cookPut {L : Nat} (v : Value) (a : Option Addr) (cap : Nat) (ns : List Nd) (s d h : Int) (w : World) (hl : ns.length ≤ 1048576) (hf : ∀ y ∈ ns, y.Fits) (hs : (Lit.int .i64 s).wf = true) (hd : (Lit.int .i64 d).wf = true) (hh : (Lit.int .i64 h).wf = true) (ha : AddrN a cap) (hr : RowN w.heap.size w a ns) (ht : ToldIs L w.heap.size w (cookT s d h) v) :
    Calls Try.prog 112 #[v, .agg #[.slice a ns.length cap]] w fun e w' => ∃ v', e = .returned (.tuple #[.agg #[v'], .int .i64 (ckK ns s d h)]) ∧ OwnC w.heap.size w' v' (keptA ns (ckA ns s d h) (ckK ns s d h)) ∧ Below w.heap.size w w' := by
  have := putIn_any (cookT s d h) v a cap ns w (cookT_wf hs hd hh) ht hl hf ha hr
  rw [cookT_f] at this
  simp only at this
  rw [ifneg9 (K := ckK ns s d h) (fun hk => ckK_neg hk)] at this
  exact this
theorem toldAll2 {L B : Nat} {w : World} {x y : Tl} {a b : Value} (h1 : ToldIs L B w x a) (h2 : ToldIs L B w y b) : ToldAll L B w [x, y] [a, b] := by
  refine ⟨rfl, fun m hm => ?_⟩
  rcases (show m = 0 ∨ m = 1 by simp at hm; omega) with rfl | rfl
  · exact h1
  · exact h2
end Go.Proofs.Ytffnadnndmmliaa
