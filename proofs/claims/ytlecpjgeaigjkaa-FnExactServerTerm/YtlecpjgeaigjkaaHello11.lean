/- The contracts of chapter 11's HelloTerm and ServerTerm, the specification's, and what they make in plain words. -/
import Derived.Test.YtlecpjgeaigjkaaArenaD
import Derived.Test.YtlecpjgeaigjkaaKeptS
import Derived.Test.YtlecpjgeaigjkaaListLit
import Derived.WalkKit
import Derived.WalkLawsBesides
import Derived.WalkSpells
import Derived.Laws.Rows
namespace Go.Proofs.Ytlecpjgeaigjkaa
open Go.RowKit
set_option linter.unusedVariables false
/-- A server's words. -/
def svL (ns : List Nd) (no pu : Int) : List Nd × Int := listF [putK ns ⟨1, 62, 0, 0⟩, no, pu] (putA ns ⟨1, 62, 0, 0⟩)
def svA (ns : List Nd) (no pu : Int) : List Nd := (svL ns no pu).1
def svK (ns : List Nd) (no pu : Int) : Int := (svL ns no pu).2
theorem svA_le {ns : List Nd} {no pu : Int} (h : ns.length ≤ 1048576) : (svA ns no pu).length ≤ 1048576 := listF_le _ (putA_le2 h)
/-- A hello. -/
def hlA1 (ns : List Nd) : List Nd := putA ns ⟨1, 61, 0, 0⟩
def hlA2 (ns : List Nd) (mo : Int) : List Nd := putA (hlA1 ns) ⟨1, mo, 0, 0⟩
def hlA3 (ns : List Nd) (mo na : Int) : List Nd := putA (hlA2 ns mo) ⟨1, na, 0, 0⟩
def hlL (ns : List Nd) (mo na no pu : Int) : List Nd × Int := listF [putK ns ⟨1, 61, 0, 0⟩, putK (hlA1 ns) ⟨1, mo, 0, 0⟩, putK (hlA2 ns mo) ⟨1, na, 0, 0⟩, no, pu] (hlA3 ns mo na)
def hlA (ns : List Nd) (mo na no pu : Int) : List Nd := (hlL ns mo na no pu).1
def hlK (ns : List Nd) (mo na no pu : Int) : Int := (hlL ns mo na no pu).2
theorem hlA3_le {ns : List Nd} {mo na : Int} (h : ns.length ≤ 1048576) : (hlA3 ns mo na).length ≤ 1048576 := putA_le2 (putA_le2 (putA_le2 h))
theorem hlA_le {ns : List Nd} {mo na no pu : Int} (h : ns.length ≤ 1048576) : (hlA ns mo na no pu).length ≤ 1048576 := listF_le _ (hlA3_le h)
set_option maxHeartbeats 3200000 in
theorem specSrvD_any (D : Nat → Prop) (g : Nat) (ns : List Nd) (no : Int) (pu : Int) (w : World) (hl : ns.length ≤ 1048576) (h : ArD D w g ns) (hB : ∀ k, D k → k < w.heap.size) :
    Calls Try.prog 50 #[.pointer (some ⟨g, 0, none⟩), .int .i64 no, .int .i64 pu] w fun e w' => e = .returned (.int .i64 (svK ns no pu)) ∧ ArD D w' g (svA ns no pu) ∧ Safe D w w' := by
  have H0 : Hid (ArD D w g ns ∧ Safe D w w) := ⟨h, Safe.refl _ _⟩
  have HBO : Hid (∀ k, D k → k < w.heap.size) := hB
  clear h hB
  go_enter Try.func50, Try.ntmps50
  go_wp2_with fail
  refine Calls.mono (specAtomD_any D g (ns) (62) w (hl) H0.out.1 (H0.out.2.old HBO.out)) ?_
  rintro e w1 ⟨rfl, ha, hb⟩
  have H1 : Hid (ArD D w1 g _ ∧ Safe D w w1) := ⟨ha, H0.out.2.trans hb⟩
  clear ha hb H0
  go_wp2_with fail
  refine Calls.mono (listLit_any D g (putA ns ⟨1, 62, 0, 0⟩) [putK ns ⟨1, 62, 0, 0⟩, no, pu] w1 (putA_le2 hl) (by simp) H1.out.1 (H1.out.2.old HBO.out)) ?_
  rintro e w2 ⟨rfl, ha, hb⟩
  have H2 : Hid (ArD D w2 g _ ∧ Safe D w w2) := ⟨ha, H1.out.2.trans hb⟩
  clear ha hb H1
  go_wp2
  go_ret
  exact ⟨rfl, H2.out.1, H2.out.2⟩
set_option maxHeartbeats 1600000 in
theorem specServer_any (a : Option Addr) (cap : Nat) (ns : List Nd) (no : Int) (pu : Int) (w : World) (hl : ns.length ≤ 1048576) (ha : AddrN a cap) (hr : RowN w.heap.size w a ns) :
    Calls Try.prog 17 #[.agg #[.slice a ns.length cap], .int .i64 no, .int .i64 pu] w fun e w' => ∃ v, e = .returned (.tuple #[.agg #[v], .int .i64 (svK ns no pu)]) ∧ OwnN w.heap.size w' v (keptA ns (svA ns no pu) (svK ns no pu)) ∧ Below w.heap.size w w' := by
  obtain ⟨A, K, HP, HN, hEK, hEA⟩ : ∃ (A : List Nd) (K : Int), Hid (∀ (B g : Nat) (wz : World), ArenaAt B wz g ns → B ≤ wz.heap.size → Calls Try.prog 50 #[.pointer (some ⟨g, 0, none⟩), .int .i64 no, .int .i64 pu] wz fun e w' => e = .returned (.int .i64 K) ∧ ArenaAt B w' g A ∧ Below B wz w') ∧ Hid True ∧ K = svK ns no pu ∧ A = svA ns no pu := ⟨_, _, fun B g wz h hB => (specSrvD_any (fun k => k < B) g ns no pu wz hl h.toD (fun k hk => Nat.lt_of_lt_of_le hk hB)).mono fun _ _ ⟨he, ha, hs⟩ => ⟨he, ha.toB, hs.below (fun k hk => hk)⟩, trivial, rfl, rfl⟩
  rw [← hEK, ← hEA]
  clear hEK hEA HN
  have hb0 : Below w.heap.size w ((w.alloc (.cells #[.slice a ns.length cap] 30)).alloc (.cells #[.slice none 0 0] 30)) := ((Below.refl _ _).alloc (Nat.le_refl _) _).alloc (by simp) _
  have hs0 : ((w.alloc (.cells #[.slice a ns.length cap] 30)).alloc (.cells #[.slice none 0 0] 30)).heap.size = w.heap.size + 2 := by simp
  have hA0 : ((w.alloc (.cells #[.slice a ns.length cap] 30)).alloc (.cells #[.slice none 0 0] 30)).heap[w.heap.size]? = some (.cells #[.slice a ns.length cap] 30 (0, 0)) := (heap_alloc_old _ _ (by simp)).trans (heap_alloc_new w _)
  have hr0 : ((w.alloc (.cells #[.slice a ns.length cap] 30)).alloc (.cells #[.slice none 0 0] 30)).heap[w.heap.size + 1]? = some (.cells #[.slice none 0 0] 30 (0, 0)) := by
    have := heap_alloc_new (w.alloc (.cells #[.slice a ns.length cap] 30)) (.cells #[.slice none 0 0] 30)
    simpa using this
  have HR : Hid (RowN w.heap.size w a ns) := hr
  have HA : Hid (AddrN a cap) := ha
  clear hr ha
  go_enter Try.func17, Try.ntmps17
  go_wp2_with fail
  generalize (w.alloc (.cells #[.slice a ns.length cap] 30)).alloc (.cells #[.slice none 0 0] 30) = w0 at hb0 hs0 hA0 hr0 ⊢
  refine (specCopy_any a cap ns w0 hl HA.out (HR.out.grown hb0)).mono ?_
  rintro e w1 ⟨v, rfl, hown, hb1⟩
  obtain ⟨a1, cap1, rfl, ha1, hr1⟩ := hown.row
  have hs1 := hb1.size
  have hbA : Below w1.heap.size w1 (w1.alloc (.cells #[.slice a1 ns.length cap1] 30)) := (Below.refl _ _).alloc (Nat.le_refl _) _
  have HAt : Hid (ArenaAt w0.heap.size (w1.alloc (.cells #[.slice a1 ns.length cap1] 30)) w1.heap.size ns) := ⟨hs1, by simp, _, heap_alloc_new w1 _, hown.later hbA, fun h => by have := (hown.lt _ h).2; omega⟩
  have HB1 : Hid (Below w.heap.size w (w1.alloc (.cells #[.slice a1 ns.length cap1] 30))) := (hb0.trans (hb1.mono (by omega))).trans (hbA.mono (by omega))
  have HA1 : Hid ((w1.alloc (.cells #[.slice a1 ns.length cap1] 30)).heap[w.heap.size]? = some (.cells #[.slice a ns.length cap] 30 (0, 0))) := (hbA.block _ (by omega)).trans ((hb1.block w.heap.size (by omega)).trans hA0)
  have HR1 : Hid ((w1.alloc (.cells #[.slice a1 ns.length cap1] 30)).heap[w.heap.size + 1]? = some (.cells #[.slice none 0 0] 30 (0, 0))) := (hbA.block _ (by omega)).trans ((hb1.block (w.heap.size + 1) (by omega)).trans hr0)
  clear hown hb0 hb1 hA0 hr0 ha1 hr1 hbA
  go_wp2_with fail
  refine Calls.mono (HP.out _ _ _ HAt.out (by simp; omega)) ?_
  rintro e w2 ⟨rfl, hat, hb2⟩
  obtain ⟨t1, t2, v2, t3, t4, t5⟩ := hat
  obtain ⟨a2, cap2, rfl, -, -⟩ := t4.row
  have HB2 : Hid (Below w.heap.size w w2) := HB1.out.trans (hb2.mono (by omega))
  have hA2 := (hb2.block w.heap.size (by omega)).trans HA1.out
  have hR2 := (hb2.block (w.heap.size + 1) (by omega)).trans HR1.out
  have o0 : w2.cell? ⟨w.heap.size, 0, none⟩ = some (.slice a ns.length cap) := (cell_of_row w2 _ 0 _ _ _ hA2).trans rfl
  have o1 : w2.cell? ⟨w1.heap.size, 0, none⟩ = some (.slice a2 A.length cap2) := (cell_of_row w2 _ 0 _ _ _ t3).trans rfl
  have HR2 : Hid (w2.heap[w.heap.size + 1]? = some (.cells #[.slice none 0 0] 30 (0, 0))) := hR2
  have HO2 : Hid (OwnN w0.heap.size w2 (.slice a2 A.length cap2) A) := t4
  have hs2 : w1.heap.size < w2.heap.size := t2
  clear HP HAt hb2 HB1 HA1 HR1 t1 t2 t3 t4 t5 hA2 hR2
  go_wp2_with fail
  refine (kept_any a a2 cap cap2 ns A K w2 hl HA.out (HR.out.grown HB2.out)).mono ?_
  rintro e w3 ⟨v3, rfl, hb3, hn3, hp3⟩
  obtain ⟨a3, n3, c3, rfl⟩ : ∃ a n c, v3 = .slice a n c := by
    by_cases hk : K < 0
    · obtain ⟨a3, c3, rfl, -, -⟩ := (hn3 hk).row; exact ⟨_, _, _, rfl⟩
    · exact ⟨_, _, _, hp3 hk⟩
  have hR3 := (hb3.block (w.heap.size + 1) (by omega)).trans HR2.out
  have r0 : w3.cell? ⟨w.heap.size + 1, 0, none⟩ = some (.slice none 0 0) := (cell_of_row w3 _ 0 _ _ _ hR3).trans rfl
  have f0 : w3.frozen? ⟨w.heap.size + 1, 0, none⟩ = false := frozen_of_row w3 _ 0 _ _ hR3
  have HBL : Hid ((w3.setCell ⟨w.heap.size + 1, 0, none⟩ (.slice a3 n3 c3)).heap[w.heap.size + 1]? = some (.cells #[.slice a3 n3 c3] 30 (0, 0))) := (heap_setCell_same w3 _ 0 _ _ _ hR3).trans rfl
  have HO3 : Hid (OwnN w.heap.size (w3.setCell ⟨w.heap.size + 1, 0, none⟩ (.slice a3 n3 c3)) (.slice a3 n3 c3) (keptA ns A K)) := by
    by_cases hk : K < 0
    · show OwnN _ _ _ _; rw [keptA_neg hk]; exact OwnN.base (ownsRow_setCell_below (hn3 hk) (show w.heap.size + 1 < w2.heap.size by omega) _) (by omega)
    · show OwnN _ _ _ _; rw [keptA_pos hk, hp3 hk]; exact OwnN.base (ownsRow_setCell_below (HO2.out.later hb3) (show w.heap.size + 1 < w0.heap.size by omega) _) (by omega)
  have HB3 : Hid (Below w.heap.size w (w3.setCell ⟨w.heap.size + 1, 0, none⟩ (.slice a3 n3 c3))) := (HB2.out.trans (hb3.mono (by omega))).setCell (show w.heap.size ≤ w.heap.size + 1 by omega) _
  clear hb3 hn3 hp3 hR3 o0 o1 HO2 HR2 HB2
  go_wp2
  refine bodyPost_ret (res_cell2 rfl _ _ (w.heap.size + 1) 30 #[.slice a3 n3 c3] (0, 0) _ rfl ?_ Try.underlying30 rfl arenaSize) rfl ?_
  · exact HBL.out
  · exact ⟨_, rfl, HO3.out, HB3.out⟩
set_option maxHeartbeats 3200000 in
theorem specHelD_any (D : Nat → Prop) (g : Nat) (ns : List Nd) (mo na no pu : Int) (w : World) (hl : ns.length ≤ 1048576) (h : ArD D w g ns) (hB : ∀ k, D k → k < w.heap.size) :
    Calls Try.prog 42 #[.pointer (some ⟨g, 0, none⟩), .agg #[.int .i64 mo, .int .i64 na, .int .i64 no, .int .i64 pu]] w fun e w' => e = .returned (.int .i64 (hlK ns mo na no pu)) ∧ ArD D w' g (hlA ns mo na no pu) ∧ Safe D w w' := by
  have hbA : Below w.heap.size w (w.alloc (.cells #[.int .i64 mo, .int .i64 na, .int .i64 no, .int .i64 pu] 34)) := (Below.refl _ _).alloc (Nat.le_refl _) _
  have hx := heap_alloc_new w (.cells #[.int .i64 mo, .int .i64 na, .int .i64 no, .int .i64 pu] 34)
  obtain ⟨D', HD'⟩ : ∃ D' : Nat → Prop, Hid (D' = fun k => D k ∨ k = w.heap.size) := ⟨_, rfl⟩
  have hA := h.wide (Nat.le_refl _) _ hbA
  rw [← HD'.out] at hA
  have HBO : Hid (∀ k, D' k → k < (w.alloc (.cells #[.int .i64 mo, .int .i64 na, .int .i64 no, .int .i64 pu] 34)).heap.size) := fun k hk => by
    rw [HD'.out] at hk
    rcases hk with hk | hk
    · have := hB k hk; simp; omega
    · subst hk; simp
  have H0 : Hid (ArD D' (w.alloc (.cells #[.int .i64 mo, .int .i64 na, .int .i64 no, .int .i64 pu] 34)) g ns ∧ Safe D' (w.alloc (.cells #[.int .i64 mo, .int .i64 na, .int .i64 no, .int .i64 pu] 34)) (w.alloc (.cells #[.int .i64 mo, .int .i64 na, .int .i64 no, .int .i64 pu] 34))) := ⟨hA, Safe.refl _ _⟩
  have HBX : Hid (∀ wz, Safe D' (w.alloc (.cells #[.int .i64 mo, .int .i64 na, .int .i64 no, .int .i64 pu] 34)) wz → wz.heap[w.heap.size]? = some (.cells #[.int .i64 mo, .int .i64 na, .int .i64 no, .int .i64 pu] 34 (0, 0))) := fun wz hs => (hs.block w.heap.size (by rw [HD'.out]; exact .inr rfl)).trans hx
  have HFIN : Hid (∀ wz A, ArD D' wz g A → Safe D' (w.alloc (.cells #[.int .i64 mo, .int .i64 na, .int .i64 no, .int .i64 pu] 34)) wz → ArD D wz g A ∧ Safe D w wz) := fun wz A h1 h2 => ⟨h1.narrow (fun k hk => by rw [HD'.out]; exact .inl hk), (Safe.of_below hbA hB).trans (h2.mono (fun k hk => by rw [HD'.out]; exact .inl hk))⟩
  clear h hB hbA hx hA HD'
  go_enter Try.func42, Try.ntmps42
  go_wp2_with fail
  generalize w.alloc (.cells #[.int .i64 mo, .int .i64 na, .int .i64 no, .int .i64 pu] 34) = w0 at H0 HBO HBX HFIN ⊢
  refine (specAtomD_any D' g (ns) 61 w0 (hl) H0.out.1 (H0.out.2.old HBO.out)).mono ?_
  rintro e w1 ⟨rfl, ha, hb⟩
  have H1 : Hid (ArD D' w1 g (hlA1 ns) ∧ Safe D' w0 w1) := ⟨ha, H0.out.2.trans hb⟩
  clear ha hb H0
  have hx := HBX.out w1 H1.out.2
  have q0 : w1.cell? ⟨w.heap.size, 0, none⟩ = some (.int .i64 mo) := (cell_of_row _ _ 0 _ _ _ hx).trans rfl
  clear hx
  go_wp2_with fail
  clear q0
  refine (specAtomD_any D' g (hlA1 ns) mo w1 (putA_le2 hl) H1.out.1 (H1.out.2.old HBO.out)).mono ?_
  rintro e w2 ⟨rfl, ha, hb⟩
  have H2 : Hid (ArD D' w2 g (hlA2 ns mo) ∧ Safe D' w0 w2) := ⟨ha, H1.out.2.trans hb⟩
  clear ha hb H1
  have hx := HBX.out w2 H2.out.2
  have q1 : w2.cell? ⟨w.heap.size, 1, none⟩ = some (.int .i64 na) := (cell_of_row _ _ 1 _ _ _ hx).trans rfl
  clear hx
  go_wp2_with fail
  clear q1
  refine (specAtomD_any D' g (hlA2 ns mo) na w2 (putA_le2 (putA_le2 hl)) H2.out.1 (H2.out.2.old HBO.out)).mono ?_
  rintro e w3 ⟨rfl, ha, hb⟩
  have H3 : Hid (ArD D' w3 g (hlA3 ns mo na) ∧ Safe D' w0 w3) := ⟨ha, H2.out.2.trans hb⟩
  clear ha hb H2
  have hx := HBX.out w3 H3.out.2
  have q2 : w3.cell? ⟨w.heap.size, 2, none⟩ = some (.int .i64 no) := (cell_of_row _ _ 2 _ _ _ hx).trans rfl
  have q3 : w3.cell? ⟨w.heap.size, 3, none⟩ = some (.int .i64 pu) := (cell_of_row _ _ 3 _ _ _ hx).trans rfl
  clear hx
  go_wp2_with fail
  clear q2 q3
  refine (listLit_any D' g (hlA3 ns mo na) [putK ns ⟨1, 61, 0, 0⟩, putK (hlA1 ns) ⟨1, mo, 0, 0⟩, putK (hlA2 ns mo) ⟨1, na, 0, 0⟩, no, pu] w3 (hlA3_le hl) (by simp) H3.out.1 (H3.out.2.old HBO.out)).mono ?_
  rintro e w4 ⟨rfl, ha, hb⟩
  have HE := HFIN.out w4 _ ha (H3.out.2.trans hb)
  have HEH : Hid _ := HE
  clear HE ha hb H3
  go_wp2
  go_ret
  exact ⟨rfl, HEH.out.1, HEH.out.2⟩
set_option maxHeartbeats 1600000 in
theorem specHello_any (a : Option Addr) (cap : Nat) (ns : List Nd) (mo : Int) (na : Int) (no : Int) (pu : Int) (w : World) (hl : ns.length ≤ 1048576) (ha : AddrN a cap) (hr : RowN w.heap.size w a ns) :
    Calls Try.prog 10 #[.agg #[.slice a ns.length cap], .agg #[.int .i64 mo, .int .i64 na, .int .i64 no, .int .i64 pu]] w fun e w' => ∃ v, e = .returned (.tuple #[.agg #[v], .int .i64 (hlK ns mo na no pu)]) ∧ OwnN w.heap.size w' v (keptA ns (hlA ns mo na no pu) (hlK ns mo na no pu)) ∧ Below w.heap.size w w' := by
  obtain ⟨A, K, HP, HN, hEK, hEA⟩ : ∃ (A : List Nd) (K : Int), Hid (∀ (B g : Nat) (wz : World), ArenaAt B wz g ns → B ≤ wz.heap.size → Calls Try.prog 42 #[.pointer (some ⟨g, 0, none⟩), .agg #[.int .i64 mo, .int .i64 na, .int .i64 no, .int .i64 pu]] wz fun e w' => e = .returned (.int .i64 K) ∧ ArenaAt B w' g A ∧ Below B wz w') ∧ Hid True ∧ K = hlK ns mo na no pu ∧ A = hlA ns mo na no pu := ⟨_, _, fun B g wz h hB => (specHelD_any (fun k => k < B) g ns mo na no pu wz hl h.toD (fun k hk => Nat.lt_of_lt_of_le hk hB)).mono fun _ _ ⟨he, ha, hs⟩ => ⟨he, ha.toB, hs.below (fun k hk => hk)⟩, trivial, rfl, rfl⟩
  rw [← hEK, ← hEA]
  clear hEK hEA HN
  have hb0 : Below w.heap.size w (((w.alloc (.cells #[.slice a ns.length cap] 30)).alloc (.cells #[.int .i64 mo, .int .i64 na, .int .i64 no, .int .i64 pu] 34)).alloc (.cells #[.slice none 0 0] 30)) := (((Below.refl _ _).alloc (Nat.le_refl _) _).alloc (by simp) _).alloc (by simp; omega) _
  have hs0 : (((w.alloc (.cells #[.slice a ns.length cap] 30)).alloc (.cells #[.int .i64 mo, .int .i64 na, .int .i64 no, .int .i64 pu] 34)).alloc (.cells #[.slice none 0 0] 30)).heap.size = w.heap.size + 3 := by simp
  have hA0 : (((w.alloc (.cells #[.slice a ns.length cap] 30)).alloc (.cells #[.int .i64 mo, .int .i64 na, .int .i64 no, .int .i64 pu] 34)).alloc (.cells #[.slice none 0 0] 30)).heap[w.heap.size]? = some (.cells #[.slice a ns.length cap] 30 (0, 0)) := (heap_alloc_old _ _ (by simp; omega)).trans ((heap_alloc_old _ _ (by simp)).trans (heap_alloc_new w _))
  have hr0 : (((w.alloc (.cells #[.slice a ns.length cap] 30)).alloc (.cells #[.int .i64 mo, .int .i64 na, .int .i64 no, .int .i64 pu] 34)).alloc (.cells #[.slice none 0 0] 30)).heap[w.heap.size + 2]? = some (.cells #[.slice none 0 0] 30 (0, 0)) := by
    have := heap_alloc_new ((w.alloc (.cells #[.slice a ns.length cap] 30)).alloc (.cells #[.int .i64 mo, .int .i64 na, .int .i64 no, .int .i64 pu] 34)) (.cells #[.slice none 0 0] 30)
    simpa using this
  have hh0 : (((w.alloc (.cells #[.slice a ns.length cap] 30)).alloc (.cells #[.int .i64 mo, .int .i64 na, .int .i64 no, .int .i64 pu] 34)).alloc (.cells #[.slice none 0 0] 30)).heap[w.heap.size + 1]? = some (.cells #[.int .i64 mo, .int .i64 na, .int .i64 no, .int .i64 pu] 34 (0, 0)) := by
    have := heap_alloc_new (w.alloc (.cells #[.slice a ns.length cap] 30)) (.cells #[.int .i64 mo, .int .i64 na, .int .i64 no, .int .i64 pu] 34)
    exact (heap_alloc_old _ _ (by simp)).trans (by simpa using this)
  have HR : Hid (RowN w.heap.size w a ns) := hr
  have HA : Hid (AddrN a cap) := ha
  clear hr ha
  go_enter Try.func10, Try.ntmps10
  go_wp2_with fail
  generalize ((w.alloc (.cells #[.slice a ns.length cap] 30)).alloc (.cells #[.int .i64 mo, .int .i64 na, .int .i64 no, .int .i64 pu] 34)).alloc (.cells #[.slice none 0 0] 30) = w0 at hb0 hs0 hA0 hr0 hh0 ⊢
  refine (specCopy_any a cap ns w0 hl HA.out (HR.out.grown hb0)).mono ?_
  rintro e w1 ⟨v, rfl, hown, hb1⟩
  obtain ⟨a1, cap1, rfl, ha1, hr1⟩ := hown.row
  have hs1 := hb1.size
  have hbA : Below w1.heap.size w1 (w1.alloc (.cells #[.slice a1 ns.length cap1] 30)) := (Below.refl _ _).alloc (Nat.le_refl _) _
  have HAt : Hid (ArenaAt w0.heap.size (w1.alloc (.cells #[.slice a1 ns.length cap1] 30)) w1.heap.size ns) := ⟨hs1, by simp, _, heap_alloc_new w1 _, hown.later hbA, fun h => by have := (hown.lt _ h).2; omega⟩
  have HB1 : Hid (Below w.heap.size w (w1.alloc (.cells #[.slice a1 ns.length cap1] 30))) := (hb0.trans (hb1.mono (by omega))).trans (hbA.mono (by omega))
  have HA1 : Hid ((w1.alloc (.cells #[.slice a1 ns.length cap1] 30)).heap[w.heap.size]? = some (.cells #[.slice a ns.length cap] 30 (0, 0))) := (hbA.block _ (by omega)).trans ((hb1.block w.heap.size (by omega)).trans hA0)
  have HR1 : Hid ((w1.alloc (.cells #[.slice a1 ns.length cap1] 30)).heap[w.heap.size + 2]? = some (.cells #[.slice none 0 0] 30 (0, 0))) := (hbA.block _ (by omega)).trans ((hb1.block (w.heap.size + 2) (by omega)).trans hr0)
  have hh1 : (w1.alloc (.cells #[.slice a1 ns.length cap1] 30)).heap[w.heap.size + 1]? = some (.cells #[.int .i64 mo, .int .i64 na, .int .i64 no, .int .i64 pu] 34 (0, 0)) := (hbA.block _ (by omega)).trans ((hb1.block (w.heap.size + 1) (by omega)).trans hh0)
  have g0 : (w1.alloc (.cells #[.slice a1 ns.length cap1] 30)).cell? ⟨w.heap.size + 1, 0, none⟩ = some (.int .i64 mo) := (cell_of_row _ _ 0 _ _ _ hh1).trans rfl
  have g1 : (w1.alloc (.cells #[.slice a1 ns.length cap1] 30)).cell? ⟨w.heap.size + 1, 1, none⟩ = some (.int .i64 na) := (cell_of_row _ _ 1 _ _ _ hh1).trans rfl
  have g2 : (w1.alloc (.cells #[.slice a1 ns.length cap1] 30)).cell? ⟨w.heap.size + 1, 2, none⟩ = some (.int .i64 no) := (cell_of_row _ _ 2 _ _ _ hh1).trans rfl
  have g3 : (w1.alloc (.cells #[.slice a1 ns.length cap1] 30)).cell? ⟨w.heap.size + 1, 3, none⟩ = some (.int .i64 pu) := (cell_of_row _ _ 3 _ _ _ hh1).trans rfl
  clear hown hb0 hb1 hA0 hr0 ha1 hr1 hbA hh0 hh1
  go_wp2_with fail
  clear g0 g1 g2 g3
  refine Calls.mono (HP.out _ _ _ HAt.out (by simp; omega)) ?_
  rintro e w2 ⟨rfl, hat, hb2⟩
  obtain ⟨t1, t2, v2, t3, t4, t5⟩ := hat
  obtain ⟨a2, cap2, rfl, -, -⟩ := t4.row
  have HB2 : Hid (Below w.heap.size w w2) := HB1.out.trans (hb2.mono (by omega))
  have hA2 := (hb2.block w.heap.size (by omega)).trans HA1.out
  have hR2 := (hb2.block (w.heap.size + 2) (by omega)).trans HR1.out
  have o0 : w2.cell? ⟨w.heap.size, 0, none⟩ = some (.slice a ns.length cap) := (cell_of_row w2 _ 0 _ _ _ hA2).trans rfl
  have o1 : w2.cell? ⟨w1.heap.size, 0, none⟩ = some (.slice a2 A.length cap2) := (cell_of_row w2 _ 0 _ _ _ t3).trans rfl
  have HR2 : Hid (w2.heap[w.heap.size + 2]? = some (.cells #[.slice none 0 0] 30 (0, 0))) := hR2
  have HO2 : Hid (OwnN w0.heap.size w2 (.slice a2 A.length cap2) A) := t4
  have hs2 : w1.heap.size < w2.heap.size := t2
  clear HP HAt hb2 HB1 HA1 HR1 t1 t2 t3 t4 t5 hA2 hR2
  go_wp2_with fail
  refine (kept_any a a2 cap cap2 ns A K w2 hl HA.out (HR.out.grown HB2.out)).mono ?_
  rintro e w3 ⟨v3, rfl, hb3, hn3, hp3⟩
  obtain ⟨a3, n3, c3, rfl⟩ : ∃ a n c, v3 = .slice a n c := by
    by_cases hk : K < 0
    · obtain ⟨a3, c3, rfl, -, -⟩ := (hn3 hk).row; exact ⟨_, _, _, rfl⟩
    · exact ⟨_, _, _, hp3 hk⟩
  have hR3 := (hb3.block (w.heap.size + 2) (by omega)).trans HR2.out
  have r0 : w3.cell? ⟨w.heap.size + 2, 0, none⟩ = some (.slice none 0 0) := (cell_of_row w3 _ 0 _ _ _ hR3).trans rfl
  have f0 : w3.frozen? ⟨w.heap.size + 2, 0, none⟩ = false := frozen_of_row w3 _ 0 _ _ hR3
  have HBL : Hid ((w3.setCell ⟨w.heap.size + 2, 0, none⟩ (.slice a3 n3 c3)).heap[w.heap.size + 2]? = some (.cells #[.slice a3 n3 c3] 30 (0, 0))) := (heap_setCell_same w3 _ 0 _ _ _ hR3).trans rfl
  have HO3 : Hid (OwnN w.heap.size (w3.setCell ⟨w.heap.size + 2, 0, none⟩ (.slice a3 n3 c3)) (.slice a3 n3 c3) (keptA ns A K)) := by
    by_cases hk : K < 0
    · show OwnN _ _ _ _; rw [keptA_neg hk]; exact OwnN.base (ownsRow_setCell_below (hn3 hk) (show w.heap.size + 2 < w2.heap.size by omega) _) (by omega)
    · show OwnN _ _ _ _; rw [keptA_pos hk, hp3 hk]; exact OwnN.base (ownsRow_setCell_below (HO2.out.later hb3) (show w.heap.size + 2 < w0.heap.size by omega) _) (by omega)
  have HB3 : Hid (Below w.heap.size w (w3.setCell ⟨w.heap.size + 2, 0, none⟩ (.slice a3 n3 c3))) := (HB2.out.trans (hb3.mono (by omega))).setCell (show w.heap.size ≤ w.heap.size + 2 by omega) _
  clear hb3 hn3 hp3 hR3 o0 o1 HO2 HR2 HB2
  go_wp2
  refine bodyPost_ret (res_cell2 rfl _ _ (w.heap.size + 2) 30 #[.slice a3 n3 c3] (0, 0) _ rfl ?_ Try.underlying30 rfl arenaSize) rfl ?_
  · exact HBL.out
  · exact ⟨_, rfl, HO3.out, HB3.out⟩
end Go.Proofs.Ytlecpjgeaigjkaa
