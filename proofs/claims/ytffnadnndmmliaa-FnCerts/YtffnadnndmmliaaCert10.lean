/- The contracts of chapter 10's LongSecret, PskOf and CertOf, the specification's, and what they make in plain words. -/
import Derived.Test.YtffnadnndmmliaaArenaD
import Derived.Test.YtffnadnndmmliaaKeptS
import Derived.WalkKit
import Derived.WalkLawsBesides
import Derived.WalkSpells
import Derived.Laws.Rows
namespace Go.Proofs.Ytffnadnndmmliaa
open Go.RowKit
set_option linter.unusedVariables false
/-- The long secret of a name. -/
def nmB (n : Int) : Bool := inB n 0 9
def lgA (ns : List Nd) (n : Int) : List Nd := if nmB n = true then putA ns ⟨1, 2000 + n, 0, 0⟩ else ns
def lgK (ns : List Nd) (n : Int) : Int := if nmB n = true then putK ns ⟨1, 2000 + n, 0, 0⟩ else -1
/-- The secret of two names. -/
def pkB (x y : Int) : Bool := inB x 0 9 && inB y 0 9
def pkN (x y : Int) : Int := if y < x then 3000 + 10 * y + x else 3000 + 10 * x + y
def pkA (ns : List Nd) (x y : Int) : List Nd := if pkB x y = true then putA ns ⟨1, pkN x y, 0, 0⟩ else ns
def pkK (ns : List Nd) (x y : Int) : Int := if pkB x y = true then putK ns ⟨1, pkN x y, 0, 0⟩ else -1
/-- A certificate, made step by step. -/
def crA1 (ns : List Nd) : List Nd := putA ns ⟨1, 1000, 0, 0⟩
def crK1 (ns : List Nd) : Int := putK ns ⟨1, 1000, 0, 0⟩
def crA2 (ns : List Nd) : List Nd := putA (crA1 ns) ⟨1, 60, 0, 0⟩
def crK2 (ns : List Nd) : Int := putK (crA1 ns) ⟨1, 60, 0, 0⟩
def crA3 (ns : List Nd) (n : Int) : List Nd := putA (crA2 ns) ⟨1, n, 0, 0⟩
def crK3 (ns : List Nd) (n : Int) : Int := putK (crA2 ns) ⟨1, n, 0, 0⟩
def crA5 (ns : List Nd) (n : Int) : List Nd := makeA (lgA (crA3 ns n) n) 6 (lgK (crA3 ns n) n) 0
def crK5 (ns : List Nd) (n : Int) : Int := makeK (lgA (crA3 ns n) n) 6 (lgK (crA3 ns n) n) 0
def crL (ns : List Nd) (n : Int) : List Nd × Int := listF [crK2 ns, crK3 ns n, crK5 ns n] (crA5 ns n)
def crA (ns : List Nd) (n : Int) : List Nd := makeA (crL ns n).1 8 (crK1 ns) (crL ns n).2
def crK (ns : List Nd) (n : Int) : Int := makeK (crL ns n).1 8 (crK1 ns) (crL ns n).2
theorem lgA_le {ns : List Nd} {n : Int} (h : ns.length ≤ 1048576) : (lgA ns n).length ≤ 1048576 := by
  unfold lgA; split
  · exact putA_le2 h
  · exact h
theorem pkA_le {ns : List Nd} {x y : Int} (h : ns.length ≤ 1048576) : (pkA ns x y).length ≤ 1048576 := by
  unfold pkA; split
  · exact putA_le2 h
  · exact h
theorem crA2_le {ns : List Nd} (h : ns.length ≤ 1048576) : (crA2 ns).length ≤ 1048576 := putA_le2 (putA_le2 h)
theorem crA3_le {ns : List Nd} {n : Int} (h : ns.length ≤ 1048576) : (crA3 ns n).length ≤ 1048576 := putA_le2 (crA2_le h)
theorem crA5_le {ns : List Nd} {n : Int} (h : ns.length ≤ 1048576) : (crA5 ns n).length ≤ 1048576 := makeA_le (lgA_le (crA3_le h))
theorem crL_le {ns : List Nd} {n : Int} (h : ns.length ≤ 1048576) : (crL ns n).1.length ≤ 1048576 := listF_le _ (crA5_le h)
theorem crA_le {ns : List Nd} {n : Int} (h : ns.length ≤ 1048576) : (crA ns n).length ≤ 1048576 := makeA_le (crL_le h)
theorem in_le {x a b : Int} (h : inB x a b = true) : a ≤ x ∧ x ≤ b := by unfold inB at h; simpa using h
set_option maxHeartbeats 3200000 in
theorem specLongD_any (D : Nat → Prop) (g : Nat) (ns : List Nd) (nm : Int) (w : World) (hl : ns.length ≤ 1048576) (h : ArD D w g ns) (hB : ∀ k, D k → k < w.heap.size) :
    Calls Try.prog 171 #[.pointer (some ⟨g, 0, none⟩), .int .i64 nm] w fun e w' => e = .returned (.int .i64 (lgK ns nm)) ∧ ArD D w' g (lgA ns nm) ∧ Safe D w w' := by
  have H0 : Hid (ArD D w g ns ∧ Safe D w w) := ⟨h, Safe.refl _ _⟩
  have HBO : Hid (∀ k, D k → k < w.heap.size) := hB
  obtain ⟨h1, h2, v, h3, h4, h5, h6⟩ := h
  obtain ⟨a, cap, rfl, ha, hr⟩ := h4.row
  have HC : Hid (w.heap[g]? = some (.cells #[.slice a ns.length cap] 28 (0, 0))) := h3
  have HR : Hid (RowN w.heap.size w a ns) := hr
  have hgl : g < w.heap.size := h2
  clear h1 h2 h3 h4 h5 h6 ha hr hB
  obtain ⟨d0, HD0⟩ : ∃ d, Hid (inB nm 0 9 = d) := ⟨_, rfl⟩
  have HE : Hid (nmB nm = d0) := by show _ = _; unfold nmB; rw [HD0.out]
  have HB0 : Hid (Below w.heap.size w w) := Below.refl _ _
  cases d0
  · have HK : Hid (lgK ns nm = -1 ∧ lgA ns nm = ns) := by
      refine ⟨?_, ?_⟩
      · unfold lgK; rw [HE.out]; rfl
      · unfold lgA; rw [HE.out]; rfl
    clear HE
    go_enter Try.func171, Try.ntmps171
    go_wp2_with (first | (go_at_call 99; refine (specIn_any _ _ _ _).mono ?_; rintro e w' ⟨rfl, rfl⟩; rw [HD0.out]))
    go_ret
    exact ⟨by rw [HK.out.1]; rfl, by rw [HK.out.2]; exact H0.out.1.later HB0.out, Safe.of_below HB0.out HBO.out⟩
  have HK : Hid (lgK ns nm = putK ns ⟨1, 2000 + nm, 0, 0⟩ ∧ lgA ns nm = putA ns ⟨1, 2000 + nm, 0, 0⟩) := by
    refine ⟨?_, ?_⟩
    · unfold lgK; rw [HE.out]; rfl
    · unfold lgA; rw [HE.out]; rfl
  have hnm := in_le HD0.out
  have hw0 : wrap64 (2000 + nm) = 2000 + nm := by unfold wrap64; omega
  clear HE
  go_enter Try.func171, Try.ntmps171
  go_wp2_with (first | (go_at_call 99; refine (specIn_any _ _ _ _).mono ?_; rintro e w' ⟨rfl, rfl⟩; rw [HD0.out]))
  refine Calls.mono (specAtomD_any D g (ns) (2000 + nm) w (hl) H0.out.1 (H0.out.2.old HBO.out)) ?_
  rintro e w1 ⟨rfl, ha, hb⟩
  have H1 : Hid (ArD D w1 g _ ∧ Safe D w w1) := ⟨ha, H0.out.2.trans hb⟩
  clear ha hb H0
  go_wp2
  go_ret
  exact ⟨by rw [HK.out.1]; rfl, by rw [HK.out.2]; exact H1.out.1, H1.out.2⟩
set_option maxHeartbeats 3200000 in
theorem specPskD_any (D : Nat → Prop) (g : Nat) (ns : List Nd) (x : Int) (y : Int) (w : World) (hl : ns.length ≤ 1048576) (h : ArD D w g ns) (hB : ∀ k, D k → k < w.heap.size) :
    Calls Try.prog 143 #[.pointer (some ⟨g, 0, none⟩), .int .i64 x, .int .i64 y] w fun e w' => e = .returned (.int .i64 (pkK ns x y)) ∧ ArD D w' g (pkA ns x y) ∧ Safe D w w' := by
  have H0 : Hid (ArD D w g ns ∧ Safe D w w) := ⟨h, Safe.refl _ _⟩
  have HBO : Hid (∀ k, D k → k < w.heap.size) := hB
  obtain ⟨h1, h2, v, h3, h4, h5, h6⟩ := h
  obtain ⟨a, cap, rfl, ha, hr⟩ := h4.row
  have HC : Hid (w.heap[g]? = some (.cells #[.slice a ns.length cap] 28 (0, 0))) := h3
  have HR : Hid (RowN w.heap.size w a ns) := hr
  have hgl : g < w.heap.size := h2
  clear h1 h2 h3 h4 h5 h6 ha hr hB
  obtain ⟨d0, HD0⟩ : ∃ d, Hid (inB x 0 9 = d) := ⟨_, rfl⟩
  obtain ⟨d1, HD1⟩ : ∃ d, Hid (inB y 0 9 = d) := ⟨_, rfl⟩
  have HE : Hid (pkB x y = (d0 && d1)) := by show _ = _; unfold pkB; rw [HD0.out, HD1.out]
  have HB0 : Hid (Below w.heap.size w w) := Below.refl _ _
  cases d0
  · have HK : Hid (pkK ns x y = -1 ∧ pkA ns x y = ns) := by
      refine ⟨?_, ?_⟩
      · unfold pkK; rw [HE.out]; rfl
      · unfold pkA; rw [HE.out]; rfl
    clear HE
    go_enter Try.func143, Try.ntmps143
    go_wp2_with (first | (go_at_call 99; refine (specIn_any _ _ _ _).mono ?_; rintro e w' ⟨rfl, rfl⟩; rw [HD0.out]))
    go_ret
    exact ⟨by rw [HK.out.1]; rfl, by rw [HK.out.2]; exact H0.out.1.later HB0.out, Safe.of_below HB0.out HBO.out⟩
  cases d1
  · have HK : Hid (pkK ns x y = -1 ∧ pkA ns x y = ns) := by
      refine ⟨?_, ?_⟩
      · unfold pkK; rw [HE.out]; rfl
      · unfold pkA; rw [HE.out]; rfl
    clear HE
    go_enter Try.func143, Try.ntmps143
    go_wp2_with (first | (go_at_call 99; refine (specIn_any _ _ _ _).mono ?_; rintro e w' ⟨rfl, rfl⟩; rw [HD0.out]) | (go_at_call 99; refine (specIn_any _ _ _ _).mono ?_; rintro e w' ⟨rfl, rfl⟩; rw [HD1.out]))
    go_ret
    exact ⟨by rw [HK.out.1]; rfl, by rw [HK.out.2]; exact H0.out.1.later HB0.out, Safe.of_below HB0.out HBO.out⟩
  by_cases hlt : y < x
  · have HK : Hid (pkK ns x y = putK ns ⟨1, 3000 + 10 * y + x, 0, 0⟩ ∧ pkA ns x y = putA ns ⟨1, 3000 + 10 * y + x, 0, 0⟩) := by
      have hN : pkN x y = 3000 + 10 * y + x := by unfold pkN; rw [if_pos hlt]
      refine ⟨?_, ?_⟩
      · unfold pkK; rw [HE.out, hN]; rfl
      · unfold pkA; rw [HE.out, hN]; rfl
    have hnx := in_le HD0.out
    have hny := in_le HD1.out
    have hw0 : wrap64 (10 * y) = 10 * y := by unfold wrap64; omega
    have hw1 : wrap64 (3000 + 10 * y) = 3000 + 10 * y := by unfold wrap64; omega
    have hw2 : wrap64 (3000 + 10 * y + x) = 3000 + 10 * y + x := by unfold wrap64; omega
    have hlt' : decide (y < x) = true := by simpa using hlt
    have hlt2 : ¬ x ≤ y := by omega
    clear HE
    go_enter Try.func143, Try.ntmps143
    go_wp2_with (first | (go_at_call 99; refine (specIn_any _ _ _ _).mono ?_; rintro e w' ⟨rfl, rfl⟩; rw [HD0.out]) | (go_at_call 99; refine (specIn_any _ _ _ _).mono ?_; rintro e w' ⟨rfl, rfl⟩; rw [HD1.out]))
    refine Calls.mono (specAtomD_any D g (ns) (3000 + 10 * y + x) w (hl) H0.out.1 (H0.out.2.old HBO.out)) ?_
    rintro e w1 ⟨rfl, ha, hb⟩
    have H1 : Hid (ArD D w1 g _ ∧ Safe D w w1) := ⟨ha, H0.out.2.trans hb⟩
    clear ha hb H0
    go_wp2
    go_ret
    exact ⟨by rw [HK.out.1]; rfl, by rw [HK.out.2]; exact H1.out.1, H1.out.2⟩
  · have HK : Hid (pkK ns x y = putK ns ⟨1, 3000 + 10 * x + y, 0, 0⟩ ∧ pkA ns x y = putA ns ⟨1, 3000 + 10 * x + y, 0, 0⟩) := by
      have hN : pkN x y = 3000 + 10 * x + y := by unfold pkN; rw [if_neg hlt]
      refine ⟨?_, ?_⟩
      · unfold pkK; rw [HE.out, hN]; rfl
      · unfold pkA; rw [HE.out, hN]; rfl
    have hnx := in_le HD0.out
    have hny := in_le HD1.out
    have hw0 : wrap64 (10 * x) = 10 * x := by unfold wrap64; omega
    have hw1 : wrap64 (3000 + 10 * x) = 3000 + 10 * x := by unfold wrap64; omega
    have hw2 : wrap64 (3000 + 10 * x + y) = 3000 + 10 * x + y := by unfold wrap64; omega
    have hlt' : decide (y < x) = false := by simpa using hlt
    have hlt2 : x ≤ y := by omega
    clear HE
    go_enter Try.func143, Try.ntmps143
    go_wp2_with (first | (go_at_call 99; refine (specIn_any _ _ _ _).mono ?_; rintro e w' ⟨rfl, rfl⟩; rw [HD0.out]) | (go_at_call 99; refine (specIn_any _ _ _ _).mono ?_; rintro e w' ⟨rfl, rfl⟩; rw [HD1.out]))
    refine Calls.mono (specAtomD_any D g (ns) (3000 + 10 * x + y) w (hl) H0.out.1 (H0.out.2.old HBO.out)) ?_
    rintro e w1 ⟨rfl, ha, hb⟩
    have H1 : Hid (ArD D w1 g _ ∧ Safe D w w1) := ⟨ha, H0.out.2.trans hb⟩
    clear ha hb H0
    go_wp2
    go_ret
    exact ⟨by rw [HK.out.1]; rfl, by rw [HK.out.2]; exact H1.out.1, H1.out.2⟩
set_option maxHeartbeats 1600000 in
theorem specPsk_any (a : Option Addr) (cap : Nat) (ns : List Nd) (x : Int) (y : Int) (w : World) (hl : ns.length ≤ 1048576) (ha : AddrN a cap) (hr : RowN w.heap.size w a ns) :
    Calls Try.prog 72 #[.agg #[.slice a ns.length cap], .int .i64 x, .int .i64 y] w fun e w' => ∃ v, e = .returned (.tuple #[.agg #[v], .int .i64 (pkK ns x y)]) ∧ OwnN w.heap.size w' v (keptA ns (pkA ns x y) (pkK ns x y)) ∧ Below w.heap.size w w' := by
  obtain ⟨A, K, HP, HN, hEK, hEA⟩ : ∃ (A : List Nd) (K : Int), Hid (∀ (B g : Nat) (wz : World), ArenaAt B wz g ns → B ≤ wz.heap.size → Calls Try.prog 143 #[.pointer (some ⟨g, 0, none⟩), .int .i64 x, .int .i64 y] wz fun e w' => e = .returned (.int .i64 K) ∧ ArenaAt B w' g A ∧ Below B wz w') ∧ Hid True ∧ K = pkK ns x y ∧ A = pkA ns x y := ⟨_, _, fun B g wz h hB => (specPskD_any (fun k => k < B) g ns x y wz hl h.toD (fun k hk => Nat.lt_of_lt_of_le hk hB)).mono fun _ _ ⟨he, ha, hs⟩ => ⟨he, ha.toB, hs.below (fun k hk => hk)⟩, trivial, rfl, rfl⟩
  rw [← hEK, ← hEA]
  clear hEK hEA HN
  have hb0 : Below w.heap.size w ((w.alloc (.cells #[.slice a ns.length cap] 28)).alloc (.cells #[.slice none 0 0] 28)) := ((Below.refl _ _).alloc (Nat.le_refl _) _).alloc (by simp) _
  have hs0 : ((w.alloc (.cells #[.slice a ns.length cap] 28)).alloc (.cells #[.slice none 0 0] 28)).heap.size = w.heap.size + 2 := by simp
  have hA0 : ((w.alloc (.cells #[.slice a ns.length cap] 28)).alloc (.cells #[.slice none 0 0] 28)).heap[w.heap.size]? = some (.cells #[.slice a ns.length cap] 28 (0, 0)) := (heap_alloc_old _ _ (by simp)).trans (heap_alloc_new w _)
  have hr0 : ((w.alloc (.cells #[.slice a ns.length cap] 28)).alloc (.cells #[.slice none 0 0] 28)).heap[w.heap.size + 1]? = some (.cells #[.slice none 0 0] 28 (0, 0)) := by
    have := heap_alloc_new (w.alloc (.cells #[.slice a ns.length cap] 28)) (.cells #[.slice none 0 0] 28)
    simpa using this
  have HR : Hid (RowN w.heap.size w a ns) := hr
  have HA : Hid (AddrN a cap) := ha
  clear hr ha
  go_enter Try.func72, Try.ntmps72
  go_wp2_with fail
  generalize (w.alloc (.cells #[.slice a ns.length cap] 28)).alloc (.cells #[.slice none 0 0] 28) = w0 at hb0 hs0 hA0 hr0 ⊢
  refine (specCopy_any a cap ns w0 hl HA.out (HR.out.grown hb0)).mono ?_
  rintro e w1 ⟨v, rfl, hown, hb1⟩
  obtain ⟨a1, cap1, rfl, ha1, hr1⟩ := hown.row
  have hs1 := hb1.size
  have hbA : Below w1.heap.size w1 (w1.alloc (.cells #[.slice a1 ns.length cap1] 28)) := (Below.refl _ _).alloc (Nat.le_refl _) _
  have HAt : Hid (ArenaAt w0.heap.size (w1.alloc (.cells #[.slice a1 ns.length cap1] 28)) w1.heap.size ns) := ⟨hs1, by simp, _, heap_alloc_new w1 _, hown.later hbA, fun h => by have := (hown.lt _ h).2; omega⟩
  have HB1 : Hid (Below w.heap.size w (w1.alloc (.cells #[.slice a1 ns.length cap1] 28))) := (hb0.trans (hb1.mono (by omega))).trans (hbA.mono (by omega))
  have HA1 : Hid ((w1.alloc (.cells #[.slice a1 ns.length cap1] 28)).heap[w.heap.size]? = some (.cells #[.slice a ns.length cap] 28 (0, 0))) := (hbA.block _ (by omega)).trans ((hb1.block w.heap.size (by omega)).trans hA0)
  have HR1 : Hid ((w1.alloc (.cells #[.slice a1 ns.length cap1] 28)).heap[w.heap.size + 1]? = some (.cells #[.slice none 0 0] 28 (0, 0))) := (hbA.block _ (by omega)).trans ((hb1.block (w.heap.size + 1) (by omega)).trans hr0)
  clear hown hb0 hb1 hA0 hr0 ha1 hr1 hbA
  go_wp2_with fail
  refine Calls.mono (HP.out _ _ _ HAt.out (by simp; omega)) ?_
  rintro e w2 ⟨rfl, hat, hb2⟩
  obtain ⟨t1, t2, v2, t3, t4, t5⟩ := hat
  obtain ⟨a2, cap2, rfl, -, -⟩ := t4.row
  have HB2 : Hid (Below w.heap.size w w2) := HB1.out.trans (hb2.mono (by omega))
  have hA2 := (hb2.block w.heap.size (by omega)).trans HA1.out
  have hR2 := (hb2.block (w.heap.size + 1) (by omega)).trans HR1.out
  have o0 : w2.cell? ⟨w.heap.size, 0, none⟩ = some (.slice a ns.length cap) := (cell_of_row w2 _ 0 _ _ _ hA2).trans rfl
  have o1 : w2.cell? ⟨w1.heap.size, 0, none⟩ = some (.slice a2 A.length cap2) := (cell_of_row w2 _ 0 _ _ _ t3).trans rfl
  have HR2 : Hid (w2.heap[w.heap.size + 1]? = some (.cells #[.slice none 0 0] 28 (0, 0))) := hR2
  have HO2 : Hid (OwnN w0.heap.size w2 (.slice a2 A.length cap2) A) := t4
  have hs2 : w1.heap.size < w2.heap.size := t2
  clear HP HAt hb2 HB1 HA1 HR1 t1 t2 t3 t4 t5 hA2 hR2
  go_wp2_with fail
  refine (kept_any a a2 cap cap2 ns A K w2 hl HA.out (HR.out.grown HB2.out)).mono ?_
  rintro e w3 ⟨v3, rfl, hb3, hn3, hp3⟩
  obtain ⟨a3, n3, c3, rfl⟩ : ∃ a n c, v3 = .slice a n c := by
    by_cases hk : K < 0
    · obtain ⟨a3, c3, rfl, -, -⟩ := (hn3 hk).row; exact ⟨_, _, _, rfl⟩
    · exact ⟨_, _, _, hp3 hk⟩
  have hR3 := (hb3.block (w.heap.size + 1) (by omega)).trans HR2.out
  have r0 : w3.cell? ⟨w.heap.size + 1, 0, none⟩ = some (.slice none 0 0) := (cell_of_row w3 _ 0 _ _ _ hR3).trans rfl
  have f0 : w3.frozen? ⟨w.heap.size + 1, 0, none⟩ = false := frozen_of_row w3 _ 0 _ _ hR3
  have HBL : Hid ((w3.setCell ⟨w.heap.size + 1, 0, none⟩ (.slice a3 n3 c3)).heap[w.heap.size + 1]? = some (.cells #[.slice a3 n3 c3] 28 (0, 0))) := (heap_setCell_same w3 _ 0 _ _ _ hR3).trans rfl
  have HO3 : Hid (OwnN w.heap.size (w3.setCell ⟨w.heap.size + 1, 0, none⟩ (.slice a3 n3 c3)) (.slice a3 n3 c3) (keptA ns A K)) := by
    by_cases hk : K < 0
    · show OwnN _ _ _ _; rw [keptA_neg hk]; exact OwnN.base (ownsRow_setCell_below (hn3 hk) (show w.heap.size + 1 < w2.heap.size by omega) _) (by omega)
    · show OwnN _ _ _ _; rw [keptA_pos hk, hp3 hk]; exact OwnN.base (ownsRow_setCell_below (HO2.out.later hb3) (show w.heap.size + 1 < w0.heap.size by omega) _) (by omega)
  have HB3 : Hid (Below w.heap.size w (w3.setCell ⟨w.heap.size + 1, 0, none⟩ (.slice a3 n3 c3))) := (HB2.out.trans (hb3.mono (by omega))).setCell (show w.heap.size ≤ w.heap.size + 1 by omega) _
  clear hb3 hn3 hp3 hR3 o0 o1 HO2 HR2 HB2
  go_wp2
  refine bodyPost_ret (res_cell2 rfl _ _ (w.heap.size + 1) 28 #[.slice a3 n3 c3] (0, 0) _ rfl ?_ Try.underlying28 rfl arenaSize) rfl ?_
  · exact HBL.out
  · exact ⟨_, rfl, HO3.out, HB3.out⟩
set_option maxHeartbeats 3200000 in
theorem specCertD_any (D : Nat → Prop) (g : Nat) (ns : List Nd) (nm : Int) (w : World) (hl : ns.length ≤ 1048576) (h : ArD D w g ns) (hB : ∀ k, D k → k < w.heap.size) :
    Calls Try.prog 131 #[.pointer (some ⟨g, 0, none⟩), .int .i64 nm] w fun e w' => e = .returned (.int .i64 (crK ns nm)) ∧ ArD D w' g (crA ns nm) ∧ Safe D w w' := by
  have H0 : Hid (ArD D w g ns ∧ Safe D w w) := ⟨h, Safe.refl _ _⟩
  have HBO : Hid (∀ k, D k → k < w.heap.size) := hB
  clear h hB
  go_enter Try.func131, Try.ntmps131
  go_wp2_with fail
  refine Calls.mono (specAtomD_any D g (ns) (1000) w (hl) H0.out.1 (H0.out.2.old HBO.out)) ?_
  rintro e w1 ⟨rfl, ha, hb⟩
  have H1 : Hid (ArD D w1 g _ ∧ Safe D w w1) := ⟨ha, H0.out.2.trans hb⟩
  clear ha hb H0
  go_wp2_with fail
  refine Calls.mono (specAtomD_any D g (crA1 ns) (60) w1 (putA_le2 hl) H1.out.1 (H1.out.2.old HBO.out)) ?_
  rintro e w2 ⟨rfl, ha, hb⟩
  have H2 : Hid (ArD D w2 g _ ∧ Safe D w w2) := ⟨ha, H1.out.2.trans hb⟩
  clear ha hb H1
  go_wp2_with fail
  refine Calls.mono (specAtomD_any D g (crA2 ns) (nm) w2 (crA2_le hl) H2.out.1 (H2.out.2.old HBO.out)) ?_
  rintro e w3 ⟨rfl, ha, hb⟩
  have H3 : Hid (ArD D w3 g _ ∧ Safe D w w3) := ⟨ha, H2.out.2.trans hb⟩
  clear ha hb H2
  go_wp2_with fail
  refine Calls.mono (specLongD_any D g (crA3 ns nm) nm w3 (crA3_le hl) H3.out.1 (H3.out.2.old HBO.out)) ?_
  rintro e w4 ⟨rfl, ha, hb⟩
  have H4 : Hid (ArD D w4 g _ ∧ Safe D w w4) := ⟨ha, H3.out.2.trans hb⟩
  clear ha hb H3
  go_wp2_with fail
  refine Calls.mono (specMakeD_any D g (lgA (crA3 ns nm) nm) 6 (lgK (crA3 ns nm) nm) (0) w4 (lgA_le (crA3_le hl)) H4.out.1 (H4.out.2.old HBO.out)) ?_
  rintro e w5 ⟨rfl, ha, hb⟩
  have H5 : Hid (ArD D w5 g _ ∧ Safe D w w5) := ⟨ha, H4.out.2.trans hb⟩
  clear ha hb H4
  go_wp2_with fail
  refine Calls.mono (listLit_any D g (crA5 ns nm) [crK2 ns, crK3 ns nm, crK5 ns nm] w5 (crA5_le hl) (by simp) H5.out.1 (H5.out.2.old HBO.out)) ?_
  rintro e w6 ⟨rfl, ha, hb⟩
  have H6 : Hid (ArD D w6 g _ ∧ Safe D w w6) := ⟨ha, H5.out.2.trans hb⟩
  clear ha hb H5
  go_wp2_with fail
  refine Calls.mono (specMakeD_any D g ((crL ns nm).1) 8 (crK1 ns) ((crL ns nm).2) w6 (crL_le hl) H6.out.1 (H6.out.2.old HBO.out)) ?_
  rintro e w7 ⟨rfl, ha, hb⟩
  have H7 : Hid (ArD D w7 g _ ∧ Safe D w w7) := ⟨ha, H6.out.2.trans hb⟩
  clear ha hb H6
  go_wp2
  go_ret
  exact ⟨rfl, H7.out.1, H7.out.2⟩
set_option maxHeartbeats 1600000 in
theorem specCert_any (a : Option Addr) (cap : Nat) (ns : List Nd) (nm : Int) (w : World) (hl : ns.length ≤ 1048576) (ha : AddrN a cap) (hr : RowN w.heap.size w a ns) :
    Calls Try.prog 62 #[.agg #[.slice a ns.length cap], .int .i64 nm] w fun e w' => ∃ v, e = .returned (.tuple #[.agg #[v], .int .i64 (crK ns nm)]) ∧ OwnN w.heap.size w' v (keptA ns (crA ns nm) (crK ns nm)) ∧ Below w.heap.size w w' := by
  obtain ⟨A, K, HP, HN, hEK, hEA⟩ : ∃ (A : List Nd) (K : Int), Hid (∀ (B g : Nat) (wz : World), ArenaAt B wz g ns → B ≤ wz.heap.size → Calls Try.prog 131 #[.pointer (some ⟨g, 0, none⟩), .int .i64 nm] wz fun e w' => e = .returned (.int .i64 K) ∧ ArenaAt B w' g A ∧ Below B wz w') ∧ Hid True ∧ K = crK ns nm ∧ A = crA ns nm := ⟨_, _, fun B g wz h hB => (specCertD_any (fun k => k < B) g ns nm wz hl h.toD (fun k hk => Nat.lt_of_lt_of_le hk hB)).mono fun _ _ ⟨he, ha, hs⟩ => ⟨he, ha.toB, hs.below (fun k hk => hk)⟩, trivial, rfl, rfl⟩
  rw [← hEK, ← hEA]
  clear hEK hEA HN
  have hb0 : Below w.heap.size w ((w.alloc (.cells #[.slice a ns.length cap] 28)).alloc (.cells #[.slice none 0 0] 28)) := ((Below.refl _ _).alloc (Nat.le_refl _) _).alloc (by simp) _
  have hs0 : ((w.alloc (.cells #[.slice a ns.length cap] 28)).alloc (.cells #[.slice none 0 0] 28)).heap.size = w.heap.size + 2 := by simp
  have hA0 : ((w.alloc (.cells #[.slice a ns.length cap] 28)).alloc (.cells #[.slice none 0 0] 28)).heap[w.heap.size]? = some (.cells #[.slice a ns.length cap] 28 (0, 0)) := (heap_alloc_old _ _ (by simp)).trans (heap_alloc_new w _)
  have hr0 : ((w.alloc (.cells #[.slice a ns.length cap] 28)).alloc (.cells #[.slice none 0 0] 28)).heap[w.heap.size + 1]? = some (.cells #[.slice none 0 0] 28 (0, 0)) := by
    have := heap_alloc_new (w.alloc (.cells #[.slice a ns.length cap] 28)) (.cells #[.slice none 0 0] 28)
    simpa using this
  have HR : Hid (RowN w.heap.size w a ns) := hr
  have HA : Hid (AddrN a cap) := ha
  clear hr ha
  go_enter Try.func62, Try.ntmps62
  go_wp2_with fail
  generalize (w.alloc (.cells #[.slice a ns.length cap] 28)).alloc (.cells #[.slice none 0 0] 28) = w0 at hb0 hs0 hA0 hr0 ⊢
  refine (specCopy_any a cap ns w0 hl HA.out (HR.out.grown hb0)).mono ?_
  rintro e w1 ⟨v, rfl, hown, hb1⟩
  obtain ⟨a1, cap1, rfl, ha1, hr1⟩ := hown.row
  have hs1 := hb1.size
  have hbA : Below w1.heap.size w1 (w1.alloc (.cells #[.slice a1 ns.length cap1] 28)) := (Below.refl _ _).alloc (Nat.le_refl _) _
  have HAt : Hid (ArenaAt w0.heap.size (w1.alloc (.cells #[.slice a1 ns.length cap1] 28)) w1.heap.size ns) := ⟨hs1, by simp, _, heap_alloc_new w1 _, hown.later hbA, fun h => by have := (hown.lt _ h).2; omega⟩
  have HB1 : Hid (Below w.heap.size w (w1.alloc (.cells #[.slice a1 ns.length cap1] 28))) := (hb0.trans (hb1.mono (by omega))).trans (hbA.mono (by omega))
  have HA1 : Hid ((w1.alloc (.cells #[.slice a1 ns.length cap1] 28)).heap[w.heap.size]? = some (.cells #[.slice a ns.length cap] 28 (0, 0))) := (hbA.block _ (by omega)).trans ((hb1.block w.heap.size (by omega)).trans hA0)
  have HR1 : Hid ((w1.alloc (.cells #[.slice a1 ns.length cap1] 28)).heap[w.heap.size + 1]? = some (.cells #[.slice none 0 0] 28 (0, 0))) := (hbA.block _ (by omega)).trans ((hb1.block (w.heap.size + 1) (by omega)).trans hr0)
  clear hown hb0 hb1 hA0 hr0 ha1 hr1 hbA
  go_wp2_with fail
  refine Calls.mono (HP.out _ _ _ HAt.out (by simp; omega)) ?_
  rintro e w2 ⟨rfl, hat, hb2⟩
  obtain ⟨t1, t2, v2, t3, t4, t5⟩ := hat
  obtain ⟨a2, cap2, rfl, -, -⟩ := t4.row
  have HB2 : Hid (Below w.heap.size w w2) := HB1.out.trans (hb2.mono (by omega))
  have hA2 := (hb2.block w.heap.size (by omega)).trans HA1.out
  have hR2 := (hb2.block (w.heap.size + 1) (by omega)).trans HR1.out
  have o0 : w2.cell? ⟨w.heap.size, 0, none⟩ = some (.slice a ns.length cap) := (cell_of_row w2 _ 0 _ _ _ hA2).trans rfl
  have o1 : w2.cell? ⟨w1.heap.size, 0, none⟩ = some (.slice a2 A.length cap2) := (cell_of_row w2 _ 0 _ _ _ t3).trans rfl
  have HR2 : Hid (w2.heap[w.heap.size + 1]? = some (.cells #[.slice none 0 0] 28 (0, 0))) := hR2
  have HO2 : Hid (OwnN w0.heap.size w2 (.slice a2 A.length cap2) A) := t4
  have hs2 : w1.heap.size < w2.heap.size := t2
  clear HP HAt hb2 HB1 HA1 HR1 t1 t2 t3 t4 t5 hA2 hR2
  go_wp2_with fail
  refine (kept_any a a2 cap cap2 ns A K w2 hl HA.out (HR.out.grown HB2.out)).mono ?_
  rintro e w3 ⟨v3, rfl, hb3, hn3, hp3⟩
  obtain ⟨a3, n3, c3, rfl⟩ : ∃ a n c, v3 = .slice a n c := by
    by_cases hk : K < 0
    · obtain ⟨a3, c3, rfl, -, -⟩ := (hn3 hk).row; exact ⟨_, _, _, rfl⟩
    · exact ⟨_, _, _, hp3 hk⟩
  have hR3 := (hb3.block (w.heap.size + 1) (by omega)).trans HR2.out
  have r0 : w3.cell? ⟨w.heap.size + 1, 0, none⟩ = some (.slice none 0 0) := (cell_of_row w3 _ 0 _ _ _ hR3).trans rfl
  have f0 : w3.frozen? ⟨w.heap.size + 1, 0, none⟩ = false := frozen_of_row w3 _ 0 _ _ hR3
  have HBL : Hid ((w3.setCell ⟨w.heap.size + 1, 0, none⟩ (.slice a3 n3 c3)).heap[w.heap.size + 1]? = some (.cells #[.slice a3 n3 c3] 28 (0, 0))) := (heap_setCell_same w3 _ 0 _ _ _ hR3).trans rfl
  have HO3 : Hid (OwnN w.heap.size (w3.setCell ⟨w.heap.size + 1, 0, none⟩ (.slice a3 n3 c3)) (.slice a3 n3 c3) (keptA ns A K)) := by
    by_cases hk : K < 0
    · show OwnN _ _ _ _; rw [keptA_neg hk]; exact OwnN.base (ownsRow_setCell_below (hn3 hk) (show w.heap.size + 1 < w2.heap.size by omega) _) (by omega)
    · show OwnN _ _ _ _; rw [keptA_pos hk, hp3 hk]; exact OwnN.base (ownsRow_setCell_below (HO2.out.later hb3) (show w.heap.size + 1 < w0.heap.size by omega) _) (by omega)
  have HB3 : Hid (Below w.heap.size w (w3.setCell ⟨w.heap.size + 1, 0, none⟩ (.slice a3 n3 c3))) := (HB2.out.trans (hb3.mono (by omega))).setCell (show w.heap.size ≤ w.heap.size + 1 by omega) _
  clear hb3 hn3 hp3 hR3 o0 o1 HO2 HR2 HB2
  go_wp2
  refine bodyPost_ret (res_cell2 rfl _ _ (w.heap.size + 1) 28 #[.slice a3 n3 c3] (0, 0) _ rfl ?_ Try.underlying28 rfl arenaSize) rfl ?_
  · exact HBL.out
  · exact ⟨_, rfl, HO3.out, HB3.out⟩
end Go.Proofs.Ytffnadnndmmliaa
