/- The contracts of chapter 10's LongSecret, PskOf and CertOf, the specification's, and what they make in plain words. -/
import Derived.Test.YtlecpjgeaigjkaaArenaD
import Derived.Test.YtlecpjgeaigjkaaKeptS
import Derived.Test.YtlecpjgeaigjkaaListLit
import Derived.WalkKit
import Derived.WalkLawsBesides
import Derived.WalkSpells
import Derived.Laws.Rows
namespace Go.Proofs.Ytlecpjgeaigjkaa
open Go.RowKit
set_option linter.unusedVariables false
/-- The long secret of a name. -/
def nmB (n : Int) : Bool := inB n 0 9
def lgA (ns : List Nd) (n : Int) : List Nd := if nmB n = true then putA ns ⟨1, 2000 + n, 0, 0⟩ else ns
def lgK (ns : List Nd) (n : Int) : Int := if nmB n = true then putK ns ⟨1, 2000 + n, 0, 0⟩ else -1
/-- The secret of two names. -/
def pkB (x y : Int) : Bool := inB x 0 9 && inB y 0 9
def pkN (x y : Int) : Int := if y < x then 3000 + 10 * y + x else 3000 + 10 * x + y
def pkA (ns : List Nd) (x y : Int) : List Nd := if pkB x y = true then putA ns ⟨1, pkN x y, 0, 0⟩ else ns
def pkK (ns : List Nd) (x y : Int) : Int := if pkB x y = true then putK ns ⟨1, pkN x y, 0, 0⟩ else -1
/-- A certificate, made step by step. -/
def crA1 (ns : List Nd) : List Nd := putA ns ⟨1, 1000, 0, 0⟩
def crK1 (ns : List Nd) : Int := putK ns ⟨1, 1000, 0, 0⟩
def crA2 (ns : List Nd) : List Nd := putA (crA1 ns) ⟨1, 60, 0, 0⟩
def crK2 (ns : List Nd) : Int := putK (crA1 ns) ⟨1, 60, 0, 0⟩
def crA3 (ns : List Nd) (n : Int) : List Nd := putA (crA2 ns) ⟨1, n, 0, 0⟩
def crK3 (ns : List Nd) (n : Int) : Int := putK (crA2 ns) ⟨1, n, 0, 0⟩
def crA5 (ns : List Nd) (n : Int) : List Nd := makeA (lgA (crA3 ns n) n) 6 (lgK (crA3 ns n) n) 0
def crK5 (ns : List Nd) (n : Int) : Int := makeK (lgA (crA3 ns n) n) 6 (lgK (crA3 ns n) n) 0
def crL (ns : List Nd) (n : Int) : List Nd × Int := listF [crK2 ns, crK3 ns n, crK5 ns n] (crA5 ns n)
def crA (ns : List Nd) (n : Int) : List Nd := makeA (crL ns n).1 8 (crK1 ns) (crL ns n).2
def crK (ns : List Nd) (n : Int) : Int := makeK (crL ns n).1 8 (crK1 ns) (crL ns n).2
theorem lgA_le {ns : List Nd} {n : Int} (h : ns.length ≤ 1048576) : (lgA ns n).length ≤ 1048576 := by
  unfold lgA; split
  · exact putA_le2 h
  · exact h
theorem pkA_le {ns : List Nd} {x y : Int} (h : ns.length ≤ 1048576) : (pkA ns x y).length ≤ 1048576 := by
  unfold pkA; split
  · exact putA_le2 h
  · exact h
theorem crA2_le {ns : List Nd} (h : ns.length ≤ 1048576) : (crA2 ns).length ≤ 1048576 := putA_le2 (putA_le2 h)
theorem crA3_le {ns : List Nd} {n : Int} (h : ns.length ≤ 1048576) : (crA3 ns n).length ≤ 1048576 := putA_le2 (crA2_le h)
theorem crA5_le {ns : List Nd} {n : Int} (h : ns.length ≤ 1048576) : (crA5 ns n).length ≤ 1048576 := makeA_le (lgA_le (crA3_le h))
theorem crL_le {ns : List Nd} {n : Int} (h : ns.length ≤ 1048576) : (crL ns n).1.length ≤ 1048576 := listF_le _ (crA5_le h)
theorem crA_le {ns : List Nd} {n : Int} (h : ns.length ≤ 1048576) : (crA ns n).length ≤ 1048576 := makeA_le (crL_le h)
theorem in_le {x a b : Int} (h : inB x a b = true) : a ≤ x ∧ x ≤ b := by unfold inB at h; simpa using h
set_option maxHeartbeats 3200000 in
theorem specLongD_any (D : Nat → Prop) (g : Nat) (ns : List Nd) (nm : Int) (w : World) (hl : ns.length ≤ 1048576) (h : ArD D w g ns) (hB : ∀ k, D k → k < w.heap.size) :
    Calls Try.prog 108 #[.pointer (some ⟨g, 0, none⟩), .int .i64 nm] w fun e w' => e = .returned (.int .i64 (lgK ns nm)) ∧ ArD D w' g (lgA ns nm) ∧ Safe D w w' := by
  have H0 : Hid (ArD D w g ns ∧ Safe D w w) := ⟨h, Safe.refl _ _⟩
  have HBO : Hid (∀ k, D k → k < w.heap.size) := hB
  obtain ⟨h1, h2, v, h3, h4, h5, h6⟩ := h
  obtain ⟨a, cap, rfl, ha, hr⟩ := h4.row
  have HC : Hid (w.heap[g]? = some (.cells #[.slice a ns.length cap] 30 (0, 0))) := h3
  have HR : Hid (RowN w.heap.size w a ns) := hr
  have hgl : g < w.heap.size := h2
  clear h1 h2 h3 h4 h5 h6 ha hr hB
  obtain ⟨d0, HD0⟩ : ∃ d, Hid (inB nm 0 9 = d) := ⟨_, rfl⟩
  have HE : Hid (nmB nm = d0) := by show _ = _; unfold nmB; rw [HD0.out]
  have HB0 : Hid (Below w.heap.size w w) := Below.refl _ _
  cases d0
  · have HK : Hid (lgK ns nm = -1 ∧ lgA ns nm = ns) := by
      refine ⟨?_, ?_⟩
      · unfold lgK; rw [HE.out]; rfl
      · unfold lgA; rw [HE.out]; rfl
    clear HE
    go_enter Try.func108, Try.ntmps108
    go_wp2_with (first | (go_at_call 65; refine (specIn_any _ _ _ _).mono ?_; rintro e w' ⟨rfl, rfl⟩; rw [HD0.out]))
    go_ret
    exact ⟨by rw [HK.out.1]; rfl, by rw [HK.out.2]; exact H0.out.1.later HB0.out, Safe.of_below HB0.out HBO.out⟩
  have HK : Hid (lgK ns nm = putK ns ⟨1, 2000 + nm, 0, 0⟩ ∧ lgA ns nm = putA ns ⟨1, 2000 + nm, 0, 0⟩) := by
    refine ⟨?_, ?_⟩
    · unfold lgK; rw [HE.out]; rfl
    · unfold lgA; rw [HE.out]; rfl
  have hnm := in_le HD0.out
  have hw0 : wrap64 (2000 + nm) = 2000 + nm := by unfold wrap64; omega
  clear HE
  go_enter Try.func108, Try.ntmps108
  go_wp2_with (first | (go_at_call 65; refine (specIn_any _ _ _ _).mono ?_; rintro e w' ⟨rfl, rfl⟩; rw [HD0.out]))
  refine Calls.mono (specAtomD_any D g (ns) (2000 + nm) w (hl) H0.out.1 (H0.out.2.old HBO.out)) ?_
  rintro e w1 ⟨rfl, ha, hb⟩
  have H1 : Hid (ArD D w1 g _ ∧ Safe D w w1) := ⟨ha, H0.out.2.trans hb⟩
  clear ha hb H0
  go_wp2
  go_ret
  exact ⟨by rw [HK.out.1]; rfl, by rw [HK.out.2]; exact H1.out.1, H1.out.2⟩
set_option maxHeartbeats 3200000 in
theorem specCertD_any (D : Nat → Prop) (g : Nat) (ns : List Nd) (nm : Int) (w : World) (hl : ns.length ≤ 1048576) (h : ArD D w g ns) (hB : ∀ k, D k → k < w.heap.size) :
    Calls Try.prog 107 #[.pointer (some ⟨g, 0, none⟩), .int .i64 nm] w fun e w' => e = .returned (.int .i64 (crK ns nm)) ∧ ArD D w' g (crA ns nm) ∧ Safe D w w' := by
  have H0 : Hid (ArD D w g ns ∧ Safe D w w) := ⟨h, Safe.refl _ _⟩
  have HBO : Hid (∀ k, D k → k < w.heap.size) := hB
  clear h hB
  go_enter Try.func107, Try.ntmps107
  go_wp2_with fail
  refine Calls.mono (specAtomD_any D g (ns) (1000) w (hl) H0.out.1 (H0.out.2.old HBO.out)) ?_
  rintro e w1 ⟨rfl, ha, hb⟩
  have H1 : Hid (ArD D w1 g _ ∧ Safe D w w1) := ⟨ha, H0.out.2.trans hb⟩
  clear ha hb H0
  go_wp2_with fail
  refine Calls.mono (specAtomD_any D g (crA1 ns) (60) w1 (putA_le2 hl) H1.out.1 (H1.out.2.old HBO.out)) ?_
  rintro e w2 ⟨rfl, ha, hb⟩
  have H2 : Hid (ArD D w2 g _ ∧ Safe D w w2) := ⟨ha, H1.out.2.trans hb⟩
  clear ha hb H1
  go_wp2_with fail
  refine Calls.mono (specAtomD_any D g (crA2 ns) (nm) w2 (crA2_le hl) H2.out.1 (H2.out.2.old HBO.out)) ?_
  rintro e w3 ⟨rfl, ha, hb⟩
  have H3 : Hid (ArD D w3 g _ ∧ Safe D w w3) := ⟨ha, H2.out.2.trans hb⟩
  clear ha hb H2
  go_wp2_with fail
  refine Calls.mono (specLongD_any D g (crA3 ns nm) nm w3 (crA3_le hl) H3.out.1 (H3.out.2.old HBO.out)) ?_
  rintro e w4 ⟨rfl, ha, hb⟩
  have H4 : Hid (ArD D w4 g _ ∧ Safe D w w4) := ⟨ha, H3.out.2.trans hb⟩
  clear ha hb H3
  go_wp2_with fail
  refine Calls.mono (specMakeD_any D g (lgA (crA3 ns nm) nm) 6 (lgK (crA3 ns nm) nm) (0) w4 (lgA_le (crA3_le hl)) H4.out.1 (H4.out.2.old HBO.out)) ?_
  rintro e w5 ⟨rfl, ha, hb⟩
  have H5 : Hid (ArD D w5 g _ ∧ Safe D w w5) := ⟨ha, H4.out.2.trans hb⟩
  clear ha hb H4
  go_wp2_with fail
  refine Calls.mono (listLit_any D g (crA5 ns nm) [crK2 ns, crK3 ns nm, crK5 ns nm] w5 (crA5_le hl) (by simp) H5.out.1 (H5.out.2.old HBO.out)) ?_
  rintro e w6 ⟨rfl, ha, hb⟩
  have H6 : Hid (ArD D w6 g _ ∧ Safe D w w6) := ⟨ha, H5.out.2.trans hb⟩
  clear ha hb H5
  go_wp2_with fail
  refine Calls.mono (specMakeD_any D g ((crL ns nm).1) 8 (crK1 ns) ((crL ns nm).2) w6 (crL_le hl) H6.out.1 (H6.out.2.old HBO.out)) ?_
  rintro e w7 ⟨rfl, ha, hb⟩
  have H7 : Hid (ArD D w7 g _ ∧ Safe D w w7) := ⟨ha, H6.out.2.trans hb⟩
  clear ha hb H6
  go_wp2
  go_ret
  exact ⟨rfl, H7.out.1, H7.out.2⟩
end Go.Proofs.Ytlecpjgeaigjkaa
