/- The contracts of chapter 10's LongSecret, PskOf and CertOf, the specification's, and what they make in plain words. -/
import Derived.Test.YtaanophnnkmkbaaGreatArenaD
import Derived.Test.YtaanophnnkmkbaaGreatKeptS
import Derived.WalkKit
import Derived.WalkLawsBesides
import Derived.WalkSpells
import Derived.Laws.Rows
import Derived.Test.YtaanophnnkmkbaaGreatMakeParts
import Derived.Test.YtaanophnnkmkbaaGreatMakeIs
import Derived.Test.YtaanophnnkmkbaaGreatPlainTerm
import Derived.OwnWalk
import Derived.Deep.QuietTactic
import Derived.BigQuiet
import Derived.Test.YtaanophnnkmkbaaGreatLawKeep
import Derived.Test.YtaanophnnkmkbaaGreatPlainRT2
namespace Go.Proofs.YtaanophnnkmkbaaGreat
open Go.RowKit
set_option linter.unusedVariables false
/-- The long secret of a name. -/
def nmB (n : Int) : Bool := inB n 0 9
def lgA (ns : List Nd) (n : Int) : List Nd := if nmB n = true then putA ns ⟨1, 2000 + n, 0, 0⟩ else ns
def lgK (ns : List Nd) (n : Int) : Int := if nmB n = true then putK ns ⟨1, 2000 + n, 0, 0⟩ else -1
/-- The secret of two names. -/
def pkB (x y : Int) : Bool := inB x 0 9 && inB y 0 9
def pkN (x y : Int) : Int := if y < x then 3000 + 10 * y + x else 3000 + 10 * x + y
def pkA (ns : List Nd) (x y : Int) : List Nd := if pkB x y = true then putA ns ⟨1, pkN x y, 0, 0⟩ else ns
def pkK (ns : List Nd) (x y : Int) : Int := if pkB x y = true then putK ns ⟨1, pkN x y, 0, 0⟩ else -1
/-- A certificate, made step by step. -/
def crA1 (ns : List Nd) : List Nd := putA ns ⟨1, 1000, 0, 0⟩
def crK1 (ns : List Nd) : Int := putK ns ⟨1, 1000, 0, 0⟩
def crA2 (ns : List Nd) : List Nd := putA (crA1 ns) ⟨1, 60, 0, 0⟩
def crK2 (ns : List Nd) : Int := putK (crA1 ns) ⟨1, 60, 0, 0⟩
def crA3 (ns : List Nd) (n : Int) : List Nd := putA (crA2 ns) ⟨1, n, 0, 0⟩
def crK3 (ns : List Nd) (n : Int) : Int := putK (crA2 ns) ⟨1, n, 0, 0⟩
def crA5 (ns : List Nd) (n : Int) : List Nd := makeA (lgA (crA3 ns n) n) 6 (lgK (crA3 ns n) n) 0
def crK5 (ns : List Nd) (n : Int) : Int := makeK (lgA (crA3 ns n) n) 6 (lgK (crA3 ns n) n) 0
def crL (ns : List Nd) (n : Int) : List Nd × Int := listF [crK2 ns, crK3 ns n, crK5 ns n] (crA5 ns n)
def crA (ns : List Nd) (n : Int) : List Nd := makeA (crL ns n).1 8 (crK1 ns) (crL ns n).2
def crK (ns : List Nd) (n : Int) : Int := makeK (crL ns n).1 8 (crK1 ns) (crL ns n).2
theorem lgA_le {ns : List Nd} {n : Int} (h : ns.length ≤ 1048576) : (lgA ns n).length ≤ 1048576 := by
  unfold lgA; split
  · exact putA_le2 h
  · exact h
theorem pkA_le {ns : List Nd} {x y : Int} (h : ns.length ≤ 1048576) : (pkA ns x y).length ≤ 1048576 := by
  unfold pkA; split
  · exact putA_le2 h
  · exact h
theorem crA2_le {ns : List Nd} (h : ns.length ≤ 1048576) : (crA2 ns).length ≤ 1048576 := putA_le2 (putA_le2 h)
theorem crA3_le {ns : List Nd} {n : Int} (h : ns.length ≤ 1048576) : (crA3 ns n).length ≤ 1048576 := putA_le2 (crA2_le h)
theorem crA5_le {ns : List Nd} {n : Int} (h : ns.length ≤ 1048576) : (crA5 ns n).length ≤ 1048576 := makeA_le (lgA_le (crA3_le h))
theorem crL_le {ns : List Nd} {n : Int} (h : ns.length ≤ 1048576) : (crL ns n).1.length ≤ 1048576 := listF_le _ (crA5_le h)
theorem crA_le {ns : List Nd} {n : Int} (h : ns.length ≤ 1048576) : (crA ns n).length ≤ 1048576 := makeA_le (crL_le h)
theorem in_le {x a b : Int} (h : inB x a b = true) : a ≤ x ∧ x ≤ b := by unfold inB at h; simpa using h
set_option maxHeartbeats 3200000 in
theorem specLongD_any (D : Nat → Prop) (g : Nat) (ns : List Nd) (nm : Int) (w : World) (hl : ns.length ≤ 1048576) (h : ArD D w g ns) (hB : ∀ k, D k → k < w.heap.size) :
    Calls Tryz.prog 105 #[.pointer (some ⟨g, 0, none⟩), .int .i64 nm] w fun e w' => e = .returned (.int .i64 (lgK ns nm)) ∧ ArD D w' g (lgA ns nm) ∧ Safe D w w' := by
  have H0 : Hid (ArD D w g ns ∧ Safe D w w) := ⟨h, Safe.refl _ _⟩
  have HBO : Hid (∀ k, D k → k < w.heap.size) := hB
  obtain ⟨h1, h2, v, h3, h4, h5, h6⟩ := h
  obtain ⟨a, cap, rfl, ha, hr⟩ := h4.row
  have HC : Hid (w.heap[g]? = some (.cells #[.slice a ns.length cap] 26 (0, 0))) := h3
  have HR : Hid (RowN w.heap.size w a ns) := hr
  have hgl : g < w.heap.size := h2
  clear h1 h2 h3 h4 h5 h6 ha hr hB
  obtain ⟨d0, HD0⟩ : ∃ d, Hid (inB nm 0 9 = d) := ⟨_, rfl⟩
  have HE : Hid (nmB nm = d0) := by show _ = _; unfold nmB; rw [HD0.out]
  have HB0 : Hid (Below w.heap.size w w) := Below.refl _ _
  cases d0
  · have HK : Hid (lgK ns nm = -1 ∧ lgA ns nm = ns) := by
      refine ⟨?_, ?_⟩
      · unfold lgK; rw [HE.out]; rfl
      · unfold lgA; rw [HE.out]; rfl
    clear HE
    go_enter Tryz.func105, Tryz.ntmps105
    go_wp2_with (first | (go_at_call 117; refine (specIn_any _ _ _ _).mono ?_; rintro e w' ⟨rfl, rfl⟩; rw [HD0.out]))
    go_ret
    exact ⟨by rw [HK.out.1]; rfl, by rw [HK.out.2]; exact H0.out.1.later HB0.out, Safe.of_below HB0.out HBO.out⟩
  have HK : Hid (lgK ns nm = putK ns ⟨1, 2000 + nm, 0, 0⟩ ∧ lgA ns nm = putA ns ⟨1, 2000 + nm, 0, 0⟩) := by
    refine ⟨?_, ?_⟩
    · unfold lgK; rw [HE.out]; rfl
    · unfold lgA; rw [HE.out]; rfl
  have hnm := in_le HD0.out
  have hw0 : wrap64 (2000 + nm) = 2000 + nm := by unfold wrap64; omega
  clear HE
  go_enter Tryz.func105, Tryz.ntmps105
  go_wp2_with (first | (go_at_call 117; refine (specIn_any _ _ _ _).mono ?_; rintro e w' ⟨rfl, rfl⟩; rw [HD0.out]))
  refine Calls.mono (specAtomD_any D g (ns) (2000 + nm) w (hl) H0.out.1 (H0.out.2.old HBO.out)) ?_
  rintro e w1 ⟨rfl, ha, hb⟩
  have H1 : Hid (ArD D w1 g _ ∧ Safe D w w1) := ⟨ha, H0.out.2.trans hb⟩
  clear ha hb H0
  go_wp2
  go_ret
  exact ⟨by rw [HK.out.1]; rfl, by rw [HK.out.2]; exact H1.out.1, H1.out.2⟩
set_option maxHeartbeats 3200000 in
theorem specPskD_any (D : Nat → Prop) (g : Nat) (ns : List Nd) (x : Int) (y : Int) (w : World) (hl : ns.length ≤ 1048576) (h : ArD D w g ns) (hB : ∀ k, D k → k < w.heap.size) :
    Calls Tryz.prog 86 #[.pointer (some ⟨g, 0, none⟩), .int .i64 x, .int .i64 y] w fun e w' => e = .returned (.int .i64 (pkK ns x y)) ∧ ArD D w' g (pkA ns x y) ∧ Safe D w w' := by
  have H0 : Hid (ArD D w g ns ∧ Safe D w w) := ⟨h, Safe.refl _ _⟩
  have HBO : Hid (∀ k, D k → k < w.heap.size) := hB
  obtain ⟨h1, h2, v, h3, h4, h5, h6⟩ := h
  obtain ⟨a, cap, rfl, ha, hr⟩ := h4.row
  have HC : Hid (w.heap[g]? = some (.cells #[.slice a ns.length cap] 26 (0, 0))) := h3
  have HR : Hid (RowN w.heap.size w a ns) := hr
  have hgl : g < w.heap.size := h2
  clear h1 h2 h3 h4 h5 h6 ha hr hB
  obtain ⟨d0, HD0⟩ : ∃ d, Hid (inB x 0 9 = d) := ⟨_, rfl⟩
  obtain ⟨d1, HD1⟩ : ∃ d, Hid (inB y 0 9 = d) := ⟨_, rfl⟩
  have HE : Hid (pkB x y = (d0 && d1)) := by show _ = _; unfold pkB; rw [HD0.out, HD1.out]
  have HB0 : Hid (Below w.heap.size w w) := Below.refl _ _
  cases d0
  · have HK : Hid (pkK ns x y = -1 ∧ pkA ns x y = ns) := by
      refine ⟨?_, ?_⟩
      · unfold pkK; rw [HE.out]; rfl
      · unfold pkA; rw [HE.out]; rfl
    clear HE
    go_enter Tryz.func86, Tryz.ntmps86
    go_wp2_with (first | (go_at_call 117; refine (specIn_any _ _ _ _).mono ?_; rintro e w' ⟨rfl, rfl⟩; rw [HD0.out]))
    go_ret
    exact ⟨by rw [HK.out.1]; rfl, by rw [HK.out.2]; exact H0.out.1.later HB0.out, Safe.of_below HB0.out HBO.out⟩
  cases d1
  · have HK : Hid (pkK ns x y = -1 ∧ pkA ns x y = ns) := by
      refine ⟨?_, ?_⟩
      · unfold pkK; rw [HE.out]; rfl
      · unfold pkA; rw [HE.out]; rfl
    clear HE
    go_enter Tryz.func86, Tryz.ntmps86
    go_wp2_with (first | (go_at_call 117; refine (specIn_any _ _ _ _).mono ?_; rintro e w' ⟨rfl, rfl⟩; rw [HD0.out]) | (go_at_call 117; refine (specIn_any _ _ _ _).mono ?_; rintro e w' ⟨rfl, rfl⟩; rw [HD1.out]))
    go_ret
    exact ⟨by rw [HK.out.1]; rfl, by rw [HK.out.2]; exact H0.out.1.later HB0.out, Safe.of_below HB0.out HBO.out⟩
  by_cases hlt : y < x
  · have HK : Hid (pkK ns x y = putK ns ⟨1, 3000 + 10 * y + x, 0, 0⟩ ∧ pkA ns x y = putA ns ⟨1, 3000 + 10 * y + x, 0, 0⟩) := by
      have hN : pkN x y = 3000 + 10 * y + x := by unfold pkN; rw [if_pos hlt]
      refine ⟨?_, ?_⟩
      · unfold pkK; rw [HE.out, hN]; rfl
      · unfold pkA; rw [HE.out, hN]; rfl
    have hnx := in_le HD0.out
    have hny := in_le HD1.out
    have hw0 : wrap64 (10 * y) = 10 * y := by unfold wrap64; omega
    have hw1 : wrap64 (3000 + 10 * y) = 3000 + 10 * y := by unfold wrap64; omega
    have hw2 : wrap64 (3000 + 10 * y + x) = 3000 + 10 * y + x := by unfold wrap64; omega
    have hlt' : decide (y < x) = true := by simpa using hlt
    have hlt2 : ¬ x ≤ y := by omega
    clear HE
    go_enter Tryz.func86, Tryz.ntmps86
    go_wp2_with (first | (go_at_call 117; refine (specIn_any _ _ _ _).mono ?_; rintro e w' ⟨rfl, rfl⟩; rw [HD0.out]) | (go_at_call 117; refine (specIn_any _ _ _ _).mono ?_; rintro e w' ⟨rfl, rfl⟩; rw [HD1.out]))
    refine Calls.mono (specAtomD_any D g (ns) (3000 + 10 * y + x) w (hl) H0.out.1 (H0.out.2.old HBO.out)) ?_
    rintro e w1 ⟨rfl, ha, hb⟩
    have H1 : Hid (ArD D w1 g _ ∧ Safe D w w1) := ⟨ha, H0.out.2.trans hb⟩
    clear ha hb H0
    go_wp2
    go_ret
    exact ⟨by rw [HK.out.1]; rfl, by rw [HK.out.2]; exact H1.out.1, H1.out.2⟩
  · have HK : Hid (pkK ns x y = putK ns ⟨1, 3000 + 10 * x + y, 0, 0⟩ ∧ pkA ns x y = putA ns ⟨1, 3000 + 10 * x + y, 0, 0⟩) := by
      have hN : pkN x y = 3000 + 10 * x + y := by unfold pkN; rw [if_neg hlt]
      refine ⟨?_, ?_⟩
      · unfold pkK; rw [HE.out, hN]; rfl
      · unfold pkA; rw [HE.out, hN]; rfl
    have hnx := in_le HD0.out
    have hny := in_le HD1.out
    have hw0 : wrap64 (10 * x) = 10 * x := by unfold wrap64; omega
    have hw1 : wrap64 (3000 + 10 * x) = 3000 + 10 * x := by unfold wrap64; omega
    have hw2 : wrap64 (3000 + 10 * x + y) = 3000 + 10 * x + y := by unfold wrap64; omega
    have hlt' : decide (y < x) = false := by simpa using hlt
    have hlt2 : x ≤ y := by omega
    clear HE
    go_enter Tryz.func86, Tryz.ntmps86
    go_wp2_with (first | (go_at_call 117; refine (specIn_any _ _ _ _).mono ?_; rintro e w' ⟨rfl, rfl⟩; rw [HD0.out]) | (go_at_call 117; refine (specIn_any _ _ _ _).mono ?_; rintro e w' ⟨rfl, rfl⟩; rw [HD1.out]))
    refine Calls.mono (specAtomD_any D g (ns) (3000 + 10 * x + y) w (hl) H0.out.1 (H0.out.2.old HBO.out)) ?_
    rintro e w1 ⟨rfl, ha, hb⟩
    have H1 : Hid (ArD D w1 g _ ∧ Safe D w w1) := ⟨ha, H0.out.2.trans hb⟩
    clear ha hb H0
    go_wp2
    go_ret
    exact ⟨by rw [HK.out.1]; rfl, by rw [HK.out.2]; exact H1.out.1, H1.out.2⟩
set_option maxHeartbeats 3200000 in
theorem specCertD_any (D : Nat → Prop) (g : Nat) (ns : List Nd) (nm : Int) (w : World) (hl : ns.length ≤ 1048576) (h : ArD D w g ns) (hB : ∀ k, D k → k < w.heap.size) :
    Calls Tryz.prog 104 #[.pointer (some ⟨g, 0, none⟩), .int .i64 nm] w fun e w' => e = .returned (.int .i64 (crK ns nm)) ∧ ArD D w' g (crA ns nm) ∧ Safe D w w' := by
  have H0 : Hid (ArD D w g ns ∧ Safe D w w) := ⟨h, Safe.refl _ _⟩
  have HBO : Hid (∀ k, D k → k < w.heap.size) := hB
  clear h hB
  go_enter Tryz.func104, Tryz.ntmps104
  go_wp2_with fail
  refine Calls.mono (specAtomD_any D g (ns) (1000) w (hl) H0.out.1 (H0.out.2.old HBO.out)) ?_
  rintro e w1 ⟨rfl, ha, hb⟩
  have H1 : Hid (ArD D w1 g _ ∧ Safe D w w1) := ⟨ha, H0.out.2.trans hb⟩
  clear ha hb H0
  go_wp2_with fail
  refine Calls.mono (specAtomD_any D g (crA1 ns) (60) w1 (putA_le2 hl) H1.out.1 (H1.out.2.old HBO.out)) ?_
  rintro e w2 ⟨rfl, ha, hb⟩
  have H2 : Hid (ArD D w2 g _ ∧ Safe D w w2) := ⟨ha, H1.out.2.trans hb⟩
  clear ha hb H1
  go_wp2_with fail
  refine Calls.mono (specAtomD_any D g (crA2 ns) (nm) w2 (crA2_le hl) H2.out.1 (H2.out.2.old HBO.out)) ?_
  rintro e w3 ⟨rfl, ha, hb⟩
  have H3 : Hid (ArD D w3 g _ ∧ Safe D w w3) := ⟨ha, H2.out.2.trans hb⟩
  clear ha hb H2
  go_wp2_with fail
  refine Calls.mono (specLongD_any D g (crA3 ns nm) nm w3 (crA3_le hl) H3.out.1 (H3.out.2.old HBO.out)) ?_
  rintro e w4 ⟨rfl, ha, hb⟩
  have H4 : Hid (ArD D w4 g _ ∧ Safe D w w4) := ⟨ha, H3.out.2.trans hb⟩
  clear ha hb H3
  go_wp2_with fail
  refine Calls.mono (specMakeD_any D g (lgA (crA3 ns nm) nm) 6 (lgK (crA3 ns nm) nm) (0) w4 (lgA_le (crA3_le hl)) H4.out.1 (H4.out.2.old HBO.out)) ?_
  rintro e w5 ⟨rfl, ha, hb⟩
  have H5 : Hid (ArD D w5 g _ ∧ Safe D w w5) := ⟨ha, H4.out.2.trans hb⟩
  clear ha hb H4
  go_wp2_with fail
  refine Calls.mono (listLit_any D g (crA5 ns nm) [crK2 ns, crK3 ns nm, crK5 ns nm] w5 (crA5_le hl) (by simp) H5.out.1 (H5.out.2.old HBO.out)) ?_
  rintro e w6 ⟨rfl, ha, hb⟩
  have H6 : Hid (ArD D w6 g _ ∧ Safe D w w6) := ⟨ha, H5.out.2.trans hb⟩
  clear ha hb H5
  go_wp2_with fail
  refine Calls.mono (specMakeD_any D g ((crL ns nm).1) 8 (crK1 ns) ((crL ns nm).2) w6 (crL_le hl) H6.out.1 (H6.out.2.old HBO.out)) ?_
  rintro e w7 ⟨rfl, ha, hb⟩
  have H7 : Hid (ArD D w7 g _ ∧ Safe D w w7) := ⟨ha, H6.out.2.trans hb⟩
  clear ha hb H6
  go_wp2
  go_ret
  exact ⟨rfl, H7.out.1, H7.out.2⟩
end Go.Proofs.YtaanophnnkmkbaaGreat

namespace Go.Proofs.YtaanophnnkmkbaaGreat
open Go.RowKit
set_option linter.unusedVariables false
/-- The worlds behind one in which nothing that was there has turned. -/
theorem read_class (w1 : World) : ∃ S : World → Prop, S w1.drew ∧ Nonempty (Hw S) ∧ Hid ((∀ (p : Addr) (v : Value), p.block < w1.heap.size → w1.cell? p = some v → ∀ s : Hw S, s.w.cell? p = some v) ∧ (∀ (s : Hw S) w', Below s.w.heap.size s.w w' → S w') ∧ (∀ w', S w' → Below w1.heap.size w1 w') ∧ (∀ s : Hw S, Below w1.heap.size w1 s.w)) :=
  ⟨fun w' => Below w1.heap.size w1 w', (Below.refl _ _).drew, ⟨⟨w1, Below.refl _ _⟩⟩, fun p v hp hc s => (s.ok.cell hp).trans hc, fun s w' hb => s.ok.trans (hb.mono s.ok.size), fun _ h => h, fun s => s.ok⟩
/-- A part of a List of three. -/
def p3 (ns : List Nd) (k : Int) (i : Nat) : Int := (partsV ns k 3).getD i 0
/-- RecordHead. -/
def headB (ns : List Nd) (k : Int) : Bool := partsB ns k 3 && (isK ns (p3 ns k 0) 1 && (isK ns (p3 ns k 1) 1 && (inB (numV ns (p3 ns k 0)) 0 8 && inB (numV ns (p3 ns k 1)) 0 9999)))
def headE (ns : List Nd) (k : Int) : Int := if headB ns k = true then numV ns (p3 ns k 0) else 0
def headS (ns : List Nd) (k : Int) : Int := if headB ns k = true then numV ns (p3 ns k 1) else 0
theorem parts3 {ns : List Nd} {k : Int} (h : partsB ns k 3 = true) : (partsV ns k 3).length = 3 := by
  unfold partsB at h
  unfold partsV
  cases hp : partsR ns k 3 with
  | none => rw [hp] at h; simp at h
  | some xs =>
    unfold partsR at hp
    rw [if_neg (by omega)] at hp
    exact (partsN_len ns 3 k xs hp).1
/-- The row of the parts. -/
theorem own3 {B : Nat} {w : World} {v : Value} {xs : List Int} (h : OwnInt B w v xs) (hl : xs.length = 3) : ∃ g off cap, v = .slice (some ⟨g, off, none⟩) 3 cap ∧ g < w.heap.size ∧ w.cell? ⟨g, off, none⟩ = some (.int .i64 (xs.getD 0 0)) ∧ w.cell? ⟨g, off + 1, none⟩ = some (.int .i64 (xs.getD 1 0)) ∧ w.cell? ⟨g, off + 2, none⟩ = some (.int .i64 (xs.getD 2 0)) := by
  obtain ⟨a, cap, rfl, -, hr⟩ := h.row
  rcases hr with h0 | ⟨b, off, rfl, hb, hc⟩
  · rw [h0] at hl; simp at hl
  · rw [hl]
    exact ⟨b, off, cap, rfl, hb, hc 0 (by omega), hc 1 (by omega), hc 2 (by omega)⟩
/-- OpenRecord. -/
def inAt (ns : List Nd) (key k : Int) : Int := openV ns key (p3 ns k 2)
def openRB (ns : List Nd) (key k : Int) : Bool := headB ns k && (openB ns key (p3 ns k 2) && (partsB ns (inAt ns key k) 3 && (decide (p3 ns (inAt ns key k) 0 = p3 ns k 0) && decide (p3 ns (inAt ns key k) 1 = p3 ns k 1))))
def openRV (ns : List Nd) (key k : Int) : Int := if openRB ns key k = true then p3 ns (inAt ns key k) 2 else -1
theorem headB_parts {ns : List Nd} {k : Int} (h : headB ns k = true) : partsB ns k 3 = true := by unfold headB at h; simp only [Bool.and_eq_true] at h; exact h.1
end Go.Proofs.YtaanophnnkmkbaaGreat

namespace Go.Proofs.YtaanophnnkmkbaaGreat
open Go.RowKit
set_option linter.unusedVariables false
/-- Is a term the Atom of a number? -/
def numIs (ns : List Nd) (x n : Int) : Bool := isK ns x 1 && decide (numV ns x = n)
/-- CertIn. -/
def crtB (ns : List Nd) (k : Int) : Bool := isK ns k 8 && (numIs ns (ndAt ns k).a 1000 && (partsB ns (ndAt ns k).b 3 && (numIs ns (p3 ns (ndAt ns k).b 0) 60 && (isK ns (p3 ns (ndAt ns k).b 2) 6 && (isK ns (p3 ns (ndAt ns k).b 1) 1 && inB (numV ns (p3 ns (ndAt ns k).b 1)) 0 9)))))
def crtN (ns : List Nd) (k : Int) : Int := if crtB ns k = true then numV ns (p3 ns (ndAt ns k).b 1) else 0
def crtP (ns : List Nd) (k : Int) : Int := if crtB ns k = true then p3 ns (ndAt ns k).b 2 else -1
end Go.Proofs.YtaanophnnkmkbaaGreat

namespace Go.Proofs.YtaanophnnkmkbaaGreat
open Go.RowKit

/-- A variable of an arena in memory. -/
structure Box (g : Nat) (v : Value) (w : World) : Prop where
  row : w.heap[g]? = some (.cells #[v] 26 (0, 0))
theorem Box.lt {g : Nat} {v : Value} {w : World} (h : Box g v w) : g < w.heap.size := (Array.getElem?_eq_some_iff.1 h.row).1
theorem Box.c {g : Nat} {v : Value} {w : World} (h : Box g v w) : w.cell? ⟨g, 0, none⟩ = some v := (cell_of_row _ _ 0 _ _ _ h.row).trans rfl
theorem Box.fr {g : Nat} {v : Value} {w : World} (h : Box g v w) : w.frozen? ⟨g, 0, none⟩ = false := frozen_of_row _ _ 0 _ _ h.row
theorem Box.next {g : Nat} {v : Value} {w w' : World} (h : Box g v w) (hb : Below w.heap.size w w') : Box g v w' := ⟨(hb.block g h.lt).trans h.row⟩
theorem Box.set {g : Nat} {v : Value} {w : World} (h : Box g v w) (u : Value) : Box g u (w.setCell ⟨g, 0, none⟩ u) := ⟨(heap_setCell_same _ _ 0 _ _ _ h.row).trans rfl⟩
theorem Box.made {w : World} {v : Value} : Box w.heap.size v (w.alloc (.cells #[v] 26)) := ⟨heap_alloc_new w _⟩
theorem Own.set {lo hi g : Nat} {v u : Value} {ns : List Nd} {w : World} (h : Own lo hi v ns w) (hg : g < lo) : Own lo hi v ns (w.setCell ⟨g, 0, none⟩ u) := ⟨ownsRow_setCell_below h.own hg _, by simpa using h.le, h.lt⟩
theorem OwnZ.set {lo hi g : Nat} {v u : Value} {xs : List Int} {w : World} (h : OwnZ lo hi v xs w) (hg : g < lo) : OwnZ lo hi v xs (w.setCell ⟨g, 0, none⟩ u) := ⟨ownsRow_setCell_below h.own hg _, by simpa using h.le, h.lt⟩
/-- The first three places that were drawn. -/
structure Pl (g : Nat) (p0 p1 p2 : Nat) (w : World) : Prop where
  lt : g < w.heap.size
  c0 : w.cell? ⟨g, 0, none⟩ = some (.int .i64 (p0 : Int))
  c1 : w.cell? ⟨g, 1, none⟩ = some (.int .i64 (p1 : Int))
  c2 : w.cell? ⟨g, 2, none⟩ = some (.int .i64 (p2 : Int))
theorem Pl.next {g p0 p1 p2 : Nat} {w w' : World} (h : Pl g p0 p1 p2 w) (hb : Below w.heap.size w w') : Pl g p0 p1 p2 w' := ⟨Nat.lt_of_lt_of_le h.lt hb.size, (hb.cell (p := ⟨g, 0, none⟩) h.lt).trans h.c0, (hb.cell (p := ⟨g, 1, none⟩) h.lt).trans h.c1, (hb.cell (p := ⟨g, 2, none⟩) h.lt).trans h.c2⟩
theorem Pl.set {g p0 p1 p2 b : Nat} {u : Value} {w : World} (h : Pl g p0 p1 p2 w) (hb : g ≠ b) : Pl g p0 p1 p2 (w.setCell ⟨b, 0, none⟩ u) := by
  have e : ∀ i, (w.setCell ⟨b, 0, none⟩ u).cell? ⟨g, i, none⟩ = w.cell? ⟨g, i, none⟩ := fun i => World.cell?_of_block (Below.heap_setCell _ _ _ _ hb)
  exact ⟨by simpa using h.lt, (e 0).trans h.c0, (e 1).trans h.c1, (e 2).trans h.c2⟩
end Go.Proofs.YtaanophnnkmkbaaGreat

namespace Go.Proofs.YtaanophnnkmkbaaGreat
open Go.RowKit
/-- A row of nodes that the call owns, shown with whatever room. -/
def OwnC (base : Nat) (w : World) (v : Value) (ns : List Nd) : Prop := ∃ a cap cp, v = .slice a ns.length cap ∧ AddrN a cap ∧ OwnN base w (.slice a ns.length cp) ns
theorem OwnN.clip {base : Nat} {w : World} {v : Value} {ns : List Nd} (h : OwnN base w v ns) : OwnC base w v ns := by
  obtain ⟨a, cap, rfl, ha, _⟩ := h.row
  exact ⟨a, cap, cap, rfl, ha, h⟩
end Go.Proofs.YtaanophnnkmkbaaGreat

namespace Go.Proofs.YtaanophnnkmkbaaGreat
open Go.RowKit
set_option linter.unusedVariables false
/-- The first four places that were drawn. -/
structure Pl4 (g : Nat) (p0 p1 p2 p3 : Nat) (w : World) : Prop where
  lt : g < w.heap.size
  c0 : w.cell? ⟨g, 0, none⟩ = some (.int .i64 (p0 : Int))
  c1 : w.cell? ⟨g, 1, none⟩ = some (.int .i64 (p1 : Int))
  c2 : w.cell? ⟨g, 2, none⟩ = some (.int .i64 (p2 : Int))
  c3 : w.cell? ⟨g, 3, none⟩ = some (.int .i64 (p3 : Int))
theorem Pl4.next {g p0 p1 p2 p3 : Nat} {w w' : World} (h : Pl4 g p0 p1 p2 p3 w) (hb : Below w.heap.size w w') : Pl4 g p0 p1 p2 p3 w' := ⟨Nat.lt_of_lt_of_le h.lt hb.size, (hb.cell (p := ⟨g, 0, none⟩) h.lt).trans h.c0, (hb.cell (p := ⟨g, 1, none⟩) h.lt).trans h.c1, (hb.cell (p := ⟨g, 2, none⟩) h.lt).trans h.c2, (hb.cell (p := ⟨g, 3, none⟩) h.lt).trans h.c3⟩
theorem Pl4.set {g p0 p1 p2 p3 b : Nat} {u : Value} {w : World} (h : Pl4 g p0 p1 p2 p3 w) (hb : g ≠ b) : Pl4 g p0 p1 p2 p3 (w.setCell ⟨b, 0, none⟩ u) := by
  have e : ∀ i, (w.setCell ⟨b, 0, none⟩ u).cell? ⟨g, i, none⟩ = w.cell? ⟨g, i, none⟩ := fun i => World.cell?_of_block (Below.heap_setCell _ _ _ _ hb)
  exact ⟨by simpa using h.lt, (e 0).trans h.c0, (e 1).trans h.c1, (e 2).trans h.c2, (e 3).trans h.c3⟩
end Go.Proofs.YtaanophnnkmkbaaGreat
