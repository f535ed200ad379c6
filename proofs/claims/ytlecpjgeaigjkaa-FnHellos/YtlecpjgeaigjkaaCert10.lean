/- The contracts of chapter 10's LongSecret, PskOf and CertOf, the specification's, and what they make in plain words. -/
import Derived.Test.YtlecpjgeaigjkaaArenaD
import Derived.Test.YtlecpjgeaigjkaaKeptS
import Derived.WalkKit
import Derived.WalkLawsBesides
import Derived.WalkSpells
import Derived.Laws.Rows
import Derived.Test.YtlecpjgeaigjkaaMakeParts
import Derived.Test.YtlecpjgeaigjkaaMakeIs
import Derived.Test.YtlecpjgeaigjkaaTermAt
import Derived.OwnWalk
import Derived.Deep.QuietTactic
import Derived.BigQuiet
import Derived.Test.YtlecpjgeaigjkaaRegionH
import Derived.Deep.RegionWith
import Derived.ChangeOld
import Derived.Test.YtlecpjgeaigjkaaTold7
import Derived.Maps.Own
import Derived.Maps.OwnOps
import Derived.Maps.OwnSet
import Derived.WalkArith
namespace Go.Proofs.Ytlecpjgeaigjkaa
open Go.RowKit
set_option linter.unusedVariables false
/-- The long secret of a name. -/
def nmB (n : Int) : Bool := inB n 0 9
def lgA (ns : List Nd) (n : Int) : List Nd := if nmB n = true then putA ns ⟨1, 2000 + n, 0, 0⟩ else ns
def lgK (ns : List Nd) (n : Int) : Int := if nmB n = true then putK ns ⟨1, 2000 + n, 0, 0⟩ else -1
/-- The secret of two names. -/
def pkB (x y : Int) : Bool := inB x 0 9 && inB y 0 9
def pkN (x y : Int) : Int := if y < x then 3000 + 10 * y + x else 3000 + 10 * x + y
def pkA (ns : List Nd) (x y : Int) : List Nd := if pkB x y = true then putA ns ⟨1, pkN x y, 0, 0⟩ else ns
def pkK (ns : List Nd) (x y : Int) : Int := if pkB x y = true then putK ns ⟨1, pkN x y, 0, 0⟩ else -1
/-- A certificate, made step by step. -/
def crA1 (ns : List Nd) : List Nd := putA ns ⟨1, 1000, 0, 0⟩
def crK1 (ns : List Nd) : Int := putK ns ⟨1, 1000, 0, 0⟩
def crA2 (ns : List Nd) : List Nd := putA (crA1 ns) ⟨1, 60, 0, 0⟩
def crK2 (ns : List Nd) : Int := putK (crA1 ns) ⟨1, 60, 0, 0⟩
def crA3 (ns : List Nd) (n : Int) : List Nd := putA (crA2 ns) ⟨1, n, 0, 0⟩
def crK3 (ns : List Nd) (n : Int) : Int := putK (crA2 ns) ⟨1, n, 0, 0⟩
def crA5 (ns : List Nd) (n : Int) : List Nd := makeA (lgA (crA3 ns n) n) 6 (lgK (crA3 ns n) n) 0
def crK5 (ns : List Nd) (n : Int) : Int := makeK (lgA (crA3 ns n) n) 6 (lgK (crA3 ns n) n) 0
def crL (ns : List Nd) (n : Int) : List Nd × Int := listF [crK2 ns, crK3 ns n, crK5 ns n] (crA5 ns n)
def crA (ns : List Nd) (n : Int) : List Nd := makeA (crL ns n).1 8 (crK1 ns) (crL ns n).2
def crK (ns : List Nd) (n : Int) : Int := makeK (crL ns n).1 8 (crK1 ns) (crL ns n).2
theorem lgA_le {ns : List Nd} {n : Int} (h : ns.length ≤ 1048576) : (lgA ns n).length ≤ 1048576 := by
  unfold lgA; split
  · exact putA_le2 h
  · exact h
theorem pkA_le {ns : List Nd} {x y : Int} (h : ns.length ≤ 1048576) : (pkA ns x y).length ≤ 1048576 := by
  unfold pkA; split
  · exact putA_le2 h
  · exact h
theorem crA2_le {ns : List Nd} (h : ns.length ≤ 1048576) : (crA2 ns).length ≤ 1048576 := putA_le2 (putA_le2 h)
theorem crA3_le {ns : List Nd} {n : Int} (h : ns.length ≤ 1048576) : (crA3 ns n).length ≤ 1048576 := putA_le2 (crA2_le h)
theorem crA5_le {ns : List Nd} {n : Int} (h : ns.length ≤ 1048576) : (crA5 ns n).length ≤ 1048576 := makeA_le (lgA_le (crA3_le h))
theorem crL_le {ns : List Nd} {n : Int} (h : ns.length ≤ 1048576) : (crL ns n).1.length ≤ 1048576 := listF_le _ (crA5_le h)
theorem crA_le {ns : List Nd} {n : Int} (h : ns.length ≤ 1048576) : (crA ns n).length ≤ 1048576 := makeA_le (crL_le h)
theorem in_le {x a b : Int} (h : inB x a b = true) : a ≤ x ∧ x ≤ b := by unfold inB at h; simpa using h
set_option maxHeartbeats 3200000 in
theorem specLongD_any (D : Nat → Prop) (g : Nat) (ns : List Nd) (nm : Int) (w : World) (hl : ns.length ≤ 1048576) (h : ArD D w g ns) (hB : ∀ k, D k → k < w.heap.size) :
    Calls Try.prog 108 #[.pointer (some ⟨g, 0, none⟩), .int .i64 nm] w fun e w' => e = .returned (.int .i64 (lgK ns nm)) ∧ ArD D w' g (lgA ns nm) ∧ Safe D w w' := by
  have H0 : Hid (ArD D w g ns ∧ Safe D w w) := ⟨h, Safe.refl _ _⟩
  have HBO : Hid (∀ k, D k → k < w.heap.size) := hB
  obtain ⟨h1, h2, v, h3, h4, h5, h6⟩ := h
  obtain ⟨a, cap, rfl, ha, hr⟩ := h4.row
  have HC : Hid (w.heap[g]? = some (.cells #[.slice a ns.length cap] 30 (0, 0))) := h3
  have HR : Hid (RowN w.heap.size w a ns) := hr
  have hgl : g < w.heap.size := h2
  clear h1 h2 h3 h4 h5 h6 ha hr hB
  obtain ⟨d0, HD0⟩ : ∃ d, Hid (inB nm 0 9 = d) := ⟨_, rfl⟩
  have HE : Hid (nmB nm = d0) := by show _ = _; unfold nmB; rw [HD0.out]
  have HB0 : Hid (Below w.heap.size w w) := Below.refl _ _
  cases d0
  · have HK : Hid (lgK ns nm = -1 ∧ lgA ns nm = ns) := by
      refine ⟨?_, ?_⟩
      · unfold lgK; rw [HE.out]; rfl
      · unfold lgA; rw [HE.out]; rfl
    clear HE
    go_enter Try.func108, Try.ntmps108
    go_wp2_with (first | (go_at_call 65; refine (specIn_any _ _ _ _).mono ?_; rintro e w' ⟨rfl, rfl⟩; rw [HD0.out]))
    go_ret
    exact ⟨by rw [HK.out.1]; rfl, by rw [HK.out.2]; exact H0.out.1.later HB0.out, Safe.of_below HB0.out HBO.out⟩
  have HK : Hid (lgK ns nm = putK ns ⟨1, 2000 + nm, 0, 0⟩ ∧ lgA ns nm = putA ns ⟨1, 2000 + nm, 0, 0⟩) := by
    refine ⟨?_, ?_⟩
    · unfold lgK; rw [HE.out]; rfl
    · unfold lgA; rw [HE.out]; rfl
  have hnm := in_le HD0.out
  have hw0 : wrap64 (2000 + nm) = 2000 + nm := by unfold wrap64; omega
  clear HE
  go_enter Try.func108, Try.ntmps108
  go_wp2_with (first | (go_at_call 65; refine (specIn_any _ _ _ _).mono ?_; rintro e w' ⟨rfl, rfl⟩; rw [HD0.out]))
  refine Calls.mono (specAtomD_any D g (ns) (2000 + nm) w (hl) H0.out.1 (H0.out.2.old HBO.out)) ?_
  rintro e w1 ⟨rfl, ha, hb⟩
  have H1 : Hid (ArD D w1 g _ ∧ Safe D w w1) := ⟨ha, H0.out.2.trans hb⟩
  clear ha hb H0
  go_wp2
  go_ret
  exact ⟨by rw [HK.out.1]; rfl, by rw [HK.out.2]; exact H1.out.1, H1.out.2⟩
set_option maxHeartbeats 3200000 in
theorem specCertD_any (D : Nat → Prop) (g : Nat) (ns : List Nd) (nm : Int) (w : World) (hl : ns.length ≤ 1048576) (h : ArD D w g ns) (hB : ∀ k, D k → k < w.heap.size) :
    Calls Try.prog 107 #[.pointer (some ⟨g, 0, none⟩), .int .i64 nm] w fun e w' => e = .returned (.int .i64 (crK ns nm)) ∧ ArD D w' g (crA ns nm) ∧ Safe D w w' := by
  have H0 : Hid (ArD D w g ns ∧ Safe D w w) := ⟨h, Safe.refl _ _⟩
  have HBO : Hid (∀ k, D k → k < w.heap.size) := hB
  clear h hB
  go_enter Try.func107, Try.ntmps107
  go_wp2_with fail
  refine Calls.mono (specAtomD_any D g (ns) (1000) w (hl) H0.out.1 (H0.out.2.old HBO.out)) ?_
  rintro e w1 ⟨rfl, ha, hb⟩
  have H1 : Hid (ArD D w1 g _ ∧ Safe D w w1) := ⟨ha, H0.out.2.trans hb⟩
  clear ha hb H0
  go_wp2_with fail
  refine Calls.mono (specAtomD_any D g (crA1 ns) (60) w1 (putA_le2 hl) H1.out.1 (H1.out.2.old HBO.out)) ?_
  rintro e w2 ⟨rfl, ha, hb⟩
  have H2 : Hid (ArD D w2 g _ ∧ Safe D w w2) := ⟨ha, H1.out.2.trans hb⟩
  clear ha hb H1
  go_wp2_with fail
  refine Calls.mono (specAtomD_any D g (crA2 ns) (nm) w2 (crA2_le hl) H2.out.1 (H2.out.2.old HBO.out)) ?_
  rintro e w3 ⟨rfl, ha, hb⟩
  have H3 : Hid (ArD D w3 g _ ∧ Safe D w w3) := ⟨ha, H2.out.2.trans hb⟩
  clear ha hb H2
  go_wp2_with fail
  refine Calls.mono (specLongD_any D g (crA3 ns nm) nm w3 (crA3_le hl) H3.out.1 (H3.out.2.old HBO.out)) ?_
  rintro e w4 ⟨rfl, ha, hb⟩
  have H4 : Hid (ArD D w4 g _ ∧ Safe D w w4) := ⟨ha, H3.out.2.trans hb⟩
  clear ha hb H3
  go_wp2_with fail
  refine Calls.mono (specMakeD_any D g (lgA (crA3 ns nm) nm) 6 (lgK (crA3 ns nm) nm) (0) w4 (lgA_le (crA3_le hl)) H4.out.1 (H4.out.2.old HBO.out)) ?_
  rintro e w5 ⟨rfl, ha, hb⟩
  have H5 : Hid (ArD D w5 g _ ∧ Safe D w w5) := ⟨ha, H4.out.2.trans hb⟩
  clear ha hb H4
  go_wp2_with fail
  refine Calls.mono (listLit_any D g (crA5 ns nm) [crK2 ns, crK3 ns nm, crK5 ns nm] w5 (crA5_le hl) (by simp) H5.out.1 (H5.out.2.old HBO.out)) ?_
  rintro e w6 ⟨rfl, ha, hb⟩
  have H6 : Hid (ArD D w6 g _ ∧ Safe D w w6) := ⟨ha, H5.out.2.trans hb⟩
  clear ha hb H5
  go_wp2_with fail
  refine Calls.mono (specMakeD_any D g ((crL ns nm).1) 8 (crK1 ns) ((crL ns nm).2) w6 (crL_le hl) H6.out.1 (H6.out.2.old HBO.out)) ?_
  rintro e w7 ⟨rfl, ha, hb⟩
  have H7 : Hid (ArD D w7 g _ ∧ Safe D w w7) := ⟨ha, H6.out.2.trans hb⟩
  clear ha hb H6
  go_wp2
  go_ret
  exact ⟨rfl, H7.out.1, H7.out.2⟩
end Go.Proofs.Ytlecpjgeaigjkaa

namespace Go.Proofs.Ytlecpjgeaigjkaa
open Go.RowKit
set_option linter.unusedVariables false
/-- The worlds behind one in which nothing that was there has turned. -/
theorem read_class (w1 : World) : ∃ S : World → Prop, S w1.drew ∧ Nonempty (Hw S) ∧ Hid ((∀ (p : Addr) (v : Value), p.block < w1.heap.size → w1.cell? p = some v → ∀ s : Hw S, s.w.cell? p = some v) ∧ (∀ (s : Hw S) w', Below s.w.heap.size s.w w' → S w') ∧ (∀ w', S w' → Below w1.heap.size w1 w') ∧ (∀ s : Hw S, Below w1.heap.size w1 s.w)) :=
  ⟨fun w' => Below w1.heap.size w1 w', (Below.refl _ _).drew, ⟨⟨w1, Below.refl _ _⟩⟩, fun p v hp hc s => (s.ok.cell hp).trans hc, fun s w' hb => s.ok.trans (hb.mono s.ok.size), fun _ h => h, fun s => s.ok⟩
/-- A part of a List of three. -/
def p3 (ns : List Nd) (k : Int) (i : Nat) : Int := (partsV ns k 3).getD i 0
/-- RecordHead. -/
def headB (ns : List Nd) (k : Int) : Bool := partsB ns k 3 && (isK ns (p3 ns k 0) 1 && (isK ns (p3 ns k 1) 1 && (inB (numV ns (p3 ns k 0)) 0 8 && inB (numV ns (p3 ns k 1)) 0 9999)))
def headE (ns : List Nd) (k : Int) : Int := if headB ns k = true then numV ns (p3 ns k 0) else 0
def headS (ns : List Nd) (k : Int) : Int := if headB ns k = true then numV ns (p3 ns k 1) else 0
theorem parts3 {ns : List Nd} {k : Int} (h : partsB ns k 3 = true) : (partsV ns k 3).length = 3 := by
  unfold partsB at h
  unfold partsV
  cases hp : partsR ns k 3 with
  | none => rw [hp] at h; simp at h
  | some xs =>
    unfold partsR at hp
    rw [if_neg (by omega)] at hp
    exact (partsN_len ns 3 k xs hp).1
/-- The row of the parts. -/
theorem own3 {B : Nat} {w : World} {v : Value} {xs : List Int} (h : OwnInt B w v xs) (hl : xs.length = 3) : ∃ g off cap, v = .slice (some ⟨g, off, none⟩) 3 cap ∧ g < w.heap.size ∧ w.cell? ⟨g, off, none⟩ = some (.int .i64 (xs.getD 0 0)) ∧ w.cell? ⟨g, off + 1, none⟩ = some (.int .i64 (xs.getD 1 0)) ∧ w.cell? ⟨g, off + 2, none⟩ = some (.int .i64 (xs.getD 2 0)) := by
  obtain ⟨a, cap, rfl, -, hr⟩ := h.row
  rcases hr with h0 | ⟨b, off, rfl, hb, hc⟩
  · rw [h0] at hl; simp at hl
  · rw [hl]
    exact ⟨b, off, cap, rfl, hb, hc 0 (by omega), hc 1 (by omega), hc 2 (by omega)⟩
/-- OpenRecord. -/
def inAt (ns : List Nd) (key k : Int) : Int := openV ns key (p3 ns k 2)
def openRB (ns : List Nd) (key k : Int) : Bool := headB ns k && (openB ns key (p3 ns k 2) && (partsB ns (inAt ns key k) 3 && (decide (p3 ns (inAt ns key k) 0 = p3 ns k 0) && decide (p3 ns (inAt ns key k) 1 = p3 ns k 1))))
def openRV (ns : List Nd) (key k : Int) : Int := if openRB ns key k = true then p3 ns (inAt ns key k) 2 else -1
theorem headB_parts {ns : List Nd} {k : Int} (h : headB ns k = true) : partsB ns k 3 = true := by unfold headB at h; simp only [Bool.and_eq_true] at h; exact h.1
end Go.Proofs.Ytlecpjgeaigjkaa

namespace Go.Proofs.Ytlecpjgeaigjkaa
open Go.RowKit
set_option linter.unusedVariables false
/-- Is a term the Atom of a number? -/
def numIs (ns : List Nd) (x n : Int) : Bool := isK ns x 1 && decide (numV ns x = n)
/-- CertIn. -/
def crtB (ns : List Nd) (k : Int) : Bool := isK ns k 8 && (numIs ns (ndAt ns k).a 1000 && (partsB ns (ndAt ns k).b 3 && (numIs ns (p3 ns (ndAt ns k).b 0) 60 && (isK ns (p3 ns (ndAt ns k).b 2) 6 && (isK ns (p3 ns (ndAt ns k).b 1) 1 && inB (numV ns (p3 ns (ndAt ns k).b 1)) 0 9)))))
def crtN (ns : List Nd) (k : Int) : Int := if crtB ns k = true then numV ns (p3 ns (ndAt ns k).b 1) else 0
def crtP (ns : List Nd) (k : Int) : Int := if crtB ns k = true then p3 ns (ndAt ns k).b 2 else -1
end Go.Proofs.Ytlecpjgeaigjkaa

namespace Go.Proofs.Ytlecpjgeaigjkaa
open Go.RowKit
set_option linter.unusedVariables false
set_option maxHeartbeats 1600000 in
theorem specNumIs_any (a : Option Addr) (cap : Nat) (ns : List Nd) (x n : Int) (w : World) (hl : ns.length ≤ 1048576) (hr : RowN w.heap.size w a ns) :
    Calls Try.prog 61 #[.agg #[.slice a ns.length cap], .int .i64 x, .int .i64 n] w fun e w' => e = .returned (.bool (numIs ns x n)) ∧ Below w.heap.size w w' := by
  have hb0 : Below w.heap.size w (w.alloc (.cells #[.slice a ns.length cap] 30)) := (Below.refl _ _).alloc (Nat.le_refl _) _
  have H : Hid _ := specNum_any a cap ns x _ hl (hr.grown hb0)
  have HB0 : Hid (Below w.heap.size w (w.alloc (.cells #[.slice a ns.length cap] 30))) := hb0
  unfold numIs
  generalize numV ns x = m at H ⊢
  have hs0 : (w.alloc (.cells #[.slice a ns.length cap] 30)).heap.size = w.heap.size + 1 := by simp
  cases hk : isK ns x 1 with
  | false =>
    rw [hk] at H
    clear hr hb0
    go_enter Try.func61, Try.ntmps61
    go_wp2_with fail
    refine Calls.mono H.out ?_
    rintro e w1 ⟨rfl, hb1⟩
    have HB : Hid (Below w.heap.size w w1) := HB0.out.trans (hb1.mono (by omega))
    clear hb1 H
    go_wp2
    go_ret
    exact ⟨rfl, HB.out⟩
  | true =>
    rw [hk] at H
    clear hr hb0
    go_enter Try.func61, Try.ntmps61
    go_wp2_with fail
    refine Calls.mono H.out ?_
    rintro e w1 ⟨rfl, hb1⟩
    have HB : Hid (Below w.heap.size w w1) := HB0.out.trans (hb1.mono (by omega))
    clear hb1 H
    go_wp2
    go_ret
    exact ⟨by rw [show decide (m = n) = (m == n) from Bool.eq_iff_iff.2 (by simp)]; rfl, HB.out⟩
end Go.Proofs.Ytlecpjgeaigjkaa

namespace Go.Proofs.Ytlecpjgeaigjkaa
open Go.RowKit Go.Maps
set_option linter.unusedVariables false
theorem intKeyed : Keyed Try.prog 3 := int_keyed Try.underlying3
theorem keyInt {x : Int} (h : (Lit.int .i64 x).wf = true) : keyOf Try.prog 3 (.int .i64 x) = some (.int .i64 x) := keyOf_int_mk Try.underlying3 h
theorem isKeyInt {x : Int} (h : (Lit.int .i64 x).wf = true) : WideAt.IsKeyLit (Lit.int .i64 x) := intKeyed.key (keyInt h)
/-- What the map of names holds when the first n of them stand there. -/
structure NamesD (n : Int) (D : DataW Unit) : Prop where
  tidy : Tidy D
  has : ∀ x : Int, Maps.has D (.int .i64 x) = decide (0 ≤ x ∧ x < n)
  at' : ∀ x : Int, 0 ≤ x → x < n → ∀ z, D.atKey (.int .i64 x) z = .lit (.int .i64 (2000 + x))
theorem NamesD.start : NamesD 0 (.map []) := ⟨tidy_empty, fun x => by simp [Maps.has], fun x h h2 => by omega⟩
theorem litInt_ne {x y : Int} (h : ¬ x = y) : Lit.int .i64 x ≠ Lit.int .i64 y := fun e => h (by cases e; rfl)
set_option maxRecDepth 100000 in
theorem NamesD.next {n : Int} {D : DataW Unit} (h : NamesD n D) (hn : 0 ≤ n) (hw : (Lit.int .i64 n).wf = true) : NamesD (n + 1) (D.put (.int .i64 n) (.lit (.int .i64 (2000 + n)))) := by
  refine ⟨h.tidy.put (isKeyInt hw) _, fun x => ?_, fun x h0 h1 z => ?_⟩
  · by_cases e : x = n
    · subst e
      rw [has_put_same h.tidy.isMap (isKeyInt hw)]; simp; omega
    · rw [has_put_other (litInt_ne e), h.has x]
      rw [decide_eq_decide]; omega
  · by_cases e : x = n
    · subst e
      rw [atKey_put_same h.tidy.isMap (isKeyInt hw)]
    · rw [atKey_put_other (litInt_ne e)]
      exact h.at' x h0 (by omega) z
theorem zeroIntN (w : World) : (zeroValue 3).run Try.prog w = .ok (.int .i64 0) w := by kernel_rfl
theorem make_names (w : World) : (Instr.makeMap 159 (some (.int .i64 10))).run Try.prog w = .ok (.map (some w.heap.size)) (w.alloc (.map #[] 0)) := by kernel_rfl
set_option maxHeartbeats 1600000 in
set_option maxRecDepth 100000 in
theorem longNums_any (w : World) :
    Calls Try.prog 131 #[] w fun e w' => ∃ D, e = .returned (.map (some w.heap.size)) ∧ w'.ownsMap Try.prog 3 (plainElem Try.prog 3) w.heap.size 10 D ∧ Hid (NamesD 10 D ∧ Below w.heap.size w w') := by
  have hmm := make_names
  go_enter Try.func131, Try.ntmps131
  go_wp2
  go_loopw [4] (fun i wr => ∃ (k : Nat) (D : DataW Unit), k ≤ 10 ∧ i = .int .i64 (k : Int) ∧ wr.ownsMap Try.prog 3 (plainElem Try.prog 3) w.heap.size k D ∧ NamesD (k : Int) D ∧ Below w.heap.size w wr)
    (fun i _ => 10 - (intOf i).toNat)
  case atStart => exact ⟨0, .map [], Nat.zero_le _, rfl, World.ownsMap_made _ _ _ _, NamesD.start, (Below.refl _ _).alloc (Nat.le_refl _) _⟩
  case round =>
    obtain ⟨k, D, hk, rfl, hown, hpd, hbel⟩ := hrel
    by_cases hlt : k < 10
    · have hw : (Lit.int .i64 (k : Int)).wf = true := WalkArith.wf_i64 (by omega)
      have hi1 : (k : Int) < 10 := by omega
      have HK : Hid _ := keyInt hw
      have HN : Hid (NamesD ((k + 1 : Nat) : Int) (D.put (.int .i64 (k : Int)) (.lit (.int .i64 (2000 + (k : Int)))))) := by
        have := hpd.next (by omega) hw
        exact (by push_cast; exact this : NamesD ((k + 1 : Nat) : Int) _)
      have hbs := hbel.size
      clear hpd hw
      go_wp2_with (at_mapUpdate; refine wpList_mapUpdate_own _ rfl _ _ _ 159 rfl 3 3 intKeyed Try.underlying159 _ w.heap.size k D rfl hown ?c1 _ _ _ rfl rfl HK.out _ [] (plainElem_int Try.underlying3 ?c2) ?_; rotate_left 2; intro w1 hown1 hgrow1)
      case c1 => unfold maxLen; omega
      case c2 => exact WalkArith.wf_i64 (by omega)
      go_roundw
      case rel => exact ⟨k + 1, _, by omega, by go_num, hown1, HN.out, hbel.grown hgrow1 hbs (fun j hj => by cases hj; exact Nat.le_refl _)⟩
      case measure => simp [intOf]; omega
    · obtain rfl : k = 10 := by omega
      go_wp2
      go_ret
      exact ⟨D, rfl, hown, hpd, hbel⟩
theorem nmB_is (x : Int) : nmB x = decide (0 ≤ x ∧ x < 10) := by
  unfold nmB inB
  rw [Bool.eq_iff_iff]
  simp
  omega
set_option maxHeartbeats 1600000 in
set_option maxRecDepth 100000 in
theorem isName_any (x : Int) (w : World) (hx : (Lit.int .i64 x).wf = true) :
    Calls Try.prog 95 #[.int .i64 x] w fun e w' => e = .returned (.bool (nmB x)) ∧ Below w.heap.size w w' := by
  have HK : Hid _ := keyInt hx
  have HC : Hid _ := longNums_any w
  clear hx
  go_enter Try.func95, Try.ntmps95
  go_wp2_with fail
  refine Calls.mono HC.out ?_
  rintro e w1 ⟨D, rfl, hown, HD⟩
  obtain ⟨b, hb⟩ : ∃ b, Maps.has D (.int .i64 x) = b := ⟨_, rfl⟩
  have HB : Hid (nmB x = b) := by show _ = _; rw [nmB_is, ← hb, HD.out.1.has x]
  go_wp2_with (at_lookup; refine wpList_lookup_own_ok_int _ rfl _ _ 159 rfl 3 3 .i64 intKeyed Try.underlying159 Try.underlying3 (zeroIntN _) w.heap.size 10 D rfl hown _ _ rfl HK.out ?_; intro c hat hwc)
  go_ret
  exact ⟨by rw [HB.out]; rfl, HD.out.2⟩
/-- A name's long secret, as it is told. -/
def longT (x : Int) : Tl := if nmB x = true then .atom (2000 + x) else .pl (-1)
theorem longT_f (x : Int) (ns : List Nd) : (longT x).f ns = (lgA ns x, lgK ns x) := by
  unfold longT lgA lgK
  by_cases h : nmB x = true
  · rw [if_pos h, if_pos h, if_pos h]; rfl
  · rw [if_neg h, if_neg h, if_neg h]; rfl
theorem longT_wf (x : Int) : (longT x).Wf := by
  unfold longT
  by_cases h : nmB x = true
  · rw [if_pos h]
    rw [nmB_is] at h
    have := of_decide_eq_true h
    exact WalkArith.wf_i64 (by omega)
  · rw [if_neg h]; exact WalkArith.wf_i64 (by omega)
set_option maxHeartbeats 1600000 in
theorem toldNone_any {L : Nat} (w : World) (hL : L ≤ w.heap.size) : Calls Try.prog 138 #[] w (ToldP L (.pl (-1)) w) := by
  have HC : Hid (Calls Try.prog 80 #[.int .i64 (-1)] w (ToldP L (.pl (-1)) w)) := toldAt_any (-1) w hL
  clear hL
  go_enter Try.func138, Try.ntmps138
  go_wp2_with fail
  refine Calls.mono HC.out ?_
  rintro e w2 ⟨v2, rfl, h2, hb2⟩
  have H2 : Hid (ToldP L (.pl (-1)) w (.returned v2) w2) := ⟨_, rfl, h2, hb2⟩
  clear h2 hb2
  go_wp2
  go_ret
  exact H2.out
theorem ToldP.after {L : Nat} {t : Tl} {w w1 w2 : World} {e : Ending} (hb : Below w.heap.size w w1) (h : ToldP L t w1 e w2) : ToldP L t w e w2 := by
  obtain ⟨v, h1, h2, h3⟩ := h
  exact ⟨v, h1, h2, hb.trans (h3.mono hb.size)⟩
set_option maxHeartbeats 1600000 in
set_option maxRecDepth 100000 in
theorem toldLong_any {L : Nat} (x : Int) (w : World) (hL : L ≤ w.heap.size) (hx : (Lit.int .i64 x).wf = true) : Calls Try.prog 115 #[.int .i64 x] w (ToldP L (longT x) w) := by
  have HK : Hid _ := keyInt hx
  have HC : Hid _ := longNums_any w
  clear hx
  have HL : Hid (L ≤ w.heap.size) := hL
  clear hL
  go_enter Try.func115, Try.ntmps115
  go_wp2_with fail
  refine Calls.mono HC.out ?_
  rintro e w1 ⟨D, rfl, hown, HD⟩
  cases hb : Maps.has D (.int .i64 x) with
  | true =>
    have HB : Hid (nmB x = true ∧ D.atKey (Lit.int .i64 x) (.lit (.int .i64 0)) = .lit (.int .i64 (2000 + x))) := by
      have h1 := hb
      rw [HD.out.1.has x] at h1
      have h2 := of_decide_eq_true h1
      exact ⟨by rw [nmB_is]; exact h1, HD.out.1.at' x h2.1 h2.2 _⟩
    go_wp2_with (first | (at_lookup; refine wpList_lookup_own_ok_int _ rfl _ _ 159 rfl 3 3 .i64 intKeyed Try.underlying159 Try.underlying3 (zeroIntN _) w.heap.size 10 D rfl hown _ _ rfl HK.out ?_; intro c hat hwc) | fail)
    obtain rfl : 2000 + x = c := by have := HB.out.2; rw [hat] at this; cases this; rfl
    refine Calls.mono (toldAtom_any (L := L) (2000 + x) w1 (Nat.le_trans HL.out HD.out.2.size)) ?_
    intro e w2 h2
    have H2 : Hid (ToldP L (longT x) w e w2) := by
      have : longT x = .atom (2000 + x) := by unfold longT; rw [if_pos HB.out.1]
      show ToldP L (longT x) w e w2
      rw [this]; exact ToldP.after HD.out.2 h2
    obtain ⟨v2, rfl, -⟩ := h2
    clear hat hwc hown
    go_wp2
    go_ret
    exact H2.out
  | false =>
    have HB : Hid (nmB x = false) := by
      show _ = _
      rw [nmB_is, ← HD.out.1.has x]; exact hb
    go_wp2_with (first | (at_lookup; refine wpList_lookup_own_ok_int _ rfl _ _ 159 rfl 3 3 .i64 intKeyed Try.underlying159 Try.underlying3 (zeroIntN _) w.heap.size 10 D rfl hown _ _ rfl HK.out ?_; intro c hat hwc) | fail)
    refine Calls.mono (toldNone_any (L := L) w1 (Nat.le_trans HL.out HD.out.2.size)) ?_
    intro e w2 h2
    have H2 : Hid (ToldP L (longT x) w e w2) := by
      have : longT x = .pl (-1) := by unfold longT; rw [if_neg (by rw [HB.out]; decide)]
      show ToldP L (longT x) w e w2
      rw [this]; exact ToldP.after HD.out.2 h2
    obtain ⟨v2, rfl, -⟩ := h2
    clear hat hwc hown
    go_wp2
    go_ret
    exact H2.out
/-- The secret of two names, as it is told. -/
def pskT (x y : Int) : Tl := if pkB x y = true then .atom (pkN x y) else .pl (-1)
theorem pskT_f (x y : Int) (ns : List Nd) : (pskT x y).f ns = (pkA ns x y, pkK ns x y) := by
  unfold pskT pkA pkK
  by_cases h : pkB x y = true
  · rw [if_pos h, if_pos h, if_pos h]; rfl
  · rw [if_neg h, if_neg h, if_neg h]; rfl
theorem pkB_is (x y : Int) : pkB x y = (nmB x && nmB y) := rfl
theorem pskT_wf (x y : Int) : (pskT x y).Wf := by
  unfold pskT
  by_cases h : pkB x y = true
  · rw [if_pos h]
    rw [pkB_is, nmB_is, nmB_is] at h
    simp at h
    have h2 : 3000 ≤ pkN x y ∧ pkN x y ≤ 3200 := by unfold pkN; split <;> omega
    exact WalkArith.wf_i64 (by omega)
  · rw [if_neg h]; exact WalkArith.wf_i64 (by omega)
end Go.Proofs.Ytlecpjgeaigjkaa
