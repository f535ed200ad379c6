/- The contracts of chapter 12's PartOf, AckOf and HandOf, the specification's, and what they make in plain words. -/
import Derived.Test.YtffnadnndmmliaaCert10
import Derived.Test.YtffnadnndmmliaaSec6
import Derived.Test.YtffnadnndmmliaaMakeDhS
import Derived.WalkKit
import Derived.WalkLawsBesides
import Derived.WalkSpells
import Derived.Laws.Rows
namespace Go.Proofs.Ytffnadnndmmliaa
open Go.RowKit
set_option linter.unusedVariables false
/-- What is signed. -/
def wdA1 (ns : List Nd) (m : Int) : List Nd := putA ns ⟨1, m, 0, 0⟩
def wdA2 (ns : List Nd) (m sa : Int) : List Nd := makeA (wdA1 ns m) 3 sa 0
def wdL (ns : List Nd) (m sa : Int) : List Nd × Int := listF [putK ns ⟨1, m, 0, 0⟩, makeK (wdA1 ns m) 3 sa 0] (wdA2 ns m sa)
def wdA (ns : List Nd) (m sa : Int) : List Nd := (wdL ns m sa).1
def wdK (ns : List Nd) (m sa : Int) : Int := (wdL ns m sa).2
theorem wdA2_le {ns : List Nd} {m sa : Int} (h : ns.length ≤ 1048576) : (wdA2 ns m sa).length ≤ 1048576 := makeA_le (putA_le2 h)
theorem wdA_le {ns : List Nd} {m sa : Int} (h : ns.length ≤ 1048576) : (wdA ns m sa).length ≤ 1048576 := listF_le _ (wdA2_le h)
/-- A part: the certificate and what is signed, or Atom 0 twice. -/
def pcA1 (ns : List Nd) (nm : Int) : List Nd := crA ns nm
def pcA2 (ns : List Nd) (nm : Int) : List Nd := lgA (pcA1 ns nm) nm
def pcA3 (ns : List Nd) (m nm sa : Int) : List Nd := wdA (pcA2 ns nm) m sa
def pcA (ns : List Nd) (m nm sa : Int) : List Nd := makeA (pcA3 ns m nm sa) 8 (lgK (pcA1 ns nm) nm) (wdK (pcA2 ns nm) m sa)
def pcK (ns : List Nd) (m nm sa : Int) : Int := makeK (pcA3 ns m nm sa) 8 (lgK (pcA1 ns nm) nm) (wdK (pcA2 ns nm) m sa)
def pvA (ns : List Nd) (m mo nm sa : Int) : List Nd := if mo = 1 then pcA ns m nm sa else putA ns ⟨1, 0, 0, 0⟩
def pvC (ns : List Nd) (mo nm : Int) : Int := if mo = 1 then crK ns nm else putK ns ⟨1, 0, 0, 0⟩
def pvS (ns : List Nd) (m mo nm sa : Int) : Int := if mo = 1 then pcK ns m nm sa else putK ns ⟨1, 0, 0, 0⟩
def ptA1 (ns : List Nd) (sd hd : Int) : List Nd := sideA ns hd sd
def ptA2 (ns : List Nd) (sd hd m mo nm sa : Int) : List Nd := pvA (ptA1 ns sd hd) m mo nm sa
def ptA3 (ns : List Nd) (sd hd m1 m mo nm sa : Int) : List Nd := overA (ptA2 ns sd hd m mo nm sa) 9 hd m1 sa
def ptL (ns : List Nd) (sd hd m1 m mo nm sa : Int) : List Nd × Int := listF [pvC (ptA1 ns sd hd) mo nm, pvS (ptA1 ns sd hd) m mo nm sa, overK (ptA2 ns sd hd m mo nm sa) 9 hd m1 sa] (ptA3 ns sd hd m1 m mo nm sa)
def ptA (ns : List Nd) (sd hd m1 m mo nm sa : Int) : List Nd := makeA (ptL ns sd hd m1 m mo nm sa).1 5 (sideK ns hd sd) (ptL ns sd hd m1 m mo nm sa).2
def ptK (ns : List Nd) (sd hd m1 m mo nm sa : Int) : Int := makeK (ptL ns sd hd m1 m mo nm sa).1 5 (sideK ns hd sd) (ptL ns sd hd m1 m mo nm sa).2
theorem pcA2_le {ns : List Nd} {nm : Int} (h : ns.length ≤ 1048576) : (pcA2 ns nm).length ≤ 1048576 := lgA_le (crA_le h)
theorem pcA3_le {ns : List Nd} {m nm sa : Int} (h : ns.length ≤ 1048576) : (pcA3 ns m nm sa).length ≤ 1048576 := wdA_le (pcA2_le h)
theorem pvA_le {ns : List Nd} {m mo nm sa : Int} (h : ns.length ≤ 1048576) : (pvA ns m mo nm sa).length ≤ 1048576 := by
  unfold pvA; split
  · exact makeA_le (pcA3_le h)
  · exact putA_le2 h
theorem ptA2_le {ns : List Nd} {sd hd m mo nm sa : Int} (h : ns.length ≤ 1048576) : (ptA2 ns sd hd m mo nm sa).length ≤ 1048576 := pvA_le (sideA_le h)
theorem ptA3_le {ns : List Nd} {sd hd m1 m mo nm sa : Int} (h : ns.length ≤ 1048576) : (ptA3 ns sd hd m1 m mo nm sa).length ≤ 1048576 := overA_le (ptA2_le h)
theorem ptL_le {ns : List Nd} {sd hd m1 m mo nm sa : Int} (h : ns.length ≤ 1048576) : (ptL ns sd hd m1 m mo nm sa).1.length ≤ 1048576 := listF_le _ (ptA3_le h)
theorem ptA_le {ns : List Nd} {sd hd m1 m mo nm sa : Int} (h : ns.length ≤ 1048576) : (ptA ns sd hd m1 m mo nm sa).length ≤ 1048576 := makeA_le (ptL_le h)
/-- An ack. -/
def akA1 (ns : List Nd) (hd : Int) : List Nd := sideA ns hd 40
def akA2 (ns : List Nd) (hd le : Int) : List Nd := putA (akA1 ns hd) ⟨1, le, 0, 0⟩
def akA3 (ns : List Nd) (hd le sa : Int) : List Nd := makeA (akA2 ns hd le) 3 sa 0
def akL (ns : List Nd) (hd le sa : Int) : List Nd × Int := listF [putK (akA1 ns hd) ⟨1, le, 0, 0⟩, makeK (akA2 ns hd le) 3 sa 0] (akA3 ns hd le sa)
def akA (ns : List Nd) (hd le sa : Int) : List Nd := makeA (akL ns hd le sa).1 5 (sideK ns hd 40) (akL ns hd le sa).2
def akK (ns : List Nd) (hd le sa : Int) : Int := makeK (akL ns hd le sa).1 5 (sideK ns hd 40) (akL ns hd le sa).2
theorem akA2_le {ns : List Nd} {hd le : Int} (h : ns.length ≤ 1048576) : (akA2 ns hd le).length ≤ 1048576 := putA_le2 (sideA_le h)
theorem akA3_le {ns : List Nd} {hd le sa : Int} (h : ns.length ≤ 1048576) : (akA3 ns hd le sa).length ≤ 1048576 := makeA_le (akA2_le h)
theorem akL_le {ns : List Nd} {hd le sa : Int} (h : ns.length ≤ 1048576) : (akL ns hd le sa).1.length ≤ 1048576 := listF_le _ (akA3_le h)
theorem akA_le {ns : List Nd} {hd le sa : Int} (h : ns.length ≤ 1048576) : (akA ns hd le sa).length ≤ 1048576 := makeA_le (akL_le h)
/-- The secret of a handshake. -/
def hnA2 (ns : List Nd) (mo x y : Int) : List Nd := if mo = 2 then pkA ns x y else putA ns ⟨1, 0, 0, 0⟩
def hnK2 (ns : List Nd) (mo x y : Int) : Int := if mo = 2 then pkK ns x y else putK ns ⟨1, 0, 0, 0⟩
def hnA (ns : List Nd) (sc pu mo x y bo : Int) : List Nd := handA (hnA2 (dhA ns sc pu) mo x y) (dhK ns sc pu) (hnK2 (dhA ns sc pu) mo x y) bo
def hnK (ns : List Nd) (sc pu mo x y bo : Int) : Int := handK (hnA2 (dhA ns sc pu) mo x y) (dhK ns sc pu) (hnK2 (dhA ns sc pu) mo x y) bo
theorem dhA_le {ns : List Nd} {x y : Int} (h : ns.length ≤ 1048576) : (dhA ns x y).length ≤ 1048576 := by
  unfold dhA; split
  · exact putA_le2 h
  · exact h
theorem hnA2_le {ns : List Nd} {mo x y : Int} (h : ns.length ≤ 1048576) : (hnA2 ns mo x y).length ≤ 1048576 := by
  unfold hnA2; split
  · exact pkA_le h
  · exact putA_le2 h
theorem hnA_le {ns : List Nd} {sc pu mo x y bo : Int} (h : ns.length ≤ 1048576) : (hnA ns sc pu mo x y bo).length ≤ 1048576 := handA_le (hnA2_le (dhA_le h))
set_option maxHeartbeats 3200000 in
theorem specSideD_any (D : Nat → Prop) (g : Nat) (ns : List Nd) (s : Int) (n : Int) (w : World) (hl : ns.length ≤ 1048576) (h : ArD D w g ns) (hB : ∀ k, D k → k < w.heap.size) :
    Calls Try.prog 123 #[.pointer (some ⟨g, 0, none⟩), .int .i64 s, .int .i64 n] w fun e w' => e = .returned (.int .i64 (sideK ns s n)) ∧ ArD D w' g (sideA ns s n) ∧ Safe D w w' := by
  have H0 : Hid (ArD D w g ns ∧ Safe D w w) := ⟨h, Safe.refl _ _⟩
  have HBO : Hid (∀ k, D k → k < w.heap.size) := hB
  clear h hB
  go_enter Try.func123, Try.ntmps123
  go_wp2_with fail
  refine Calls.mono (specAtomD_any D g (ns) (n) w (hl) H0.out.1 (H0.out.2.old HBO.out)) ?_
  rintro e w1 ⟨rfl, ha, hb⟩
  have H1 : Hid (ArD D w1 g _ ∧ Safe D w w1) := ⟨ha, H0.out.2.trans hb⟩
  clear ha hb H0
  go_wp2_with fail
  refine Calls.mono (specMakeD_any D g (putA ns ⟨1, n, 0, 0⟩) 4 (s) (putK ns ⟨1, n, 0, 0⟩) w1 (putA_le2 hl) H1.out.1 (H1.out.2.old HBO.out)) ?_
  rintro e w2 ⟨rfl, ha, hb⟩
  have H2 : Hid (ArD D w2 g _ ∧ Safe D w w2) := ⟨ha, H1.out.2.trans hb⟩
  clear ha hb H1
  go_wp2
  go_ret
  exact ⟨rfl, H2.out.1, H2.out.2⟩
set_option maxHeartbeats 3200000 in
theorem specDoneD_any (D : Nat → Prop) (g : Nat) (ns : List Nd) (s : Int) (sd : Int) (d : Int) (w : World) (hl : ns.length ≤ 1048576) (h : ArD D w g ns) (hB : ∀ k, D k → k < w.heap.size) :
    Calls Try.prog 124 #[.pointer (some ⟨g, 0, none⟩), .int .i64 s, .int .i64 sd, .int .i64 d] w fun e w' => e = .returned (.int .i64 (overK ns 9 s (IntKind.i64.wrap (10 + sd)) d)) ∧ ArD D w' g (overA ns 9 s (IntKind.i64.wrap (10 + sd)) d) ∧ Safe D w w' := by
  obtain ⟨m, hm⟩ : ∃ m, IntKind.i64.wrap (10 + sd) = m := ⟨_, rfl⟩
  rw [hm]
  have H0 : Hid (ArD D w g ns ∧ Safe D w w) := ⟨h, Safe.refl _ _⟩
  have HBO : Hid (∀ k, D k → k < w.heap.size) := hB
  clear h hB
  go_enter Try.func124, Try.ntmps124
  go_wp2_with fail
  refine Calls.mono (specSideD_any D g ns s m w hl H0.out.1 (H0.out.2.old HBO.out)) ?_
  rintro e w1 ⟨rfl, ha, hb⟩
  have H1 : Hid (ArD D w1 g _ ∧ Safe D w w1) := ⟨ha, H0.out.2.trans hb⟩
  clear ha hb H0
  go_wp2_with fail
  refine Calls.mono (specMakeD_any D g (sideA ns s m) 3 (d) (0) w1 (sideA_le hl) H1.out.1 (H1.out.2.old HBO.out)) ?_
  rintro e w2 ⟨rfl, ha, hb⟩
  have H2 : Hid (ArD D w2 g _ ∧ Safe D w w2) := ⟨ha, H1.out.2.trans hb⟩
  clear ha hb H1
  go_wp2_with fail
  refine Calls.mono (specMakeD_any D g (makeA (sideA ns s m) 3 d 0) 9 (sideK ns s m) (makeK (sideA ns s m) 3 d 0) w2 (makeA_le (sideA_le hl)) H2.out.1 (H2.out.2.old HBO.out)) ?_
  rintro e w3 ⟨rfl, ha, hb⟩
  have H3 : Hid (ArD D w3 g _ ∧ Safe D w w3) := ⟨ha, H2.out.2.trans hb⟩
  clear ha hb H2
  go_wp2
  go_ret
  exact ⟨rfl, H3.out.1, H3.out.2⟩
end Go.Proofs.Ytffnadnndmmliaa

namespace Go.Proofs.Ytffnadnndmmliaa
open Go.RowKit
set_option linter.unusedVariables false
theorem specDhP_all (B g : Nat) (ns : List Nd) (x pub : Int) (w : World) (hl : ns.length ≤ 1048576) (h : ArenaAt B w g ns) (hB : B ≤ w.heap.size) :
    Calls Try.prog 179 #[.pointer (some ⟨g, 0, none⟩), .int .i64 x, .int .i64 pub] w fun e w' => e = .returned (.int .i64 (dhK ns x pub)) ∧ ArenaAt B w' g (dhA ns x pub) ∧ Below B w w' := by
  cases hd : dhB ns x pub with
  | false =>
    have e1 : dhK ns x pub = -1 := by unfold dhK; rw [hd]; rfl
    have e2 : dhA ns x pub = ns := by unfold dhA; rw [hd]; rfl
    rw [e1, e2]
    exact dhP_no B g ns x pub w hl h hB hd
  | true =>
    have e1 : dhK ns x pub = putK ns (dhN ns x pub) := by unfold dhK; rw [hd]; rfl
    have e2 : dhA ns x pub = putA ns (dhN ns x pub) := by unfold dhA; rw [hd]; rfl
    rw [e1, e2]
    exact dhP_yes B g ns x pub w hl h hB hd
set_option maxHeartbeats 3200000 in
theorem specHndP_any (B g : Nat) (ns : List Nd) (sc pu mo x y bo : Int) (w : World) (hl : ns.length ≤ 1048576) (h : ArenaAt B w g ns) (hB : B ≤ w.heap.size) :
    Calls Try.prog 144 #[.pointer (some ⟨g, 0, none⟩), .int .i64 sc, .int .i64 pu, .int .i64 mo, .int .i64 x, .int .i64 y, .int .i64 bo] w fun e w' => e = .returned (.int .i64 (hnK ns sc pu mo x y bo)) ∧ ArenaAt B w' g (hnA ns sc pu mo x y bo) ∧ Below B w w' := by
  by_cases hm : mo = 2
  · obtain ⟨A0, k0, HC0, HE0, L0⟩ : ∃ (A : List Nd) (k : Int), Hid (∀ wz : World, ArenaAt B wz g ns → B ≤ wz.heap.size → Calls Try.prog 179 #[.pointer (some ⟨g, 0, none⟩), .int .i64 sc, .int .i64 pu] wz fun e w' => e = .returned (.int .i64 k) ∧ ArenaAt B w' g A ∧ Below B wz w') ∧ Hid (dhA ns sc pu = A ∧ dhK ns sc pu = k) ∧ A.length ≤ 1048576 := ⟨dhA ns sc pu, dhK ns sc pu, fun wz h hB => specDhP_all B g ns sc pu wz hl h hB, ⟨rfl, rfl⟩, dhA_le hl⟩
    obtain ⟨A1, k1, HC1, HE1, L1⟩ : ∃ (A : List Nd) (k : Int), Hid (∀ wz : World, ArenaAt B wz g A0 → B ≤ wz.heap.size → Calls Try.prog 143 #[.pointer (some ⟨g, 0, none⟩), .int .i64 x, .int .i64 y] wz fun e w' => e = .returned (.int .i64 k) ∧ ArenaAt B w' g A ∧ Below B wz w') ∧ Hid (pkA A0 x y = A ∧ pkK A0 x y = k) ∧ A.length ≤ 1048576 := ⟨pkA A0 x y, pkK A0 x y, fun wz h hB => (specPskD_any (fun k => k < B) g A0 x y wz L0 h.toD (fun k hk => Nat.lt_of_lt_of_le hk hB)).mono fun _ _ ⟨he, ha, hs⟩ => ⟨he, ha.toB, hs.below (fun k hk => hk)⟩, ⟨rfl, rfl⟩, pkA_le L0⟩
    have HKA : Hid (hnK ns sc pu mo x y bo = handK A1 k0 k1 bo ∧ hnA ns sc pu mo x y bo = handA A1 k0 k1 bo) := by
      unfold hnK hnA hnA2 hnK2
      rw [if_pos hm, if_pos hm, HE0.out.1, HE0.out.2, HE1.out.1, HE1.out.2]
      exact ⟨rfl, rfl⟩
    rw [HKA.out.1, HKA.out.2]
    clear HKA HE0 HE1
    have H0 : Hid (ArenaAt B w g ns ∧ Below B w w) := ⟨h, Below.refl _ _⟩
    clear h
    subst hm
    go_enter Try.func144, Try.ntmps144
    go_wp2_with fail
    refine Calls.mono (HC0.out _ H0.out.1 (Nat.le_trans hB H0.out.2.size)) ?_
    rintro e w1 ⟨rfl, ha, hb⟩
    have H1 : Hid (ArenaAt B w1 g A0 ∧ Below B w w1) := ⟨ha, H0.out.2.trans hb⟩
    clear ha hb H0 HC0
    go_wp2_with fail
    refine Calls.mono (HC1.out _ H1.out.1 (Nat.le_trans hB H1.out.2.size)) ?_
    rintro e w2 ⟨rfl, ha, hb⟩
    have H2 : Hid (ArenaAt B w2 g A1 ∧ Below B w w2) := ⟨ha, H1.out.2.trans hb⟩
    clear ha hb H1 HC1
    go_wp2_with fail
    refine Calls.mono (specHandP_any B g A1 k0 k1 bo w2 L1 H2.out.1 (Nat.le_trans hB H2.out.2.size)) ?_
    rintro e w3 ⟨rfl, ha, hb⟩
    have HZ : Hid (ArenaAt B w3 g _ ∧ Below B w w3) := ⟨ha, H2.out.2.trans hb⟩
    clear ha hb H2
    go_wp2
    go_ret
    exact ⟨rfl, HZ.out.1, HZ.out.2⟩
  · obtain ⟨A0, k0, HC0, HE0, L0⟩ : ∃ (A : List Nd) (k : Int), Hid (∀ wz : World, ArenaAt B wz g ns → B ≤ wz.heap.size → Calls Try.prog 179 #[.pointer (some ⟨g, 0, none⟩), .int .i64 sc, .int .i64 pu] wz fun e w' => e = .returned (.int .i64 k) ∧ ArenaAt B w' g A ∧ Below B wz w') ∧ Hid (dhA ns sc pu = A ∧ dhK ns sc pu = k) ∧ A.length ≤ 1048576 := ⟨dhA ns sc pu, dhK ns sc pu, fun wz h hB => specDhP_all B g ns sc pu wz hl h hB, ⟨rfl, rfl⟩, dhA_le hl⟩
    obtain ⟨A1, k1, HC1, HE1, L1⟩ : ∃ (A : List Nd) (k : Int), Hid (∀ wz : World, ArenaAt B wz g A0 → B ≤ wz.heap.size → Calls Try.prog 113 #[.pointer (some ⟨g, 0, none⟩), .int .i64 0] wz fun e w' => e = .returned (.int .i64 k) ∧ ArenaAt B w' g A ∧ Below B wz w') ∧ Hid (putA A0 ⟨1, 0, 0, 0⟩ = A ∧ putK A0 ⟨1, 0, 0, 0⟩ = k) ∧ A.length ≤ 1048576 := ⟨putA A0 ⟨1, 0, 0, 0⟩, putK A0 ⟨1, 0, 0, 0⟩, fun wz h hB => specAtomP_any B g A0 0 wz L0 h hB, ⟨rfl, rfl⟩, putA_le2 L0⟩
    have HKA : Hid (hnK ns sc pu mo x y bo = handK A1 k0 k1 bo ∧ hnA ns sc pu mo x y bo = handA A1 k0 k1 bo) := by
      unfold hnK hnA hnA2 hnK2
      rw [if_neg hm, if_neg hm, HE0.out.1, HE0.out.2, HE1.out.1, HE1.out.2]
      exact ⟨rfl, rfl⟩
    rw [HKA.out.1, HKA.out.2]
    clear HKA HE0 HE1
    have H0 : Hid (ArenaAt B w g ns ∧ Below B w w) := ⟨h, Below.refl _ _⟩
    clear h
    have hmb : (mo == 2) = false := by simpa using hm
    clear hm
    go_enter Try.func144, Try.ntmps144
    go_wp2_with fail
    refine Calls.mono (HC0.out _ H0.out.1 (Nat.le_trans hB H0.out.2.size)) ?_
    rintro e w1 ⟨rfl, ha, hb⟩
    have H1 : Hid (ArenaAt B w1 g A0 ∧ Below B w w1) := ⟨ha, H0.out.2.trans hb⟩
    clear ha hb H0 HC0
    go_wp2_with fail
    refine Calls.mono (HC1.out _ H1.out.1 (Nat.le_trans hB H1.out.2.size)) ?_
    rintro e w2 ⟨rfl, ha, hb⟩
    have H2 : Hid (ArenaAt B w2 g A1 ∧ Below B w w2) := ⟨ha, H1.out.2.trans hb⟩
    clear ha hb H1 HC1
    go_wp2_with fail
    refine Calls.mono (specHandP_any B g A1 k0 k1 bo w2 L1 H2.out.1 (Nat.le_trans hB H2.out.2.size)) ?_
    rintro e w3 ⟨rfl, ha, hb⟩
    have HZ : Hid (ArenaAt B w3 g _ ∧ Below B w w3) := ⟨ha, H2.out.2.trans hb⟩
    clear ha hb H2
    go_wp2
    go_ret
    exact ⟨rfl, HZ.out.1, HZ.out.2⟩
set_option maxHeartbeats 1600000 in
theorem specHnd_any (a : Option Addr) (cap : Nat) (ns : List Nd) (sc : Int) (pu : Int) (mo : Int) (x : Int) (y : Int) (bo : Int) (w : World) (hl : ns.length ≤ 1048576) (ha : AddrN a cap) (hr : RowN w.heap.size w a ns) :
    Calls Try.prog 73 #[.agg #[.slice a ns.length cap], .int .i64 sc, .int .i64 pu, .int .i64 mo, .int .i64 x, .int .i64 y, .int .i64 bo] w fun e w' => ∃ v, e = .returned (.tuple #[.agg #[v], .int .i64 (hnK ns sc pu mo x y bo)]) ∧ OwnN w.heap.size w' v (keptA ns (hnA ns sc pu mo x y bo) (hnK ns sc pu mo x y bo)) ∧ Below w.heap.size w w' := by
  obtain ⟨A, K, HP, HN, hEK, hEA⟩ : ∃ (A : List Nd) (K : Int), Hid (∀ (B g : Nat) (wz : World), ArenaAt B wz g ns → B ≤ wz.heap.size → Calls Try.prog 144 #[.pointer (some ⟨g, 0, none⟩), .int .i64 sc, .int .i64 pu, .int .i64 mo, .int .i64 x, .int .i64 y, .int .i64 bo] wz fun e w' => e = .returned (.int .i64 K) ∧ ArenaAt B w' g A ∧ Below B wz w') ∧ Hid True ∧ K = hnK ns sc pu mo x y bo ∧ A = hnA ns sc pu mo x y bo := ⟨_, _, fun B g wz h hB => specHndP_any B g ns sc pu mo x y bo wz hl h hB, trivial, rfl, rfl⟩
  rw [← hEK, ← hEA]
  clear hEK hEA HN
  have hb0 : Below w.heap.size w ((w.alloc (.cells #[.slice a ns.length cap] 28)).alloc (.cells #[.slice none 0 0] 28)) := ((Below.refl _ _).alloc (Nat.le_refl _) _).alloc (by simp) _
  have hs0 : ((w.alloc (.cells #[.slice a ns.length cap] 28)).alloc (.cells #[.slice none 0 0] 28)).heap.size = w.heap.size + 2 := by simp
  have hA0 : ((w.alloc (.cells #[.slice a ns.length cap] 28)).alloc (.cells #[.slice none 0 0] 28)).heap[w.heap.size]? = some (.cells #[.slice a ns.length cap] 28 (0, 0)) := (heap_alloc_old _ _ (by simp)).trans (heap_alloc_new w _)
  have hr0 : ((w.alloc (.cells #[.slice a ns.length cap] 28)).alloc (.cells #[.slice none 0 0] 28)).heap[w.heap.size + 1]? = some (.cells #[.slice none 0 0] 28 (0, 0)) := by
    have := heap_alloc_new (w.alloc (.cells #[.slice a ns.length cap] 28)) (.cells #[.slice none 0 0] 28)
    simpa using this
  have HR : Hid (RowN w.heap.size w a ns) := hr
  have HA : Hid (AddrN a cap) := ha
  clear hr ha
  go_enter Try.func73, Try.ntmps73
  go_wp2_with fail
  generalize (w.alloc (.cells #[.slice a ns.length cap] 28)).alloc (.cells #[.slice none 0 0] 28) = w0 at hb0 hs0 hA0 hr0 ⊢
  refine (specCopy_any a cap ns w0 hl HA.out (HR.out.grown hb0)).mono ?_
  rintro e w1 ⟨v, rfl, hown, hb1⟩
  obtain ⟨a1, cap1, rfl, ha1, hr1⟩ := hown.row
  have hs1 := hb1.size
  have hbA : Below w1.heap.size w1 (w1.alloc (.cells #[.slice a1 ns.length cap1] 28)) := (Below.refl _ _).alloc (Nat.le_refl _) _
  have HAt : Hid (ArenaAt w0.heap.size (w1.alloc (.cells #[.slice a1 ns.length cap1] 28)) w1.heap.size ns) := ⟨hs1, by simp, _, heap_alloc_new w1 _, hown.later hbA, fun h => by have := (hown.lt _ h).2; omega⟩
  have HB1 : Hid (Below w.heap.size w (w1.alloc (.cells #[.slice a1 ns.length cap1] 28))) := (hb0.trans (hb1.mono (by omega))).trans (hbA.mono (by omega))
  have HA1 : Hid ((w1.alloc (.cells #[.slice a1 ns.length cap1] 28)).heap[w.heap.size]? = some (.cells #[.slice a ns.length cap] 28 (0, 0))) := (hbA.block _ (by omega)).trans ((hb1.block w.heap.size (by omega)).trans hA0)
  have HR1 : Hid ((w1.alloc (.cells #[.slice a1 ns.length cap1] 28)).heap[w.heap.size + 1]? = some (.cells #[.slice none 0 0] 28 (0, 0))) := (hbA.block _ (by omega)).trans ((hb1.block (w.heap.size + 1) (by omega)).trans hr0)
  clear hown hb0 hb1 hA0 hr0 ha1 hr1 hbA
  go_wp2_with fail
  refine Calls.mono (HP.out _ _ _ HAt.out (by simp; omega)) ?_
  rintro e w2 ⟨rfl, hat, hb2⟩
  obtain ⟨t1, t2, v2, t3, t4, t5⟩ := hat
  obtain ⟨a2, cap2, rfl, -, -⟩ := t4.row
  have HB2 : Hid (Below w.heap.size w w2) := HB1.out.trans (hb2.mono (by omega))
  have hA2 := (hb2.block w.heap.size (by omega)).trans HA1.out
  have hR2 := (hb2.block (w.heap.size + 1) (by omega)).trans HR1.out
  have o0 : w2.cell? ⟨w.heap.size, 0, none⟩ = some (.slice a ns.length cap) := (cell_of_row w2 _ 0 _ _ _ hA2).trans rfl
  have o1 : w2.cell? ⟨w1.heap.size, 0, none⟩ = some (.slice a2 A.length cap2) := (cell_of_row w2 _ 0 _ _ _ t3).trans rfl
  have HR2 : Hid (w2.heap[w.heap.size + 1]? = some (.cells #[.slice none 0 0] 28 (0, 0))) := hR2
  have HO2 : Hid (OwnN w0.heap.size w2 (.slice a2 A.length cap2) A) := t4
  have hs2 : w1.heap.size < w2.heap.size := t2
  clear HP HAt hb2 HB1 HA1 HR1 t1 t2 t3 t4 t5 hA2 hR2
  go_wp2_with fail
  refine (kept_any a a2 cap cap2 ns A K w2 hl HA.out (HR.out.grown HB2.out)).mono ?_
  rintro e w3 ⟨v3, rfl, hb3, hn3, hp3⟩
  obtain ⟨a3, n3, c3, rfl⟩ : ∃ a n c, v3 = .slice a n c := by
    by_cases hk : K < 0
    · obtain ⟨a3, c3, rfl, -, -⟩ := (hn3 hk).row; exact ⟨_, _, _, rfl⟩
    · exact ⟨_, _, _, hp3 hk⟩
  have hR3 := (hb3.block (w.heap.size + 1) (by omega)).trans HR2.out
  have r0 : w3.cell? ⟨w.heap.size + 1, 0, none⟩ = some (.slice none 0 0) := (cell_of_row w3 _ 0 _ _ _ hR3).trans rfl
  have f0 : w3.frozen? ⟨w.heap.size + 1, 0, none⟩ = false := frozen_of_row w3 _ 0 _ _ hR3
  have HBL : Hid ((w3.setCell ⟨w.heap.size + 1, 0, none⟩ (.slice a3 n3 c3)).heap[w.heap.size + 1]? = some (.cells #[.slice a3 n3 c3] 28 (0, 0))) := (heap_setCell_same w3 _ 0 _ _ _ hR3).trans rfl
  have HO3 : Hid (OwnN w.heap.size (w3.setCell ⟨w.heap.size + 1, 0, none⟩ (.slice a3 n3 c3)) (.slice a3 n3 c3) (keptA ns A K)) := by
    by_cases hk : K < 0
    · show OwnN _ _ _ _; rw [keptA_neg hk]; exact OwnN.base (ownsRow_setCell_below (hn3 hk) (show w.heap.size + 1 < w2.heap.size by omega) _) (by omega)
    · show OwnN _ _ _ _; rw [keptA_pos hk, hp3 hk]; exact OwnN.base (ownsRow_setCell_below (HO2.out.later hb3) (show w.heap.size + 1 < w0.heap.size by omega) _) (by omega)
  have HB3 : Hid (Below w.heap.size w (w3.setCell ⟨w.heap.size + 1, 0, none⟩ (.slice a3 n3 c3))) := (HB2.out.trans (hb3.mono (by omega))).setCell (show w.heap.size ≤ w.heap.size + 1 by omega) _
  clear hb3 hn3 hp3 hR3 o0 o1 HO2 HR2 HB2
  go_wp2
  refine bodyPost_ret (res_cell2 rfl _ _ (w.heap.size + 1) 28 #[.slice a3 n3 c3] (0, 0) _ rfl ?_ Try.underlying28 rfl arenaSize) rfl ?_
  · exact HBL.out
  · exact ⟨_, rfl, HO3.out, HB3.out⟩
end Go.Proofs.Ytffnadnndmmliaa
