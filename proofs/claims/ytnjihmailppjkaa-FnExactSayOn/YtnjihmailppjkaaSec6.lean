/- The contracts of chapter 6's functions, the specification's, and what they make in plain words. -/
import Derived.Test.YtnjihmailppjkaaListLit
import Derived.Test.YtnjihmailppjkaaMakeIs
import Derived.Test.YtnjihmailppjkaaTermAt
import Derived.Test.YtnjihmailppjkaaPlainText
import Derived.WalkKit
import Derived.WalkLawsBesides
import Derived.WalkSpells
import Derived.Laws.Rows
import Derived.Test.YtnjihmailppjkaaMakeI
import Derived.Test.YtnjihmailppjkaaArenaO
import Derived.Test.YtnjihmailppjkaaPlainFM
namespace Go.Proofs.Ytnjihmailppjkaa
open Go.RowKit
set_option linter.unusedVariables false
/-- A key of a secret and a number; what else chapter 6 makes. -/
def sideA (ns : List Nd) (s n : Int) : List Nd := makeA (putA ns ⟨1, n, 0, 0⟩) 4 s (putK ns ⟨1, n, 0, 0⟩)
def sideK (ns : List Nd) (s n : Int) : Int := makeK (putA ns ⟨1, n, 0, 0⟩) 4 s (putK ns ⟨1, n, 0, 0⟩)
def handA (ns : List Nd) (s p b : Int) : List Nd := makeA (makeA (makeA ns 2 s p) 3 b 0) 4 (makeK ns 2 s p) (makeK (makeA ns 2 s p) 3 b 0)
def handK (ns : List Nd) (s p b : Int) : Int := makeK (makeA (makeA ns 2 s p) 3 b 0) 4 (makeK ns 2 s p) (makeK (makeA ns 2 s p) 3 b 0)
/-- A node of a kind over a key and a hash. -/
def overA (ns : List Nd) (kind s n d : Int) : List Nd := makeA (makeA (sideA ns s n) 3 d 0) kind (sideK ns s n) (makeK (sideA ns s n) 3 d 0)
def overK (ns : List Nd) (kind s n d : Int) : Int := makeK (makeA (sideA ns s n) 3 d 0) kind (sideK ns s n) (makeK (sideA ns s n) 3 d 0)
/-- So often as m tells. -/
def epochF (ns : List Nd) (k : Int) : Nat → List Nd × Int
  | 0 => (ns, k)
  | m + 1 => (sideA (epochF ns k m).1 (epochF ns k m).2 30, sideK (epochF ns k m).1 (epochF ns k m).2 30)
def epochB (ns : List Nd) (app e : Int) : Bool := inB e 0 8 && okAt ns app
def epochA (ns : List Nd) (app e : Int) : List Nd := if epochB ns app e = true then (epochF ns app e.toNat).1 else ns
def epochK (ns : List Nd) (app e : Int) : Int := if epochB ns app e = true then (epochF ns app e.toNat).2 else -1
theorem putA_le6 {ns : List Nd} {x : Nd} (h : ns.length ≤ 1048576) : (putA ns x).length ≤ 1048576 := by
  unfold putA; split
  · rename_i h1; simp; omega
  · exact h
theorem makeA_le6 {ns : List Nd} {k x y : Int} (h : ns.length ≤ 1048576) : (makeA ns k x y).length ≤ 1048576 := by
  unfold makeA; split
  · exact h
  · exact putA_le6 h
theorem sideA_le {ns : List Nd} {s n : Int} (h : ns.length ≤ 1048576) : (sideA ns s n).length ≤ 1048576 := makeA_le6 (putA_le6 h)
theorem handA_le {ns : List Nd} {s p b : Int} (h : ns.length ≤ 1048576) : (handA ns s p b).length ≤ 1048576 := makeA_le6 (makeA_le6 (makeA_le6 h))
theorem overA_le {ns : List Nd} {k s n d : Int} (h : ns.length ≤ 1048576) : (overA ns k s n d).length ≤ 1048576 := makeA_le6 (makeA_le6 (sideA_le h))
theorem epochF_le {ns : List Nd} {k : Int} (h : ns.length ≤ 1048576) : ∀ m, (epochF ns k m).1.length ≤ 1048576
  | 0 => h
  | m + 1 => sideA_le (epochF_le h m)
theorem epochA_le {ns : List Nd} {k e : Int} (h : ns.length ≤ 1048576) : (epochA ns k e).length ≤ 1048576 := by
  unfold epochA; split
  · exact epochF_le h _
  · exact h
theorem sideK_neg {ns : List Nd} {s n : Int} (h : sideK ns s n < 0) : sideK ns s n = -1 := makeK_neg (show makeK _ _ _ _ < 0 from h)
theorem epochF_neg {ns : List Nd} {k : Int} (hk : 0 ≤ k) : ∀ m, (epochF ns k m).2 < 0 → (epochF ns k m).2 = -1
  | 0, h => by have : (epochF ns k 0).2 = k := rfl; omega
  | m + 1, h => sideK_neg h
theorem epochK_neg {ns : List Nd} {k e : Int} (h : epochK ns k e < 0) : epochK ns k e = -1 := by
  unfold epochK at h ⊢
  split at h
  · rename_i h1
    rw [if_pos h1]
    refine epochF_neg ?_ _ h
    unfold epochB at h1
    simp at h1
    obtain ⟨i, e, _⟩ := okAt_in h1.2
    omega
  · rename_i h1; rw [if_neg h1]
set_option maxHeartbeats 1600000 in
theorem specSideP_any (B g : Nat) (ns : List Nd) (s : Int) (n : Int) (w : World) (hl : ns.length ≤ 1048576) (h : ArenaAt B w g ns) (hB : B ≤ w.heap.size) :
    Calls Try.prog 53 #[.pointer (some ⟨g, 0, none⟩), .int .i64 s, .int .i64 n] w fun e w' => e = .returned (.int .i64 (sideK ns s n)) ∧ ArenaAt B w' g (sideA ns s n) ∧ Below B w w' := by
  have H0 : Hid (ArenaAt B w g ns ∧ Below B w w) := ⟨h, Below.refl _ _⟩
  clear h
  go_enter Try.func53, Try.ntmps53
  go_wp2_with fail
  refine (specAtomP_any B g (ns) (n) w (hl) H0.out.1 (Nat.le_trans hB H0.out.2.size)).mono ?_
  rintro e w1 ⟨rfl, ha, hb⟩
  have H1 : Hid (ArenaAt B w1 g _ ∧ Below B w w1) := ⟨ha, H0.out.2.trans hb⟩
  clear ha hb H0
  go_wp2_with fail
  refine (specMakeP_any B g (putA ns ⟨1, n, 0, 0⟩) 4 (s) (putK ns ⟨1, n, 0, 0⟩) w1 (putA_le6 hl) H1.out.1 (Nat.le_trans hB H1.out.2.size)).mono ?_
  rintro e w2 ⟨rfl, ha, hb⟩
  have H2 : Hid (ArenaAt B w2 g _ ∧ Below B w w2) := ⟨ha, H1.out.2.trans hb⟩
  clear ha hb H1
  go_wp2
  go_ret
  exact ⟨rfl, H2.out.1, H2.out.2⟩
set_option maxHeartbeats 1600000 in
theorem specEpochP_any (B g : Nat) (ns : List Nd) (k ep : Int) (w : World) (hl : ns.length ≤ 1048576) (h : ArenaAt B w g ns) (hB : B ≤ w.heap.size) :
    Calls Try.prog 54 #[.pointer (some ⟨g, 0, none⟩), .int .i64 k, .int .i64 ep] w fun r w' => r = .returned (.int .i64 (epochK ns k ep)) ∧ ArenaAt B w' g (epochA ns k ep) ∧ Below B w w' := by
  have H0 : Hid (ArenaAt B w g ns ∧ Below B w w) := ⟨h, Below.refl _ _⟩
  obtain ⟨h1, h2, v, h3, h4, h5⟩ := h
  obtain ⟨a, cap, rfl, ha, hr⟩ := h4.row
  have c0 : w.cell? ⟨g, 0, none⟩ = some (.slice a ns.length cap) := by rw [cell_of_row w g 0 _ _ _ h3]; rfl
  have HR : Hid (RowN w.heap.size w a ns) := hr
  clear h1 h3 h4 h5 ha hr
  obtain ⟨d1, HD1⟩ : ∃ d, Hid (inB ep 0 8 = d) := ⟨_, rfl⟩
  obtain ⟨d2, HD2⟩ : ∃ d, Hid (okAt ns k = d) := ⟨_, rfl⟩
  have HE : Hid (epochB ns k ep = (d1 && d2)) := by show _ = _; unfold epochB; rw [HD1.out, HD2.out]
  cases d1
  · have HK : Hid (epochK ns k ep = -1 ∧ epochA ns k ep = ns) := ⟨by unfold epochK; rw [HE.out]; rfl, by unfold epochA; rw [HE.out]; rfl⟩
    clear HE
    go_enter Try.func54, Try.ntmps54
    go_wp2_with (go_at_call 30; refine (specIn_any _ _ _ _).mono ?_; rintro e w' ⟨rfl, rfl⟩; rw [HD1.out])
    go_ret
    exact ⟨by rw [HK.out.1]; rfl, by rw [HK.out.2]; exact H0.out.1, H0.out.2⟩
  · cases d2
    · have HK : Hid (epochK ns k ep = -1 ∧ epochA ns k ep = ns) := ⟨by unfold epochK; rw [HE.out]; rfl, by unfold epochA; rw [HE.out]; rfl⟩
      clear HE
      go_enter Try.func54, Try.ntmps54
      go_wp2_with (first | (go_at_call 30; refine (specIn_any _ _ _ _).mono ?_; rintro e w' ⟨rfl, rfl⟩; rw [HD1.out]) | fail)
      refine (specOk_any a cap ns k w hl HR.out).mono ?_
      rintro e w1 ⟨rfl, hb1⟩
      rw [HD2.out]
      have H1 : Hid (ArenaAt B w1 g ns ∧ Below B w w1) := ⟨H0.out.1.later hb1, hb1.mono hB⟩
      clear hb1 c0
      go_wp2
      go_ret
      exact ⟨by rw [HK.out.1]; rfl, by rw [HK.out.2]; exact H1.out.1, H1.out.2⟩
    · have hin := inB_true HD1.out
      obtain ⟨m0, rfl⟩ := Int.eq_ofNat_of_zero_le hin.1
      have hm8 : m0 ≤ 8 := by omega
      have HK : Hid (epochK ns k (m0 : Int) = (epochF ns k m0).2 ∧ epochA ns k (m0 : Int) = (epochF ns k m0).1) := ⟨by unfold epochK; rw [HE.out]; simp, by unfold epochA; rw [HE.out]; simp⟩
      clear HE hin
      go_enter Try.func54, Try.ntmps54
      go_wp2_with (first | (go_at_call 30; refine (specIn_any _ _ _ _).mono ?_; rintro e w' ⟨rfl, rfl⟩; rw [HD1.out]) | fail)
      refine (specOk_any a cap ns k w hl HR.out).mono ?_
      rintro e w1 ⟨rfl, hb1⟩
      rw [HD2.out]
      have H1 : Hid (ArenaAt B w1 g ns ∧ Below B w w1) := ⟨H0.out.1.later hb1, hb1.mono hB⟩
      clear hb1 c0 H0 HD1 HD2 HR
      go_wp2
      go_loopw [1, 7] (fun kv iv wr => ∃ m : Nat, m ≤ m0 ∧ iv = .int .i64 (m : Int) ∧ kv = .int .i64 (epochF ns k m).2 ∧ Hid (ArenaAt B wr g (epochF ns k m).1 ∧ Below B w wr))
        (fun _ iv _ => m0 - (intOf iv).toNat)
      case atStart => exact ⟨0, Nat.zero_le _, rfl, rfl, H1⟩
      case round =>
        clear H1
        obtain ⟨m, hm, rfl, rfl, H2⟩ := hrel
        by_cases hlt : m < m0
        · have hi1 : (m : Int) < (m0 : Int) := by omega
          have HC : Hid _ := specSideP_any B g (epochF ns k m).1 (epochF ns k m).2 30 wr (epochF_le hl m) H2.out.1 (Nat.le_trans hB H2.out.2.size)
          go_wp2_with fail
          refine Calls.mono HC.out ?_
          rintro e w3 ⟨rfl, ha, hb⟩
          have H3 : Hid (ArenaAt B w3 g (epochF ns k (m + 1)).1 ∧ Below B w w3) := ⟨ha, H2.out.2.trans hb⟩
          clear ha hb HC H2
          go_wp2
          go_roundw
          case rel => exact ⟨m + 1, by omega, by go_num, rfl, H3⟩
          case measure => simp [intOf] <;> omega
        · obtain rfl : m = m0 := by omega
          go_wp2
          go_ret
          exact ⟨by rw [HK.out.1]; rfl, by rw [HK.out.2]; exact H2.out.1, H2.out.2⟩
end Go.Proofs.Ytnjihmailppjkaa

namespace Go.Proofs.Ytnjihmailppjkaa
open Go.RowKit
set_option linter.unusedVariables false
/-- What is signed. -/
def wdA1 (ns : List Nd) (m : Int) : List Nd := putA ns ⟨1, m, 0, 0⟩
def wdA2 (ns : List Nd) (m sa : Int) : List Nd := makeA (wdA1 ns m) 3 sa 0
def wdL (ns : List Nd) (m sa : Int) : List Nd × Int := listF [putK ns ⟨1, m, 0, 0⟩, makeK (wdA1 ns m) 3 sa 0] (wdA2 ns m sa)
def wdA (ns : List Nd) (m sa : Int) : List Nd := (wdL ns m sa).1
def wdK (ns : List Nd) (m sa : Int) : Int := (wdL ns m sa).2
theorem wdA2_le {ns : List Nd} {m sa : Int} (h : ns.length ≤ 1048576) : (wdA2 ns m sa).length ≤ 1048576 := makeA_le (putA_le2 h)
theorem wdA_le {ns : List Nd} {m sa : Int} (h : ns.length ≤ 1048576) : (wdA ns m sa).length ≤ 1048576 := listF_le _ (wdA2_le h)
/-- A part: the certificate and what is signed, or Atom 0 twice. -/
def pcA1 (ns : List Nd) (nm : Int) : List Nd := crA ns nm
def pcA2 (ns : List Nd) (nm : Int) : List Nd := lgA (pcA1 ns nm) nm
def pcA3 (ns : List Nd) (m nm sa : Int) : List Nd := wdA (pcA2 ns nm) m sa
def pcA (ns : List Nd) (m nm sa : Int) : List Nd := makeA (pcA3 ns m nm sa) 8 (lgK (pcA1 ns nm) nm) (wdK (pcA2 ns nm) m sa)
def pcK (ns : List Nd) (m nm sa : Int) : Int := makeK (pcA3 ns m nm sa) 8 (lgK (pcA1 ns nm) nm) (wdK (pcA2 ns nm) m sa)
def pvA (ns : List Nd) (m mo nm sa : Int) : List Nd := if mo = 1 then pcA ns m nm sa else putA ns ⟨1, 0, 0, 0⟩
def pvC (ns : List Nd) (mo nm : Int) : Int := if mo = 1 then crK ns nm else putK ns ⟨1, 0, 0, 0⟩
def pvS (ns : List Nd) (m mo nm sa : Int) : Int := if mo = 1 then pcK ns m nm sa else putK ns ⟨1, 0, 0, 0⟩
def ptA1 (ns : List Nd) (sd hd : Int) : List Nd := sideA ns hd sd
def ptA2 (ns : List Nd) (sd hd m mo nm sa : Int) : List Nd := pvA (ptA1 ns sd hd) m mo nm sa
def ptA3 (ns : List Nd) (sd hd m1 m mo nm sa : Int) : List Nd := overA (ptA2 ns sd hd m mo nm sa) 9 hd m1 sa
def ptL (ns : List Nd) (sd hd m1 m mo nm sa : Int) : List Nd × Int := listF [pvC (ptA1 ns sd hd) mo nm, pvS (ptA1 ns sd hd) m mo nm sa, overK (ptA2 ns sd hd m mo nm sa) 9 hd m1 sa] (ptA3 ns sd hd m1 m mo nm sa)
def ptA (ns : List Nd) (sd hd m1 m mo nm sa : Int) : List Nd := makeA (ptL ns sd hd m1 m mo nm sa).1 5 (sideK ns hd sd) (ptL ns sd hd m1 m mo nm sa).2
def ptK (ns : List Nd) (sd hd m1 m mo nm sa : Int) : Int := makeK (ptL ns sd hd m1 m mo nm sa).1 5 (sideK ns hd sd) (ptL ns sd hd m1 m mo nm sa).2
theorem pcA2_le {ns : List Nd} {nm : Int} (h : ns.length ≤ 1048576) : (pcA2 ns nm).length ≤ 1048576 := lgA_le (crA_le h)
theorem pcA3_le {ns : List Nd} {m nm sa : Int} (h : ns.length ≤ 1048576) : (pcA3 ns m nm sa).length ≤ 1048576 := wdA_le (pcA2_le h)
theorem pvA_le {ns : List Nd} {m mo nm sa : Int} (h : ns.length ≤ 1048576) : (pvA ns m mo nm sa).length ≤ 1048576 := by
  unfold pvA; split
  · exact makeA_le (pcA3_le h)
  · exact putA_le2 h
theorem ptA2_le {ns : List Nd} {sd hd m mo nm sa : Int} (h : ns.length ≤ 1048576) : (ptA2 ns sd hd m mo nm sa).length ≤ 1048576 := pvA_le (sideA_le h)
theorem ptA3_le {ns : List Nd} {sd hd m1 m mo nm sa : Int} (h : ns.length ≤ 1048576) : (ptA3 ns sd hd m1 m mo nm sa).length ≤ 1048576 := overA_le (ptA2_le h)
theorem ptL_le {ns : List Nd} {sd hd m1 m mo nm sa : Int} (h : ns.length ≤ 1048576) : (ptL ns sd hd m1 m mo nm sa).1.length ≤ 1048576 := listF_le _ (ptA3_le h)
theorem ptA_le {ns : List Nd} {sd hd m1 m mo nm sa : Int} (h : ns.length ≤ 1048576) : (ptA ns sd hd m1 m mo nm sa).length ≤ 1048576 := makeA_le (ptL_le h)
/-- An ack. -/
def akA1 (ns : List Nd) (hd : Int) : List Nd := sideA ns hd 40
def akA2 (ns : List Nd) (hd le : Int) : List Nd := putA (akA1 ns hd) ⟨1, le, 0, 0⟩
def akA3 (ns : List Nd) (hd le sa : Int) : List Nd := makeA (akA2 ns hd le) 3 sa 0
def akL (ns : List Nd) (hd le sa : Int) : List Nd × Int := listF [putK (akA1 ns hd) ⟨1, le, 0, 0⟩, makeK (akA2 ns hd le) 3 sa 0] (akA3 ns hd le sa)
def akA (ns : List Nd) (hd le sa : Int) : List Nd := makeA (akL ns hd le sa).1 5 (sideK ns hd 40) (akL ns hd le sa).2
def akK (ns : List Nd) (hd le sa : Int) : Int := makeK (akL ns hd le sa).1 5 (sideK ns hd 40) (akL ns hd le sa).2
theorem akA2_le {ns : List Nd} {hd le : Int} (h : ns.length ≤ 1048576) : (akA2 ns hd le).length ≤ 1048576 := putA_le2 (sideA_le h)
theorem akA3_le {ns : List Nd} {hd le sa : Int} (h : ns.length ≤ 1048576) : (akA3 ns hd le sa).length ≤ 1048576 := makeA_le (akA2_le h)
theorem akL_le {ns : List Nd} {hd le sa : Int} (h : ns.length ≤ 1048576) : (akL ns hd le sa).1.length ≤ 1048576 := listF_le _ (akA3_le h)
theorem akA_le {ns : List Nd} {hd le sa : Int} (h : ns.length ≤ 1048576) : (akA ns hd le sa).length ≤ 1048576 := makeA_le (akL_le h)
/-- The secret of a handshake. -/
def hnA2 (ns : List Nd) (mo x y : Int) : List Nd := if mo = 2 then pkA ns x y else putA ns ⟨1, 0, 0, 0⟩
def hnK2 (ns : List Nd) (mo x y : Int) : Int := if mo = 2 then pkK ns x y else putK ns ⟨1, 0, 0, 0⟩
def hnA (ns : List Nd) (sc pu mo x y bo : Int) : List Nd := handA (hnA2 (dhA ns sc pu) mo x y) (dhK ns sc pu) (hnK2 (dhA ns sc pu) mo x y) bo
def hnK (ns : List Nd) (sc pu mo x y bo : Int) : Int := handK (hnA2 (dhA ns sc pu) mo x y) (dhK ns sc pu) (hnK2 (dhA ns sc pu) mo x y) bo
theorem dhA_le {ns : List Nd} {x y : Int} (h : ns.length ≤ 1048576) : (dhA ns x y).length ≤ 1048576 := by
  unfold dhA; split
  · exact putA_le2 h
  · exact h
theorem hnA2_le {ns : List Nd} {mo x y : Int} (h : ns.length ≤ 1048576) : (hnA2 ns mo x y).length ≤ 1048576 := by
  unfold hnA2; split
  · exact pkA_le h
  · exact putA_le2 h
theorem hnA_le {ns : List Nd} {sc pu mo x y bo : Int} (h : ns.length ≤ 1048576) : (hnA ns sc pu mo x y bo).length ≤ 1048576 := handA_le (hnA2_le (dhA_le h))
set_option maxHeartbeats 3200000 in
theorem specSideD_any (D : Nat → Prop) (g : Nat) (ns : List Nd) (s : Int) (n : Int) (w : World) (hl : ns.length ≤ 1048576) (h : ArD D w g ns) (hB : ∀ k, D k → k < w.heap.size) :
    Calls Try.prog 53 #[.pointer (some ⟨g, 0, none⟩), .int .i64 s, .int .i64 n] w fun e w' => e = .returned (.int .i64 (sideK ns s n)) ∧ ArD D w' g (sideA ns s n) ∧ Safe D w w' := by
  have H0 : Hid (ArD D w g ns ∧ Safe D w w) := ⟨h, Safe.refl _ _⟩
  have HBO : Hid (∀ k, D k → k < w.heap.size) := hB
  clear h hB
  go_enter Try.func53, Try.ntmps53
  go_wp2_with fail
  refine Calls.mono (specAtomD_any D g (ns) (n) w (hl) H0.out.1 (H0.out.2.old HBO.out)) ?_
  rintro e w1 ⟨rfl, ha, hb⟩
  have H1 : Hid (ArD D w1 g _ ∧ Safe D w w1) := ⟨ha, H0.out.2.trans hb⟩
  clear ha hb H0
  go_wp2_with fail
  refine Calls.mono (specMakeD_any D g (putA ns ⟨1, n, 0, 0⟩) 4 (s) (putK ns ⟨1, n, 0, 0⟩) w1 (putA_le2 hl) H1.out.1 (H1.out.2.old HBO.out)) ?_
  rintro e w2 ⟨rfl, ha, hb⟩
  have H2 : Hid (ArD D w2 g _ ∧ Safe D w w2) := ⟨ha, H1.out.2.trans hb⟩
  clear ha hb H1
  go_wp2
  go_ret
  exact ⟨rfl, H2.out.1, H2.out.2⟩
end Go.Proofs.Ytnjihmailppjkaa

namespace Go.Proofs.Ytnjihmailppjkaa
open Go.RowKit
set_option linter.unusedVariables false
/-- What is put of another kind is not of this one. -/
theorem isK_put {ns : List Nd} {x : Nd} {k j : Int} (hx : x.k ≠ j) : isK (putA ns x) k j = isK ns k j := by
  unfold putA
  split
  · unfold isK okAt inB
    by_cases h0 : 0 ≤ k
    · by_cases h1 : k < (ns.length : Int)
      · have e : ndAt (ns ++ [x]) k = ndAt ns k := ndAt_pre ⟨[x], rfl⟩ h0 h1
        have e2 : (ns ++ [x]).getD k.toNat Nd.zero = ns.getD k.toNat Nd.zero := e
        rw [e, e2]
        have d1 : decide (k ≤ ((ns ++ [x]).length : Int) - 1) = decide (k ≤ (ns.length : Int) - 1) := by simp; omega
        rw [d1]
      · have d2 : decide (k ≤ (ns.length : Int) - 1) = false := by simp; omega
        rw [d2]
        by_cases h2 : k = (ns.length : Int)
        · have e : ndAt (ns ++ [x]) k = x := by
            unfold ndAt
            rw [h2, List.getD_eq_getElem?_getD, List.getElem?_append_right (by simp)]
            simp
          rw [e, decide_eq_false hx]
          simp
        · have d3 : decide (k ≤ ((ns ++ [x]).length : Int) - 1) = false := by simp; omega
          rw [d3]
          simp
    · have d4 : decide (0 ≤ k) = false := by simp; omega
      rw [d4]
      simp
  · rfl
theorem isK_lt {ns : List Nd} {k j : Int} (h : isK ns k j = true) : 0 ≤ k ∧ k < (ns.length : Int) := by
  unfold isK at h
  rw [Bool.and_eq_true] at h
  obtain ⟨i, rfl, hi⟩ := okAt_in h.1
  omega
/-- A seal opens as it did ahead of what was put of other kinds. -/
theorem open_put {ns : List Nd} {x : Nd} {key k : Int} (hx : x.k ≠ 5) : openB (putA ns x) key k = openB ns key k ∧ openV (putA ns x) key k = openV ns key k := by
  have hB : openB (putA ns x) key k = openB ns key k ∧ (isK ns k 5 = true → ndAt (putA ns x) k = ndAt ns k) := by
    have e := isK_put (ns := ns) (k := k) (j := 5) hx
    have hn : isK ns k 5 = true → ndAt (putA ns x) k = ndAt ns k := fun h => ndAt_pre (putA_pre ns x) (isK_lt h).1 (isK_lt h).2
    refine ⟨?_, hn⟩
    unfold openB
    rw [e]
    cases h : isK ns k 5 with
    | false => rfl
    | true => rw [hn h]
  refine ⟨hB.1, ?_⟩
  unfold openV
  rw [hB.1]
  split
  · rename_i h
    have h5 : isK ns k 5 = true := by unfold openB at h; rw [Bool.and_eq_true] at h; exact h.1
    rw [hB.2 h5]
  · rfl
theorem open_side {ns : List Nd} {s n key k : Int} : openB (sideA ns s n) key k = openB ns key k ∧ openV (sideA ns s n) key k = openV ns key k := by
  have e : sideA ns s n = putA (putA ns ⟨1, n, 0, 0⟩) ⟨4, 0, s, putK ns ⟨1, n, 0, 0⟩⟩ := by unfold sideA makeA; rw [if_neg (by omega)]; rfl
  rw [e]
  have h1 := open_put (ns := putA ns ⟨1, n, 0, 0⟩) (x := ⟨4, 0, s, putK ns ⟨1, n, 0, 0⟩⟩) (key := key) (k := k) (by simp)
  have h2 := open_put (ns := ns) (x := ⟨1, n, 0, 0⟩) (key := key) (k := k) (by simp)
  exact ⟨h1.1.trans h2.1, h1.2.trans h2.2⟩
theorem OldK.trans {a b c : World} {g : Nat} {x y z : List Nd} (h : OldK a b g x y) (k : OldK b c g y z) : OldK a c g x z := fun a0 ms q => k a0 ms (h a0 ms q)
set_option maxHeartbeats 1600000 in
theorem specSideO_any (D : Nat → Prop) (g : Nat) (ns : List Nd) (s n : Int) (w : World) (hl : ns.length ≤ 1048576) (h : ArD D w g ns) (hB : ∀ k, D k → k < w.heap.size) :
    Calls Try.prog 53 #[.pointer (some ⟨g, 0, none⟩), .int .i64 s, .int .i64 n] w fun e w' => e = .returned (.int .i64 (sideK ns s n)) ∧ ArD D w' g (sideA ns s n) ∧ Safe D w w' ∧ OldK w w' g ns (sideA ns s n) := by
  have H0 : Hid (ArD D w g ns) := h
  have HBO : Hid (∀ k, D k → k < w.heap.size) := hB
  clear h hB
  go_enter Try.func53, Try.ntmps53
  go_wp2_with fail
  refine Calls.mono (specAtomO_any D g ns n w hl H0.out HBO.out) ?_
  rintro e w1 ⟨rfl, ha, hb, hk⟩
  have H1 : Hid (ArD D w1 g _ ∧ Safe D w w1 ∧ OldK w w1 g _ _) := ⟨ha, hb, hk⟩
  clear ha hb hk H0
  go_wp2_with fail
  refine Calls.mono (specMakeO_any D g (putA ns ⟨1, n, 0, 0⟩) 4 s (putK ns ⟨1, n, 0, 0⟩) w1 (putA_le2 hl) H1.out.1 (H1.out.2.1.old HBO.out)) ?_
  rintro e w2 ⟨rfl, ha, hb, hk⟩
  have H2 : Hid (ArD D w2 g _ ∧ Safe D w w2 ∧ OldK w w2 g _ _) := ⟨ha, H1.out.2.1.trans hb, H1.out.2.2.trans hk⟩
  clear ha hb hk H1
  go_wp2
  go_ret
  exact ⟨rfl, H2.out.1, H2.out.2.1, H2.out.2.2⟩
end Go.Proofs.Ytnjihmailppjkaa
