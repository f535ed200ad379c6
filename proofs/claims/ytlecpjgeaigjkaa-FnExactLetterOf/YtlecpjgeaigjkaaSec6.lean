/- The contracts of chapter 6's functions, the specification's, and what they make in plain words. -/
import Derived.Test.YtlecpjgeaigjkaaKeptS
import Derived.Test.YtlecpjgeaigjkaaMakeIs
import Derived.Test.YtlecpjgeaigjkaaHeldQ
import Derived.Test.YtlecpjgeaigjkaaPlainText
import Derived.WalkKit
import Derived.WalkLawsBesides
import Derived.WalkSpells
import Derived.Laws.Rows
namespace Go.Proofs.Ytlecpjgeaigjkaa
open Go.RowKit
set_option linter.unusedVariables false
/-- A key of a secret and a number; what else chapter 6 makes. -/
def sideA (ns : List Nd) (s n : Int) : List Nd := makeA (putA ns ⟨1, n, 0, 0⟩) 4 s (putK ns ⟨1, n, 0, 0⟩)
def sideK (ns : List Nd) (s n : Int) : Int := makeK (putA ns ⟨1, n, 0, 0⟩) 4 s (putK ns ⟨1, n, 0, 0⟩)
def handA (ns : List Nd) (s p b : Int) : List Nd := makeA (makeA (makeA ns 2 s p) 3 b 0) 4 (makeK ns 2 s p) (makeK (makeA ns 2 s p) 3 b 0)
def handK (ns : List Nd) (s p b : Int) : Int := makeK (makeA (makeA ns 2 s p) 3 b 0) 4 (makeK ns 2 s p) (makeK (makeA ns 2 s p) 3 b 0)
/-- A node of a kind over a key and a hash. -/
def overA (ns : List Nd) (kind s n d : Int) : List Nd := makeA (makeA (sideA ns s n) 3 d 0) kind (sideK ns s n) (makeK (sideA ns s n) 3 d 0)
def overK (ns : List Nd) (kind s n d : Int) : Int := makeK (makeA (sideA ns s n) 3 d 0) kind (sideK ns s n) (makeK (sideA ns s n) 3 d 0)
/-- So often as m tells. -/
def epochF (ns : List Nd) (k : Int) : Nat → List Nd × Int
  | 0 => (ns, k)
  | m + 1 => (sideA (epochF ns k m).1 (epochF ns k m).2 30, sideK (epochF ns k m).1 (epochF ns k m).2 30)
def epochB (ns : List Nd) (app e : Int) : Bool := inB e 0 8 && okAt ns app
def epochA (ns : List Nd) (app e : Int) : List Nd := if epochB ns app e = true then (epochF ns app e.toNat).1 else ns
def epochK (ns : List Nd) (app e : Int) : Int := if epochB ns app e = true then (epochF ns app e.toNat).2 else -1
theorem putA_le6 {ns : List Nd} {x : Nd} (h : ns.length ≤ 1048576) : (putA ns x).length ≤ 1048576 := by
  unfold putA; split
  · rename_i h1; simp; omega
  · exact h
theorem makeA_le6 {ns : List Nd} {k x y : Int} (h : ns.length ≤ 1048576) : (makeA ns k x y).length ≤ 1048576 := by
  unfold makeA; split
  · exact h
  · exact putA_le6 h
theorem sideA_le {ns : List Nd} {s n : Int} (h : ns.length ≤ 1048576) : (sideA ns s n).length ≤ 1048576 := makeA_le6 (putA_le6 h)
theorem handA_le {ns : List Nd} {s p b : Int} (h : ns.length ≤ 1048576) : (handA ns s p b).length ≤ 1048576 := makeA_le6 (makeA_le6 (makeA_le6 h))
theorem overA_le {ns : List Nd} {k s n d : Int} (h : ns.length ≤ 1048576) : (overA ns k s n d).length ≤ 1048576 := makeA_le6 (makeA_le6 (sideA_le h))
theorem epochF_le {ns : List Nd} {k : Int} (h : ns.length ≤ 1048576) : ∀ m, (epochF ns k m).1.length ≤ 1048576
  | 0 => h
  | m + 1 => sideA_le (epochF_le h m)
theorem epochA_le {ns : List Nd} {k e : Int} (h : ns.length ≤ 1048576) : (epochA ns k e).length ≤ 1048576 := by
  unfold epochA; split
  · exact epochF_le h _
  · exact h
theorem sideK_neg {ns : List Nd} {s n : Int} (h : sideK ns s n < 0) : sideK ns s n = -1 := makeK_neg (show makeK _ _ _ _ < 0 from h)
theorem epochF_neg {ns : List Nd} {k : Int} (hk : 0 ≤ k) : ∀ m, (epochF ns k m).2 < 0 → (epochF ns k m).2 = -1
  | 0, h => by have : (epochF ns k 0).2 = k := rfl; omega
  | m + 1, h => sideK_neg h
theorem epochK_neg {ns : List Nd} {k e : Int} (h : epochK ns k e < 0) : epochK ns k e = -1 := by
  unfold epochK at h ⊢
  split at h
  · rename_i h1
    rw [if_pos h1]
    refine epochF_neg ?_ _ h
    unfold epochB at h1
    simp at h1
    obtain ⟨i, e, _⟩ := okAt_in h1.2
    omega
  · rename_i h1; rw [if_neg h1]
set_option maxHeartbeats 1600000 in
theorem specSideP_any (B g : Nat) (ns : List Nd) (s : Int) (n : Int) (w : World) (hl : ns.length ≤ 1048576) (h : ArenaAt B w g ns) (hB : B ≤ w.heap.size) :
    Calls Try.prog 106 #[.pointer (some ⟨g, 0, none⟩), .int .i64 s, .int .i64 n] w fun e w' => e = .returned (.int .i64 (sideK ns s n)) ∧ ArenaAt B w' g (sideA ns s n) ∧ Below B w w' := by
  have H0 : Hid (ArenaAt B w g ns ∧ Below B w w) := ⟨h, Below.refl _ _⟩
  clear h
  go_enter Try.func106, Try.ntmps106
  go_wp2_with fail
  refine (specAtomP_any B g (ns) (n) w (hl) H0.out.1 (Nat.le_trans hB H0.out.2.size)).mono ?_
  rintro e w1 ⟨rfl, ha, hb⟩
  have H1 : Hid (ArenaAt B w1 g _ ∧ Below B w w1) := ⟨ha, H0.out.2.trans hb⟩
  clear ha hb H0
  go_wp2_with fail
  refine (specMakeP_any B g (putA ns ⟨1, n, 0, 0⟩) 4 (s) (putK ns ⟨1, n, 0, 0⟩) w1 (putA_le6 hl) H1.out.1 (Nat.le_trans hB H1.out.2.size)).mono ?_
  rintro e w2 ⟨rfl, ha, hb⟩
  have H2 : Hid (ArenaAt B w2 g _ ∧ Below B w w2) := ⟨ha, H1.out.2.trans hb⟩
  clear ha hb H1
  go_wp2
  go_ret
  exact ⟨rfl, H2.out.1, H2.out.2⟩
set_option maxHeartbeats 1600000 in
theorem specDoneP_any (B g : Nat) (ns : List Nd) (s : Int) (sd : Int) (d : Int) (w : World) (hl : ns.length ≤ 1048576) (h : ArenaAt B w g ns) (hB : B ≤ w.heap.size) :
    Calls Try.prog 110 #[.pointer (some ⟨g, 0, none⟩), .int .i64 s, .int .i64 sd, .int .i64 d] w fun e w' => e = .returned (.int .i64 (overK ns 9 s (IntKind.i64.wrap (10 + sd)) d)) ∧ ArenaAt B w' g (overA ns 9 s (IntKind.i64.wrap (10 + sd)) d) ∧ Below B w w' := by
  obtain ⟨m, hm⟩ : ∃ m, IntKind.i64.wrap (10 + sd) = m := ⟨_, rfl⟩
  rw [hm]
  have H0 : Hid (ArenaAt B w g ns ∧ Below B w w) := ⟨h, Below.refl _ _⟩
  clear h
  go_enter Try.func110, Try.ntmps110
  go_wp2_with fail
  refine (specSideP_any B g (ns) (s) (m) w (hl) H0.out.1 (Nat.le_trans hB H0.out.2.size)).mono ?_
  rintro e w1 ⟨rfl, ha, hb⟩
  have H1 : Hid (ArenaAt B w1 g _ ∧ Below B w w1) := ⟨ha, H0.out.2.trans hb⟩
  clear ha hb H0
  go_wp2_with fail
  refine (specMakeP_any B g (sideA ns s (m)) 3 (d) (0) w1 (sideA_le hl) H1.out.1 (Nat.le_trans hB H1.out.2.size)).mono ?_
  rintro e w2 ⟨rfl, ha, hb⟩
  have H2 : Hid (ArenaAt B w2 g _ ∧ Below B w w2) := ⟨ha, H1.out.2.trans hb⟩
  clear ha hb H1
  go_wp2_with fail
  refine (specMakeP_any B g (makeA (sideA ns s (m)) 3 d 0) 9 (sideK ns s (m)) (makeK (sideA ns s (m)) 3 d 0) w2 (makeA_le6 (sideA_le hl)) H2.out.1 (Nat.le_trans hB H2.out.2.size)).mono ?_
  rintro e w3 ⟨rfl, ha, hb⟩
  have H3 : Hid (ArenaAt B w3 g _ ∧ Below B w w3) := ⟨ha, H2.out.2.trans hb⟩
  clear ha hb H2
  go_wp2
  go_ret
  exact ⟨rfl, H3.out.1, H3.out.2⟩
end Go.Proofs.Ytlecpjgeaigjkaa
