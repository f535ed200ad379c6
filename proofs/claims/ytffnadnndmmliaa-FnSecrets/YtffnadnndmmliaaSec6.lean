/- The contracts of chapter 6's functions, the specification's, and what they make in plain words. -/
import Derived.Test.YtffnadnndmmliaaKeptS
import Derived.Test.YtffnadnndmmliaaMakeIs
import Derived.Test.YtffnadnndmmliaaHeldQ
import Derived.Test.YtffnadnndmmliaaPlainText
import Derived.WalkKit
import Derived.WalkLawsBesides
import Derived.WalkSpells
import Derived.Laws.Rows
namespace Go.Proofs.Ytffnadnndmmliaa
open Go.RowKit
set_option linter.unusedVariables false
/-- A key of a secret and a number; what else chapter 6 makes. -/
def sideA (ns : List Nd) (s n : Int) : List Nd := makeA (putA ns ⟨1, n, 0, 0⟩) 4 s (putK ns ⟨1, n, 0, 0⟩)
def sideK (ns : List Nd) (s n : Int) : Int := makeK (putA ns ⟨1, n, 0, 0⟩) 4 s (putK ns ⟨1, n, 0, 0⟩)
def handA (ns : List Nd) (s p b : Int) : List Nd := makeA (makeA (makeA ns 2 s p) 3 b 0) 4 (makeK ns 2 s p) (makeK (makeA ns 2 s p) 3 b 0)
def handK (ns : List Nd) (s p b : Int) : Int := makeK (makeA (makeA ns 2 s p) 3 b 0) 4 (makeK ns 2 s p) (makeK (makeA ns 2 s p) 3 b 0)
/-- A node of a kind over a key and a hash. -/
def overA (ns : List Nd) (kind s n d : Int) : List Nd := makeA (makeA (sideA ns s n) 3 d 0) kind (sideK ns s n) (makeK (sideA ns s n) 3 d 0)
def overK (ns : List Nd) (kind s n d : Int) : Int := makeK (makeA (sideA ns s n) 3 d 0) kind (sideK ns s n) (makeK (sideA ns s n) 3 d 0)
/-- So often as m tells. -/
def epochF (ns : List Nd) (k : Int) : Nat → List Nd × Int
  | 0 => (ns, k)
  | m + 1 => (sideA (epochF ns k m).1 (epochF ns k m).2 30, sideK (epochF ns k m).1 (epochF ns k m).2 30)
def epochB (ns : List Nd) (app e : Int) : Bool := inB e 0 8 && okAt ns app
def epochA (ns : List Nd) (app e : Int) : List Nd := if epochB ns app e = true then (epochF ns app e.toNat).1 else ns
def epochK (ns : List Nd) (app e : Int) : Int := if epochB ns app e = true then (epochF ns app e.toNat).2 else -1
theorem putA_le6 {ns : List Nd} {x : Nd} (h : ns.length ≤ 1048576) : (putA ns x).length ≤ 1048576 := by
  unfold putA; split
  · rename_i h1; simp; omega
  · exact h
theorem makeA_le6 {ns : List Nd} {k x y : Int} (h : ns.length ≤ 1048576) : (makeA ns k x y).length ≤ 1048576 := by
  unfold makeA; split
  · exact h
  · exact putA_le6 h
theorem sideA_le {ns : List Nd} {s n : Int} (h : ns.length ≤ 1048576) : (sideA ns s n).length ≤ 1048576 := makeA_le6 (putA_le6 h)
theorem handA_le {ns : List Nd} {s p b : Int} (h : ns.length ≤ 1048576) : (handA ns s p b).length ≤ 1048576 := makeA_le6 (makeA_le6 (makeA_le6 h))
theorem overA_le {ns : List Nd} {k s n d : Int} (h : ns.length ≤ 1048576) : (overA ns k s n d).length ≤ 1048576 := makeA_le6 (makeA_le6 (sideA_le h))
theorem epochF_le {ns : List Nd} {k : Int} (h : ns.length ≤ 1048576) : ∀ m, (epochF ns k m).1.length ≤ 1048576
  | 0 => h
  | m + 1 => sideA_le (epochF_le h m)
theorem epochA_le {ns : List Nd} {k e : Int} (h : ns.length ≤ 1048576) : (epochA ns k e).length ≤ 1048576 := by
  unfold epochA; split
  · exact epochF_le h _
  · exact h
theorem sideK_neg {ns : List Nd} {s n : Int} (h : sideK ns s n < 0) : sideK ns s n = -1 := makeK_neg (show makeK _ _ _ _ < 0 from h)
theorem epochF_neg {ns : List Nd} {k : Int} (hk : 0 ≤ k) : ∀ m, (epochF ns k m).2 < 0 → (epochF ns k m).2 = -1
  | 0, h => by have : (epochF ns k 0).2 = k := rfl; omega
  | m + 1, h => sideK_neg h
theorem epochK_neg {ns : List Nd} {k e : Int} (h : epochK ns k e < 0) : epochK ns k e = -1 := by
  unfold epochK at h ⊢
  split at h
  · rename_i h1
    rw [if_pos h1]
    refine epochF_neg ?_ _ h
    unfold epochB at h1
    simp at h1
    obtain ⟨i, e, _⟩ := okAt_in h1.2
    omega
  · rename_i h1; rw [if_neg h1]
set_option maxHeartbeats 1600000 in
theorem specHandP_any (B g : Nat) (ns : List Nd) (s : Int) (p : Int) (b : Int) (w : World) (hl : ns.length ≤ 1048576) (h : ArenaAt B w g ns) (hB : B ≤ w.heap.size) :
    Calls Try.prog 122 #[.pointer (some ⟨g, 0, none⟩), .int .i64 s, .int .i64 p, .int .i64 b] w fun e w' => e = .returned (.int .i64 (handK ns s p b)) ∧ ArenaAt B w' g (handA ns s p b) ∧ Below B w w' := by
  have H0 : Hid (ArenaAt B w g ns ∧ Below B w w) := ⟨h, Below.refl _ _⟩
  clear h
  go_enter Try.func122, Try.ntmps122
  go_wp2_with fail
  refine (specMakeP_any B g (ns) 2 (s) (p) w (hl) H0.out.1 (Nat.le_trans hB H0.out.2.size)).mono ?_
  rintro e w1 ⟨rfl, ha, hb⟩
  have H1 : Hid (ArenaAt B w1 g _ ∧ Below B w w1) := ⟨ha, H0.out.2.trans hb⟩
  clear ha hb H0
  go_wp2_with fail
  refine (specMakeP_any B g (makeA ns 2 s p) 3 (b) (0) w1 (makeA_le6 hl) H1.out.1 (Nat.le_trans hB H1.out.2.size)).mono ?_
  rintro e w2 ⟨rfl, ha, hb⟩
  have H2 : Hid (ArenaAt B w2 g _ ∧ Below B w w2) := ⟨ha, H1.out.2.trans hb⟩
  clear ha hb H1
  go_wp2_with fail
  refine (specMakeP_any B g (makeA (makeA ns 2 s p) 3 b 0) 4 (makeK ns 2 s p) (makeK (makeA ns 2 s p) 3 b 0) w2 (makeA_le6 (makeA_le6 hl)) H2.out.1 (Nat.le_trans hB H2.out.2.size)).mono ?_
  rintro e w3 ⟨rfl, ha, hb⟩
  have H3 : Hid (ArenaAt B w3 g _ ∧ Below B w w3) := ⟨ha, H2.out.2.trans hb⟩
  clear ha hb H2
  go_wp2
  go_ret
  exact ⟨rfl, H3.out.1, H3.out.2⟩
set_option maxHeartbeats 1600000 in
theorem specSideP_any (B g : Nat) (ns : List Nd) (s : Int) (n : Int) (w : World) (hl : ns.length ≤ 1048576) (h : ArenaAt B w g ns) (hB : B ≤ w.heap.size) :
    Calls Try.prog 123 #[.pointer (some ⟨g, 0, none⟩), .int .i64 s, .int .i64 n] w fun e w' => e = .returned (.int .i64 (sideK ns s n)) ∧ ArenaAt B w' g (sideA ns s n) ∧ Below B w w' := by
  have H0 : Hid (ArenaAt B w g ns ∧ Below B w w) := ⟨h, Below.refl _ _⟩
  clear h
  go_enter Try.func123, Try.ntmps123
  go_wp2_with fail
  refine (specAtomP_any B g (ns) (n) w (hl) H0.out.1 (Nat.le_trans hB H0.out.2.size)).mono ?_
  rintro e w1 ⟨rfl, ha, hb⟩
  have H1 : Hid (ArenaAt B w1 g _ ∧ Below B w w1) := ⟨ha, H0.out.2.trans hb⟩
  clear ha hb H0
  go_wp2_with fail
  refine (specMakeP_any B g (putA ns ⟨1, n, 0, 0⟩) 4 (s) (putK ns ⟨1, n, 0, 0⟩) w1 (putA_le6 hl) H1.out.1 (Nat.le_trans hB H1.out.2.size)).mono ?_
  rintro e w2 ⟨rfl, ha, hb⟩
  have H2 : Hid (ArenaAt B w2 g _ ∧ Below B w w2) := ⟨ha, H1.out.2.trans hb⟩
  clear ha hb H1
  go_wp2
  go_ret
  exact ⟨rfl, H2.out.1, H2.out.2⟩
set_option maxHeartbeats 1600000 in
theorem specDoneP_any (B g : Nat) (ns : List Nd) (s : Int) (sd : Int) (d : Int) (w : World) (hl : ns.length ≤ 1048576) (h : ArenaAt B w g ns) (hB : B ≤ w.heap.size) :
    Calls Try.prog 124 #[.pointer (some ⟨g, 0, none⟩), .int .i64 s, .int .i64 sd, .int .i64 d] w fun e w' => e = .returned (.int .i64 (overK ns 9 s (IntKind.i64.wrap (10 + sd)) d)) ∧ ArenaAt B w' g (overA ns 9 s (IntKind.i64.wrap (10 + sd)) d) ∧ Below B w w' := by
  obtain ⟨m, hm⟩ : ∃ m, IntKind.i64.wrap (10 + sd) = m := ⟨_, rfl⟩
  rw [hm]
  have H0 : Hid (ArenaAt B w g ns ∧ Below B w w) := ⟨h, Below.refl _ _⟩
  clear h
  go_enter Try.func124, Try.ntmps124
  go_wp2_with fail
  refine (specSideP_any B g (ns) (s) (m) w (hl) H0.out.1 (Nat.le_trans hB H0.out.2.size)).mono ?_
  rintro e w1 ⟨rfl, ha, hb⟩
  have H1 : Hid (ArenaAt B w1 g _ ∧ Below B w w1) := ⟨ha, H0.out.2.trans hb⟩
  clear ha hb H0
  go_wp2_with fail
  refine (specMakeP_any B g (sideA ns s (m)) 3 (d) (0) w1 (sideA_le hl) H1.out.1 (Nat.le_trans hB H1.out.2.size)).mono ?_
  rintro e w2 ⟨rfl, ha, hb⟩
  have H2 : Hid (ArenaAt B w2 g _ ∧ Below B w w2) := ⟨ha, H1.out.2.trans hb⟩
  clear ha hb H1
  go_wp2_with fail
  refine (specMakeP_any B g (makeA (sideA ns s (m)) 3 d 0) 9 (sideK ns s (m)) (makeK (sideA ns s (m)) 3 d 0) w2 (makeA_le6 (sideA_le hl)) H2.out.1 (Nat.le_trans hB H2.out.2.size)).mono ?_
  rintro e w3 ⟨rfl, ha, hb⟩
  have H3 : Hid (ArenaAt B w3 g _ ∧ Below B w w3) := ⟨ha, H2.out.2.trans hb⟩
  clear ha hb H2
  go_wp2
  go_ret
  exact ⟨rfl, H3.out.1, H3.out.2⟩
set_option maxHeartbeats 1600000 in
theorem specAppP_any (B g : Nat) (ns : List Nd) (s : Int) (d : Int) (w : World) (hl : ns.length ≤ 1048576) (h : ArenaAt B w g ns) (hB : B ≤ w.heap.size) :
    Calls Try.prog 125 #[.pointer (some ⟨g, 0, none⟩), .int .i64 s, .int .i64 d] w fun e w' => e = .returned (.int .i64 (overK ns 4 s (20) d)) ∧ ArenaAt B w' g (overA ns 4 s (20) d) ∧ Below B w w' := by
  have H0 : Hid (ArenaAt B w g ns ∧ Below B w w) := ⟨h, Below.refl _ _⟩
  clear h
  go_enter Try.func125, Try.ntmps125
  go_wp2_with fail
  refine (specSideP_any B g (ns) (s) (20) w (hl) H0.out.1 (Nat.le_trans hB H0.out.2.size)).mono ?_
  rintro e w1 ⟨rfl, ha, hb⟩
  have H1 : Hid (ArenaAt B w1 g _ ∧ Below B w w1) := ⟨ha, H0.out.2.trans hb⟩
  clear ha hb H0
  go_wp2_with fail
  refine (specMakeP_any B g (sideA ns s (20)) 3 (d) (0) w1 (sideA_le hl) H1.out.1 (Nat.le_trans hB H1.out.2.size)).mono ?_
  rintro e w2 ⟨rfl, ha, hb⟩
  have H2 : Hid (ArenaAt B w2 g _ ∧ Below B w w2) := ⟨ha, H1.out.2.trans hb⟩
  clear ha hb H1
  go_wp2_with fail
  refine (specMakeP_any B g (makeA (sideA ns s (20)) 3 d 0) 4 (sideK ns s (20)) (makeK (sideA ns s (20)) 3 d 0) w2 (makeA_le6 (sideA_le hl)) H2.out.1 (Nat.le_trans hB H2.out.2.size)).mono ?_
  rintro e w3 ⟨rfl, ha, hb⟩
  have H3 : Hid (ArenaAt B w3 g _ ∧ Below B w w3) := ⟨ha, H2.out.2.trans hb⟩
  clear ha hb H2
  go_wp2
  go_ret
  exact ⟨rfl, H3.out.1, H3.out.2⟩
set_option maxHeartbeats 1600000 in
theorem specEpochP_any (B g : Nat) (ns : List Nd) (k ep : Int) (w : World) (hl : ns.length ≤ 1048576) (h : ArenaAt B w g ns) (hB : B ≤ w.heap.size) :
    Calls Try.prog 107 #[.pointer (some ⟨g, 0, none⟩), .int .i64 k, .int .i64 ep] w fun r w' => r = .returned (.int .i64 (epochK ns k ep)) ∧ ArenaAt B w' g (epochA ns k ep) ∧ Below B w w' := by
  have H0 : Hid (ArenaAt B w g ns ∧ Below B w w) := ⟨h, Below.refl _ _⟩
  obtain ⟨h1, h2, v, h3, h4, h5⟩ := h
  obtain ⟨a, cap, rfl, ha, hr⟩ := h4.row
  have c0 : w.cell? ⟨g, 0, none⟩ = some (.slice a ns.length cap) := by rw [cell_of_row w g 0 _ _ _ h3]; rfl
  have HR : Hid (RowN w.heap.size w a ns) := hr
  clear h1 h3 h4 h5 ha hr
  obtain ⟨d1, HD1⟩ : ∃ d, Hid (inB ep 0 8 = d) := ⟨_, rfl⟩
  obtain ⟨d2, HD2⟩ : ∃ d, Hid (okAt ns k = d) := ⟨_, rfl⟩
  have HE : Hid (epochB ns k ep = (d1 && d2)) := by show _ = _; unfold epochB; rw [HD1.out, HD2.out]
  cases d1
  · have HK : Hid (epochK ns k ep = -1 ∧ epochA ns k ep = ns) := ⟨by unfold epochK; rw [HE.out]; rfl, by unfold epochA; rw [HE.out]; rfl⟩
    clear HE
    go_enter Try.func107, Try.ntmps107
    go_wp2_with (go_at_call 99; refine (specIn_any _ _ _ _).mono ?_; rintro e w' ⟨rfl, rfl⟩; rw [HD1.out])
    go_ret
    exact ⟨by rw [HK.out.1]; rfl, by rw [HK.out.2]; exact H0.out.1, H0.out.2⟩
  · cases d2
    · have HK : Hid (epochK ns k ep = -1 ∧ epochA ns k ep = ns) := ⟨by unfold epochK; rw [HE.out]; rfl, by unfold epochA; rw [HE.out]; rfl⟩
      clear HE
      go_enter Try.func107, Try.ntmps107
      go_wp2_with (first | (go_at_call 99; refine (specIn_any _ _ _ _).mono ?_; rintro e w' ⟨rfl, rfl⟩; rw [HD1.out]) | fail)
      refine (specOk_any a cap ns k w hl HR.out).mono ?_
      rintro e w1 ⟨rfl, hb1⟩
      rw [HD2.out]
      have H1 : Hid (ArenaAt B w1 g ns ∧ Below B w w1) := ⟨H0.out.1.later hb1, hb1.mono hB⟩
      clear hb1 c0
      go_wp2
      go_ret
      exact ⟨by rw [HK.out.1]; rfl, by rw [HK.out.2]; exact H1.out.1, H1.out.2⟩
    · have hin := inB_true HD1.out
      obtain ⟨m0, rfl⟩ := Int.eq_ofNat_of_zero_le hin.1
      have hm8 : m0 ≤ 8 := by omega
      have HK : Hid (epochK ns k (m0 : Int) = (epochF ns k m0).2 ∧ epochA ns k (m0 : Int) = (epochF ns k m0).1) := ⟨by unfold epochK; rw [HE.out]; simp, by unfold epochA; rw [HE.out]; simp⟩
      clear HE hin
      go_enter Try.func107, Try.ntmps107
      go_wp2_with (first | (go_at_call 99; refine (specIn_any _ _ _ _).mono ?_; rintro e w' ⟨rfl, rfl⟩; rw [HD1.out]) | fail)
      refine (specOk_any a cap ns k w hl HR.out).mono ?_
      rintro e w1 ⟨rfl, hb1⟩
      rw [HD2.out]
      have H1 : Hid (ArenaAt B w1 g ns ∧ Below B w w1) := ⟨H0.out.1.later hb1, hb1.mono hB⟩
      clear hb1 c0 H0 HD1 HD2 HR
      go_wp2
      go_loopw [1, 7] (fun kv iv wr => ∃ m : Nat, m ≤ m0 ∧ iv = .int .i64 (m : Int) ∧ kv = .int .i64 (epochF ns k m).2 ∧ Hid (ArenaAt B wr g (epochF ns k m).1 ∧ Below B w wr))
        (fun _ iv _ => m0 - (intOf iv).toNat)
      case atStart => exact ⟨0, Nat.zero_le _, rfl, rfl, H1⟩
      case round =>
        clear H1
        obtain ⟨m, hm, rfl, rfl, H2⟩ := hrel
        by_cases hlt : m < m0
        · have hi1 : (m : Int) < (m0 : Int) := by omega
          have HC : Hid _ := specSideP_any B g (epochF ns k m).1 (epochF ns k m).2 30 wr (epochF_le hl m) H2.out.1 (Nat.le_trans hB H2.out.2.size)
          go_wp2_with fail
          refine Calls.mono HC.out ?_
          rintro e w3 ⟨rfl, ha, hb⟩
          have H3 : Hid (ArenaAt B w3 g (epochF ns k (m + 1)).1 ∧ Below B w w3) := ⟨ha, H2.out.2.trans hb⟩
          clear ha hb HC H2
          go_wp2
          go_roundw
          case rel => exact ⟨m + 1, by omega, by go_num, rfl, H3⟩
          case measure => simp [intOf] <;> omega
        · obtain rfl : m = m0 := by omega
          go_wp2
          go_ret
          exact ⟨by rw [HK.out.1]; rfl, by rw [HK.out.2]; exact H2.out.1, H2.out.2⟩
set_option maxHeartbeats 1600000 in
theorem specHand_any (a : Option Addr) (cap : Nat) (ns : List Nd) (s : Int) (p : Int) (b : Int) (w : World) (hl : ns.length ≤ 1048576) (ha : AddrN a cap) (hr : RowN w.heap.size w a ns) :
    Calls Try.prog 49 #[.agg #[.slice a ns.length cap], .int .i64 s, .int .i64 p, .int .i64 b] w fun e w' => ∃ v, e = .returned (.tuple #[.agg #[v], .int .i64 (handK ns s p b)]) ∧ OwnN w.heap.size w' v (keptA ns (handA ns s p b) (handK ns s p b)) ∧ Below w.heap.size w w' := by
  obtain ⟨A, K, HP, HN, hEK, hEA⟩ : ∃ (A : List Nd) (K : Int), Hid (∀ (B g : Nat) (wz : World), ArenaAt B wz g ns → B ≤ wz.heap.size → Calls Try.prog 122 #[.pointer (some ⟨g, 0, none⟩), .int .i64 s, .int .i64 p, .int .i64 b] wz fun e w' => e = .returned (.int .i64 K) ∧ ArenaAt B w' g A ∧ Below B wz w') ∧ Hid True ∧ K = handK ns s p b ∧ A = handA ns s p b := ⟨_, _, fun B g wz h hB => specHandP_any B g ns s p b wz hl h hB, trivial, rfl, rfl⟩
  rw [← hEK, ← hEA]
  clear hEK hEA HN
  have hb0 : Below w.heap.size w ((w.alloc (.cells #[.slice a ns.length cap] 28)).alloc (.cells #[.slice none 0 0] 28)) := ((Below.refl _ _).alloc (Nat.le_refl _) _).alloc (by simp) _
  have hs0 : ((w.alloc (.cells #[.slice a ns.length cap] 28)).alloc (.cells #[.slice none 0 0] 28)).heap.size = w.heap.size + 2 := by simp
  have hA0 : ((w.alloc (.cells #[.slice a ns.length cap] 28)).alloc (.cells #[.slice none 0 0] 28)).heap[w.heap.size]? = some (.cells #[.slice a ns.length cap] 28 (0, 0)) := (heap_alloc_old _ _ (by simp)).trans (heap_alloc_new w _)
  have hr0 : ((w.alloc (.cells #[.slice a ns.length cap] 28)).alloc (.cells #[.slice none 0 0] 28)).heap[w.heap.size + 1]? = some (.cells #[.slice none 0 0] 28 (0, 0)) := by
    have := heap_alloc_new (w.alloc (.cells #[.slice a ns.length cap] 28)) (.cells #[.slice none 0 0] 28)
    simpa using this
  have HR : Hid (RowN w.heap.size w a ns) := hr
  have HA : Hid (AddrN a cap) := ha
  clear hr ha
  go_enter Try.func49, Try.ntmps49
  go_wp2_with fail
  generalize (w.alloc (.cells #[.slice a ns.length cap] 28)).alloc (.cells #[.slice none 0 0] 28) = w0 at hb0 hs0 hA0 hr0 ⊢
  refine (specCopy_any a cap ns w0 hl HA.out (HR.out.grown hb0)).mono ?_
  rintro e w1 ⟨v, rfl, hown, hb1⟩
  obtain ⟨a1, cap1, rfl, ha1, hr1⟩ := hown.row
  have hs1 := hb1.size
  have hbA : Below w1.heap.size w1 (w1.alloc (.cells #[.slice a1 ns.length cap1] 28)) := (Below.refl _ _).alloc (Nat.le_refl _) _
  have HAt : Hid (ArenaAt w0.heap.size (w1.alloc (.cells #[.slice a1 ns.length cap1] 28)) w1.heap.size ns) := ⟨hs1, by simp, _, heap_alloc_new w1 _, hown.later hbA, fun h => by have := (hown.lt _ h).2; omega⟩
  have HB1 : Hid (Below w.heap.size w (w1.alloc (.cells #[.slice a1 ns.length cap1] 28))) := (hb0.trans (hb1.mono (by omega))).trans (hbA.mono (by omega))
  have HA1 : Hid ((w1.alloc (.cells #[.slice a1 ns.length cap1] 28)).heap[w.heap.size]? = some (.cells #[.slice a ns.length cap] 28 (0, 0))) := (hbA.block _ (by omega)).trans ((hb1.block w.heap.size (by omega)).trans hA0)
  have HR1 : Hid ((w1.alloc (.cells #[.slice a1 ns.length cap1] 28)).heap[w.heap.size + 1]? = some (.cells #[.slice none 0 0] 28 (0, 0))) := (hbA.block _ (by omega)).trans ((hb1.block (w.heap.size + 1) (by omega)).trans hr0)
  clear hown hb0 hb1 hA0 hr0 ha1 hr1 hbA
  go_wp2_with fail
  refine Calls.mono (HP.out _ _ _ HAt.out (by simp; omega)) ?_
  rintro e w2 ⟨rfl, hat, hb2⟩
  obtain ⟨t1, t2, v2, t3, t4, t5⟩ := hat
  obtain ⟨a2, cap2, rfl, -, -⟩ := t4.row
  have HB2 : Hid (Below w.heap.size w w2) := HB1.out.trans (hb2.mono (by omega))
  have hA2 := (hb2.block w.heap.size (by omega)).trans HA1.out
  have hR2 := (hb2.block (w.heap.size + 1) (by omega)).trans HR1.out
  have o0 : w2.cell? ⟨w.heap.size, 0, none⟩ = some (.slice a ns.length cap) := (cell_of_row w2 _ 0 _ _ _ hA2).trans rfl
  have o1 : w2.cell? ⟨w1.heap.size, 0, none⟩ = some (.slice a2 A.length cap2) := (cell_of_row w2 _ 0 _ _ _ t3).trans rfl
  have HR2 : Hid (w2.heap[w.heap.size + 1]? = some (.cells #[.slice none 0 0] 28 (0, 0))) := hR2
  have HO2 : Hid (OwnN w0.heap.size w2 (.slice a2 A.length cap2) A) := t4
  have hs2 : w1.heap.size < w2.heap.size := t2
  clear HP HAt hb2 HB1 HA1 HR1 t1 t2 t3 t4 t5 hA2 hR2
  go_wp2_with fail
  refine (kept_any a a2 cap cap2 ns A K w2 hl HA.out (HR.out.grown HB2.out)).mono ?_
  rintro e w3 ⟨v3, rfl, hb3, hn3, hp3⟩
  obtain ⟨a3, n3, c3, rfl⟩ : ∃ a n c, v3 = .slice a n c := by
    by_cases hk : K < 0
    · obtain ⟨a3, c3, rfl, -, -⟩ := (hn3 hk).row; exact ⟨_, _, _, rfl⟩
    · exact ⟨_, _, _, hp3 hk⟩
  have hR3 := (hb3.block (w.heap.size + 1) (by omega)).trans HR2.out
  have r0 : w3.cell? ⟨w.heap.size + 1, 0, none⟩ = some (.slice none 0 0) := (cell_of_row w3 _ 0 _ _ _ hR3).trans rfl
  have f0 : w3.frozen? ⟨w.heap.size + 1, 0, none⟩ = false := frozen_of_row w3 _ 0 _ _ hR3
  have HBL : Hid ((w3.setCell ⟨w.heap.size + 1, 0, none⟩ (.slice a3 n3 c3)).heap[w.heap.size + 1]? = some (.cells #[.slice a3 n3 c3] 28 (0, 0))) := (heap_setCell_same w3 _ 0 _ _ _ hR3).trans rfl
  have HO3 : Hid (OwnN w.heap.size (w3.setCell ⟨w.heap.size + 1, 0, none⟩ (.slice a3 n3 c3)) (.slice a3 n3 c3) (keptA ns A K)) := by
    by_cases hk : K < 0
    · show OwnN _ _ _ _; rw [keptA_neg hk]; exact OwnN.base (ownsRow_setCell_below (hn3 hk) (show w.heap.size + 1 < w2.heap.size by omega) _) (by omega)
    · show OwnN _ _ _ _; rw [keptA_pos hk, hp3 hk]; exact OwnN.base (ownsRow_setCell_below (HO2.out.later hb3) (show w.heap.size + 1 < w0.heap.size by omega) _) (by omega)
  have HB3 : Hid (Below w.heap.size w (w3.setCell ⟨w.heap.size + 1, 0, none⟩ (.slice a3 n3 c3))) := (HB2.out.trans (hb3.mono (by omega))).setCell (show w.heap.size ≤ w.heap.size + 1 by omega) _
  clear hb3 hn3 hp3 hR3 o0 o1 HO2 HR2 HB2
  go_wp2
  refine bodyPost_ret (res_cell2 rfl _ _ (w.heap.size + 1) 28 #[.slice a3 n3 c3] (0, 0) _ rfl ?_ Try.underlying28 rfl arenaSize) rfl ?_
  · exact HBL.out
  · exact ⟨_, rfl, HO3.out, HB3.out⟩
set_option maxHeartbeats 1600000 in
theorem specSide_any (a : Option Addr) (cap : Nat) (ns : List Nd) (s : Int) (n : Int) (w : World) (hl : ns.length ≤ 1048576) (ha : AddrN a cap) (hr : RowN w.heap.size w a ns) :
    Calls Try.prog 50 #[.agg #[.slice a ns.length cap], .int .i64 s, .int .i64 n] w fun e w' => ∃ v, e = .returned (.tuple #[.agg #[v], .int .i64 (sideK ns s n)]) ∧ OwnN w.heap.size w' v (keptA ns (sideA ns s n) (sideK ns s n)) ∧ Below w.heap.size w w' := by
  obtain ⟨A, K, HP, HN, hEK, hEA⟩ : ∃ (A : List Nd) (K : Int), Hid (∀ (B g : Nat) (wz : World), ArenaAt B wz g ns → B ≤ wz.heap.size → Calls Try.prog 123 #[.pointer (some ⟨g, 0, none⟩), .int .i64 s, .int .i64 n] wz fun e w' => e = .returned (.int .i64 K) ∧ ArenaAt B w' g A ∧ Below B wz w') ∧ Hid True ∧ K = sideK ns s n ∧ A = sideA ns s n := ⟨_, _, fun B g wz h hB => specSideP_any B g ns s n wz hl h hB, trivial, rfl, rfl⟩
  rw [← hEK, ← hEA]
  clear hEK hEA HN
  have hb0 : Below w.heap.size w ((w.alloc (.cells #[.slice a ns.length cap] 28)).alloc (.cells #[.slice none 0 0] 28)) := ((Below.refl _ _).alloc (Nat.le_refl _) _).alloc (by simp) _
  have hs0 : ((w.alloc (.cells #[.slice a ns.length cap] 28)).alloc (.cells #[.slice none 0 0] 28)).heap.size = w.heap.size + 2 := by simp
  have hA0 : ((w.alloc (.cells #[.slice a ns.length cap] 28)).alloc (.cells #[.slice none 0 0] 28)).heap[w.heap.size]? = some (.cells #[.slice a ns.length cap] 28 (0, 0)) := (heap_alloc_old _ _ (by simp)).trans (heap_alloc_new w _)
  have hr0 : ((w.alloc (.cells #[.slice a ns.length cap] 28)).alloc (.cells #[.slice none 0 0] 28)).heap[w.heap.size + 1]? = some (.cells #[.slice none 0 0] 28 (0, 0)) := by
    have := heap_alloc_new (w.alloc (.cells #[.slice a ns.length cap] 28)) (.cells #[.slice none 0 0] 28)
    simpa using this
  have HR : Hid (RowN w.heap.size w a ns) := hr
  have HA : Hid (AddrN a cap) := ha
  clear hr ha
  go_enter Try.func50, Try.ntmps50
  go_wp2_with fail
  generalize (w.alloc (.cells #[.slice a ns.length cap] 28)).alloc (.cells #[.slice none 0 0] 28) = w0 at hb0 hs0 hA0 hr0 ⊢
  refine (specCopy_any a cap ns w0 hl HA.out (HR.out.grown hb0)).mono ?_
  rintro e w1 ⟨v, rfl, hown, hb1⟩
  obtain ⟨a1, cap1, rfl, ha1, hr1⟩ := hown.row
  have hs1 := hb1.size
  have hbA : Below w1.heap.size w1 (w1.alloc (.cells #[.slice a1 ns.length cap1] 28)) := (Below.refl _ _).alloc (Nat.le_refl _) _
  have HAt : Hid (ArenaAt w0.heap.size (w1.alloc (.cells #[.slice a1 ns.length cap1] 28)) w1.heap.size ns) := ⟨hs1, by simp, _, heap_alloc_new w1 _, hown.later hbA, fun h => by have := (hown.lt _ h).2; omega⟩
  have HB1 : Hid (Below w.heap.size w (w1.alloc (.cells #[.slice a1 ns.length cap1] 28))) := (hb0.trans (hb1.mono (by omega))).trans (hbA.mono (by omega))
  have HA1 : Hid ((w1.alloc (.cells #[.slice a1 ns.length cap1] 28)).heap[w.heap.size]? = some (.cells #[.slice a ns.length cap] 28 (0, 0))) := (hbA.block _ (by omega)).trans ((hb1.block w.heap.size (by omega)).trans hA0)
  have HR1 : Hid ((w1.alloc (.cells #[.slice a1 ns.length cap1] 28)).heap[w.heap.size + 1]? = some (.cells #[.slice none 0 0] 28 (0, 0))) := (hbA.block _ (by omega)).trans ((hb1.block (w.heap.size + 1) (by omega)).trans hr0)
  clear hown hb0 hb1 hA0 hr0 ha1 hr1 hbA
  go_wp2_with fail
  refine Calls.mono (HP.out _ _ _ HAt.out (by simp; omega)) ?_
  rintro e w2 ⟨rfl, hat, hb2⟩
  obtain ⟨t1, t2, v2, t3, t4, t5⟩ := hat
  obtain ⟨a2, cap2, rfl, -, -⟩ := t4.row
  have HB2 : Hid (Below w.heap.size w w2) := HB1.out.trans (hb2.mono (by omega))
  have hA2 := (hb2.block w.heap.size (by omega)).trans HA1.out
  have hR2 := (hb2.block (w.heap.size + 1) (by omega)).trans HR1.out
  have o0 : w2.cell? ⟨w.heap.size, 0, none⟩ = some (.slice a ns.length cap) := (cell_of_row w2 _ 0 _ _ _ hA2).trans rfl
  have o1 : w2.cell? ⟨w1.heap.size, 0, none⟩ = some (.slice a2 A.length cap2) := (cell_of_row w2 _ 0 _ _ _ t3).trans rfl
  have HR2 : Hid (w2.heap[w.heap.size + 1]? = some (.cells #[.slice none 0 0] 28 (0, 0))) := hR2
  have HO2 : Hid (OwnN w0.heap.size w2 (.slice a2 A.length cap2) A) := t4
  have hs2 : w1.heap.size < w2.heap.size := t2
  clear HP HAt hb2 HB1 HA1 HR1 t1 t2 t3 t4 t5 hA2 hR2
  go_wp2_with fail
  refine (kept_any a a2 cap cap2 ns A K w2 hl HA.out (HR.out.grown HB2.out)).mono ?_
  rintro e w3 ⟨v3, rfl, hb3, hn3, hp3⟩
  obtain ⟨a3, n3, c3, rfl⟩ : ∃ a n c, v3 = .slice a n c := by
    by_cases hk : K < 0
    · obtain ⟨a3, c3, rfl, -, -⟩ := (hn3 hk).row; exact ⟨_, _, _, rfl⟩
    · exact ⟨_, _, _, hp3 hk⟩
  have hR3 := (hb3.block (w.heap.size + 1) (by omega)).trans HR2.out
  have r0 : w3.cell? ⟨w.heap.size + 1, 0, none⟩ = some (.slice none 0 0) := (cell_of_row w3 _ 0 _ _ _ hR3).trans rfl
  have f0 : w3.frozen? ⟨w.heap.size + 1, 0, none⟩ = false := frozen_of_row w3 _ 0 _ _ hR3
  have HBL : Hid ((w3.setCell ⟨w.heap.size + 1, 0, none⟩ (.slice a3 n3 c3)).heap[w.heap.size + 1]? = some (.cells #[.slice a3 n3 c3] 28 (0, 0))) := (heap_setCell_same w3 _ 0 _ _ _ hR3).trans rfl
  have HO3 : Hid (OwnN w.heap.size (w3.setCell ⟨w.heap.size + 1, 0, none⟩ (.slice a3 n3 c3)) (.slice a3 n3 c3) (keptA ns A K)) := by
    by_cases hk : K < 0
    · show OwnN _ _ _ _; rw [keptA_neg hk]; exact OwnN.base (ownsRow_setCell_below (hn3 hk) (show w.heap.size + 1 < w2.heap.size by omega) _) (by omega)
    · show OwnN _ _ _ _; rw [keptA_pos hk, hp3 hk]; exact OwnN.base (ownsRow_setCell_below (HO2.out.later hb3) (show w.heap.size + 1 < w0.heap.size by omega) _) (by omega)
  have HB3 : Hid (Below w.heap.size w (w3.setCell ⟨w.heap.size + 1, 0, none⟩ (.slice a3 n3 c3))) := (HB2.out.trans (hb3.mono (by omega))).setCell (show w.heap.size ≤ w.heap.size + 1 by omega) _
  clear hb3 hn3 hp3 hR3 o0 o1 HO2 HR2 HB2
  go_wp2
  refine bodyPost_ret (res_cell2 rfl _ _ (w.heap.size + 1) 28 #[.slice a3 n3 c3] (0, 0) _ rfl ?_ Try.underlying28 rfl arenaSize) rfl ?_
  · exact HBL.out
  · exact ⟨_, rfl, HO3.out, HB3.out⟩
set_option maxHeartbeats 1600000 in
theorem specDone_any (a : Option Addr) (cap : Nat) (ns : List Nd) (s : Int) (sd : Int) (d : Int) (w : World) (hl : ns.length ≤ 1048576) (ha : AddrN a cap) (hr : RowN w.heap.size w a ns) :
    Calls Try.prog 51 #[.agg #[.slice a ns.length cap], .int .i64 s, .int .i64 sd, .int .i64 d] w fun e w' => ∃ v, e = .returned (.tuple #[.agg #[v], .int .i64 (overK ns 9 s (IntKind.i64.wrap (10 + sd)) d)]) ∧ OwnN w.heap.size w' v (keptA ns (overA ns 9 s (IntKind.i64.wrap (10 + sd)) d) (overK ns 9 s (IntKind.i64.wrap (10 + sd)) d)) ∧ Below w.heap.size w w' := by
  obtain ⟨A, K, HP, HN, hEK, hEA⟩ : ∃ (A : List Nd) (K : Int), Hid (∀ (B g : Nat) (wz : World), ArenaAt B wz g ns → B ≤ wz.heap.size → Calls Try.prog 124 #[.pointer (some ⟨g, 0, none⟩), .int .i64 s, .int .i64 sd, .int .i64 d] wz fun e w' => e = .returned (.int .i64 K) ∧ ArenaAt B w' g A ∧ Below B wz w') ∧ Hid True ∧ K = overK ns 9 s (IntKind.i64.wrap (10 + sd)) d ∧ A = overA ns 9 s (IntKind.i64.wrap (10 + sd)) d := ⟨_, _, fun B g wz h hB => specDoneP_any B g ns s sd d wz hl h hB, trivial, rfl, rfl⟩
  rw [← hEK, ← hEA]
  clear hEK hEA HN
  have hb0 : Below w.heap.size w ((w.alloc (.cells #[.slice a ns.length cap] 28)).alloc (.cells #[.slice none 0 0] 28)) := ((Below.refl _ _).alloc (Nat.le_refl _) _).alloc (by simp) _
  have hs0 : ((w.alloc (.cells #[.slice a ns.length cap] 28)).alloc (.cells #[.slice none 0 0] 28)).heap.size = w.heap.size + 2 := by simp
  have hA0 : ((w.alloc (.cells #[.slice a ns.length cap] 28)).alloc (.cells #[.slice none 0 0] 28)).heap[w.heap.size]? = some (.cells #[.slice a ns.length cap] 28 (0, 0)) := (heap_alloc_old _ _ (by simp)).trans (heap_alloc_new w _)
  have hr0 : ((w.alloc (.cells #[.slice a ns.length cap] 28)).alloc (.cells #[.slice none 0 0] 28)).heap[w.heap.size + 1]? = some (.cells #[.slice none 0 0] 28 (0, 0)) := by
    have := heap_alloc_new (w.alloc (.cells #[.slice a ns.length cap] 28)) (.cells #[.slice none 0 0] 28)
    simpa using this
  have HR : Hid (RowN w.heap.size w a ns) := hr
  have HA : Hid (AddrN a cap) := ha
  clear hr ha
  go_enter Try.func51, Try.ntmps51
  go_wp2_with fail
  generalize (w.alloc (.cells #[.slice a ns.length cap] 28)).alloc (.cells #[.slice none 0 0] 28) = w0 at hb0 hs0 hA0 hr0 ⊢
  refine (specCopy_any a cap ns w0 hl HA.out (HR.out.grown hb0)).mono ?_
  rintro e w1 ⟨v, rfl, hown, hb1⟩
  obtain ⟨a1, cap1, rfl, ha1, hr1⟩ := hown.row
  have hs1 := hb1.size
  have hbA : Below w1.heap.size w1 (w1.alloc (.cells #[.slice a1 ns.length cap1] 28)) := (Below.refl _ _).alloc (Nat.le_refl _) _
  have HAt : Hid (ArenaAt w0.heap.size (w1.alloc (.cells #[.slice a1 ns.length cap1] 28)) w1.heap.size ns) := ⟨hs1, by simp, _, heap_alloc_new w1 _, hown.later hbA, fun h => by have := (hown.lt _ h).2; omega⟩
  have HB1 : Hid (Below w.heap.size w (w1.alloc (.cells #[.slice a1 ns.length cap1] 28))) := (hb0.trans (hb1.mono (by omega))).trans (hbA.mono (by omega))
  have HA1 : Hid ((w1.alloc (.cells #[.slice a1 ns.length cap1] 28)).heap[w.heap.size]? = some (.cells #[.slice a ns.length cap] 28 (0, 0))) := (hbA.block _ (by omega)).trans ((hb1.block w.heap.size (by omega)).trans hA0)
  have HR1 : Hid ((w1.alloc (.cells #[.slice a1 ns.length cap1] 28)).heap[w.heap.size + 1]? = some (.cells #[.slice none 0 0] 28 (0, 0))) := (hbA.block _ (by omega)).trans ((hb1.block (w.heap.size + 1) (by omega)).trans hr0)
  clear hown hb0 hb1 hA0 hr0 ha1 hr1 hbA
  go_wp2_with fail
  refine Calls.mono (HP.out _ _ _ HAt.out (by simp; omega)) ?_
  rintro e w2 ⟨rfl, hat, hb2⟩
  obtain ⟨t1, t2, v2, t3, t4, t5⟩ := hat
  obtain ⟨a2, cap2, rfl, -, -⟩ := t4.row
  have HB2 : Hid (Below w.heap.size w w2) := HB1.out.trans (hb2.mono (by omega))
  have hA2 := (hb2.block w.heap.size (by omega)).trans HA1.out
  have hR2 := (hb2.block (w.heap.size + 1) (by omega)).trans HR1.out
  have o0 : w2.cell? ⟨w.heap.size, 0, none⟩ = some (.slice a ns.length cap) := (cell_of_row w2 _ 0 _ _ _ hA2).trans rfl
  have o1 : w2.cell? ⟨w1.heap.size, 0, none⟩ = some (.slice a2 A.length cap2) := (cell_of_row w2 _ 0 _ _ _ t3).trans rfl
  have HR2 : Hid (w2.heap[w.heap.size + 1]? = some (.cells #[.slice none 0 0] 28 (0, 0))) := hR2
  have HO2 : Hid (OwnN w0.heap.size w2 (.slice a2 A.length cap2) A) := t4
  have hs2 : w1.heap.size < w2.heap.size := t2
  clear HP HAt hb2 HB1 HA1 HR1 t1 t2 t3 t4 t5 hA2 hR2
  go_wp2_with fail
  refine (kept_any a a2 cap cap2 ns A K w2 hl HA.out (HR.out.grown HB2.out)).mono ?_
  rintro e w3 ⟨v3, rfl, hb3, hn3, hp3⟩
  obtain ⟨a3, n3, c3, rfl⟩ : ∃ a n c, v3 = .slice a n c := by
    by_cases hk : K < 0
    · obtain ⟨a3, c3, rfl, -, -⟩ := (hn3 hk).row; exact ⟨_, _, _, rfl⟩
    · exact ⟨_, _, _, hp3 hk⟩
  have hR3 := (hb3.block (w.heap.size + 1) (by omega)).trans HR2.out
  have r0 : w3.cell? ⟨w.heap.size + 1, 0, none⟩ = some (.slice none 0 0) := (cell_of_row w3 _ 0 _ _ _ hR3).trans rfl
  have f0 : w3.frozen? ⟨w.heap.size + 1, 0, none⟩ = false := frozen_of_row w3 _ 0 _ _ hR3
  have HBL : Hid ((w3.setCell ⟨w.heap.size + 1, 0, none⟩ (.slice a3 n3 c3)).heap[w.heap.size + 1]? = some (.cells #[.slice a3 n3 c3] 28 (0, 0))) := (heap_setCell_same w3 _ 0 _ _ _ hR3).trans rfl
  have HO3 : Hid (OwnN w.heap.size (w3.setCell ⟨w.heap.size + 1, 0, none⟩ (.slice a3 n3 c3)) (.slice a3 n3 c3) (keptA ns A K)) := by
    by_cases hk : K < 0
    · show OwnN _ _ _ _; rw [keptA_neg hk]; exact OwnN.base (ownsRow_setCell_below (hn3 hk) (show w.heap.size + 1 < w2.heap.size by omega) _) (by omega)
    · show OwnN _ _ _ _; rw [keptA_pos hk, hp3 hk]; exact OwnN.base (ownsRow_setCell_below (HO2.out.later hb3) (show w.heap.size + 1 < w0.heap.size by omega) _) (by omega)
  have HB3 : Hid (Below w.heap.size w (w3.setCell ⟨w.heap.size + 1, 0, none⟩ (.slice a3 n3 c3))) := (HB2.out.trans (hb3.mono (by omega))).setCell (show w.heap.size ≤ w.heap.size + 1 by omega) _
  clear hb3 hn3 hp3 hR3 o0 o1 HO2 HR2 HB2
  go_wp2
  refine bodyPost_ret (res_cell2 rfl _ _ (w.heap.size + 1) 28 #[.slice a3 n3 c3] (0, 0) _ rfl ?_ Try.underlying28 rfl arenaSize) rfl ?_
  · exact HBL.out
  · exact ⟨_, rfl, HO3.out, HB3.out⟩
set_option maxHeartbeats 1600000 in
theorem specApp_any (a : Option Addr) (cap : Nat) (ns : List Nd) (s : Int) (d : Int) (w : World) (hl : ns.length ≤ 1048576) (ha : AddrN a cap) (hr : RowN w.heap.size w a ns) :
    Calls Try.prog 52 #[.agg #[.slice a ns.length cap], .int .i64 s, .int .i64 d] w fun e w' => ∃ v, e = .returned (.tuple #[.agg #[v], .int .i64 (overK ns 4 s 20 d)]) ∧ OwnN w.heap.size w' v (keptA ns (overA ns 4 s 20 d) (overK ns 4 s 20 d)) ∧ Below w.heap.size w w' := by
  obtain ⟨A, K, HP, HN, hEK, hEA⟩ : ∃ (A : List Nd) (K : Int), Hid (∀ (B g : Nat) (wz : World), ArenaAt B wz g ns → B ≤ wz.heap.size → Calls Try.prog 125 #[.pointer (some ⟨g, 0, none⟩), .int .i64 s, .int .i64 d] wz fun e w' => e = .returned (.int .i64 K) ∧ ArenaAt B w' g A ∧ Below B wz w') ∧ Hid True ∧ K = overK ns 4 s 20 d ∧ A = overA ns 4 s 20 d := ⟨_, _, fun B g wz h hB => specAppP_any B g ns s d wz hl h hB, trivial, rfl, rfl⟩
  rw [← hEK, ← hEA]
  clear hEK hEA HN
  have hb0 : Below w.heap.size w ((w.alloc (.cells #[.slice a ns.length cap] 28)).alloc (.cells #[.slice none 0 0] 28)) := ((Below.refl _ _).alloc (Nat.le_refl _) _).alloc (by simp) _
  have hs0 : ((w.alloc (.cells #[.slice a ns.length cap] 28)).alloc (.cells #[.slice none 0 0] 28)).heap.size = w.heap.size + 2 := by simp
  have hA0 : ((w.alloc (.cells #[.slice a ns.length cap] 28)).alloc (.cells #[.slice none 0 0] 28)).heap[w.heap.size]? = some (.cells #[.slice a ns.length cap] 28 (0, 0)) := (heap_alloc_old _ _ (by simp)).trans (heap_alloc_new w _)
  have hr0 : ((w.alloc (.cells #[.slice a ns.length cap] 28)).alloc (.cells #[.slice none 0 0] 28)).heap[w.heap.size + 1]? = some (.cells #[.slice none 0 0] 28 (0, 0)) := by
    have := heap_alloc_new (w.alloc (.cells #[.slice a ns.length cap] 28)) (.cells #[.slice none 0 0] 28)
    simpa using this
  have HR : Hid (RowN w.heap.size w a ns) := hr
  have HA : Hid (AddrN a cap) := ha
  clear hr ha
  go_enter Try.func52, Try.ntmps52
  go_wp2_with fail
  generalize (w.alloc (.cells #[.slice a ns.length cap] 28)).alloc (.cells #[.slice none 0 0] 28) = w0 at hb0 hs0 hA0 hr0 ⊢
  refine (specCopy_any a cap ns w0 hl HA.out (HR.out.grown hb0)).mono ?_
  rintro e w1 ⟨v, rfl, hown, hb1⟩
  obtain ⟨a1, cap1, rfl, ha1, hr1⟩ := hown.row
  have hs1 := hb1.size
  have hbA : Below w1.heap.size w1 (w1.alloc (.cells #[.slice a1 ns.length cap1] 28)) := (Below.refl _ _).alloc (Nat.le_refl _) _
  have HAt : Hid (ArenaAt w0.heap.size (w1.alloc (.cells #[.slice a1 ns.length cap1] 28)) w1.heap.size ns) := ⟨hs1, by simp, _, heap_alloc_new w1 _, hown.later hbA, fun h => by have := (hown.lt _ h).2; omega⟩
  have HB1 : Hid (Below w.heap.size w (w1.alloc (.cells #[.slice a1 ns.length cap1] 28))) := (hb0.trans (hb1.mono (by omega))).trans (hbA.mono (by omega))
  have HA1 : Hid ((w1.alloc (.cells #[.slice a1 ns.length cap1] 28)).heap[w.heap.size]? = some (.cells #[.slice a ns.length cap] 28 (0, 0))) := (hbA.block _ (by omega)).trans ((hb1.block w.heap.size (by omega)).trans hA0)
  have HR1 : Hid ((w1.alloc (.cells #[.slice a1 ns.length cap1] 28)).heap[w.heap.size + 1]? = some (.cells #[.slice none 0 0] 28 (0, 0))) := (hbA.block _ (by omega)).trans ((hb1.block (w.heap.size + 1) (by omega)).trans hr0)
  clear hown hb0 hb1 hA0 hr0 ha1 hr1 hbA
  go_wp2_with fail
  refine Calls.mono (HP.out _ _ _ HAt.out (by simp; omega)) ?_
  rintro e w2 ⟨rfl, hat, hb2⟩
  obtain ⟨t1, t2, v2, t3, t4, t5⟩ := hat
  obtain ⟨a2, cap2, rfl, -, -⟩ := t4.row
  have HB2 : Hid (Below w.heap.size w w2) := HB1.out.trans (hb2.mono (by omega))
  have hA2 := (hb2.block w.heap.size (by omega)).trans HA1.out
  have hR2 := (hb2.block (w.heap.size + 1) (by omega)).trans HR1.out
  have o0 : w2.cell? ⟨w.heap.size, 0, none⟩ = some (.slice a ns.length cap) := (cell_of_row w2 _ 0 _ _ _ hA2).trans rfl
  have o1 : w2.cell? ⟨w1.heap.size, 0, none⟩ = some (.slice a2 A.length cap2) := (cell_of_row w2 _ 0 _ _ _ t3).trans rfl
  have HR2 : Hid (w2.heap[w.heap.size + 1]? = some (.cells #[.slice none 0 0] 28 (0, 0))) := hR2
  have HO2 : Hid (OwnN w0.heap.size w2 (.slice a2 A.length cap2) A) := t4
  have hs2 : w1.heap.size < w2.heap.size := t2
  clear HP HAt hb2 HB1 HA1 HR1 t1 t2 t3 t4 t5 hA2 hR2
  go_wp2_with fail
  refine (kept_any a a2 cap cap2 ns A K w2 hl HA.out (HR.out.grown HB2.out)).mono ?_
  rintro e w3 ⟨v3, rfl, hb3, hn3, hp3⟩
  obtain ⟨a3, n3, c3, rfl⟩ : ∃ a n c, v3 = .slice a n c := by
    by_cases hk : K < 0
    · obtain ⟨a3, c3, rfl, -, -⟩ := (hn3 hk).row; exact ⟨_, _, _, rfl⟩
    · exact ⟨_, _, _, hp3 hk⟩
  have hR3 := (hb3.block (w.heap.size + 1) (by omega)).trans HR2.out
  have r0 : w3.cell? ⟨w.heap.size + 1, 0, none⟩ = some (.slice none 0 0) := (cell_of_row w3 _ 0 _ _ _ hR3).trans rfl
  have f0 : w3.frozen? ⟨w.heap.size + 1, 0, none⟩ = false := frozen_of_row w3 _ 0 _ _ hR3
  have HBL : Hid ((w3.setCell ⟨w.heap.size + 1, 0, none⟩ (.slice a3 n3 c3)).heap[w.heap.size + 1]? = some (.cells #[.slice a3 n3 c3] 28 (0, 0))) := (heap_setCell_same w3 _ 0 _ _ _ hR3).trans rfl
  have HO3 : Hid (OwnN w.heap.size (w3.setCell ⟨w.heap.size + 1, 0, none⟩ (.slice a3 n3 c3)) (.slice a3 n3 c3) (keptA ns A K)) := by
    by_cases hk : K < 0
    · show OwnN _ _ _ _; rw [keptA_neg hk]; exact OwnN.base (ownsRow_setCell_below (hn3 hk) (show w.heap.size + 1 < w2.heap.size by omega) _) (by omega)
    · show OwnN _ _ _ _; rw [keptA_pos hk, hp3 hk]; exact OwnN.base (ownsRow_setCell_below (HO2.out.later hb3) (show w.heap.size + 1 < w0.heap.size by omega) _) (by omega)
  have HB3 : Hid (Below w.heap.size w (w3.setCell ⟨w.heap.size + 1, 0, none⟩ (.slice a3 n3 c3))) := (HB2.out.trans (hb3.mono (by omega))).setCell (show w.heap.size ≤ w.heap.size + 1 by omega) _
  clear hb3 hn3 hp3 hR3 o0 o1 HO2 HR2 HB2
  go_wp2
  refine bodyPost_ret (res_cell2 rfl _ _ (w.heap.size + 1) 28 #[.slice a3 n3 c3] (0, 0) _ rfl ?_ Try.underlying28 rfl arenaSize) rfl ?_
  · exact HBL.out
  · exact ⟨_, rfl, HO3.out, HB3.out⟩
set_option maxHeartbeats 1600000 in
theorem specEpoch_any (a : Option Addr) (cap : Nat) (ns : List Nd) (k : Int) (ep : Int) (w : World) (hl : ns.length ≤ 1048576) (ha : AddrN a cap) (hr : RowN w.heap.size w a ns) :
    Calls Try.prog 40 #[.agg #[.slice a ns.length cap], .int .i64 k, .int .i64 ep] w fun e w' => ∃ v, e = .returned (.tuple #[.agg #[v], .int .i64 (epochK ns k ep)]) ∧ OwnN w.heap.size w' v (keptA ns (epochA ns k ep) (epochK ns k ep)) ∧ Below w.heap.size w w' := by
  obtain ⟨A, K, HP, HN, hEK, hEA⟩ : ∃ (A : List Nd) (K : Int), Hid (∀ (B g : Nat) (wz : World), ArenaAt B wz g ns → B ≤ wz.heap.size → Calls Try.prog 107 #[.pointer (some ⟨g, 0, none⟩), .int .i64 k, .int .i64 ep] wz fun e w' => e = .returned (.int .i64 K) ∧ ArenaAt B w' g A ∧ Below B wz w') ∧ Hid True ∧ K = epochK ns k ep ∧ A = epochA ns k ep := ⟨_, _, fun B g wz h hB => specEpochP_any B g ns k ep wz hl h hB, trivial, rfl, rfl⟩
  rw [← hEK, ← hEA]
  clear hEK hEA HN
  have hb0 : Below w.heap.size w ((w.alloc (.cells #[.slice a ns.length cap] 28)).alloc (.cells #[.slice none 0 0] 28)) := ((Below.refl _ _).alloc (Nat.le_refl _) _).alloc (by simp) _
  have hs0 : ((w.alloc (.cells #[.slice a ns.length cap] 28)).alloc (.cells #[.slice none 0 0] 28)).heap.size = w.heap.size + 2 := by simp
  have hA0 : ((w.alloc (.cells #[.slice a ns.length cap] 28)).alloc (.cells #[.slice none 0 0] 28)).heap[w.heap.size]? = some (.cells #[.slice a ns.length cap] 28 (0, 0)) := (heap_alloc_old _ _ (by simp)).trans (heap_alloc_new w _)
  have hr0 : ((w.alloc (.cells #[.slice a ns.length cap] 28)).alloc (.cells #[.slice none 0 0] 28)).heap[w.heap.size + 1]? = some (.cells #[.slice none 0 0] 28 (0, 0)) := by
    have := heap_alloc_new (w.alloc (.cells #[.slice a ns.length cap] 28)) (.cells #[.slice none 0 0] 28)
    simpa using this
  have HR : Hid (RowN w.heap.size w a ns) := hr
  have HA : Hid (AddrN a cap) := ha
  clear hr ha
  go_enter Try.func40, Try.ntmps40
  go_wp2_with fail
  generalize (w.alloc (.cells #[.slice a ns.length cap] 28)).alloc (.cells #[.slice none 0 0] 28) = w0 at hb0 hs0 hA0 hr0 ⊢
  refine (specCopy_any a cap ns w0 hl HA.out (HR.out.grown hb0)).mono ?_
  rintro e w1 ⟨v, rfl, hown, hb1⟩
  obtain ⟨a1, cap1, rfl, ha1, hr1⟩ := hown.row
  have hs1 := hb1.size
  have hbA : Below w1.heap.size w1 (w1.alloc (.cells #[.slice a1 ns.length cap1] 28)) := (Below.refl _ _).alloc (Nat.le_refl _) _
  have HAt : Hid (ArenaAt w0.heap.size (w1.alloc (.cells #[.slice a1 ns.length cap1] 28)) w1.heap.size ns) := ⟨hs1, by simp, _, heap_alloc_new w1 _, hown.later hbA, fun h => by have := (hown.lt _ h).2; omega⟩
  have HB1 : Hid (Below w.heap.size w (w1.alloc (.cells #[.slice a1 ns.length cap1] 28))) := (hb0.trans (hb1.mono (by omega))).trans (hbA.mono (by omega))
  have HA1 : Hid ((w1.alloc (.cells #[.slice a1 ns.length cap1] 28)).heap[w.heap.size]? = some (.cells #[.slice a ns.length cap] 28 (0, 0))) := (hbA.block _ (by omega)).trans ((hb1.block w.heap.size (by omega)).trans hA0)
  have HR1 : Hid ((w1.alloc (.cells #[.slice a1 ns.length cap1] 28)).heap[w.heap.size + 1]? = some (.cells #[.slice none 0 0] 28 (0, 0))) := (hbA.block _ (by omega)).trans ((hb1.block (w.heap.size + 1) (by omega)).trans hr0)
  clear hown hb0 hb1 hA0 hr0 ha1 hr1 hbA
  go_wp2_with fail
  refine Calls.mono (HP.out _ _ _ HAt.out (by simp; omega)) ?_
  rintro e w2 ⟨rfl, hat, hb2⟩
  obtain ⟨t1, t2, v2, t3, t4, t5⟩ := hat
  obtain ⟨a2, cap2, rfl, -, -⟩ := t4.row
  have HB2 : Hid (Below w.heap.size w w2) := HB1.out.trans (hb2.mono (by omega))
  have hA2 := (hb2.block w.heap.size (by omega)).trans HA1.out
  have hR2 := (hb2.block (w.heap.size + 1) (by omega)).trans HR1.out
  have o0 : w2.cell? ⟨w.heap.size, 0, none⟩ = some (.slice a ns.length cap) := (cell_of_row w2 _ 0 _ _ _ hA2).trans rfl
  have o1 : w2.cell? ⟨w1.heap.size, 0, none⟩ = some (.slice a2 A.length cap2) := (cell_of_row w2 _ 0 _ _ _ t3).trans rfl
  have HR2 : Hid (w2.heap[w.heap.size + 1]? = some (.cells #[.slice none 0 0] 28 (0, 0))) := hR2
  have HO2 : Hid (OwnN w0.heap.size w2 (.slice a2 A.length cap2) A) := t4
  have hs2 : w1.heap.size < w2.heap.size := t2
  clear HP HAt hb2 HB1 HA1 HR1 t1 t2 t3 t4 t5 hA2 hR2
  go_wp2_with fail
  refine (kept_any a a2 cap cap2 ns A K w2 hl HA.out (HR.out.grown HB2.out)).mono ?_
  rintro e w3 ⟨v3, rfl, hb3, hn3, hp3⟩
  obtain ⟨a3, n3, c3, rfl⟩ : ∃ a n c, v3 = .slice a n c := by
    by_cases hk : K < 0
    · obtain ⟨a3, c3, rfl, -, -⟩ := (hn3 hk).row; exact ⟨_, _, _, rfl⟩
    · exact ⟨_, _, _, hp3 hk⟩
  have hR3 := (hb3.block (w.heap.size + 1) (by omega)).trans HR2.out
  have r0 : w3.cell? ⟨w.heap.size + 1, 0, none⟩ = some (.slice none 0 0) := (cell_of_row w3 _ 0 _ _ _ hR3).trans rfl
  have f0 : w3.frozen? ⟨w.heap.size + 1, 0, none⟩ = false := frozen_of_row w3 _ 0 _ _ hR3
  have HBL : Hid ((w3.setCell ⟨w.heap.size + 1, 0, none⟩ (.slice a3 n3 c3)).heap[w.heap.size + 1]? = some (.cells #[.slice a3 n3 c3] 28 (0, 0))) := (heap_setCell_same w3 _ 0 _ _ _ hR3).trans rfl
  have HO3 : Hid (OwnN w.heap.size (w3.setCell ⟨w.heap.size + 1, 0, none⟩ (.slice a3 n3 c3)) (.slice a3 n3 c3) (keptA ns A K)) := by
    by_cases hk : K < 0
    · show OwnN _ _ _ _; rw [keptA_neg hk]; exact OwnN.base (ownsRow_setCell_below (hn3 hk) (show w.heap.size + 1 < w2.heap.size by omega) _) (by omega)
    · show OwnN _ _ _ _; rw [keptA_pos hk, hp3 hk]; exact OwnN.base (ownsRow_setCell_below (HO2.out.later hb3) (show w.heap.size + 1 < w0.heap.size by omega) _) (by omega)
  have HB3 : Hid (Below w.heap.size w (w3.setCell ⟨w.heap.size + 1, 0, none⟩ (.slice a3 n3 c3))) := (HB2.out.trans (hb3.mono (by omega))).setCell (show w.heap.size ≤ w.heap.size + 1 by omega) _
  clear hb3 hn3 hp3 hR3 o0 o1 HO2 HR2 HB2
  go_wp2
  refine bodyPost_ret (res_cell2 rfl _ _ (w.heap.size + 1) 28 #[.slice a3 n3 c3] (0, 0) _ rfl ?_ Try.underlying28 rfl arenaSize) rfl ?_
  · exact HBL.out
  · exact ⟨_, rfl, HO3.out, HB3.out⟩
end Go.Proofs.Ytffnadnndmmliaa
