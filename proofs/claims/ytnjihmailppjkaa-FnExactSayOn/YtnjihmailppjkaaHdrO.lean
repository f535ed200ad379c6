/- The header of an arena behind a pointer as it is read. -/
import Derived.Test.YtnjihmailppjkaaArenaO
import Derived.Test.YtnjihmailppjkaaTermAt
import Derived.Test.YtnjihmailppjkaaSec6
import Derived.Test.YtnjihmailppjkaaMakeParts
import Derived.Test.YtnjihmailppjkaaLawKeep
import Derived.Test.YtnjihmailppjkaaListLit
import Derived.Deep.RegionWith
import Derived.Deep.DeepCutAuto
import Derived.Test.YtnjihmailppjkaaTermPut2
import Derived.WalkKit
import Derived.WalkLawsBesides
import Derived.WalkSpells
import Derived.Laws.Rows
import Derived.Test.YtnjihmailppjkaaMakeIs
import Derived.Test.YtnjihmailppjkaaLawArena2
import Derived.Deep.QuietTactic
import Derived.BigQuiet
namespace Go.Proofs.Ytnjihmailppjkaa
open Go.RowKit
set_option linter.unusedVariables false
theorem OwnN.blk {B : Nat} {w : World} {a : Option Addr} {n cap : Nat} {ns : List Nd} (h : OwnN B w (.slice a n cap) ns) (hm : ns ≠ []) {b off : Nat} (e : a = some ⟨b, off, none⟩) : (Value.slice a n cap).ownBlock = some b := by
  subst e
  rcases h.2 with ⟨h0, _⟩ | ⟨g, c, cur, hv, _⟩
  · cases h0
  · simp only [Value.slice.injEq, Option.some.injEq, Addr.mk.injEq] at hv
    obtain ⟨⟨rfl, -⟩, -⟩ := hv
    rfl
theorem OwnN.off {B : Nat} {w : World} {a : Option Addr} {n cap : Nat} {ns : List Nd} (h : OwnN B w (.slice a n cap) ns) (hm : ns ≠ []) {b off : Nat} (e : a = some ⟨b, off, none⟩) : off = 0 := by
  subst e
  rcases h.2 with ⟨h0, _⟩ | ⟨g, c, cur, hv, _⟩
  · cases h0
  · simp only [Value.slice.injEq, Option.some.injEq, Addr.mk.injEq] at hv
    exact hv.1.2.1
/-- The header of the arena as it is read. -/
theorem hdr_of {D : Nat → Prop} {w : World} {g : Nat} {ns : List Nd} (h : ArD D w g ns) : ∃ a c, w.heap[g]? = some (.cells #[.slice a ns.length c] 39 (0, 0)) ∧ AddrN a c ∧ OldN w g ns a ns := by
  obtain ⟨h1, h2, v, h3, h4, h5, h6⟩ := h
  obtain ⟨a, c, rfl, ha, hr⟩ := h4.row
  exact ⟨a, c, h3, ha, _, h3, hr, fun b off e hm => ⟨fun eb => h5 (by rw [OwnN.blk h4 hm e, eb]), fun _ => ⟨OwnN.off h4 hm e, List.prefix_refl _⟩⟩⟩
theorem hdr_far {D : Nat → Prop} {w : World} {g : Nat} {ns : List Nd} {a : Option Addr} {n c : Nat} (h : ArD D w g ns) (hv : w.heap[g]? = some (.cells #[.slice a n c] 39 (0, 0))) : ∀ b off, a = some ⟨b, off, none⟩ → ns ≠ [] → ¬ D b := fun b off e hm => by
  obtain ⟨h1, h2, v, h3, h4, h5, h6⟩ := h
  obtain rfl : v = .slice a n c := by rw [h3] at hv; simpa using hv
  exact h6 b (OwnN.blk h4 hm e)
end Go.Proofs.Ytnjihmailppjkaa

namespace Go.Proofs.Ytnjihmailppjkaa
open Go.RowKit
set_option linter.unusedVariables false
theorem wpList_of_quiet {P : Program} {ops : Array Oper} {C : World → Prop} {Q : Exit → Act → World → Prop} : ∀ (l : List Oper) (a : Act) (w : World), C w → wpQuiet P ops C (fun a' => ∀ w', C w' → Q .normal a' w') l a → wpList P ops Q l a w
  | [], a, w, hw, h => h w hw
  | o :: l, a, w, hw, h => by
    unfold wpQuiet at h
    unfold wpList
    by_cases hc : Region.wanted o (yielded ops a.tmps) = true
    · rw [if_pos hc] at h ⊢
      exact .inl (Oper.wp_of_quiet hw (fun a' w' hw' hk => wpList_of_quiet l a' w' hw' hk) h)
    · rw [if_neg hc] at h ⊢
      exact wpList_of_quiet l _ w hw h
theorem wp_region_heldF {P : Program} {S : World → Prop} {id : Nat} {Q : Exit → Act → World → Prop} {a : Act} {w : World} {l : List Oper} (hS : S w)
    (h : wpQuiet P l.toArray (fun w' => ∃ s : Hw S, w' = s.w) (fun a' => ∀ w', (∃ s : Hw S, w' = s.w) → Q .normal a' w') l a) : (Code.region id l.toArray false).wp P Q a w :=
  wp_region_lit (wpList_of_quiet (C := fun w' => ∃ s : Hw S, w' = s.w) l a w ⟨⟨w, hS⟩, rfl⟩ h)
theorem read_classF (w1 : World) : ∃ S : World → Prop, S w1 ∧ Nonempty (Hw S) ∧ Hid ((∀ (p : Addr) (v : Value), p.block < w1.heap.size → w1.cell? p = some v → ∀ s : Hw S, s.w.cell? p = some v) ∧ (∀ (s : Hw S) w', Below s.w.heap.size s.w w' → S w') ∧ (∀ w', S w' → Below w1.heap.size w1 w') ∧ (∀ s : Hw S, Below w1.heap.size w1 s.w)) :=
  ⟨fun w' => Below w1.heap.size w1 w', Below.refl _ _, ⟨⟨w1, Below.refl _ _⟩⟩, fun p v hp hc s => (s.ok.cell hp).trans hc, fun s w' hb => s.ok.trans (hb.mono s.ok.size), fun _ h => h, fun s => s.ok⟩
end Go.Proofs.Ytnjihmailppjkaa

namespace Go.Proofs.Ytnjihmailppjkaa
open Go.RowKit
set_option linter.unusedVariables false
/-- What AckIn reads. -/
def aiI (ns : List Nd) (hd k : Int) : Int := openV ns (sideK ns hd 40) k
def aiO (ns : List Nd) (hd k : Int) : Bool := openB ns (sideK ns hd 40) k
def aiP (ns : List Nd) (hd k : Int) : List Int := partsV (sideA ns hd 40) (aiI ns hd k) 2
def aiQ (ns : List Nd) (hd k : Int) : Bool := partsB (sideA ns hd 40) (aiI ns hd k) 2
def aiH (ns : List Nd) (hd sa : Int) : Int := makeK (sideA ns hd 40) 3 sa 0
def aiA (ns : List Nd) (hd sa : Int) : List Nd := makeA (sideA ns hd 40) 3 sa 0
def aiC (ns : List Nd) (hd sa k : Int) : Bool := aiO ns hd k && (aiQ ns hd k && (decide (0 ≤ aiH ns hd sa) && decide ((aiP ns hd k).getD 1 0 = aiH ns hd sa)))
def aiB (ns : List Nd) (hd sa k : Int) : Bool := aiC ns hd sa k && isK (aiA ns hd sa) ((aiP ns hd k).getD 0 0) 1
def aiV (ns : List Nd) (hd sa k : Int) : Int := if aiC ns hd sa k = true then numV (aiA ns hd sa) ((aiP ns hd k).getD 0 0) else 0
end Go.Proofs.Ytnjihmailppjkaa

namespace Go.Proofs.Ytnjihmailppjkaa
open Go.RowKit

end Go.Proofs.Ytnjihmailppjkaa

namespace Go.Proofs.Ytnjihmailppjkaa
open Go.RowKit
set_option linter.unusedVariables false
theorem hdr_cap {D : Nat → Prop} {w : World} {g : Nat} {ns : List Nd} {a : Option Addr} {n c : Nat} (h : ArD D w g ns) (hv : w.heap[g]? = some (.cells #[.slice a n c] 39 (0, 0))) : ns.length ≤ c := by
  obtain ⟨h1, h2, v, h3, h4, h5, h6⟩ := h
  obtain rfl : v = .slice a n c := by rw [h3] at hv; simpa using hv
  rcases h4.2 with ⟨e, h0⟩ | ⟨b, cp, cur, e, q1, q2, q3, q4⟩
  · omega
  · simp only [Value.slice.injEq] at e
    omega
set_option maxHeartbeats 1600000 in
theorem specUndo_any (D : Nat → Prop) (g : Nat) (ns : List Nd) (n : Nat) (w : World) (hl : ns.length ≤ 1048576) (hn : n ≤ ns.length) (h : ArD D w g ns) (hB : ∀ k, D k → k < w.heap.size) :
    Calls Try.prog 56 #[.pointer (some ⟨g, 0, none⟩), .int .i64 (n : Int)] w fun e w' => (∃ u, e = .returned u) ∧ Safe D w w' := by
  obtain ⟨a, c, hg, ha, -⟩ := hdr_of h
  have c0 : w.cell? ⟨g, 0, none⟩ = some (.slice a ns.length c) := (cell_of_row _ _ 0 _ _ _ hg).trans rfl
  have f0 : w.frozen? ⟨g, 0, none⟩ = false := frozen_of_row _ _ 0 _ _ hg
  have HS : Hid (∀ u, Safe D w (w.setCell ⟨g, 0, none⟩ u)) := fun u => (Safe.refl _ _).setCell h.1 u
  have hcap := hdr_cap h hg
  have h0 : (0 : Int) ≤ (n : Int) := by omega
  have h2 : (n : Int) ≤ (c : Int) := by omega
  clear h hg
  by_cases hc : n < ns.length
  · have h1 : (n : Int) < (ns.length : Int) := by omega
    go_enter Try.func56, Try.ntmps56
    go_wp2
    refine bodyPost_end (results_none rfl _ _ _) rfl ?_
    exact ⟨⟨_, rfl⟩, HS.out _⟩
  · have h1 : ¬ (n : Int) < (ns.length : Int) := by omega
    go_enter Try.func56, Try.ntmps56
    go_wp2
    refine bodyPost_end (results_none rfl _ _ _) rfl ?_
    exact ⟨⟨_, rfl⟩, Safe.refl _ _⟩
theorem aiA_le {ns : List Nd} {hd sa : Int} (h : ns.length ≤ 1048576) : (aiA ns hd sa).length ≤ 1048576 := makeA_le (sideA_le h)
theorem makeA_preA (ms : List Nd) (kd x y : Int) : ms <+: makeA ms kd x y := by unfold makeA; split; exact List.prefix_refl _; exact putA_pre _ _
theorem aiA_pre (ns : List Nd) (hd sa : Int) : ns.length ≤ (aiA ns hd sa).length := ((putA_pre ns _).trans ((makeA_preA _ _ _ _).trans (makeA_preA _ _ _ _))).length_le
end Go.Proofs.Ytnjihmailppjkaa

namespace Go.Proofs.Ytnjihmailppjkaa
open Go.RowKit
set_option linter.unusedVariables false

end Go.Proofs.Ytnjihmailppjkaa

namespace Go.Proofs.Ytnjihmailppjkaa
open Go.RowKit
set_option linter.unusedVariables false
/-- What PartOk reads. -/
def poI (ns : List Nd) (sd hd k : Int) : Int := openV ns (sideK ns hd sd) k
def poO (ns : List Nd) (sd hd k : Int) : Bool := openB ns (sideK ns hd sd) k
def poP (ns : List Nd) (sd hd k : Int) : List Int := partsV (sideA ns hd sd) (poI ns sd hd k) 3
def poQ (ns : List Nd) (sd hd k : Int) : Bool := partsB (sideA ns hd sd) (poI ns sd hd k) 3
def poM (ns : List Nd) (sd hd m1 sa : Int) : Int := overK (sideA ns hd sd) 9 hd m1 sa
def poA (ns : List Nd) (sd hd m1 sa : Int) : List Nd := overA (sideA ns hd sd) 9 hd m1 sa
def poC (ns : List Nd) (sd hd m1 sa k : Int) : Bool := poO ns sd hd k && (poQ ns sd hd k && (decide (0 ≤ poM ns sd hd m1 sa) && decide ((poP ns sd hd k).getD 2 0 = poM ns sd hd m1 sa)))
def poX (A : List Nd) (m8 mo nm sa p0 p1 : Int) : Bool :=
  if mo = 1 then crtB A p0 && (signB A (crtP A p0) p1 && (decide (crtN A p0 = nm) && (decide (signV A (crtP A p0) p1 = wdK A m8 sa) && decide (0 ≤ wdK A m8 sa)))) else numIs A p0 0 && numIs A p1 0
def poB (ns : List Nd) (sd hd m1 m8 mo nm sa k : Int) : Bool := poC ns sd hd m1 sa k && poX (poA ns sd hd m1 sa) m8 mo nm sa ((poP ns sd hd k).getD 0 0) ((poP ns sd hd k).getD 1 0)
theorem overA_pre (ns : List Nd) (k s n d : Int) : ns <+: overA ns k s n d := by
  have mk : ∀ (ms : List Nd) (kd x y : Int), ms <+: makeA ms kd x y := fun ms kd x y => by unfold makeA; split; exact List.prefix_refl _; exact putA_pre _ _
  exact (putA_pre _ _).trans ((mk _ _ _ _).trans ((mk _ _ _ _).trans (mk _ _ _ _)))
theorem sideA_pre (ns : List Nd) (s n : Int) : ns <+: sideA ns s n := by
  have mk : ∀ (ms : List Nd) (kd x y : Int), ms <+: makeA ms kd x y := fun ms kd x y => by unfold makeA; split; exact List.prefix_refl _; exact putA_pre _ _
  exact (putA_pre _ _).trans (mk _ _ _ _)
theorem wdA_pre (ns : List Nd) (m d : Int) : ns <+: wdA ns m d := by
  have mk : ∀ (ms : List Nd) (kd x y : Int), ms <+: makeA ms kd x y := fun ms kd x y => by unfold makeA; split; exact List.prefix_refl _; exact putA_pre _ _
  have l : ∀ (xs : List Int) (ms : List Nd), ms <+: (listF xs ms).1 := fun xs => by
    induction xs with
    | nil => exact fun ms => putA_pre _ _
    | cons x xs ih => exact fun ms => (ih ms).trans (show _ <+: makeA (listF xs ms).1 2 x (listF xs ms).2 from mk _ _ _ _)
  exact (putA_pre _ _).trans ((mk _ _ _ _).trans (l _ _))
end Go.Proofs.Ytnjihmailppjkaa

namespace Go.Proofs.Ytnjihmailppjkaa
open Go.RowKit
set_option linter.unusedVariables false
set_option maxHeartbeats 1600000 in
theorem specEpochD_any (D : Nat → Prop) (g : Nat) (ns : List Nd) (k ep : Int) (w : World) (hl : ns.length ≤ 1048576) (h : ArD D w g ns) (hB : ∀ k, D k → k < w.heap.size) :
    Calls Try.prog 54 #[.pointer (some ⟨g, 0, none⟩), .int .i64 k, .int .i64 ep] w fun r w' => r = .returned (.int .i64 (epochK ns k ep)) ∧ ArD D w' g (epochA ns k ep) ∧ Safe D w w' := by
  have H0 : Hid (ArD D w g ns ∧ Safe D w w) := ⟨h, Safe.refl _ _⟩
  have HBO : Hid (∀ k, D k → k < w.heap.size) := hB
  obtain ⟨a, cap, h3, ha, hO⟩ := hdr_of h
  have hr := hO.row
  have c0 : w.cell? ⟨g, 0, none⟩ = some (.slice a ns.length cap) := by rw [cell_of_row w g 0 _ _ _ h3]; rfl
  have HR : Hid (RowN w.heap.size w a ns) := hr
  clear h h3 ha hr hO hB
  obtain ⟨d1, HD1⟩ : ∃ d, Hid (inB ep 0 8 = d) := ⟨_, rfl⟩
  obtain ⟨d2, HD2⟩ : ∃ d, Hid (okAt ns k = d) := ⟨_, rfl⟩
  have HE : Hid (epochB ns k ep = (d1 && d2)) := by show _ = _; unfold epochB; rw [HD1.out, HD2.out]
  cases d1
  · have HK : Hid (epochK ns k ep = -1 ∧ epochA ns k ep = ns) := ⟨by unfold epochK; rw [HE.out]; rfl, by unfold epochA; rw [HE.out]; rfl⟩
    clear HE
    go_enter Try.func54, Try.ntmps54
    go_wp2_with (go_at_call 30; refine (specIn_any _ _ _ _).mono ?_; rintro e w' ⟨rfl, rfl⟩; rw [HD1.out])
    go_ret
    exact ⟨by rw [HK.out.1]; rfl, by rw [HK.out.2]; exact H0.out.1, H0.out.2⟩
  · cases d2
    · have HK : Hid (epochK ns k ep = -1 ∧ epochA ns k ep = ns) := ⟨by unfold epochK; rw [HE.out]; rfl, by unfold epochA; rw [HE.out]; rfl⟩
      clear HE
      go_enter Try.func54, Try.ntmps54
      go_wp2_with (first | (go_at_call 30; refine (specIn_any _ _ _ _).mono ?_; rintro e w' ⟨rfl, rfl⟩; rw [HD1.out]) | fail)
      refine (specOk_any a cap ns k w hl HR.out).mono ?_
      rintro e w1 ⟨rfl, hb1⟩
      rw [HD2.out]
      have H1 : Hid (ArD D w1 g ns ∧ Safe D w w1) := ⟨H0.out.1.later hb1, Safe.of_below hb1 HBO.out⟩
      clear hb1 c0
      go_wp2
      go_ret
      exact ⟨by rw [HK.out.1]; rfl, by rw [HK.out.2]; exact H1.out.1, H1.out.2⟩
    · have hin := inB_true HD1.out
      obtain ⟨m0, rfl⟩ := Int.eq_ofNat_of_zero_le hin.1
      have hm8 : m0 ≤ 8 := by omega
      have HK : Hid (epochK ns k (m0 : Int) = (epochF ns k m0).2 ∧ epochA ns k (m0 : Int) = (epochF ns k m0).1) := ⟨by unfold epochK; rw [HE.out]; simp, by unfold epochA; rw [HE.out]; simp⟩
      clear HE hin
      go_enter Try.func54, Try.ntmps54
      go_wp2_with (first | (go_at_call 30; refine (specIn_any _ _ _ _).mono ?_; rintro e w' ⟨rfl, rfl⟩; rw [HD1.out]) | fail)
      refine (specOk_any a cap ns k w hl HR.out).mono ?_
      rintro e w1 ⟨rfl, hb1⟩
      rw [HD2.out]
      have H1 : Hid (ArD D w1 g ns ∧ Safe D w w1) := ⟨H0.out.1.later hb1, Safe.of_below hb1 HBO.out⟩
      clear hb1 c0 H0 HD1 HD2 HR
      go_wp2
      go_loopw [1, 7] (fun kv iv wr => ∃ m : Nat, m ≤ m0 ∧ iv = .int .i64 (m : Int) ∧ kv = .int .i64 (epochF ns k m).2 ∧ Hid (ArD D wr g (epochF ns k m).1 ∧ Safe D w wr))
        (fun _ iv _ => m0 - (intOf iv).toNat)
      case atStart => exact ⟨0, Nat.zero_le _, rfl, rfl, H1⟩
      case round =>
        clear H1
        obtain ⟨m, hm, rfl, rfl, H2⟩ := hrel
        by_cases hlt : m < m0
        · have hi1 : (m : Int) < (m0 : Int) := by omega
          have HC : Hid _ := specSideD_any D g (epochF ns k m).1 (epochF ns k m).2 30 wr (epochF_le hl m) H2.out.1 (H2.out.2.old HBO.out)
          go_wp2_with fail
          refine Calls.mono HC.out ?_
          rintro e w3 ⟨rfl, ha, hb⟩
          have H3 : Hid (ArD D w3 g (epochF ns k (m + 1)).1 ∧ Safe D w w3) := ⟨ha, H2.out.2.trans hb⟩
          clear ha hb HC H2
          go_wp2
          go_roundw
          case rel => exact ⟨m + 1, by omega, by go_num, rfl, H3⟩
          case measure => simp [intOf] <;> omega
        · obtain rfl : m = m0 := by omega
          go_wp2
          go_ret
          exact ⟨by rw [HK.out.1]; rfl, by rw [HK.out.2]; exact H2.out.1, H2.out.2⟩
theorem cellsN_take (ns : List Nd) (n : Nat) : cellsN (ns.take n) = (cellsN ns).take (n * 4) := by
  induction ns generalizing n with
  | nil => simp [cellsN]
  | cons x xs ih =>
    cases n with
    | zero => simp [cellsN]
    | succ n =>
      have := ih n
      simp only [cellsN, List.take_succ_cons, List.flatMap_cons] at this ⊢
      rw [this, show (n + 1) * 4 = (Nd.cells x).length + n * 4 from (by simp [Nd.cells] <;> omega), List.take_length_add_append]
/-- The header cut down. -/
theorem ArD.cut {D : Nat → Prop} {w : World} {g b c n : Nat} {ns : List Nd} (h : ArD D w g ns) (hg : w.heap[g]? = some (.cells #[.slice (some ⟨b, 0, none⟩) ns.length c] 39 (0, 0))) (hn : n ≤ ns.length) :
    ArD D (w.setCell ⟨g, 0, none⟩ (.slice (some ⟨b, 0, none⟩) n c)) g (ns.take n) := by
  obtain ⟨h1, h2, v, h3, h4, h5, h6⟩ := h
  obtain rfl : v = .slice (some ⟨b, 0, none⟩) ns.length c := by rw [h3] at hg; simpa using hg
  have hbg : b ≠ g := fun e => h5 (by rw [e]; rfl)
  refine ⟨h1, by simpa using h2, _, (heap_setCell_same _ _ 0 _ _ _ h3).trans rfl, ?_, fun e => h5 e, fun k hk => h6 k hk⟩
  rcases h4.2 with ⟨e, _⟩ | ⟨b', cp, cur, e, q1, q2, q3, q4, q5, q6⟩
  · cases e
  · cases e
    refine ⟨by rw [cellsN_take, List.length_take, h4.1]; simp <;> omega, .inr ⟨b, c, cur, by rw [List.length_take, Nat.min_eq_left hn], q1, (Below.heap_setCell _ _ _ _ hbg).trans q2, by simp <;> omega, q4, q5, ?_⟩⟩
    rw [cellsN_take, ← q6, List.take_take, List.length_take]
    congr 1
    omega
set_option maxHeartbeats 1600000 in
theorem specUndoA_any (D : Nat → Prop) (g : Nat) (ns : List Nd) (n : Nat) (w : World) (hl : ns.length ≤ 1048576) (hn : n ≤ ns.length) (h : ArD D w g ns) :
    Calls Try.prog 56 #[.pointer (some ⟨g, 0, none⟩), .int .i64 (n : Int)] w fun e w' => (∃ u, e = .returned u) ∧ ArD D w' g (ns.take n) ∧ Safe D w w' := by
  obtain ⟨a, c, hg, ha, -⟩ := hdr_of h
  have c0 : w.cell? ⟨g, 0, none⟩ = some (.slice a ns.length c) := (cell_of_row _ _ 0 _ _ _ hg).trans rfl
  have f0 : w.frozen? ⟨g, 0, none⟩ = false := frozen_of_row _ _ 0 _ _ hg
  have HS : Hid (∀ u, Safe D w (w.setCell ⟨g, 0, none⟩ u)) := fun u => (Safe.refl _ _).setCell h.1 u
  have hcap := hdr_cap h hg
  have h0 : (0 : Int) ≤ (n : Int) := by omega
  have h2 : (n : Int) ≤ (c : Int) := by omega
  by_cases hc : n < ns.length
  · have h1 : (n : Int) < (ns.length : Int) := by omega
    obtain ⟨b, rfl⟩ : ∃ b, a = some ⟨b, 0, none⟩ := by
      obtain ⟨_, _, v, h3, h4, _, _⟩ := h
      obtain rfl : v = .slice a ns.length c := by rw [h3] at hg; simpa using hg
      rcases h4.2 with ⟨e, _⟩ | ⟨b', cp, cur, e, _⟩
      · simp only [Value.slice.injEq] at e; omega
      · simp only [Value.slice.injEq] at e; exact ⟨b', e.1⟩
    have HA : Hid _ := h.cut hg hn
    clear h hg
    go_enter Try.func56, Try.ntmps56
    go_wp2
    refine bodyPost_end (results_none rfl _ _ _) rfl ?_
    refine ⟨⟨_, rfl⟩, ?_, HS.out _⟩
    first | exact HA.out | simpa [ArD] using HA.out
  · have h1 : ¬ (n : Int) < (ns.length : Int) := by omega
    have HA : Hid (ArD D w g (ns.take n)) := by show ArD _ _ _ _; rw [List.take_of_length_le (by omega)]; exact h
    clear h hg
    go_enter Try.func56, Try.ntmps56
    go_wp2
    refine bodyPost_end (results_none rfl _ _ _) rfl ?_
    exact ⟨⟨_, rfl⟩, HA.out, Safe.refl _ _⟩
end Go.Proofs.Ytnjihmailppjkaa
