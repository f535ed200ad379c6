/- The contracts of chapter 5's takeApart, look, lookAtUsers and lookAround, the program's. -/
import Derived.Test.YtcmmbehnihelcaaReachD
import Derived.WalkKit
import Derived.WalkLawsBesides
import Derived.WalkSpells
import Derived.Laws.Rows
import Derived.Deep.QuietTactic
import Derived.BigQuiet
namespace Go.Proofs.Ytcmmbehnihelcaa
open Go.RowKit
set_option linter.unusedVariables false
/-- What a step ends in. -/
def StepTo (w1 : World) (g h n ca ub pb : Nat) (a : Option Addr) (L : List (Nat × Nat)) (w : World) (bs : List Bool) (w' : World) : Prop := ∃ L', Sm w1 g h n ca ub pb a bs L' w' ∧ Pls n bs L' ∧ Kp g h L L' w w'
theorem StepTo.mk {w1 : World} {g h n ca ub pb : Nat} {a : Option Addr} {L L' : List (Nat × Nat)} {w w' : World} {bs : List Bool} (s : Sm w1 g h n ca ub pb a bs L' w') (p : Pls n bs L') (k : Kp g h L L' w w') : StepTo w1 g h n ca ub pb a L w bs w' := ⟨L', s, p, k⟩
set_option maxHeartbeats 6400000 in
set_option maxRecDepth 20000 in
theorem takeApart_any (w1 : World) (g h ca ub pb : Nat) (a : Option Addr) (ns : List Nd) (f : Fx w1 g h ub pb a ns) (bs : List Bool) (L : List (Nat × Nat)) (k : Nat) (w : World) (hk : k < ns.length) (s : Sm w1 g h ns.length ca ub pb a bs L w) (p : Pls ns.length bs L) (x : Nd) (hx : ns.getD k Nd.zero = x) :
    Calls Try.prog 90 #[.pointer (some ⟨g, 0, none⟩), .agg #[.int .i64 x.k, .int .i64 x.n, .int .i64 x.a, .int .i64 x.b]] w fun e w' => e = .returned (.tuple #[]) ∧ StepTo w1 g h ns.length ca ub pb a L w (givesB bs x) w' := by
  have hn := (all_at f.ok hk).1
  rw [hx] at hn
  have hl := f.len
  obtain ⟨xk, xn, xa, xb⟩ := x
  clear hx f
  show Calls Try.prog 90 #[.pointer (some ⟨g, 0, none⟩), .agg #[.int .i64 xk, .int .i64 xn, .int .i64 xa, .int .i64 xb]] w fun e w' => e = .returned (.tuple #[]) ∧ StepTo w1 g h ns.length ca ub pb a L w (givesB bs ⟨xk, xn, xa, xb⟩) w'
  have HE : Hid (Below w.heap.size w (w.alloc (.cells #[.int .i64 xk, .int .i64 xn, .int .i64 xa, .int .i64 xb] 34))) := (Below.refl _ _).alloc (Nat.le_refl _) _
  have HW : Hid (Sm w1 g h ns.length ca ub pb a bs L w) := s
  have HS : Hid (Sm w1 g h ns.length ca ub pb a bs L (w.alloc (.cells #[.int .i64 xk, .int .i64 xn, .int .i64 xa, .int .i64 xb] 34))) := s.next HE.out
  have HP : Hid (Pls ns.length bs L) := p
  have HX : Hid (∀ L' w', Kp g h L L' (w.alloc (.cells #[.int .i64 xk, .int .i64 xn, .int .i64 xa, .int .i64 xb] 34)) w' → w'.heap[w.heap.size]? = some (.cells #[.int .i64 xk, .int .i64 xn, .int .i64 xa, .int .i64 xb] 34)) := fun L' w' kk => s.box kk
  clear s p
  by_cases h2 : xk = 2 ∨ xk = 8 ∨ xk = 5
  · have hnt := nodeB_true hn
    have hone : oneK xk = false := by rcases h2 with rfl | rfl | rfl <;> decide
    have hr : 0 ≤ xa ∧ xa < (k : Int) ∧ 0 ≤ xb ∧ xb < (k : Int) := by
      rcases hnt with q | q | q
      · simp only at q; omega
      · simp only at q; rw [hone] at q; simp at q
      · simp only at q; omega
    clear hnt hn hone
    obtain ⟨q1, q2, q3, q4⟩ := hr
    obtain ⟨i, rfl⟩ := Int.eq_ofNat_of_zero_le q1
    obtain ⟨j, rfl⟩ := Int.eq_ofNat_of_zero_le q3
    have hi2 : i < ns.length := by omega
    have hj2 : j < ns.length := by omega
    have hi0 : (0 : Int) ≤ (i : Int) := by omega
    have hi1 : (i : Int) < (ns.length : Int) := by omega
    rcases h2 with rfl | rfl | rfl
    · have HM : Hid (givesB bs ⟨2, xn, (i : Int), (j : Int)⟩ = (bs.set i true).set j true) := by show _ = _; unfold givesB; rw [if_pos rfl]; simp
      rw [HM.out]
      go_enter Try.func90, Try.ntmps90
      go_wp2_with fail
      refine (comeC_any w1 g h ns.length ca ub pb a bs L i _ hl hi2 HS.out HP.out).mono ?_
      rintro e w2 ⟨rfl, L2, s2, p2, k2⟩
      have hbx := HX.out _ _ k2
      have d3 : w2.cell? ⟨w.heap.size, 3, none⟩ = some (.int .i64 (j : Int)) := (cell_of_row _ _ 3 _ _ _ hbx).trans rfl
      have HS2 : Hid _ := s2
      have HP2 : Hid (Pls ns.length (bs.set i true) L2) := p2
      have HK2 : Hid (Kp g h L L2 w w2) := (Kp.of HE.out).trans k2
      clear hbx s2 p2 k2 HX HW HS HP
      go_wp2_with fail
      refine (comeC_any w1 g h ns.length ca ub pb a (bs.set i true) L2 j _ hl hj2 HS2.out HP2.out).mono ?_
      rintro e w3 ⟨rfl, L3, s3, p3, k3⟩
      have HF : Hid (StepTo w1 g h ns.length ca ub pb a L w ((bs.set i true).set j true) w3) := StepTo.mk s3 p3 (HK2.out.trans k3)
      clear s3 p3 k3 d3
      go_wp2
      go_end0
      exact ⟨rfl, HF.out⟩
    · have HM : Hid (givesB bs ⟨8, xn, (i : Int), (j : Int)⟩ = bs.set j true) := by show _ = _; unfold givesB; rw [if_neg (by show ¬ (8 : Int) = 2; decide), if_pos rfl]; simp
      rw [HM.out]
      go_enter Try.func90, Try.ntmps90
      go_wp2_with fail
      refine (comeC_any w1 g h ns.length ca ub pb a bs L j _ hl hj2 HS.out HP.out).mono ?_
      rintro e w3 ⟨rfl, L3, s3, p3, k3⟩
      have HF : Hid (StepTo w1 g h ns.length ca ub pb a L w (bs.set j true) w3) := StepTo.mk s3 p3 ((Kp.of HE.out).trans k3)
      clear s3 p3 k3
      go_wp2
      go_end0
      exact ⟨rfl, HF.out⟩
    · have HM : Hid (givesB bs ⟨5, xn, (i : Int), (j : Int)⟩ = if bs.getD i false = true then bs.set j true else bs) := by show _ = _; unfold givesB; rw [if_neg (by show ¬ (5 : Int) = 2; decide), if_neg (by show ¬ (5 : Int) = 8; decide), if_pos rfl]; simp
      rw [HM.out]
      have c1 := HS.out.c1
      have cB := BoolsAt.cell HS.out.had hi2
      generalize bs.getD i false = t at cB
      cases t
      · rw [if_neg (by decide)]
        have HF : Hid (∀ nq, StepTo w1 g h ns.length ca ub pb a L w bs ((w.alloc (.cells #[.int .i64 5, .int .i64 xn, .int .i64 (i : Int), .int .i64 (j : Int)] 34)).drewN nq)) := fun nq => StepTo.mk (HW.out.next (below_dn HE.out nq)) HP.out (Kp.of (below_dn HE.out nq))
        clear HM HX HW HS HP
        go_enter Try.func90, Try.ntmps90
        go_wp2_with fail
        go_quiet (fail)
        go_wp2
        go_end0
        exact ⟨rfl, HF.out _⟩
      · rw [if_pos rfl]
        have HSN : Hid (∀ nq, Sm w1 g h ns.length ca ub pb a bs L ((w.alloc (.cells #[.int .i64 5, .int .i64 xn, .int .i64 (i : Int), .int .i64 (j : Int)] 34)).drewN nq)) := fun nq => HW.out.next (below_dn HE.out nq)
        have HKN : Hid (∀ nq, Kp g h L L w ((w.alloc (.cells #[.int .i64 5, .int .i64 xn, .int .i64 (i : Int), .int .i64 (j : Int)] 34)).drewN nq)) := fun nq => Kp.of (below_dn HE.out nq)
        clear HM HX HW HS
        go_enter Try.func90, Try.ntmps90
        go_wp2_with fail
        go_quiet (fail)
        go_wp2_with fail
        refine (comeC_any w1 g h ns.length ca ub pb a bs L j _ hl hj2 (HSN.out _) HP.out).mono ?_
        rintro e w3 ⟨rfl, L3, s3, p3, k3⟩
        have HF : Hid (StepTo w1 g h ns.length ca ub pb a L w (bs.set j true) w3) := StepTo.mk s3 p3 ((HKN.out _).trans k3)
        clear s3 p3 k3 HSN HKN HP
        go_wp2
        go_end0
        exact ⟨rfl, HF.out⟩
  · have q2 : ¬ xk = 2 := fun e => h2 (.inl e)
    have q8 : ¬ xk = 8 := fun e => h2 (.inr (.inl e))
    have q5 : ¬ xk = 5 := fun e => h2 (.inr (.inr e))
    have HM : Hid (givesB bs ⟨xk, xn, xa, xb⟩ = bs) := by show _ = _; unfold givesB; rw [if_neg q2, if_neg q8, if_neg q5]
    have HF : Hid (StepTo w1 g h ns.length ca ub pb a L w bs (w.alloc (.cells #[.int .i64 xk, .int .i64 xn, .int .i64 xa, .int .i64 xb] 34))) := StepTo.mk HS.out HP.out (Kp.of HE.out)
    rw [HM.out]
    clear hn h2 HX HW HS HP HE HM
    go_enter Try.func90, Try.ntmps90
    go_wp2
    go_end0
    exact ⟨rfl, HF.out⟩
end Go.Proofs.Ytcmmbehnihelcaa
