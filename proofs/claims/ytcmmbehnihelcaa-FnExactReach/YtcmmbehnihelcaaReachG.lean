/- The contract of chapter 5's lookAround, the program's. -/
import Derived.Test.YtcmmbehnihelcaaReachF
import Derived.WalkKit
import Derived.WalkLawsBesides
import Derived.WalkSpells
import Derived.Laws.Rows
namespace Go.Proofs.Ytcmmbehnihelcaa
open Go.RowKit
set_option linter.unusedVariables false
set_option maxHeartbeats 6400000 in
set_option maxRecDepth 20000 in
theorem lookAround_any (w1 : World) (g h ca ub pb : Nat) (a : Option Addr) (ns : List Nd) (f : Fx w1 g h ub pb a ns) (bs : List Bool) (L : List (Nat × Nat)) (k : Nat) (w : World) (hk : k < ns.length) (s : Sm w1 g h ns.length ca ub pb a bs L w) (p : Pls ns.length bs L) :
    Calls Try.prog 53 #[.pointer (some ⟨g, 0, none⟩), .int .i64 (k : Int)] w fun e w' => e = .returned (.tuple #[]) ∧ StepTo w1 g h ns.length ca ub pb a L w (around ns bs k) w' := by
  have hl := f.len
  have hk0 : (0 : Int) ≤ (k : Int) := by omega
  have hk1 : (k : Int) < (ns.length : Int) := by omega
  have HF : Hid (Fx w1 g h ub pb a ns) := f
  have HC : Hid _ := look_one w1 g h ca ub pb a ns f bs L k w hk s p
  clear f s p
  go_enter Try.func53, Try.ntmps53
  go_wp2_with fail
  refine Calls.mono HC.out ?_
  rintro e w2 ⟨rfl, L2, s2, p2, k2⟩
  have HC2 : Hid _ := lookUsers_any w1 g h ca ub pb a ns HF.out _ L2 k w2 hk s2 p2
  have HK2 : Hid (Kp g h L L2 w w2) := k2
  clear s2 p2 k2 HC
  go_wp2_with fail
  refine Calls.mono HC2.out ?_
  rintro e w3 ⟨rfl, L3, s3, p3, k3⟩
  have HK3 : Hid (Kp g h L L3 w w3) := HK2.out.trans k3
  clear k3 HK2 HC2
  obtain ⟨bA, oA, ea, c0, c1, c2, c3⟩ := HF.out.node s3 hk
  obtain ⟨x, hx⟩ : ∃ x, ns.getD k Nd.zero = x := ⟨_, rfl⟩
  have hn := (all_at HF.out.ok hk).1
  rw [hx] at c0 c1 c2 c3 hn
  obtain ⟨xk, xn, xa, xb⟩ := x
  simp only at c0 c1 c2 c3
  have r0 := s3.c0
  rw [ea] at r0
  have HXE : Hid (ns.getD k Nd.zero = ⟨xk, xn, xa, xb⟩) := hx
  have HE : Hid (Below w3.heap.size w3 (w3.alloc (.cells #[.int .i64 xk, .int .i64 xn, .int .i64 xa, .int .i64 xb] 34))) := (Below.refl _ _).alloc (Nat.le_refl _) _
  by_cases h6 : xk = 6
  · subst h6
    have hnt := nodeB_true hn
    have hr : 0 ≤ xa ∧ xa < (k : Int) := by
      rcases hnt with q | q | q <;> simp only at q <;> omega
    clear hnt hn
    obtain ⟨q1, q2⟩ := hr
    obtain ⟨i, rfl⟩ := Int.eq_ofNat_of_zero_le q1
    have HEQ : Hid (around ns bs k = lookAll ns (lookAll ns (lookB ns bs k) (usN ns k ns.length)) (usN ns i ns.length)) := by show _ = _; unfold around; rw [HXE.out, if_pos rfl]; simp
    have HC4 : Hid _ := lookUsers_any w1 g h ca ub pb a ns HF.out _ L3 i (w3.alloc (.cells #[.int .i64 6, .int .i64 xn, .int .i64 (i : Int), .int .i64 xb] 34)) (by omega) (s3.next HE.out) p3
    have HK4 : Hid (Kp g h L L3 w (w3.alloc (.cells #[.int .i64 6, .int .i64 xn, .int .i64 (i : Int), .int .i64 xb] 34))) := HK3.out.trans (Kp.of HE.out)
    clear s3 p3 hx
    go_wp2_with fail
    refine Calls.mono HC4.out ?_
    rintro e w4 ⟨rfl, L4, s4, p4, k4⟩
    have HFN : Hid (StepTo w1 g h ns.length ca ub pb a L w (around ns bs k) w4) := by show StepTo _ _ _ _ _ _ _ _ _ _ _ _; rw [HEQ.out]; exact StepTo.mk s4 p4 (HK4.out.trans k4)
    clear s4 p4 k4 HC4 HK4 HEQ
    go_wp2
    go_end0
    exact ⟨rfl, HFN.out⟩
  · have HEQ : Hid (around ns bs k = lookAll ns (lookB ns bs k) (usN ns k ns.length)) := by show _ = _; unfold around; rw [HXE.out, if_neg h6]
    have HFN : Hid (StepTo w1 g h ns.length ca ub pb a L w (around ns bs k) (w3.alloc (.cells #[.int .i64 xk, .int .i64 xn, .int .i64 xa, .int .i64 xb] 34))) := by show StepTo _ _ _ _ _ _ _ _ _ _ _ _; rw [HEQ.out]; exact StepTo.mk (s3.next HE.out) p3 (HK3.out.trans (Kp.of HE.out))
    clear s3 p3 hx hn
    go_wp2
    go_end0
    exact ⟨rfl, HFN.out⟩
end Go.Proofs.Ytcmmbehnihelcaa
