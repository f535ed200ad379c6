/- The contracts of chapter 5's look, lookAtUsers and lookAround, the program's. -/
import Derived.Test.YtcmmbehnihelcaaReachE
import Derived.WalkKit
import Derived.WalkLawsBesides
import Derived.WalkSpells
import Derived.Laws.Rows
namespace Go.Proofs.Ytcmmbehnihelcaa
open Go.RowKit
set_option linter.unusedVariables false
theorem lookB_made_eq {ns : List Nd} {bs : List Bool} {k : Nat} (hk : k < bs.length) (hm : madeB ns bs (ns.getD k Nd.zero) = true) : lookB ns bs k = givesB (bs.set k true) (ns.getD k Nd.zero) := by
  have e : lookM ns bs k = bs.set k true := by unfold lookM; rw [if_pos hm]
  unfold lookB; rw [e, if_pos (by rw [getD_setT, if_pos ⟨rfl, hk⟩])]
theorem lookB_had_eq {ns : List Nd} {bs : List Bool} {k : Nat} (hm : madeB ns bs (ns.getD k Nd.zero) = false) (hb : bs.getD k false = true) : lookB ns bs k = givesB bs (ns.getD k Nd.zero) := by
  have e : lookM ns bs k = bs := by unfold lookM; rw [if_neg (by rw [hm]; decide)]
  unfold lookB; rw [e, if_pos hb]
theorem lookB_not_eq {ns : List Nd} {bs : List Bool} {k : Nat} (hm : madeB ns bs (ns.getD k Nd.zero) = false) (hb : bs.getD k false = false) : lookB ns bs k = bs := by
  have e : lookM ns bs k = bs := by unfold lookM; rw [if_neg (by rw [hm]; decide)]
  unfold lookB; rw [e, if_neg (by rw [hb]; decide)]
theorem take_nextU {us : List Nat} {m : Nat} (hm : m < us.length) : us.take (m + 1) = us.take m ++ [us.getD m 0] := by
  rw [List.take_add_one, List.getElem?_eq_getElem hm, List.getD_eq_getElem?_getD, List.getElem?_eq_getElem hm]; rfl
theorem getD_memU {us : List Nat} {m : Nat} (hm : m < us.length) : us.getD m 0 ∈ us := by
  rw [List.getD_eq_getElem?_getD, List.getElem?_eq_getElem hm]; exact List.getElem_mem hm
set_option maxHeartbeats 6400000 in
set_option maxRecDepth 20000 in
theorem look_one (w1 : World) (g h ca ub pb : Nat) (a : Option Addr) (ns : List Nd) (f : Fx w1 g h ub pb a ns) (bs : List Bool) (L : List (Nat × Nat)) (k : Nat) (w : World) (hk : k < ns.length) (s : Sm w1 g h ns.length ca ub pb a bs L w) (p : Pls ns.length bs L) :
    Calls Try.prog 52 #[.pointer (some ⟨g, 0, none⟩), .int .i64 (k : Int)] w fun e w' => e = .returned (.tuple #[]) ∧ StepTo w1 g h ns.length ca ub pb a L w (lookB ns bs k) w' := by
  obtain ⟨bA, oA, rfl, c0, c1, c2, c3⟩ := f.node s hk
  obtain ⟨x, hx⟩ : ∃ x, ns.getD k Nd.zero = x := ⟨_, rfl⟩
  have hl := f.len
  have hk0 : (0 : Int) ≤ (k : Int) := by omega
  have hk1 : (k : Int) < (ns.length : Int) := by omega
  rw [hx] at c0 c1 c2 c3
  obtain ⟨xk, xn, xa, xb⟩ := x
  simp only at c0 c1 c2 c3
  have r0 := s.c0
  have hbl : Hid (k < bs.length) := by show _ < _; rw [s.len]; exact hk
  have HXE : Hid (ns.getD k Nd.zero = ⟨xk, xn, xa, xb⟩) := hx
  have HF : Hid (Fx w1 g h ub pb (some ⟨bA, oA, none⟩) ns) := f
  have HE : Hid (Below w.heap.size w (w.alloc (.cells #[.int .i64 xk, .int .i64 xn, .int .i64 xa, .int .i64 xb] 34))) := (Below.refl _ _).alloc (Nat.le_refl _) _
  have HS : Hid (Sm w1 g h ns.length ca ub pb (some ⟨bA, oA, none⟩) bs L (w.alloc (.cells #[.int .i64 xk, .int .i64 xn, .int .i64 xa, .int .i64 xb] 34))) := s.next HE.out
  have HP : Hid (Pls ns.length bs L) := p
  have HX : Hid (∀ L' w', Kp g h L L' (w.alloc (.cells #[.int .i64 xk, .int .i64 xn, .int .i64 xa, .int .i64 xb] 34)) w' → w'.heap[w.heap.size]? = some (.cells #[.int .i64 xk, .int .i64 xn, .int .i64 xa, .int .i64 xb] 34)) := fun L' w' kk => s.box kk
  clear s p f hx
  go_enter Try.func52, Try.ntmps52
  go_wp2_with fail
  refine (canMake_any w1 g h ca ub pb (some ⟨bA, oA, none⟩) ns HF.out bs L k _ hk HS.out _ HXE.out).mono ?_
  rintro e w2 ⟨rfl, hb2⟩
  have HS2 : Hid (Sm w1 g h ns.length ca ub pb (some ⟨bA, oA, none⟩) bs L w2) := HS.out.next hb2
  have HK2 : Hid (Kp g h L L (w.alloc (.cells #[.int .i64 xk, .int .i64 xn, .int .i64 xa, .int .i64 xb] 34)) w2) := Kp.of hb2
  clear c0 c1 c2 c3 r0 hb2 HS
  cases hm : madeB ns bs ⟨xk, xn, xa, xb⟩ with
  | true =>
    have HEQ : Hid (lookB ns bs k = givesB (bs.set k true) ⟨xk, xn, xa, xb⟩) := by show _ = _; rw [lookB_made_eq hbl.out (by rw [HXE.out]; exact hm), HXE.out]
    clear hm
    go_wp2_with fail
    refine (comeC_any w1 g h ns.length ca ub pb (some ⟨bA, oA, none⟩) bs L k _ hl hk HS2.out HP.out).mono ?_
    rintro e w3 ⟨rfl, L3, s3, p3, k3⟩
    have hkk := HK2.out.trans k3
    have hbx := HX.out _ _ hkk
    have e0 : w3.cell? ⟨w.heap.size, 0, none⟩ = some (.int .i64 xk) := (cell_of_row _ _ 0 _ _ _ hbx).trans rfl
    have e1 : w3.cell? ⟨w.heap.size, 1, none⟩ = some (.int .i64 xn) := (cell_of_row _ _ 1 _ _ _ hbx).trans rfl
    have e2 : w3.cell? ⟨w.heap.size, 2, none⟩ = some (.int .i64 xa) := (cell_of_row _ _ 2 _ _ _ hbx).trans rfl
    have e3 : w3.cell? ⟨w.heap.size, 3, none⟩ = some (.int .i64 xb) := (cell_of_row _ _ 3 _ _ _ hbx).trans rfl
    have r1 := s3.c1
    have cB := BoolsAt.cell s3.had hk
    rw [getD_setT, if_pos ⟨rfl, hbl.out⟩] at cB
    have HS3 : Hid _ := s3
    have HP3 : Hid (Pls ns.length (bs.set k true) L3) := p3
    have HK3 : Hid (Kp g h L L3 w w3) := (Kp.of HE.out).trans hkk
    clear s3 p3 k3 hkk hbx HS2 HK2 HX HP
    go_wp2_with fail
    refine (takeApart_any w1 g h ca ub pb (some ⟨bA, oA, none⟩) ns HF.out (bs.set k true) L3 k _ hk HS3.out HP3.out _ HXE.out).mono ?_
    rintro e w4 ⟨rfl, L4, s4, p4, k4⟩
    have HFN : Hid (StepTo w1 g h ns.length ca ub pb (some ⟨bA, oA, none⟩) L w (givesB (bs.set k true) ⟨xk, xn, xa, xb⟩) w4) := StepTo.mk s4 p4 (HK3.out.trans k4)
    clear s4 p4 k4 e0 e1 e2 e3 r1 cB HS3 HP3 HK3
    go_wp2
    go_end0
    exact ⟨rfl, by rw [HEQ.out]; exact HFN.out⟩
  | false =>
    have hbx := HX.out _ _ HK2.out
    have e0 : w2.cell? ⟨w.heap.size, 0, none⟩ = some (.int .i64 xk) := (cell_of_row _ _ 0 _ _ _ hbx).trans rfl
    have e1 : w2.cell? ⟨w.heap.size, 1, none⟩ = some (.int .i64 xn) := (cell_of_row _ _ 1 _ _ _ hbx).trans rfl
    have e2 : w2.cell? ⟨w.heap.size, 2, none⟩ = some (.int .i64 xa) := (cell_of_row _ _ 2 _ _ _ hbx).trans rfl
    have e3 : w2.cell? ⟨w.heap.size, 3, none⟩ = some (.int .i64 xb) := (cell_of_row _ _ 3 _ _ _ hbx).trans rfl
    have r1 := HS2.out.c1
    have cB := BoolsAt.cell HS2.out.had hk
    have HK3 : Hid (Kp g h L L w w2) := (Kp.of HE.out).trans HK2.out
    clear hbx HK2 HX
    cases hb : bs.getD k false with
    | true =>
      have HEQ : Hid (lookB ns bs k = givesB bs ⟨xk, xn, xa, xb⟩) := by show _ = _; rw [lookB_had_eq (by rw [HXE.out]; exact hm) hb, HXE.out]
      rw [hb] at cB
      clear hm hb
      go_wp2_with fail
      refine (takeApart_any w1 g h ca ub pb (some ⟨bA, oA, none⟩) ns HF.out bs L k _ hk HS2.out HP.out _ HXE.out).mono ?_
      rintro e w4 ⟨rfl, L4, s4, p4, k4⟩
      have HFN : Hid (StepTo w1 g h ns.length ca ub pb (some ⟨bA, oA, none⟩) L w (givesB bs ⟨xk, xn, xa, xb⟩) w4) := StepTo.mk s4 p4 (HK3.out.trans k4)
      clear s4 p4 k4 e0 e1 e2 e3 r1 cB HS2 HP HK3
      go_wp2
      go_end0
      exact ⟨rfl, by rw [HEQ.out]; exact HFN.out⟩
    | false =>
      have HEQ : Hid (lookB ns bs k = bs) := lookB_not_eq (by rw [HXE.out]; exact hm) hb
      rw [hb] at cB
      clear hm hb
      have HFN : Hid (StepTo w1 g h ns.length ca ub pb (some ⟨bA, oA, none⟩) L w bs w2) := StepTo.mk HS2.out HP.out HK3.out
      clear HS2 HP HK3
      go_wp2
      go_end0
      exact ⟨rfl, by rw [HEQ.out]; exact HFN.out⟩
set_option maxHeartbeats 6400000 in
set_option maxRecDepth 20000 in
theorem lookUsers_any (w1 : World) (g h ca ub pb : Nat) (a : Option Addr) (ns : List Nd) (f : Fx w1 g h ub pb a ns) (bs : List Bool) (L : List (Nat × Nat)) (k : Nat) (w : World) (hk : k < ns.length) (s : Sm w1 g h ns.length ca ub pb a bs L w) (p : Pls ns.length bs L) :
    Calls Try.prog 91 #[.pointer (some ⟨g, 0, none⟩), .int .i64 (k : Int)] w fun e w' => e = .returned (.tuple #[]) ∧ StepTo w1 g h ns.length ca ub pb a L w (lookAll ns bs (usN ns k ns.length)) w' := by
  have hl := f.len
  have hk0 : (0 : Int) ≤ (k : Int) := by omega
  have hk1 : (k : Int) < (ns.length : Int) := by omega
  obtain ⟨ua, uc, hu, hrow⟩ := f.users k hk
  have r2 := s.c2
  have cU := (s.cell1 f.une k).trans hu
  have HLT : Hid (∀ m, m < (usN ns k ns.length).length → (usN ns k ns.length).getD m 0 < ns.length) := fun m hm => usN_lt ns k _ (getD_memU hm)
  have hul : (usN ns k ns.length).length ≤ 6000 := by have := usN_len ns k ns.length; omega
  generalize usN ns k ns.length = us at hrow cU HLT hul ⊢
  have HF : Hid (Fx w1 g h ub pb a ns) := f
  have HROW : Hid (us = [] ∨ ∃ b off, ua = some ⟨b, off, none⟩ ∧ b ≠ g ∧ b ≠ h ∧ b < w1.heap.size ∧ ∀ i, i < us.length → w1.cell? ⟨b, off + i, none⟩ = some (.int .i64 (us.getD i 0 : Nat))) := hrow
  have HZ : Hid (StepTo w1 g h ns.length ca ub pb a L w (lookAll ns bs (us.take 0)) w) := ⟨L, s, p, Kp.refl⟩
  clear hu hrow f s p
  go_enter Try.func91, Try.ntmps91
  go_wp2
  go_loopw [14] (fun iv wr => ∃ m : Nat, m ≤ us.length ∧ iv = .int .i64 (m : Int) ∧ Hid (StepTo w1 g h ns.length ca ub pb a L w (lookAll ns bs (us.take m)) wr))
    (fun iv _ => us.length - (intOf iv).toNat)
  case atStart => exact ⟨0, Nat.zero_le _, rfl, HZ⟩
  case round =>
    clear HZ cU r2
    obtain ⟨m, hm, rfl, HT⟩ := hrel
    by_cases hlt : m < us.length
    · have hi0 : (0 : Int) ≤ (m : Int) := by omega
      have hi1 : (m : Int) < (us.length : Int) := by omega
      obtain ⟨L2, s2, p2, k2⟩ := HT.out
      rcases HROW.out with h0 | ⟨b, off, rfl, b1, b2, b3, hcs⟩
      · rw [h0] at hlt; simp at hlt
      have cM := (s2.cell1 ⟨b1, b2, b3⟩ (off + m)).trans (hcs m hlt)
      have hlm := HLT.out m hlt
      have HEQ : Hid (lookAll ns bs (us.take (m + 1)) = lookB ns (lookAll ns bs (us.take m)) (us.getD m 0)) := by show _ = _; rw [take_nextU hlt, lookAll_append]
      have HC : Hid _ := look_one w1 g h ca ub pb a ns HF.out _ L2 (us.getD m 0) _ hlm s2 p2
      have HK2 : Hid (Kp g h L L2 w wr) := k2
      clear HT s2 p2 k2 hcs
      generalize us.getD m 0 = y at cM hlm HEQ HC
      go_wp2_with fail
      refine Calls.mono HC.out ?_
      rintro e w3 ⟨rfl, L3, s3, p3, k3⟩
      have HN : Hid (StepTo w1 g h ns.length ca ub pb a L w (lookAll ns bs (us.take (m + 1))) w3) := by show StepTo _ _ _ _ _ _ _ _ _ _ _ _; rw [HEQ.out]; exact StepTo.mk s3 p3 (HK2.out.trans k3)
      clear s3 p3 k3 HC HEQ HK2
      go_wp2
      go_roundw
      case rel => exact ⟨m + 1, by omega, by go_num, HN⟩
      case measure => simp [intOf] <;> omega
    · obtain rfl : m = us.length := by omega
      rw [List.take_length] at HT
      go_wp2
      go_end0
      exact ⟨rfl, HT.out⟩
end Go.Proofs.Ytcmmbehnihelcaa
