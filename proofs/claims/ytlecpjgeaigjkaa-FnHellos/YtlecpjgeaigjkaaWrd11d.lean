/- Chapter 11's reader of words (the program's), and what it tells. -/
import Derived.Test.YtlecpjgeaigjkaaWrd11c
import Derived.Test.YtlecpjgeaigjkaaWrd11r
import Derived.Deep.QuietTactic
namespace Go.Proofs.Ytlecpjgeaigjkaa
open Go.RowKit
set_option linter.unusedVariables false
def numB (ns : List Nd) (k : Int) : Bool := isK ns k 2 && isK ns (ndAt ns k).a 1
def nceB (ns : List Nd) (k : Int) : Bool := isK ns k 2 && nonB ns (ndAt ns k).a
def pubB (ns : List Nd) (k : Int) : Bool := isK ns k 2 && isK ns (ndAt ns k).a 6
theorem numV_wf11 {ns : List Nd} {x : Int} (hf : ∀ y ∈ ns, y.Fits) : (Lit.int .i64 (numV ns x)).wf = true := by
  have h : -9223372036854775808 ≤ numV ns x ∧ numV ns x ≤ 9223372036854775807 := by
    unfold numV
    split
    · rename_i h1
      obtain ⟨i, rfl, hi⟩ := okAt_in (isK_ok h1).1
      rw [ndAt_nat]
      have := hf _ (getD_mem ns i hi)
      unfold Nd.Fits at this
      omega
    · omega
  exact WalkArith.wf_i64 h
theorem numC_ok {g : Nat} {a : Option Addr} {cap : Nat} {ns : List Nd} {k : Int} (hl : ns.length ≤ 1048576) (h : numB ns k = true) : ∀ wz, Rd g a cap ns k wz → Calls Try.prog 93 #[.pointer (some ⟨g, 0, none⟩)] wz (RdP g a cap ns (.int .i64 (numV ns (ndAt ns k).a)) ((ndAt ns k).b) wz) := by
  unfold numB at h
  rw [Bool.and_eq_true] at h
  exact fun wz hz => num_ok g a cap ns k _ _ _ wz hz (fun w hw => term_yes g a cap ns k w hl hw h.1) (fun w hw => numAt_yes _ g a cap ns _ w hl hw h.2)
theorem numC_no {g : Nat} {a : Option Addr} {cap : Nat} {ns : List Nd} {k : Int} (hl : ns.length ≤ 1048576) (h : numB ns k = false) : ∀ wz, Rd g a cap ns k wz → Calls Try.prog 93 #[.pointer (some ⟨g, 0, none⟩)] wz (RdN g wz) := by
  unfold numB at h
  intro wz hz
  cases h2 : isK ns k 2 with
  | false => exact num_f0 g a cap ns k wz hz (fun w hw => term_no g a cap ns k w hl hw h2)
  | true => rw [h2, Bool.true_and] at h; exact num_f1 g a cap ns k _ _ wz hz (fun w hw => term_yes g a cap ns k w hl hw h2) (fun w hw => numAt_no _ g a cap ns _ w hl hw h)
theorem nceC_ok {g : Nat} {a : Option Addr} {cap : Nat} {ns : List Nd} {k : Int} (hl : ns.length ≤ 1048576) (h : nceB ns k = true) : ∀ wz, Rd g a cap ns k wz → Calls Try.prog 96 #[.pointer (some ⟨g, 0, none⟩)] wz (RdP g a cap ns (.int .i64 (ndAt ns k).a) ((ndAt ns k).b) wz) := by
  unfold nceB nonB at h
  rw [Bool.and_eq_true, Bool.and_eq_true] at h
  exact fun wz hz => nonce_ok g a cap ns k _ _ _ wz hz (fun w hw => term_yes g a cap ns k w hl hw h.1) (fun w hw => numAt_yes _ g a cap ns _ w hl hw h.2.1) (of_decide_eq_true h.2.2)
theorem nceC_no {g : Nat} {a : Option Addr} {cap : Nat} {ns : List Nd} {k : Int} (hl : ns.length ≤ 1048576) (h : nceB ns k = false) : ∀ wz, Rd g a cap ns k wz → Calls Try.prog 96 #[.pointer (some ⟨g, 0, none⟩)] wz (RdN g wz) := by
  unfold nceB nonB at h
  intro wz hz
  cases h2 : isK ns k 2 with
  | false => exact nonce_f0 g a cap ns k wz hz (fun w hw => term_no g a cap ns k w hl hw h2)
  | true =>
    rw [h2, Bool.true_and] at h
    cases h1 : isK ns (ndAt ns k).a 1 with
    | false => exact nonce_f1 g a cap ns k _ _ wz hz (fun w hw => term_yes g a cap ns k w hl hw h2) (fun w hw => numAt_no _ g a cap ns _ w hl hw h1)
    | true => rw [h1, Bool.true_and] at h; exact nonce_f2 g a cap ns k _ _ _ wz hz (fun w hw => term_yes g a cap ns k w hl hw h2) (fun w hw => numAt_yes _ g a cap ns _ w hl hw h1) (by have := of_decide_eq_false h; omega)
theorem pubC_ok {g : Nat} {a : Option Addr} {cap : Nat} {ns : List Nd} {k : Int} (hl : ns.length ≤ 1048576) (h : pubB ns k = true) : ∀ wz, Rd g a cap ns k wz → Calls Try.prog 97 #[.pointer (some ⟨g, 0, none⟩)] wz (RdP g a cap ns (.int .i64 (ndAt ns k).a) ((ndAt ns k).b) wz) := by
  unfold pubB at h
  rw [Bool.and_eq_true] at h
  exact fun wz hz => pub_ok g a cap ns k _ _ (ndAt ns (ndAt ns k).a) wz hz (fun w hw => term_yes g a cap ns k w hl hw h.1) (fun w hw => implAt_yes 6 a cap ns _ w hl hw.row h.2)
theorem pubC_no {g : Nat} {a : Option Addr} {cap : Nat} {ns : List Nd} {k : Int} (hl : ns.length ≤ 1048576) (h : pubB ns k = false) : ∀ wz, Rd g a cap ns k wz → Calls Try.prog 97 #[.pointer (some ⟨g, 0, none⟩)] wz (RdN g wz) := by
  unfold pubB at h
  intro wz hz
  cases h2 : isK ns k 2 with
  | false => exact pub_f0 g a cap ns k wz hz (fun w hw => term_no g a cap ns k w hl hw h2)
  | true => rw [h2, Bool.true_and] at h; exact pub_f1 g a cap ns k _ _ ⟨0, 0, 0, 0⟩ wz hz (fun w hw => term_yes g a cap ns k w hl hw h2) (fun w hw => implAt_no 6 a cap ns _ w hl hw.row h)
theorem endC_ok {g : Nat} {a : Option Addr} {cap : Nat} {ns : List Nd} {k : Int} (hl : ns.length ≤ 1048576) (h : numIs ns k 0 = true) : ∀ wz, Rd g a cap ns k wz → Calls Try.prog 98 #[.pointer (some ⟨g, 0, none⟩)] wz (RdP g a cap ns (.tuple #[]) (k) wz) := fun wz hz => end_ok g a cap ns k wz hl hz h
theorem endC_no {g : Nat} {a : Option Addr} {cap : Nat} {ns : List Nd} {k : Int} (hl : ns.length ≤ 1048576) (h : numIs ns k 0 = false) : ∀ wz, Rd g a cap ns k wz → Calls Try.prog 98 #[.pointer (some ⟨g, 0, none⟩)] wz (RdN g wz) := fun wz hz => end_f g a cap ns k wz hl hz h
theorem numIs_zero (ns : List Nd) (k : Int) : partsN ns 0 k = if numIs ns k 0 = true then some [] else none := by
  unfold numIs partsN numV
  cases h : isK ns k 1
  · simp
  · simp
theorem partsN_if (ns : List Nd) (m : Nat) (k : Int) : partsN ns (m + 1) k = if isK ns k 2 = true then (partsN ns m (ndAt ns k).b).map ((ndAt ns k).a :: ·) else none := rfl
theorem parts_is2 (ns : List Nd) (k : Int) : partsR ns k 2 = if (isK ns k 2 && (isK ns (ndAt ns k).b 2 && numIs ns (ndAt ns (ndAt ns k).b).b 0)) = true then some [(ndAt ns k).a, (ndAt ns (ndAt ns k).b).a] else none := by
  unfold partsR
  rw [if_neg (by omega), show (2 : Int).toNat = 2 from rfl]
  simp only [partsN_if, numIs_zero]
  cases isK ns k 2
  · simp
  cases isK ns (ndAt ns k).b 2
  · simp
  cases numIs ns (ndAt ns (ndAt ns k).b).b 0
  · simp
  · simp
theorem parts_is3 (ns : List Nd) (k : Int) : partsR ns k 3 = if (isK ns k 2 && (isK ns (ndAt ns k).b 2 && (isK ns (ndAt ns (ndAt ns k).b).b 2 && numIs ns (ndAt ns (ndAt ns (ndAt ns k).b).b).b 0))) = true then some [(ndAt ns k).a, (ndAt ns (ndAt ns k).b).a, (ndAt ns (ndAt ns (ndAt ns k).b).b).a] else none := by
  unfold partsR
  rw [if_neg (by omega), show (3 : Int).toNat = 3 from rfl]
  simp only [partsN_if, numIs_zero]
  cases isK ns k 2
  · simp
  cases isK ns (ndAt ns k).b 2
  · simp
  cases isK ns (ndAt ns (ndAt ns k).b).b 2
  · simp
  cases numIs ns (ndAt ns (ndAt ns (ndAt ns k).b).b).b 0
  · simp
  · simp
theorem parts_is5 (ns : List Nd) (k : Int) : partsR ns k 5 = if (isK ns k 2 && (isK ns (ndAt ns k).b 2 && (isK ns (ndAt ns (ndAt ns k).b).b 2 && (isK ns (ndAt ns (ndAt ns (ndAt ns k).b).b).b 2 && (isK ns (ndAt ns (ndAt ns (ndAt ns (ndAt ns k).b).b).b).b 2 && numIs ns (ndAt ns (ndAt ns (ndAt ns (ndAt ns (ndAt ns k).b).b).b).b).b 0))))) = true then some [(ndAt ns k).a, (ndAt ns (ndAt ns k).b).a, (ndAt ns (ndAt ns (ndAt ns k).b).b).a, (ndAt ns (ndAt ns (ndAt ns (ndAt ns k).b).b).b).a, (ndAt ns (ndAt ns (ndAt ns (ndAt ns (ndAt ns k).b).b).b).b).a] else none := by
  unfold partsR
  rw [if_neg (by omega), show (5 : Int).toNat = 5 from rfl]
  simp only [partsN_if, numIs_zero]
  cases isK ns k 2
  · simp
  cases isK ns (ndAt ns k).b 2
  · simp
  cases isK ns (ndAt ns (ndAt ns k).b).b 2
  · simp
  cases isK ns (ndAt ns (ndAt ns (ndAt ns k).b).b).b 2
  · simp
  cases isK ns (ndAt ns (ndAt ns (ndAt ns (ndAt ns k).b).b).b).b 2
  · simp
  cases numIs ns (ndAt ns (ndAt ns (ndAt ns (ndAt ns (ndAt ns k).b).b).b).b).b 0
  · simp
  · simp
theorem srv_is (ns : List Nd) (k : Int) : srvB ns k = (numB ns k && ((numV ns (ndAt ns k).a == 62) && (nceB ns (ndAt ns k).b && (pubB ns (ndAt ns (ndAt ns k).b).b && numIs ns (ndAt ns (ndAt ns (ndAt ns k).b).b).b 0)))) ∧ (srvB ns k = true → p3 ns k 1 = (ndAt ns (ndAt ns k).b).a ∧ p3 ns k 2 = (ndAt ns (ndAt ns (ndAt ns k).b).b).a) := by
  unfold srvB p3 partsB partsV numB nceB pubB
  rw [parts_is3]
  cases isK ns k 2
  · simp
  cases isK ns (ndAt ns k).b 2
  · simp
  cases isK ns (ndAt ns (ndAt ns k).b).b 2
  · simp
  cases numIs ns (ndAt ns (ndAt ns (ndAt ns k).b).b).b 0
  · simp
  · simp [numIs, Bool.and_assoc]
    rfl
theorem nmB_in (x : Int) : nmB x = inB x 0 9 := by rw [nmB_is]; unfold inB; rw [Bool.eq_iff_iff]; simp; omega
theorem hel_is (ns : List Nd) (k : Int) : helB ns k = (numB ns k && ((numV ns (ndAt ns k).a == 61) && (numB ns (ndAt ns k).b && (numB ns (ndAt ns (ndAt ns k).b).b && (inB (numV ns (ndAt ns (ndAt ns k).b).a) 1 2 && (nmB (numV ns (ndAt ns (ndAt ns (ndAt ns k).b).b).a) && (nceB ns (ndAt ns (ndAt ns (ndAt ns k).b).b).b && (pubB ns (ndAt ns (ndAt ns (ndAt ns (ndAt ns k).b).b).b).b && numIs ns (ndAt ns (ndAt ns (ndAt ns (ndAt ns (ndAt ns k).b).b).b).b).b 0)))))))) ∧ (helB ns k = true → p5 ns k 1 = (ndAt ns (ndAt ns k).b).a ∧ p5 ns k 2 = (ndAt ns (ndAt ns (ndAt ns k).b).b).a ∧ p5 ns k 3 = (ndAt ns (ndAt ns (ndAt ns (ndAt ns k).b).b).b).a ∧ p5 ns k 4 = (ndAt ns (ndAt ns (ndAt ns (ndAt ns (ndAt ns k).b).b).b).b).a) := by
  unfold helB p5 partsB partsV numB nceB pubB
  rw [parts_is5]
  simp only [nmB_in]
  cases isK ns k 2
  · simp
  cases isK ns (ndAt ns k).b 2
  · simp
  cases isK ns (ndAt ns (ndAt ns k).b).b 2
  · simp
  cases isK ns (ndAt ns (ndAt ns (ndAt ns k).b).b).b 2
  · simp
  cases isK ns (ndAt ns (ndAt ns (ndAt ns (ndAt ns k).b).b).b).b 2
  · simp
  cases numIs ns (ndAt ns (ndAt ns (ndAt ns (ndAt ns (ndAt ns k).b).b).b).b).b 0
  · simp
  refine ⟨?_, fun _ => ⟨rfl, rfl, rfl, rfl⟩⟩
  simp only [Bool.true_and, Bool.and_true, if_true, Option.isSome_some, Option.getD_some, List.getD_cons_zero, List.getD_cons_succ, numIs]
  cases isK ns (ndAt ns k).a 1 <;> cases nonB ns (ndAt ns (ndAt ns (ndAt ns (ndAt ns k).b).b).b).a <;> cases isK ns (ndAt ns (ndAt ns (ndAt ns (ndAt ns (ndAt ns k).b).b).b).b).a 6 <;> cases isK ns (ndAt ns (ndAt ns k).b).a 1 <;> cases isK ns (ndAt ns (ndAt ns (ndAt ns k).b).b).a 1 <;> simp <;> rfl
theorem svW_any (g : Nat) (a : Option Addr) (cap : Nat) (ns : List Nd) (k : Int) (w : World) (hl : ns.length ≤ 1048576) (hs : Rd g a cap ns k w) : Calls Try.prog 67 #[.pointer (some ⟨g, 0, none⟩)] w fun e w' => ((srvB ns k = true ∧ e = .returned (.agg #[.int .i64 (p3 ns k 1), .int .i64 (p3 ns k 2)])) ∨ (srvB ns k = false ∧ e = notP)) ∧ w.grownBy w' (some g) := by
  have hE := (srv_is ns k).1
  have HV := (srv_is ns k).2
  have NO : ∀ {w' : World} {e : Ending}, srvB ns k = false → RdN g w e w' → ((srvB ns k = true ∧ e = .returned (.agg #[.int .i64 (p3 ns k 1), .int .i64 (p3 ns k 2)])) ∨ (srvB ns k = false ∧ e = notP)) ∧ w.grownBy w' (some g) := fun hb h => ⟨.inr ⟨hb, h.1⟩, h.2⟩
  cases h0 : numB ns k with
  | false =>
    refine Calls.mono (sv_f0 g a cap ns k 0 0 0 0 0 0 w hs (numC_no hl h0)) fun e w' h => NO ?_ h
    rw [hE, h0]; simp
  | true =>
    cases h1 : (numV ns (ndAt ns k).a == 62) with
    | false =>
      refine Calls.mono (sv_f1 g a cap ns k _ 0 0 _ 0 0 w hs (numC_ok hl h0) (h1)) fun e w' h => NO ?_ h
      rw [hE, h0, h1]; simp
    | true =>
      cases h2 : nceB ns (ndAt ns k).b with
      | false =>
        refine Calls.mono (sv_f2 g a cap ns k _ 0 0 _ 0 0 w hs (numC_ok hl h0) (h1) (nceC_no hl h2)) fun e w' h => NO ?_ h
        rw [hE, h0, h1, h2]; simp
      | true =>
        cases h3 : pubB ns (ndAt ns (ndAt ns k).b).b with
        | false =>
          refine Calls.mono (sv_f3 g a cap ns k _ _ 0 _ _ 0 w hs (numC_ok hl h0) (h1) (nceC_ok hl h2) (pubC_no hl h3)) fun e w' h => NO ?_ h
          rw [hE, h0, h1, h2, h3]; simp
        | true =>
          cases h4 : numIs ns (ndAt ns (ndAt ns (ndAt ns k).b).b).b 0 with
          | false =>
            refine Calls.mono (sv_f4 g a cap ns k _ _ _ _ _ _ w hs (numC_ok hl h0) (h1) (nceC_ok hl h2) (pubC_ok hl h3) (endC_no hl h4)) fun e w' h => NO ?_ h
            rw [hE, h0, h1, h2, h3, h4]; simp
          | true =>
            have hT : srvB ns k = true := by rw [hE, h0, h1, h2, h3, h4]; rfl
            refine Calls.mono (sv_ok g a cap ns k _ _ _ _ _ _ w hs (numC_ok hl h0) (h1) (nceC_ok hl h2) (pubC_ok hl h3) (endC_ok hl h4)) ?_
            rintro e w' ⟨rfl, -, hg⟩
            refine ⟨.inl ⟨hT, ?_⟩, hg⟩
            rw [(HV hT).1, (HV hT).2]
theorem hlW_any (g : Nat) (a : Option Addr) (cap : Nat) (ns : List Nd) (k : Int) (w : World) (hl : ns.length ≤ 1048576) (hs : Rd g a cap ns k w) (hf : ∀ y ∈ ns, y.Fits) : Calls Try.prog 59 #[.pointer (some ⟨g, 0, none⟩)] w fun e w' => ((helB ns k = true ∧ e = .returned (.agg #[.int .i64 (numV ns (p5 ns k 1)), .int .i64 (numV ns (p5 ns k 2)), .int .i64 (p5 ns k 3), .int .i64 (p5 ns k 4)])) ∨ (helB ns k = false ∧ e = notP)) ∧ w.grownBy w' (some g) := by
  have hwf : (Lit.int .i64 (numV ns (ndAt ns (ndAt ns (ndAt ns k).b).b).a)).wf = true := numV_wf11 hf
  have hE := (hel_is ns k).1
  have HV := (hel_is ns k).2
  have NO : ∀ {w' : World} {e : Ending}, helB ns k = false → RdN g w e w' → ((helB ns k = true ∧ e = .returned (.agg #[.int .i64 (numV ns (p5 ns k 1)), .int .i64 (numV ns (p5 ns k 2)), .int .i64 (p5 ns k 3), .int .i64 (p5 ns k 4)])) ∨ (helB ns k = false ∧ e = notP)) ∧ w.grownBy w' (some g) := fun hb h => ⟨.inr ⟨hb, h.1⟩, h.2⟩
  cases h0 : numB ns k with
  | false =>
    refine Calls.mono (hl_f0 g a cap ns k 0 0 0 0 0 0 0 0 0 0 w hs (numC_no hl h0)) fun e w' h => NO ?_ h
    rw [hE, h0]; simp
  | true =>
    cases h1 : (numV ns (ndAt ns k).a == 61) with
    | false =>
      refine Calls.mono (hl_f1 g a cap ns k _ 0 0 0 0 _ 0 0 0 0 w hs (numC_ok hl h0) (h1)) fun e w' h => NO ?_ h
      rw [hE, h0, h1]; simp
    | true =>
      cases h2 : numB ns (ndAt ns k).b with
      | false =>
        refine Calls.mono (hl_f2 g a cap ns k _ 0 0 0 0 _ 0 0 0 0 w hs (numC_ok hl h0) (h1) (numC_no hl h2)) fun e w' h => NO ?_ h
        rw [hE, h0, h1, h2]; simp
      | true =>
        cases h3 : numB ns (ndAt ns (ndAt ns k).b).b with
        | false =>
          refine Calls.mono (hl_f3 g a cap ns k _ _ 0 0 0 _ _ 0 0 0 w hs (numC_ok hl h0) (h1) (numC_ok hl h2) (numC_no hl h3)) fun e w' h => NO ?_ h
          rw [hE, h0, h1, h2, h3]; simp
        | true =>
          cases h4 : inB (numV ns (ndAt ns (ndAt ns k).b).a) 1 2 with
          | false =>
            refine Calls.mono (hl_f4 g a cap ns k _ _ _ 0 0 _ _ _ 0 0 w hs (numC_ok hl h0) (h1) (numC_ok hl h2) (numC_ok hl h3) (hwf) (h4)) fun e w' h => NO ?_ h
            rw [hE, h0, h1, h2, h3, h4]; simp
          | true =>
            cases h5 : nmB (numV ns (ndAt ns (ndAt ns (ndAt ns k).b).b).a) with
            | false =>
              refine Calls.mono (hl_f5 g a cap ns k _ _ _ 0 0 _ _ _ 0 0 w hs (numC_ok hl h0) (h1) (numC_ok hl h2) (numC_ok hl h3) (hwf) (h4) (h5)) fun e w' h => NO ?_ h
              rw [hE, h0, h1, h2, h3, h4, h5]; simp
            | true =>
              cases h6 : nceB ns (ndAt ns (ndAt ns (ndAt ns k).b).b).b with
              | false =>
                refine Calls.mono (hl_f6 g a cap ns k _ _ _ 0 0 _ _ _ 0 0 w hs (numC_ok hl h0) (h1) (numC_ok hl h2) (numC_ok hl h3) (hwf) (h4) (h5) (nceC_no hl h6)) fun e w' h => NO ?_ h
                rw [hE, h0, h1, h2, h3, h4, h5, h6]; simp
              | true =>
                cases h7 : pubB ns (ndAt ns (ndAt ns (ndAt ns (ndAt ns k).b).b).b).b with
                | false =>
                  refine Calls.mono (hl_f7 g a cap ns k _ _ _ _ 0 _ _ _ _ 0 w hs (numC_ok hl h0) (h1) (numC_ok hl h2) (numC_ok hl h3) (hwf) (h4) (h5) (nceC_ok hl h6) (pubC_no hl h7)) fun e w' h => NO ?_ h
                  rw [hE, h0, h1, h2, h3, h4, h5, h6, h7]; simp
                | true =>
                  cases h8 : numIs ns (ndAt ns (ndAt ns (ndAt ns (ndAt ns (ndAt ns k).b).b).b).b).b 0 with
                  | false =>
                    refine Calls.mono (hl_f8 g a cap ns k _ _ _ _ _ _ _ _ _ _ w hs (numC_ok hl h0) (h1) (numC_ok hl h2) (numC_ok hl h3) (hwf) (h4) (h5) (nceC_ok hl h6) (pubC_ok hl h7) (endC_no hl h8)) fun e w' h => NO ?_ h
                    rw [hE, h0, h1, h2, h3, h4, h5, h6, h7, h8]; simp
                  | true =>
                    have hT : helB ns k = true := by rw [hE, h0, h1, h2, h3, h4, h5, h6, h7, h8]; rfl
                    refine Calls.mono (hl_ok g a cap ns k _ _ _ _ _ _ _ _ _ _ w hs (numC_ok hl h0) (h1) (numC_ok hl h2) (numC_ok hl h3) (hwf) (h4) (h5) (nceC_ok hl h6) (pubC_ok hl h7) (endC_ok hl h8)) ?_
                    rintro e w' ⟨rfl, -, hg⟩
                    refine ⟨.inl ⟨hT, ?_⟩, hg⟩
                    obtain ⟨e1, e2, e3, e4⟩ := HV hT
                    rw [e1, e2, e3, e4]
end Go.Proofs.Ytlecpjgeaigjkaa

namespace Go.Proofs.Ytlecpjgeaigjkaa
open Go.RowKit
set_option linter.unusedVariables false
set_option maxHeartbeats 1600000 in
set_option maxRecDepth 20000 in
theorem implHelloIn_any (a : Option Addr) (cap : Nat) (ns : List Nd) (k : Int) (w : World) (hl : ns.length ≤ 1048576) (hf : ∀ y ∈ ns, y.Fits) (hr : RowN w.heap.size w a ns) :
    Calls Try.prog 26 #[.agg #[.slice a ns.length cap], .int .i64 k] w fun e w' => e = .returned (.tuple #[.agg #[.int .i64 (helM ns k), .int .i64 (helN ns k), .int .i64 (helO ns k), .int .i64 (helP ns k)], .bool (helB ns k)]) ∧ Below w.heap.size w w' := by
  obtain ⟨y0, y1, y2, y3, HR⟩ : ∃ y0 y1 y2 y3 : Int, Hid (∀ wz, Below w.heap.size w wz → Calls Try.prog 58 #[.agg #[.slice a ns.length cap], .int .i64 k, .func (.func 59) #[] #[]] wz fun e w' => e = .returned (.tuple #[.agg #[.int .i64 (helM ns k), .int .i64 (helN ns k), .int .i64 (helO ns k), .int .i64 (helP ns k)], .bool (helB ns k)]) ∧ Below wz.heap.size wz w') := by
    refine ⟨0, 0, 0, 0, fun wz hb => ?_⟩
    refine (readHl_any a cap ns k (numV ns (p5 ns k 1)) (numV ns (p5 ns k 2)) (p5 ns k 3) (p5 ns k 4) (helB ns k) wz hl (hr.grown hb) (fun g wy hy => hlW_any g a cap ns k wy hl hy hf)).mono ?_
    rintro e w' ⟨⟨hb, rfl⟩ | ⟨hb, rfl⟩, h2⟩
    · refine ⟨?_, h2⟩
      unfold helM helN helO helP
      rw [hb]; rfl
    · refine ⟨?_, h2⟩
      unfold helM helN helO helP
      rw [hb]; rfl
  have hb0 : Below w.heap.size w ((w.alloc (.cells #[.slice a ns.length cap] 30)).alloc (.cells #[.int .i64 0, .int .i64 0, .int .i64 0, .int .i64 0] 34)) := ((Below.refl _ _).alloc (Nat.le_refl _) _).alloc (by simp) _
  have hz : ((w.alloc (.cells #[.slice a ns.length cap] 30)).alloc (.cells #[.int .i64 0, .int .i64 0, .int .i64 0, .int .i64 0] 34)).heap[w.heap.size + 1]? = some (.cells #[.int .i64 0, .int .i64 0, .int .i64 0, .int .i64 0] 34 (0, 0)) := by
    have := heap_alloc_new (w.alloc (.cells #[.slice a ns.length cap] 30)) (.cells #[.int .i64 0, .int .i64 0, .int .i64 0, .int .i64 0] 34)
    simpa using this
  have hA : ((w.alloc (.cells #[.slice a ns.length cap] 30)).alloc (.cells #[.int .i64 0, .int .i64 0, .int .i64 0, .int .i64 0] 34)).heap[w.heap.size]? = some (.cells #[.slice a ns.length cap] 30 (0, 0)) := (heap_alloc_old _ _ (by simp)).trans (heap_alloc_new w _)
  have c0 : ((w.alloc (.cells #[.slice a ns.length cap] 30)).alloc (.cells #[.int .i64 0, .int .i64 0, .int .i64 0, .int .i64 0] 34)).cell? ⟨w.heap.size, 0, none⟩ = some (.slice a ns.length cap) := (cell_of_row _ _ 0 _ _ _ hA).trans rfl
  have HC : Hid _ := HR.out _ hb0
  have hs0 : ((w.alloc (.cells #[.slice a ns.length cap] 30)).alloc (.cells #[.int .i64 0, .int .i64 0, .int .i64 0, .int .i64 0] 34)).heap.size = w.heap.size + 2 := by simp
  generalize helM ns k = x0 at HC ⊢
  generalize helN ns k = x1 at HC ⊢
  generalize helO ns k = x2 at HC ⊢
  generalize helP ns k = x3 at HC ⊢
  generalize helB ns k = bb at HC ⊢
  clear hr hf HR hA
  go_enter Try.func26, Try.ntmps26
  go_wp2_with fail
  generalize (w.alloc (.cells #[.slice a ns.length cap] 30)).alloc (.cells #[.int .i64 0, .int .i64 0, .int .i64 0, .int .i64 0] 34) = w0 at hb0 hz c0 HC hs0 ⊢
  refine Calls.mono HC.out ?_
  rintro e w1 ⟨rfl, hb1⟩
  have hz1 := (hb1.block (w.heap.size + 1) (by omega)).trans hz
  have e0 : w1.cell? ⟨w.heap.size + 1, 0, none⟩ = some (.int .i64 0) := (cell_of_row _ _ 0 _ _ _ hz1).trans rfl
  have e1 : w1.cell? ⟨w.heap.size + 1, 1, none⟩ = some (.int .i64 0) := (cell_of_row _ _ 1 _ _ _ hz1).trans rfl
  have e2 : w1.cell? ⟨w.heap.size + 1, 2, none⟩ = some (.int .i64 0) := (cell_of_row _ _ 2 _ _ _ hz1).trans rfl
  have e3 : w1.cell? ⟨w.heap.size + 1, 3, none⟩ = some (.int .i64 0) := (cell_of_row _ _ 3 _ _ _ hz1).trans rfl
  have f0 : w1.frozen? ⟨w.heap.size + 1, 0, none⟩ = false := frozen_of_row _ _ 0 _ _ hz1
  have f1 : w1.frozen? ⟨w.heap.size + 1, 1, none⟩ = false := frozen_of_row _ _ 1 _ _ hz1
  have f2 : w1.frozen? ⟨w.heap.size + 1, 2, none⟩ = false := frozen_of_row _ _ 2 _ _ hz1
  have f3 : w1.frozen? ⟨w.heap.size + 1, 3, none⟩ = false := frozen_of_row _ _ 3 _ _ hz1
  have HX : Hid _ := set4r hz1 (.int .i64 x0) (.int .i64 x1) (.int .i64 x2) (.int .i64 x3)
  have hB1 : Below w.heap.size w w1 := hb0.trans (hb1.mono (by omega))
  have HB : Hid (Below w.heap.size w ((((w1.setCell ⟨w.heap.size + 1, 0, none⟩ (.int .i64 x0)).setCell ⟨w.heap.size + 1, 1, none⟩ (.int .i64 x1)).setCell ⟨w.heap.size + 1, 2, none⟩ (.int .i64 x2)).setCell ⟨w.heap.size + 1, 3, none⟩ (.int .i64 x3))) := below4 (g := w.heap.size + 1) hB1 (by omega) _ _ _ _
  clear hB1 hb1 hz1 hb0 hz c0 HC hs0
  go_wp2
  refine bodyPost_ret (res_cell2 rfl _ _ (w.heap.size + 1) 34 #[.int .i64 x0, .int .i64 x1, .int .i64 x2, .int .i64 x3] (0, 0) _ rfl ?_ Try.underlying34 rfl sizeHl) rfl ?_
  · exact HX.out
  · exact ⟨rfl, HB.out⟩
set_option maxHeartbeats 1600000 in
set_option maxRecDepth 20000 in
theorem implServerIn_any (a : Option Addr) (cap : Nat) (ns : List Nd) (k : Int) (w : World) (hl : ns.length ≤ 1048576) (hr : RowN w.heap.size w a ns) :
    Calls Try.prog 29 #[.agg #[.slice a ns.length cap], .int .i64 k] w fun e w' => e = .returned (.tuple #[.int .i64 (srvN ns k), .int .i64 (srvP ns k), .bool (srvB ns k)]) ∧ Below w.heap.size w w' := by
  have hb0 : Below w.heap.size w (w.alloc (.cells #[.slice a ns.length cap] 30)) := (Below.refl _ _).alloc (Nat.le_refl _) _
  have hA := heap_alloc_new w (.cells #[.slice a ns.length cap] 30)
  have c0 : (w.alloc (.cells #[.slice a ns.length cap] 30)).cell? ⟨w.heap.size, 0, none⟩ = some (.slice a ns.length cap) := (cell_of_row _ _ 0 _ _ _ hA).trans rfl
  have HC : Hid _ := readSv_any a cap ns k (p3 ns k 1) (p3 ns k 2) (srvB ns k) _ hl (hr.grown hb0) (fun g wy hy => svW_any g a cap ns k wy hl hy)
  have hs0 : (w.alloc (.cells #[.slice a ns.length cap] 30)).heap.size = w.heap.size + 1 := by simp
  unfold srvN srvP
  generalize p3 ns k 1 = x0 at HC ⊢
  generalize p3 ns k 2 = x1 at HC ⊢
  cases hbb : srvB ns k with
  | true =>
    rw [hbb] at HC
    rw [if_pos rfl, if_pos rfl]
    clear hr hA hbb
    go_enter Try.func29, Try.ntmps29
    go_wp2_with fail
    generalize w.alloc (.cells #[.slice a ns.length cap] 30) = w0 at hb0 c0 HC hs0 ⊢
    refine Calls.mono HC.out ?_
    rintro e w1 ⟨⟨-, rfl⟩ | ⟨h, -⟩, hb1⟩
    · have hN := heap_alloc_new w1 (.cells #[.int .i64 x0, .int .i64 x1] 80)
      have HB : Hid (Below w.heap.size w (w1.alloc (.cells #[.int .i64 x0, .int .i64 x1] 80))) := (hb0.trans (hb1.mono (by omega))).alloc (by have := hb1.size; omega) _
      have d0 : (w1.alloc (.cells #[.int .i64 x0, .int .i64 x1] 80)).cell? ⟨w1.heap.size, 0, none⟩ = some (.int .i64 x0) := (cell_of_row _ _ 0 _ _ _ hN).trans rfl
      have d1 : (w1.alloc (.cells #[.int .i64 x0, .int .i64 x1] 80)).cell? ⟨w1.heap.size, 1, none⟩ = some (.int .i64 x1) := (cell_of_row _ _ 1 _ _ _ hN).trans rfl
      clear hb1 hb0 c0 HC hs0 hN
      go_wp2_with fail
      generalize w1.alloc (.cells #[.int .i64 x0, .int .i64 x1] 80) = w2 at HB d0 d1 ⊢
      go_quiet (fail)
      go_wp2
      go_ret3
      exact ⟨rfl, below_dn HB.out _⟩
    · cases h
  | false =>
    rw [hbb] at HC
    rw [if_neg (by decide), if_neg (by decide)]
    clear hr hA hbb
    go_enter Try.func29, Try.ntmps29
    go_wp2_with fail
    generalize w.alloc (.cells #[.slice a ns.length cap] 30) = w0 at hb0 c0 HC hs0 ⊢
    refine Calls.mono HC.out ?_
    rintro e w1 ⟨⟨h, -⟩ | ⟨-, rfl⟩, hb1⟩
    · cases h
    · have HB : Hid (Below w.heap.size w (w1.alloc (.cells #[.int .i64 0, .int .i64 0] 80))) := (hb0.trans (hb1.mono (by omega))).alloc (by have := hb1.size; omega) _
      clear hb1 hb0 c0 HC hs0
      go_wp2
      go_ret3
      exact ⟨rfl, HB.out⟩
end Go.Proofs.Ytlecpjgeaigjkaa
