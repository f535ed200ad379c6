/- Chapter 11's reader of words (the program's), and what it tells. -/
import Derived.Test.YtagjdhiicpglaaaWrd11c
import Derived.Test.YtagjdhiicpglaaaPlacesW
namespace Go.Proofs.Ytagjdhiicpglaaa
open Go.RowKit
set_option linter.unusedVariables false
def numB (ns : List Nd) (k : Int) : Bool := isK ns k 2 && isK ns (ndAt ns k).a 1
def nceB (ns : List Nd) (k : Int) : Bool := isK ns k 2 && nonB ns (ndAt ns k).a
def pubB (ns : List Nd) (k : Int) : Bool := isK ns k 2 && isK ns (ndAt ns k).a 6
theorem numV_wf11 {ns : List Nd} {x : Int} (hf : ∀ y ∈ ns, y.Fits) : (Lit.int .i64 (numV ns x)).wf = true := by
  have h : -9223372036854775808 ≤ numV ns x ∧ numV ns x ≤ 9223372036854775807 := by
    unfold numV
    split
    · rename_i h1
      obtain ⟨i, rfl, hi⟩ := okAt_in (isK_ok h1).1
      rw [ndAt_nat]
      have := hf _ (getD_mem ns i hi)
      unfold Nd.Fits at this
      omega
    · omega
  exact WalkArith.wf_i64 h
theorem numC_ok {g : Nat} {a : Option Addr} {cap : Nat} {ns : List Nd} {k : Int} (hl : ns.length ≤ 1048576) (h : numB ns k = true) : ∀ wz, Rd g a cap ns k wz → Calls Try.prog 23 #[.pointer (some ⟨g, 0, none⟩)] wz (RdP g a cap ns (.int .i64 (numV ns (ndAt ns k).a)) ((ndAt ns k).b) wz) := by
  unfold numB at h
  rw [Bool.and_eq_true] at h
  exact fun wz hz => num_ok g a cap ns k _ _ _ wz hz (fun w hw => term_yes g a cap ns k w hl hw h.1) (fun w hw => numAt_yes _ g a cap ns _ w hl hw h.2)
theorem numC_no {g : Nat} {a : Option Addr} {cap : Nat} {ns : List Nd} {k : Int} (hl : ns.length ≤ 1048576) (h : numB ns k = false) : ∀ wz, Rd g a cap ns k wz → Calls Try.prog 23 #[.pointer (some ⟨g, 0, none⟩)] wz (RdN g wz) := by
  unfold numB at h
  intro wz hz
  cases h2 : isK ns k 2 with
  | false => exact num_f0 g a cap ns k wz hz (fun w hw => term_no g a cap ns k w hl hw h2)
  | true => rw [h2, Bool.true_and] at h; exact num_f1 g a cap ns k _ _ wz hz (fun w hw => term_yes g a cap ns k w hl hw h2) (fun w hw => numAt_no _ g a cap ns _ w hl hw h)
theorem endC_ok {g : Nat} {a : Option Addr} {cap : Nat} {ns : List Nd} {k : Int} (hl : ns.length ≤ 1048576) (h : numIs ns k 0 = true) : ∀ wz, Rd g a cap ns k wz → Calls Try.prog 26 #[.pointer (some ⟨g, 0, none⟩)] wz (RdP g a cap ns (.tuple #[]) (k) wz) := fun wz hz => end_ok g a cap ns k wz hl hz h
theorem endC_no {g : Nat} {a : Option Addr} {cap : Nat} {ns : List Nd} {k : Int} (hl : ns.length ≤ 1048576) (h : numIs ns k 0 = false) : ∀ wz, Rd g a cap ns k wz → Calls Try.prog 26 #[.pointer (some ⟨g, 0, none⟩)] wz (RdN g wz) := fun wz hz => end_f g a cap ns k wz hl hz h
theorem numIs_zero (ns : List Nd) (k : Int) : partsN ns 0 k = if numIs ns k 0 = true then some [] else none := by
  unfold numIs partsN numV
  cases h : isK ns k 1
  · simp
  · simp
theorem partsN_if (ns : List Nd) (m : Nat) (k : Int) : partsN ns (m + 1) k = if isK ns k 2 = true then (partsN ns m (ndAt ns k).b).map ((ndAt ns k).a :: ·) else none := rfl
theorem parts_is2 (ns : List Nd) (k : Int) : partsR ns k 2 = if (isK ns k 2 && (isK ns (ndAt ns k).b 2 && numIs ns (ndAt ns (ndAt ns k).b).b 0)) = true then some [(ndAt ns k).a, (ndAt ns (ndAt ns k).b).a] else none := by
  unfold partsR
  rw [if_neg (by omega), show (2 : Int).toNat = 2 from rfl]
  simp only [partsN_if, numIs_zero]
  cases isK ns k 2
  · simp
  cases isK ns (ndAt ns k).b 2
  · simp
  cases numIs ns (ndAt ns (ndAt ns k).b).b 0
  · simp
  · simp
theorem parts_is3 (ns : List Nd) (k : Int) : partsR ns k 3 = if (isK ns k 2 && (isK ns (ndAt ns k).b 2 && (isK ns (ndAt ns (ndAt ns k).b).b 2 && numIs ns (ndAt ns (ndAt ns (ndAt ns k).b).b).b 0))) = true then some [(ndAt ns k).a, (ndAt ns (ndAt ns k).b).a, (ndAt ns (ndAt ns (ndAt ns k).b).b).a] else none := by
  unfold partsR
  rw [if_neg (by omega), show (3 : Int).toNat = 3 from rfl]
  simp only [partsN_if, numIs_zero]
  cases isK ns k 2
  · simp
  cases isK ns (ndAt ns k).b 2
  · simp
  cases isK ns (ndAt ns (ndAt ns k).b).b 2
  · simp
  cases numIs ns (ndAt ns (ndAt ns (ndAt ns k).b).b).b 0
  · simp
  · simp
theorem parts_is5 (ns : List Nd) (k : Int) : partsR ns k 5 = if (isK ns k 2 && (isK ns (ndAt ns k).b 2 && (isK ns (ndAt ns (ndAt ns k).b).b 2 && (isK ns (ndAt ns (ndAt ns (ndAt ns k).b).b).b 2 && (isK ns (ndAt ns (ndAt ns (ndAt ns (ndAt ns k).b).b).b).b 2 && numIs ns (ndAt ns (ndAt ns (ndAt ns (ndAt ns (ndAt ns k).b).b).b).b).b 0))))) = true then some [(ndAt ns k).a, (ndAt ns (ndAt ns k).b).a, (ndAt ns (ndAt ns (ndAt ns k).b).b).a, (ndAt ns (ndAt ns (ndAt ns (ndAt ns k).b).b).b).a, (ndAt ns (ndAt ns (ndAt ns (ndAt ns (ndAt ns k).b).b).b).b).a] else none := by
  unfold partsR
  rw [if_neg (by omega), show (5 : Int).toNat = 5 from rfl]
  simp only [partsN_if, numIs_zero]
  cases isK ns k 2
  · simp
  cases isK ns (ndAt ns k).b 2
  · simp
  cases isK ns (ndAt ns (ndAt ns k).b).b 2
  · simp
  cases isK ns (ndAt ns (ndAt ns (ndAt ns k).b).b).b 2
  · simp
  cases isK ns (ndAt ns (ndAt ns (ndAt ns (ndAt ns k).b).b).b).b 2
  · simp
  cases numIs ns (ndAt ns (ndAt ns (ndAt ns (ndAt ns (ndAt ns k).b).b).b).b).b 0
  · simp
  · simp
theorem srv_is (ns : List Nd) (k : Int) : srvB ns k = (numB ns k && ((numV ns (ndAt ns k).a == 62) && (nceB ns (ndAt ns k).b && (pubB ns (ndAt ns (ndAt ns k).b).b && numIs ns (ndAt ns (ndAt ns (ndAt ns k).b).b).b 0)))) ∧ (srvB ns k = true → p3 ns k 1 = (ndAt ns (ndAt ns k).b).a ∧ p3 ns k 2 = (ndAt ns (ndAt ns (ndAt ns k).b).b).a) := by
  unfold srvB p3 partsB partsV numB nceB pubB
  rw [parts_is3]
  cases isK ns k 2
  · simp
  cases isK ns (ndAt ns k).b 2
  · simp
  cases isK ns (ndAt ns (ndAt ns k).b).b 2
  · simp
  cases numIs ns (ndAt ns (ndAt ns (ndAt ns k).b).b).b 0
  · simp
  · simp [numIs, Bool.and_assoc]
    rfl
end Go.Proofs.Ytagjdhiicpglaaa
