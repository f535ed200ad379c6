/- The contracts of chapter 4's inOrder and DhOf, the program's, and of l04Dh and DhOf, the specification's. -/
import Derived.Test.YtlecpjgeaigjkaaSpecText
import Derived.Test.YtlecpjgeaigjkaaMakeI
import Derived.WalkKit
import Derived.WalkLawsBesides
import Derived.WalkSpells
import Derived.Laws.Rows
import Derived.Test.YtlecpjgeaigjkaaTold8
import Derived.Test.YtlecpjgeaigjkaaImplT10
import Derived.Test.YtlecpjgeaigjkaaSoFar
import Derived.Test.YtlecpjgeaigjkaaRegionQ
import Derived.Test.YtlecpjgeaigjkaaRowB
namespace Go.Proofs.Ytlecpjgeaigjkaa
open Go.RowKit Go.PlainAid
set_option linter.unusedVariables false
theorem swap_is (ns : List Nd) (x y : Int) : decide (0 < (if cmpS (txS ns x) (txS ns y) = 0 then cmpI x y else cmpS (txS ns x) (txS ns y))) = swapB ns x y := by
  unfold swapB cmpI
  rcases cmpS_range (txS ns x) (txS ns y) with h | h | h <;> rw [h]
  · rfl
  · by_cases h1 : x < y
    · simp [h1]; omega
    · by_cases h2 : y < x
      · simp [h1, h2]
      · simp [h1, h2]
  · rfl
/-- DhOf. -/
def dhB (ns : List Nd) (x pub : Int) : Bool := isK ns pub 6 && okAt ns x
def dhN (ns : List Nd) (x pub : Int) : Nd := ⟨7, 0, if swapB ns x (ndAt ns pub).a = true then (ndAt ns pub).a else x, if swapB ns x (ndAt ns pub).a = true then x else (ndAt ns pub).a⟩
def dhA (ns : List Nd) (x pub : Int) : List Nd := if dhB ns x pub = true then putA ns (dhN ns x pub) else ns
def dhK (ns : List Nd) (x pub : Int) : Int := if dhB ns x pub = true then putK ns (dhN ns x pub) else -1
theorem dhK_neg {ns : List Nd} {x pub : Int} (h : dhK ns x pub < 0) : dhK ns x pub = -1 := by
  unfold dhK at h ⊢
  split
  · rename_i h1; rw [if_pos h1] at h; exact putK_neg h
  · rfl
theorem dhA_neg {ns : List Nd} {x pub : Int} (h : dhK ns x pub < 0) : dhA ns x pub = ns := by
  unfold dhK at h
  unfold dhA
  split
  · rename_i h1; rw [if_pos h1] at h; exact putA_neg h
  · rfl
theorem dhA_len {ns : List Nd} {x pub : Int} (h : ns.length ≤ 1048576) : (dhA ns x pub).length ≤ 1048577 := by
  unfold dhA
  split
  · exact putA_len h
  · omega
end Go.Proofs.Ytlecpjgeaigjkaa

namespace Go.Proofs.Ytlecpjgeaigjkaa
open Go.RowKit Go.PlainAid
set_option linter.unusedVariables false
end Go.Proofs.Ytlecpjgeaigjkaa

namespace Go.Proofs.Ytlecpjgeaigjkaa
open Go.RowKit Go.PlainAid
set_option linter.unusedVariables false
/-- What is put for a Dh: the zero node, which is right nowhere, where there is none. -/
def dhM (ns : List Nd) (x pub : Int) : Nd := if dhB ns x pub = true then dhN ns x pub else ⟨0, 0, 0, 0⟩
theorem zero_bad (e : Int) : nodeB ⟨0, 0, 0, 0⟩ e = false := by
  unfold nodeB; simp [inB]
theorem dhM_put (ns : List Nd) (x pub : Int) : putA ns (dhM ns x pub) = dhA ns x pub ∧ putK ns (dhM ns x pub) = dhK ns x pub := by
  unfold dhM dhA dhK
  by_cases h : dhB ns x pub = true
  · rw [if_pos h, if_pos h, if_pos h]; exact ⟨rfl, rfl⟩
  · rw [if_neg h, if_neg h, if_neg h]
    unfold putA putK
    rw [zero_bad]
    exact ⟨rfl, rfl⟩
end Go.Proofs.Ytlecpjgeaigjkaa

namespace Go.Proofs.Ytlecpjgeaigjkaa
open Go.RowKit Go.Maps
set_option linter.unusedVariables false
def Tl.dh (x p : Int) : Tl := ⟨fun mx ns => (putAm mx ns (dhM ns x p), putKm mx ns (dhM ns x p)), (Lit.int .i64 x).wf = true ∧ (Lit.int .i64 p).wf = true⟩
theorem Tl.dh_f (x p : Int) (ns : List Nd) : (Tl.dh x p).f ns = (dhA ns x p, dhK ns x p) := by
  show (putA ns (dhM ns x p), putK ns (dhM ns x p)) = _
  rw [(dhM_put ns x p).1, (dhM_put ns x p).2]
theorem dhM_fits {ns : List Nd} {x p : Int} (hl : ns.length ≤ 1048576) (hx : (Lit.int .i64 x).wf = true) : (dhM ns x p).Fits := by
  have hx' := wf_bd hx
  unfold dhM
  split
  · rename_i h
    unfold dhB at h
    rw [Bool.and_eq_true] at h
    obtain ⟨h1, h2⟩ := isK_ok h.1
    unfold okAt at h1
    rw [Bool.and_eq_true] at h1
    have h4 := inB_true h1.1
    have h5 : nodeB (ndAt ns p) p = true := h1.2
    have h6 : 0 ≤ (ndAt ns p).a ∧ (ndAt ns p).a < p := by
      rcases nodeB_true h5 with h | h | h
      · omega
      · omega
      · omega
    unfold dhN Nd.Fits
    simp only
    refine ⟨by omega, by omega, ?_, ?_⟩
    · split <;> omega
    · split <;> omega
  · unfold Nd.Fits; simp
theorem TlOk.dh {x p : Int} : TlOk (.dh x p) := ⟨fun hm h => putAm_le hm h, fun _ ns => putAm_pre _ _ _, fun _ h => putKm_bdT _ h⟩
/-- The secret of two, or Atom 0. -/
def shT (mo x y : Int) : Tl := if mo = 2 then pskT x y else .atom 0
set_option maxHeartbeats 1600000 in
set_option maxRecDepth 20000 in
theorem toldAckKey_any {L : Nat} (n : Int) (w : World) (hL : L ≤ w.heap.size)   :
    Calls Try.prog 81 #[.int .i64 n] w (ToldP L (.two 4 (.pl n) (.atom 40)) w) := by
  have HB0 : Hid (Below w.heap.size w w ∧ L ≤ w.heap.size) := ⟨Below.refl _ _, hL⟩
  clear hL 
  go_enter Try.func81, Try.ntmps81
  go_wp2_with fail
  refine Calls.mono (toldAt_any (L := L) n w HB0.out.2) ?_
  rintro e w1 ⟨v1, rfl, t1, b1⟩
  have HB1 : Hid (Below w.heap.size w w1 ∧ L ≤ w1.heap.size) := ⟨HB0.out.1.trans (b1.mono HB0.out.1.size), Nat.le_trans HB0.out.2 b1.size⟩
  obtain ⟨Fx, cx, rfl⟩ := t1.fn
  have Tx : Hid (ToldIs L w1.heap.size w1 _ (.func (.func Fx) #[] cx)) := t1
  clear t1 b1 HB0
  go_wp2_with fail
  refine Calls.mono (toldAtom_any (L := L) 40 w1 HB1.out.2) ?_
  rintro e w2 ⟨v2, rfl, t2, b2⟩
  have HB2 : Hid (Below w.heap.size w w2 ∧ L ≤ w2.heap.size) := ⟨HB1.out.1.trans (b2.mono HB1.out.1.size), Nat.le_trans HB1.out.2 b2.size⟩
  replace Tx : Hid (ToldIs L w2.heap.size w2 _ (.func (.func Fx) #[] cx)) := ToldIs.nx b2 Tx.out
  obtain ⟨Fa, ca, rfl⟩ := t2.fn
  have Ta : Hid (ToldIs L w2.heap.size w2 _ (.func (.func Fa) #[] ca)) := t2
  clear t2 b2 HB1
  go_wp2_with fail
  refine Calls.mono (toldKdf_any (L := L) _ _ _ _ w2 HB2.out.2 Tx.out Ta.out) ?_
  rintro e w3 ⟨v3, rfl, t3, b3⟩
  have HE : Hid (ToldP L (.two 4 (.pl n) (.atom 40)) w (.returned v3) w3) := ⟨v3, rfl, t3, HB2.out.1.trans (b3.mono HB2.out.1.size)⟩
  clear t3 b3
  go_wp2
  go_ret
  exact HE.out
end Go.Proofs.Ytlecpjgeaigjkaa
