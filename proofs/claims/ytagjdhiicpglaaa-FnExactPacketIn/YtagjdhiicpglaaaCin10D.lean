/- Chapter 10 in plain words: what CertIn tells. -/
import Derived.Test.YtagjdhiicpglaaaCert10
import Derived.Test.YtagjdhiicpglaaaHead8
import Derived.Test.YtagjdhiicpglaaaRegionH
import Derived.Deep.RegionWith
import Derived.ChangeOld
import Derived.Laws.ResultCell
namespace Go.Proofs.Ytagjdhiicpglaaa
open Go.RowKit
set_option linter.unusedVariables false
/-- Is a term the Atom of a number? -/
def numIs (ns : List Nd) (x n : Int) : Bool := isK ns x 1 && decide (numV ns x = n)
/-- CertIn. -/
def crtB (ns : List Nd) (k : Int) : Bool := isK ns k 8 && (numIs ns (ndAt ns k).a 1000 && (partsB ns (ndAt ns k).b 3 && (numIs ns (p3 ns (ndAt ns k).b 0) 60 && (isK ns (p3 ns (ndAt ns k).b 2) 6 && (isK ns (p3 ns (ndAt ns k).b 1) 1 && inB (numV ns (p3 ns (ndAt ns k).b 1)) 0 9)))))
def crtN (ns : List Nd) (k : Int) : Int := if crtB ns k = true then numV ns (p3 ns (ndAt ns k).b 1) else 0
def crtP (ns : List Nd) (k : Int) : Int := if crtB ns k = true then p3 ns (ndAt ns k).b 2 else -1
end Go.Proofs.Ytagjdhiicpglaaa

namespace Go.Proofs.Ytagjdhiicpglaaa
open Go.RowKit
set_option linter.unusedVariables false
end Go.Proofs.Ytagjdhiicpglaaa

namespace Go.Proofs.Ytagjdhiicpglaaa
open Go.RowKit
set_option linter.unusedVariables false
/-- Is a term an Atom that not all know? -/
def nonB (ns : List Nd) (x : Int) : Bool := isK ns x 1 && decide (1000 ≤ numV ns x)
def srvB (ns : List Nd) (k : Int) : Bool := partsB ns k 3 && (numIs ns (p3 ns k 0) 62 && (nonB ns (p3 ns k 1) && isK ns (p3 ns k 2) 6))
def srvN (ns : List Nd) (k : Int) : Int := if srvB ns k = true then p3 ns k 1 else -1
def srvP (ns : List Nd) (k : Int) : Int := if srvB ns k = true then p3 ns k 2 else -1
def p5 (ns : List Nd) (k : Int) (i : Nat) : Int := (partsV ns k 5).getD i 0
def helB (ns : List Nd) (k : Int) : Bool := partsB ns k 5 && (numIs ns (p5 ns k 0) 61 && (nonB ns (p5 ns k 3) && (isK ns (p5 ns k 4) 6 && (isK ns (p5 ns k 1) 1 && (isK ns (p5 ns k 2) 1 && (inB (numV ns (p5 ns k 1)) 1 2 && inB (numV ns (p5 ns k 2)) 0 9))))))
def helM (ns : List Nd) (k : Int) : Int := if helB ns k = true then numV ns (p5 ns k 1) else 0
def helN (ns : List Nd) (k : Int) : Int := if helB ns k = true then numV ns (p5 ns k 2) else 0
def helO (ns : List Nd) (k : Int) : Int := if helB ns k = true then p5 ns k 3 else 0
def helP (ns : List Nd) (k : Int) : Int := if helB ns k = true then p5 ns k 4 else 0
theorem parts5 {ns : List Nd} {k : Int} (h : partsB ns k 5 = true) : (partsV ns k 5).length = 5 := by
  unfold partsB at h
  unfold partsV
  cases hp : partsR ns k 5 with
  | none => rw [hp] at h; simp at h
  | some xs =>
    unfold partsR at hp
    rw [if_neg (by omega)] at hp
    exact (partsN_len ns 5 k xs hp).1
theorem own5 {B : Nat} {w : World} {v : Value} {xs : List Int} (h : OwnInt B w v xs) (hl : xs.length = 5) : ∃ g off cap, v = .slice (some ⟨g, off, none⟩) 5 cap ∧ g < w.heap.size ∧ ∀ i, i < 5 → w.cell? ⟨g, off + i, none⟩ = some (.int .i64 (xs.getD i 0)) := by
  obtain ⟨a, cap, rfl, -, hr⟩ := h.row
  rcases hr with h0 | ⟨b, off, rfl, hb, hc⟩
  · rw [h0] at hl; simp at hl
  · rw [hl]
    exact ⟨b, off, cap, rfl, hb, fun i hi => hc i (by omega)⟩
end Go.Proofs.Ytagjdhiicpglaaa
