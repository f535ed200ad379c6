/- Chapter 16 in plain words: ways and packets. -/
import Derived.Test.YtagjdhiicpglaaaRowRt
import Derived.Test.YtagjdhiicpglaaaPlainTerm
namespace Go.Proofs.Ytagjdhiicpglaaa
open Go.RowKit
set_option linter.unusedVariables false
/-- FitsRoute. -/
def shB (r : Rt) : Nat := (8 - r.b).toNat
def fitB (r : Rt) (d : Int) : Bool := inB r.b 0 8 && (inB d 0 255 && (inB r.n 0 255 && decide (d / 2 ^ shB r = r.n / 2 ^ shB r)))
/-- RouteOf: the place of the best of the first k, or -1. -/
def bestN (rs : List Rt) (d : Int) : Nat → Int
  | 0 => -1
  | k + 1 => if fitB (rs.getD k Rt.zero) d = true ∧ (bestN rs d k < 0 ∨ (rs.getD (bestN rs d k).toNat Rt.zero).b < (rs.getD k Rt.zero).b) then (k : Int) else bestN rs d k
def bestR (rs : List Rt) (d : Int) : Rt := if bestN rs d rs.length < 0 then Rt.zero else rs.getD (bestN rs d rs.length).toNat Rt.zero
def bestB (rs : List Rt) (d : Int) : Bool := decide (0 ≤ bestN rs d rs.length)
/-- RoutesOk. -/
def rtIn (rs : List Rt) (r : Rt) : Nat → Bool
  | 0 => false
  | k + 1 => rtIn rs r k || (decide ((rs.getD k Rt.zero).n = r.n) && decide ((rs.getD k Rt.zero).b = r.b))
def rtOk (rs : List Rt) (i : Nat) : Bool := (inB (rs.getD i Rt.zero).b 0 8 && (inB (rs.getD i Rt.zero).n 0 255 && (inB (rs.getD i Rt.zero).t 0 9 && decide ((rs.getD i Rt.zero).n % 2 ^ shB (rs.getD i Rt.zero) = 0)))) && !rtIn rs (rs.getD i Rt.zero) i
def rtsFrom (rs : List Rt) : Nat → Nat → Bool
  | 0, _ => true
  | f + 1, i => rtOk rs i && rtsFrom rs f (i + 1)
def rtsB (rs : List Rt) : Bool := rtsFrom rs rs.length 0 && decide (rs.length ≤ 8)
/-- PacketOk: a packet is four whole numbers, as a node is. -/
def pkOk (p : Nd) : Bool := inB p.k 0 255 && (inB p.n 0 255 && (inB p.a 1 9 && inB p.b 0 999))
theorem bestN_range (rs : List Rt) (d : Int) : ∀ k, -1 ≤ bestN rs d k ∧ bestN rs d k < (k : Int)
  | 0 => by simp [bestN]
  | k + 1 => by
    have := bestN_range rs d k
    rw [bestN]; split <;> omega
end Go.Proofs.Ytagjdhiicpglaaa
