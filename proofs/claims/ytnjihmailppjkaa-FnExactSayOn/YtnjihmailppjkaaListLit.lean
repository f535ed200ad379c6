/- l04List of a list that is written out, the specification's. -/
import Derived.Test.YtnjihmailppjkaaArenaD
import Derived.WalkKit
import Derived.WalkLawsBesides
import Derived.WalkSpells
import Derived.Laws.Rows
import Derived.Test.YtnjihmailppjkaaImplPut
import Derived.Test.YtnjihmailppjkaaHead8
import Derived.Test.YtnjihmailppjkaaRegionH
import Derived.Deep.RegionWith
import Derived.ChangeOld
import Derived.Laws.ResultCell
import Derived.Test.YtnjihmailppjkaaLawKeep
namespace Go.Proofs.Ytnjihmailppjkaa
open Go.RowKit
set_option linter.unusedVariables false
/-- A row of ints that was just made. -/
theorem rowD_new (D : Nat → Prop) (w : World) (xs : List Int) : RowD (fun k => D k ∨ k = w.heap.size) (w.alloc (.cells (xs.map (Value.int .i64)).toArray 3)) (some ⟨w.heap.size, 0, none⟩) xs := by
  refine .inr ⟨w.heap.size, 0, rfl, .inr rfl, fun j hj => ?_⟩
  rw [Nat.zero_add]
  refine (cell_of_row _ w.heap.size j _ _ _ (heap_alloc_new w _)).trans ?_
  simp [List.getD_eq_getElem?_getD, List.getElem?_eq_getElem hj]
/-- l04List of a list that is written out. -/
theorem listLit_any (D : Nat → Prop) (g : Nat) (ns : List Nd) (xs : List Int) (w : World) (hl : ns.length ≤ 1048576) (hxl : xs.length ≤ 2000000) (h : ArD D w g ns) (hB : ∀ k, D k → k < w.heap.size) :
    Calls Try.prog 74 #[.pointer (some ⟨g, 0, none⟩), .slice (some ⟨w.heap.size, 0, none⟩) xs.length xs.length] (w.alloc (.cells (xs.map (Value.int .i64)).toArray 3)) fun e w' => e = .returned (.int .i64 (listF xs ns).2) ∧ ArD D w' g (listF xs ns).1 ∧ Safe D w w' := by
  have hbA : Below w.heap.size w (w.alloc (.cells (xs.map (Value.int .i64)).toArray 3)) := (Below.refl _ _).alloc (Nat.le_refl _) _
  refine (listD_any (fun k => D k ∨ k = w.heap.size) g ns _ xs.length xs _ hl hxl (rowD_new D w xs) (h.wide (Nat.le_refl _) _ hbA) (fun k hk => ?_)).mono fun e w' ⟨he, ha, hs⟩ => ⟨he, ha.narrow (fun k hk => .inl hk), (Safe.of_below hbA hB).trans (hs.mono (fun k hk => .inl hk))⟩
  rcases hk with hk | hk
  · have := hB k hk; simp; omega
  · subst hk; simp
end Go.Proofs.Ytnjihmailppjkaa

namespace Go.Proofs.Ytnjihmailppjkaa
open Go.RowKit
set_option linter.unusedVariables false
/-- The arena that was made, or the one that came when the term can't be. -/
def keptA (ns A : List Nd) (K : Int) : List Nd := if K < 0 then ns else A
theorem keptA_neg {ns A : List Nd} {K : Int} (h : K < 0) : keptA ns A K = ns := by unfold keptA; rw [if_pos h]
theorem keptA_pos {ns A : List Nd} {K : Int} (h : ¬ K < 0) : keptA ns A K = A := by unfold keptA; rw [if_neg h]
/-- What it answers. -/
def KeptP (w : World) (ns : List Nd) (u : Value) (k : Int) (v : Value) (w' : World) : Prop := (k < 0 → OwnN w.heap.size w' v ns) ∧ (¬ k < 0 → v = u)
end Go.Proofs.Ytnjihmailppjkaa

namespace Go.Proofs.Ytnjihmailppjkaa
open Go.RowKit
set_option linter.unusedVariables false
/-- The long secret of a name. -/
def nmB (n : Int) : Bool := inB n 0 9
def lgA (ns : List Nd) (n : Int) : List Nd := if nmB n = true then putA ns ⟨1, 2000 + n, 0, 0⟩ else ns
def lgK (ns : List Nd) (n : Int) : Int := if nmB n = true then putK ns ⟨1, 2000 + n, 0, 0⟩ else -1
/-- The secret of two names. -/
def pkB (x y : Int) : Bool := inB x 0 9 && inB y 0 9
def pkN (x y : Int) : Int := if y < x then 3000 + 10 * y + x else 3000 + 10 * x + y
def pkA (ns : List Nd) (x y : Int) : List Nd := if pkB x y = true then putA ns ⟨1, pkN x y, 0, 0⟩ else ns
def pkK (ns : List Nd) (x y : Int) : Int := if pkB x y = true then putK ns ⟨1, pkN x y, 0, 0⟩ else -1
/-- A certificate, made step by step. -/
def crA1 (ns : List Nd) : List Nd := putA ns ⟨1, 1000, 0, 0⟩
def crK1 (ns : List Nd) : Int := putK ns ⟨1, 1000, 0, 0⟩
def crA2 (ns : List Nd) : List Nd := putA (crA1 ns) ⟨1, 60, 0, 0⟩
def crK2 (ns : List Nd) : Int := putK (crA1 ns) ⟨1, 60, 0, 0⟩
def crA3 (ns : List Nd) (n : Int) : List Nd := putA (crA2 ns) ⟨1, n, 0, 0⟩
def crK3 (ns : List Nd) (n : Int) : Int := putK (crA2 ns) ⟨1, n, 0, 0⟩
def crA5 (ns : List Nd) (n : Int) : List Nd := makeA (lgA (crA3 ns n) n) 6 (lgK (crA3 ns n) n) 0
def crK5 (ns : List Nd) (n : Int) : Int := makeK (lgA (crA3 ns n) n) 6 (lgK (crA3 ns n) n) 0
def crL (ns : List Nd) (n : Int) : List Nd × Int := listF [crK2 ns, crK3 ns n, crK5 ns n] (crA5 ns n)
def crA (ns : List Nd) (n : Int) : List Nd := makeA (crL ns n).1 8 (crK1 ns) (crL ns n).2
def crK (ns : List Nd) (n : Int) : Int := makeK (crL ns n).1 8 (crK1 ns) (crL ns n).2
theorem lgA_le {ns : List Nd} {n : Int} (h : ns.length ≤ 1048576) : (lgA ns n).length ≤ 1048576 := by
  unfold lgA; split
  · exact putA_le2 h
  · exact h
theorem pkA_le {ns : List Nd} {x y : Int} (h : ns.length ≤ 1048576) : (pkA ns x y).length ≤ 1048576 := by
  unfold pkA; split
  · exact putA_le2 h
  · exact h
theorem crA2_le {ns : List Nd} (h : ns.length ≤ 1048576) : (crA2 ns).length ≤ 1048576 := putA_le2 (putA_le2 h)
theorem crA3_le {ns : List Nd} {n : Int} (h : ns.length ≤ 1048576) : (crA3 ns n).length ≤ 1048576 := putA_le2 (crA2_le h)
theorem crA5_le {ns : List Nd} {n : Int} (h : ns.length ≤ 1048576) : (crA5 ns n).length ≤ 1048576 := makeA_le (lgA_le (crA3_le h))
theorem crL_le {ns : List Nd} {n : Int} (h : ns.length ≤ 1048576) : (crL ns n).1.length ≤ 1048576 := listF_le _ (crA5_le h)
theorem crA_le {ns : List Nd} {n : Int} (h : ns.length ≤ 1048576) : (crA ns n).length ≤ 1048576 := makeA_le (crL_le h)
theorem in_le {x a b : Int} (h : inB x a b = true) : a ≤ x ∧ x ≤ b := by unfold inB at h; simpa using h
end Go.Proofs.Ytnjihmailppjkaa

namespace Go.Proofs.Ytnjihmailppjkaa
open Go.RowKit
set_option linter.unusedVariables false
/-- Is a term the Atom of a number? -/
def numIs (ns : List Nd) (x n : Int) : Bool := isK ns x 1 && decide (numV ns x = n)
/-- CertIn. -/
def crtB (ns : List Nd) (k : Int) : Bool := isK ns k 8 && (numIs ns (ndAt ns k).a 1000 && (partsB ns (ndAt ns k).b 3 && (numIs ns (p3 ns (ndAt ns k).b 0) 60 && (isK ns (p3 ns (ndAt ns k).b 2) 6 && (isK ns (p3 ns (ndAt ns k).b 1) 1 && inB (numV ns (p3 ns (ndAt ns k).b 1)) 0 9)))))
def crtN (ns : List Nd) (k : Int) : Int := if crtB ns k = true then numV ns (p3 ns (ndAt ns k).b 1) else 0
def crtP (ns : List Nd) (k : Int) : Int := if crtB ns k = true then p3 ns (ndAt ns k).b 2 else -1
end Go.Proofs.Ytnjihmailppjkaa

namespace Go.Proofs.Ytnjihmailppjkaa
open Go.RowKit
set_option linter.unusedVariables false
end Go.Proofs.Ytnjihmailppjkaa

namespace Go.Proofs.Ytnjihmailppjkaa
open Go.RowKit
set_option linter.unusedVariables false
/-- Is a term an Atom that not all know? -/
def nonB (ns : List Nd) (x : Int) : Bool := isK ns x 1 && decide (1000 ≤ numV ns x)
def srvB (ns : List Nd) (k : Int) : Bool := partsB ns k 3 && (numIs ns (p3 ns k 0) 62 && (nonB ns (p3 ns k 1) && isK ns (p3 ns k 2) 6))
def srvN (ns : List Nd) (k : Int) : Int := if srvB ns k = true then p3 ns k 1 else -1
def srvP (ns : List Nd) (k : Int) : Int := if srvB ns k = true then p3 ns k 2 else -1
def p5 (ns : List Nd) (k : Int) (i : Nat) : Int := (partsV ns k 5).getD i 0
def helB (ns : List Nd) (k : Int) : Bool := partsB ns k 5 && (numIs ns (p5 ns k 0) 61 && (nonB ns (p5 ns k 3) && (isK ns (p5 ns k 4) 6 && (isK ns (p5 ns k 1) 1 && (isK ns (p5 ns k 2) 1 && (inB (numV ns (p5 ns k 1)) 1 2 && inB (numV ns (p5 ns k 2)) 0 9))))))
def helM (ns : List Nd) (k : Int) : Int := if helB ns k = true then numV ns (p5 ns k 1) else 0
def helN (ns : List Nd) (k : Int) : Int := if helB ns k = true then numV ns (p5 ns k 2) else 0
def helO (ns : List Nd) (k : Int) : Int := if helB ns k = true then p5 ns k 3 else 0
def helP (ns : List Nd) (k : Int) : Int := if helB ns k = true then p5 ns k 4 else 0
theorem parts5 {ns : List Nd} {k : Int} (h : partsB ns k 5 = true) : (partsV ns k 5).length = 5 := by
  unfold partsB at h
  unfold partsV
  cases hp : partsR ns k 5 with
  | none => rw [hp] at h; simp at h
  | some xs =>
    unfold partsR at hp
    rw [if_neg (by omega)] at hp
    exact (partsN_len ns 5 k xs hp).1
theorem own5 {B : Nat} {w : World} {v : Value} {xs : List Int} (h : OwnInt B w v xs) (hl : xs.length = 5) : ∃ g off cap, v = .slice (some ⟨g, off, none⟩) 5 cap ∧ g < w.heap.size ∧ ∀ i, i < 5 → w.cell? ⟨g, off + i, none⟩ = some (.int .i64 (xs.getD i 0)) := by
  obtain ⟨a, cap, rfl, -, hr⟩ := h.row
  rcases hr with h0 | ⟨b, off, rfl, hb, hc⟩
  · rw [h0] at hl; simp at hl
  · rw [hl]
    exact ⟨b, off, cap, rfl, hb, fun i hi => hc i (by omega)⟩
end Go.Proofs.Ytnjihmailppjkaa

namespace Go.Proofs.Ytnjihmailppjkaa
open Go.RowKit
set_option linter.unusedVariables false
/-- How many parts a letter of a kind has. -/
def mnyV (kd : Int) : Int := if kd = 71 then 2 else if kd = 73 then 2 else if kd = 76 then 2 else if kd = 72 then 1 else if kd = 74 then 1 else if kd = 75 then 1 else 0
theorem mny_is (kd : Int) : mnyV kd = 0 ∨ mnyV kd = 1 ∨ mnyV kd = 2 := by
  unfold mnyV
  split
  · exact .inr (.inr rfl)
  split
  · exact .inr (.inr rfl)
  split
  · exact .inr (.inr rfl)
  split
  · exact .inr (.inl rfl)
  split
  · exact .inr (.inl rfl)
  split
  · exact .inr (.inl rfl)
  · exact .inl rfl
theorem parts_len {ns : List Nd} {k n : Int} (h : partsB ns k n = true) : (partsV ns k n).length = n.toNat := by
  unfold partsB at h
  unfold partsV
  cases hp : partsR ns k n with
  | none => rw [hp] at h; simp at h
  | some xs =>
    unfold partsR at hp
    split at hp
    · simp at hp
    · exact (partsN_len ns n.toNat k xs hp).1
theorem own_at {B : Nat} {w : World} {v : Value} {xs : List Int} (h : OwnInt B w v xs) (hp : 0 < xs.length) : ∃ g off cap, v = .slice (some ⟨g, off, none⟩) xs.length cap ∧ xs.length ≤ cap ∧ g < w.heap.size ∧ ∀ i, i < xs.length → w.cell? ⟨g, off + i, none⟩ = some (.int .i64 (xs.getD i 0)) := by
  have hc : ∀ a n cap, v = .slice a n cap → xs.length ≤ cap := fun a n cap e => by
    rcases h.2 with ⟨h0, h1⟩ | ⟨g, c, cur, hv, _, _, h4, _⟩
    · omega
    · rw [e] at hv; simp only [Value.slice.injEq] at hv; rw [hv.2.2]; exact h4
  obtain ⟨a, cap, rfl, -, hr⟩ := h.row
  rcases hr with h0 | ⟨b, off, rfl, hb, hc2⟩
  · rw [h0] at hp; simp at hp
  · exact ⟨b, off, cap, rfl, hc _ _ _ rfl, hb, hc2⟩
/-- A row without its first one. -/
theorem rowI_tail {B : Nat} {w : World} {g off : Nat} {xs : List Int} (hg : g < B) (hc : ∀ i, i < xs.length → w.cell? ⟨g, off + i, none⟩ = some (.int .i64 (xs.getD i 0))) : RowI B w (some ⟨g, off + 1, none⟩) (xs.drop 1) := by
  refine .inr ⟨g, off + 1, rfl, hg, fun j hj => ?_⟩
  have hj2 : 1 + j < xs.length := by simp at hj; omega
  have := hc (1 + j) hj2
  rw [show off + (1 + j) = off + 1 + j by omega] at this
  rw [this]
  rw [List.getD_eq_getElem?_getD, List.getD_eq_getElem?_getD, List.getElem?_drop]
def ltKd (ns : List Nd) (k : Int) : Int := numV ns (ndAt ns k).a
def ltPs (ns : List Nd) (k : Int) : List Int := partsV ns k (mnyV (ltKd ns k) + 1)
def linB (ns : List Nd) (k : Int) : Bool := isK ns k 2 && (isK ns (ndAt ns k).a 1 && (decide (mnyV (ltKd ns k) ≠ 0) && (partsB ns k (mnyV (ltKd ns k) + 1) && (decide (ltKd ns k ≠ 76) || isK ns ((ltPs ns k).getD 1 0) 1))))
def linK (ns : List Nd) (k : Int) : Int := if linB ns k = true then ltKd ns k else 0
def linV (ns : List Nd) (k : Int) : List Int := if linB ns k = true then (ltPs ns k).drop 1 else []
end Go.Proofs.Ytnjihmailppjkaa
