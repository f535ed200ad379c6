/- Chapter 4: the order of two terms by their texts: plain mathematics, TermText of both sides in one form, and the program's inOrder with the library's Compare and Or. -/
import Derived.Test.YtlmkkkpjcpopkaaAppStr
import Derived.Test.YtlmkkkpjcpopkaaMakeIs
import Derived.Lib.Bytealg
import Derived.WalkKit
import Derived.WalkLawsBesides
import Derived.WalkSpells
import Derived.Laws.Rows
import Derived.Test.YtlmkkkpjcpopkaaMakeI
import Derived.Test.YtlmkkkpjcpopkaaDrawArena
import Derived.Test.YtlmkkkpjcpopkaaDrawAny
import Derived.Test.YtlmkkkpjcpopkaaCodeW
import Derived.Test.YtlmkkkpjcpopkaaRegionK
import Derived.Laws.ResultCell
namespace Go.Proofs.Ytlmkkkpjcpopkaa
open Go.RowKit Go.PlainAid
set_option linter.unusedVariables false

/-- TermText. -/
def txB (ns : List Nd) (k : Int) : Bool := inB (sizeN ns k) 1 2000
def txS (ns : List Nd) (k : Int) : ByteArray := if txB ns k = true then strOfNums (tx ns k.toNat) else ByteArray.empty
/-- Bytes in their order. -/
theorem cmpB_range : ∀ a b : List UInt8, Lib.compareBytes a b = -1 ∨ Lib.compareBytes a b = 0 ∨ Lib.compareBytes a b = 1
  | [], [] => .inr (.inl rfl)
  | [], _ :: _ => .inl rfl
  | _ :: _, [] => .inr (.inr rfl)
  | x :: a, y :: b => by
    rw [Lib.compareBytes]
    split
    · exact .inl rfl
    · split
      · exact .inr (.inr rfl)
      · exact cmpB_range a b
theorem cmpB_zero : ∀ a b : List UInt8, Lib.compareBytes a b = 0 ↔ a = b
  | [], [] => by simp [Lib.compareBytes]
  | [], _ :: _ => by simp [Lib.compareBytes]
  | _ :: _, [] => by simp [Lib.compareBytes]
  | x :: a, y :: b => by
    rw [Lib.compareBytes]
    by_cases h1 : x < y
    · rw [if_pos h1]
      constructor
      · intro h; omega
      · intro h; simp only [List.cons.injEq] at h; rw [h.1] at h1; exact absurd h1 (UInt8.lt_irrefl y)
    · rw [if_neg h1]
      by_cases h2 : y < x
      · rw [if_pos h2]
        constructor
        · intro h; omega
        · intro h; simp only [List.cons.injEq] at h; rw [h.1] at h2; exact absurd h2 (UInt8.lt_irrefl y)
      · rw [if_neg h2, cmpB_zero a b, List.cons.injEq]
        have hxy : x = y := UInt8.le_antisymm (UInt8.not_lt.1 h2) (UInt8.not_lt.1 h1)
        exact ⟨fun h => ⟨hxy, h⟩, fun h => h.2⟩
theorem cmpB_less : ∀ a b : List UInt8, Op.bytesLess a b = decide (Lib.compareBytes a b = -1)
  | [], [] => rfl
  | [], _ :: _ => rfl
  | _ :: _, [] => rfl
  | x :: a, y :: b => by
    rw [Lib.compareBytes, Op.bytesLess]
    by_cases h1 : x < y
    · simp [h1]
    · rw [if_neg h1]
      by_cases h2 : y < x
      · have hne : (x == y) = false := by
          rw [beq_eq_false_iff_ne]; intro e; rw [e] at h2; exact UInt8.lt_irrefl y h2
        simp [h1, h2, hne]
      · have hxy : x = y := UInt8.le_antisymm (UInt8.not_lt.1 h2) (UInt8.not_lt.1 h1)
        rw [if_neg h2, cmpB_less a b]
        simp [hxy]
/-- How two texts compare. -/
def cmpS (s t : ByteArray) : Int := Lib.compareBytes s.data.toList t.data.toList
theorem cmpS_range (s t : ByteArray) : cmpS s t = -1 ∨ cmpS s t = 0 ∨ cmpS s t = 1 := cmpB_range _ _
theorem cmpS_eq (s t : ByteArray) : (s.toList == t.toList) = decide (cmpS s t = 0) := by
  unfold cmpS
  rw [ByteArray.toList_eq, ByteArray.toList_eq, Bool.eq_iff_iff, beq_iff_eq, decide_eq_true_iff]
  exact (cmpB_zero _ _).symm
theorem cmpS_gt (s t : ByteArray) : (!(Op.bytesLess s.toList t.toList || s.toList == t.toList)) = decide (cmpS s t = 1) := by
  rw [cmpS_eq, ByteArray.toList_eq, ByteArray.toList_eq, cmpB_less]
  have := cmpS_range s t
  unfold cmpS at this ⊢
  rcases this with h | h | h <;> rw [h] <;> rfl
theorem cmpS_less (s t : ByteArray) : Op.bytesLess s.toList t.toList = decide (cmpS s t = -1) := by
  rw [ByteArray.toList_eq, ByteArray.toList_eq, cmpB_less]; rfl
/-- Are the two to change places? -/
def swapB (ns : List Nd) (x y : Int) : Bool := decide (cmpS (txS ns x) (txS ns y) = 1) || (decide (cmpS (txS ns x) (txS ns y) = 0) && decide (y < x))

/-- How two integers compare. -/
def cmpI (x y : Int) : Int := if x < y then -1 else if y < x then 1 else 0
end Go.Proofs.Ytlmkkkpjcpopkaa

namespace Go.Proofs.Ytlmkkkpjcpopkaa
open Go.RowKit Go.PlainAid
set_option linter.unusedVariables false
theorem swap_is (ns : List Nd) (x y : Int) : decide (0 < (if cmpS (txS ns x) (txS ns y) = 0 then cmpI x y else cmpS (txS ns x) (txS ns y))) = swapB ns x y := by
  unfold swapB cmpI
  rcases cmpS_range (txS ns x) (txS ns y) with h | h | h <;> rw [h]
  · rfl
  · by_cases h1 : x < y
    · simp [h1]; omega
    · by_cases h2 : y < x
      · simp [h1, h2]
      · simp [h1, h2]
  · rfl
/-- DhOf. -/
def dhB (ns : List Nd) (x pub : Int) : Bool := isK ns pub 6 && okAt ns x
def dhN (ns : List Nd) (x pub : Int) : Nd := ⟨7, 0, if swapB ns x (ndAt ns pub).a = true then (ndAt ns pub).a else x, if swapB ns x (ndAt ns pub).a = true then x else (ndAt ns pub).a⟩
def dhA (ns : List Nd) (x pub : Int) : List Nd := if dhB ns x pub = true then putA ns (dhN ns x pub) else ns
def dhK (ns : List Nd) (x pub : Int) : Int := if dhB ns x pub = true then putK ns (dhN ns x pub) else -1
theorem dhK_neg {ns : List Nd} {x pub : Int} (h : dhK ns x pub < 0) : dhK ns x pub = -1 := by
  unfold dhK at h ⊢
  split
  · rename_i h1; rw [if_pos h1] at h; exact putK_neg h
  · rfl
theorem dhA_neg {ns : List Nd} {x pub : Int} (h : dhK ns x pub < 0) : dhA ns x pub = ns := by
  unfold dhK at h
  unfold dhA
  split
  · rename_i h1; rw [if_pos h1] at h; exact putA_neg h
  · rfl
theorem dhA_len {ns : List Nd} {x pub : Int} (h : ns.length ≤ 1048576) : (dhA ns x pub).length ≤ 1048577 := by
  unfold dhA
  split
  · exact putA_len h
  · omega
end Go.Proofs.Ytlmkkkpjcpopkaa

namespace Go.Proofs.Ytlmkkkpjcpopkaa
open Go.RowKit Go.PlainAid
set_option linter.unusedVariables false
theorem list6 {α : Type} (l : List α) (h : l.length = 6) : ∃ a0 a1 a2 a3 a4 a5, l = [a0, a1, a2, a3, a4, a5] := by
  match l, h with
  | [a0, a1, a2, a3, a4, a5], _ => exact ⟨a0, a1, a2, a3, a4, a5, rfl⟩
theorem txS_size (ns : List Nd) (k : Int) : (txS ns k).size ≤ 8000 := by
  unfold txS
  split
  · rename_i h
    have hb := inB_true h
    obtain ⟨i, rfl, hg, hsz⟩ := sizeN_good (show sizeN ns k ≠ 0 by omega)
    have := tx_len i hg (by omega)
    rw [Int.toNat_natCast, strOfNums_size]
    omega
  · simp
theorem extract_size (s : ByteArray) (i j : Nat) : (s.extract i j).size ≤ s.size := by rw [ByteArray.size_extract]; omega
theorem sliceTo (s : ByteArray) (i : Nat) (h : i ≤ s.size) (w : World) : (Instr.slice 9 (.string s) none (some (.int .i64 (i : Int))) none).run Try.prog w = .ok (.string (s.extract 0 i)) w := by
  have h1 : (0 : Int) ≤ (i : Int) := by omega
  have h2 : (i : Int) ≤ (s.size : Int) := by omega
  simp [go_sem, Try.underlying9, h1, h2]
theorem sliceFrom (s : ByteArray) (i : Nat) (h : i + 1 ≤ s.size) (w : World) : (Instr.slice 9 (.string s) (some (.int .i64 ((i : Int) + 1))) none none).run Try.prog w = .ok (.string (s.extract (i + 1) s.size)) w := by
  have h1 : (0 : Int) ≤ (i : Int) + 1 := by omega
  have h2 : (i : Int) + 1 ≤ (s.size : Int) := by omega
  simp [go_sem, Try.underlying9, h1, h2]
end Go.Proofs.Ytlmkkkpjcpopkaa

namespace Go.Proofs.Ytlmkkkpjcpopkaa
open Go.RowKit Go.PlainAid
set_option linter.unusedVariables false
/-- The cursor stays where a box of another kind is written. -/
theorem cur_set {B g r : Nat} {w : World} {a' : Option Addr} {n c : Nat} {v : Value} (h : Cur B w g) (hr : w.heap[r]? = some (.cells #[.slice a' n c] 26 (0, 0))) (hne : r ≠ g) : Cur B (w.setCell ⟨r, 0, none⟩ v) g := by
  obtain ⟨h1, h2, a, len, cap, i, hh, h3, h4, h5⟩ := h
  refine ⟨h1, by simpa using h2, a, len, cap, i, hh, h3, ⟨h4.1, ?_⟩, (Below.heap_setCell _ _ _ _ (by simpa using Ne.symm hne)).trans h5⟩
  rcases h4.2 with h0 | ⟨b, off, rfl, hbB, hc⟩
  · exact .inl h0
  · refine .inr ⟨b, off, rfl, hbB, fun j hj => ?_⟩
    obtain ⟨z, hz, h6⟩ := hc j hj
    by_cases e : b = r
    · subst e
      rw [cell_of_row w b (off + j) _ _ _ hr] at hz
      rcases Nat.eq_zero_or_pos (off + j) with e0 | e0
      · rw [e0] at hz; simp at hz
      · rw [Array.getElem?_eq_none (by simp; omega)] at hz; simp at hz
    · refine ⟨z, ?_, h6⟩
      rw [World.cell?_of_block (w := w) (Below.heap_setCell _ _ _ _ (by simpa using e))]; exact hz
set_option maxHeartbeats 800000 in
theorem drawArena_any (a : Option Addr) (len cap : Nat) (w : World) (hc : CodeIn w.heap.size w a len) :
    Calls Try.prog 42 #[.slice a len cap] w fun e w' => ∃ v ns, e = .returned (.agg #[v]) ∧ 1 ≤ ns.length ∧ ns.length ≤ 13 ∧ allFrom ns ns 0 = true ∧ OwnN w.heap.size w' v ns ∧ Below w.heap.size w w' := by
  have hb0 : Below w.heap.size w (w.alloc (.cells #[.slice none 0 0] 26)) := (Below.refl _ _).alloc (Nat.le_refl _) _
  have hx0 := heap_alloc_new w (.cells #[.slice none 0 0] 26)
  have hc0 := codeIn_later hc hb0
  have hs0 : (w.alloc (.cells #[.slice none 0 0] 26)).heap.size = w.heap.size + 1 := by simp
  clear hc
  go_enter Try.func42, Try.ntmps42
  go_wp2_with fail
  generalize w.alloc (.cells #[.slice none 0 0] 26) = w0 at hb0 hx0 hc0 hs0 ⊢
  refine (new_any _ _ _ _ hc0).mono ?_
  rintro e w1 ⟨g, rfl, hc1, hb1⟩
  have hge := hc1.1
  go_wp2_with fail
  refine (arena_any w0.heap.size g _ hc1).mono ?_
  rintro e w2 ⟨v2, ns, rfl, hn1, hn2, hall, ho2, hc2, hg2⟩
  have hs1 := hb1.size
  have hs2 := hg2.size
  have hB2 : Below w0.heap.size w0 w2 := hb1.grown hg2 hb1.size (fun k hk => by cases hk; exact hge)
  obtain ⟨a2, cap2, rfl, _, _⟩ := ho2.row
  have hx2 := (hB2.block w.heap.size (by omega)).trans hx0
  have r0 : w2.cell? ⟨w.heap.size, 0, none⟩ = some (.slice none 0 0) := (cell_of_row _ _ 0 _ _ _ hx2).trans rfl
  have f0 : w2.frozen? ⟨w.heap.size, 0, none⟩ = false := frozen_of_row _ _ 0 _ _ hx2
  have HBL : Hid ((w2.setCell ⟨w.heap.size, 0, none⟩ (.slice a2 ns.length cap2)).heap[w.heap.size]? = some (.cells #[.slice a2 ns.length cap2] 26 (0, 0))) := (heap_setCell_same _ _ 0 _ _ _ hx2).trans rfl
  have HO : Hid (OwnN w.heap.size (w2.setCell ⟨w.heap.size, 0, none⟩ (.slice a2 ns.length cap2)) (.slice a2 ns.length cap2) ns) := OwnN.base (ownsRow_setCell_below ho2 (show w.heap.size < w1.heap.size by omega) _) (by omega)
  have HB : Hid (Below w.heap.size w (w2.setCell ⟨w.heap.size, 0, none⟩ (.slice a2 ns.length cap2))) := (hb0.trans (hB2.mono (by omega))).setCell (Nat.le_refl _) _
  have HALL : Hid _ := hall
  clear hc0 hc1 hc2 hg2 hb1 hx0 hx2 hB2 hb0 ho2 hall
  go_wp2
  refine bodyPost_ret (results_cell_row rfl _ _ w.heap.size 26 #[.slice a2 ns.length cap2] (0, 0) _ rfl ?_ Try.underlying26 rfl arenaSize) rfl ?_
  · exact HBL.out
  · exact ⟨_, ns, rfl, hn1, hn2, HALL.out, HO.out, HB.out⟩
end Go.Proofs.Ytlmkkkpjcpopkaa
