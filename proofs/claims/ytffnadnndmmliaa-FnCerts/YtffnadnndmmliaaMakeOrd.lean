/- Chapter 4: the order of two terms by their texts: plain mathematics, TermText of both sides in one form, and the program's inOrder with the library's Compare and Or. -/
import Derived.Test.YtffnadnndmmliaaSpecText
import Derived.Test.YtffnadnndmmliaaImplText2
import Derived.Test.YtffnadnndmmliaaMakeIs
import Derived.Lib.Bytealg
import Derived.WalkKit
import Derived.WalkLawsBesides
import Derived.WalkSpells
import Derived.Laws.Rows
import Derived.Test.YtffnadnndmmliaaMakeI
import Derived.Test.YtffnadnndmmliaaCodeW
import Derived.Test.YtffnadnndmmliaaDrawAny
import Derived.Test.YtffnadnndmmliaaRegionK
import Derived.Laws.ResultCell
namespace Go.Proofs.Ytffnadnndmmliaa
open Go.RowKit Go.PlainAid
set_option linter.unusedVariables false

/-- TermText. -/
def txB (ns : List Nd) (k : Int) : Bool := inB (sizeN ns k) 1 2000
def txS (ns : List Nd) (k : Int) : ByteArray := if txB ns k = true then strOfNums (tx ns k.toNat) else ByteArray.empty
theorem specTextV_any (a : Option Addr) (cap : Nat) (ns : List Nd) (k : Int) (w : World) (hl : ns.length ≤ 1048576) (hr : RowN w.heap.size w a ns) :
    Calls Try.prog 32 #[.agg #[.slice a ns.length cap], .int .i64 k] w fun e w' => e = .returned (.tuple #[.string (txS ns k), .bool (txB ns k)]) ∧ Below w.heap.size w w' := by
  cases h : txB ns k with
  | false =>
    have e : txS ns k = ByteArray.empty := by unfold txS; rw [h]; rfl
    rw [e]
    exact specText_no a cap ns k w hl hr h
  | true =>
    have e : txS ns k = strOfNums (tx ns k.toNat) := by unfold txS; rw [h]; rfl
    rw [e]
    have hb := inB_true h
    obtain ⟨i, rfl, hg, hsz⟩ := sizeN_good (show sizeN ns k ≠ 0 by omega)
    have := specText_yes a cap ns i w hl hr hg (by omega)
    simpa using this
theorem implTextV_any (a : Option Addr) (cap : Nat) (ns : List Nd) (k : Int) (w : World) (hl : ns.length ≤ 1048576) (hr : RowN w.heap.size w a ns) :
    Calls Try.prog 25 #[.agg #[.slice a ns.length cap], .int .i64 k] w fun e w' => e = .returned (.tuple #[.string (txS ns k), .bool (txB ns k)]) ∧ Below w.heap.size w w' := by
  cases h : txB ns k with
  | false =>
    have e : txS ns k = ByteArray.empty := by unfold txS; rw [h]; rfl
    rw [e]
    exact implText_no a cap ns k w hl hr h
  | true =>
    have e : txS ns k = strOfNums (tx ns k.toNat) := by unfold txS; rw [h]; rfl
    rw [e]
    have hb := inB_true h
    obtain ⟨i, rfl, hg, hsz⟩ := sizeN_good (show sizeN ns k ≠ 0 by omega)
    have := implText_yes a cap ns i w hl hr hg (by omega)
    simpa using this

/-- Bytes in their order. -/
theorem cmpB_range : ∀ a b : List UInt8, Lib.compareBytes a b = -1 ∨ Lib.compareBytes a b = 0 ∨ Lib.compareBytes a b = 1
  | [], [] => .inr (.inl rfl)
  | [], _ :: _ => .inl rfl
  | _ :: _, [] => .inr (.inr rfl)
  | x :: a, y :: b => by
    rw [Lib.compareBytes]
    split
    · exact .inl rfl
    · split
      · exact .inr (.inr rfl)
      · exact cmpB_range a b
theorem cmpB_zero : ∀ a b : List UInt8, Lib.compareBytes a b = 0 ↔ a = b
  | [], [] => by simp [Lib.compareBytes]
  | [], _ :: _ => by simp [Lib.compareBytes]
  | _ :: _, [] => by simp [Lib.compareBytes]
  | x :: a, y :: b => by
    rw [Lib.compareBytes]
    by_cases h1 : x < y
    · rw [if_pos h1]
      constructor
      · intro h; omega
      · intro h; simp only [List.cons.injEq] at h; rw [h.1] at h1; exact absurd h1 (UInt8.lt_irrefl y)
    · rw [if_neg h1]
      by_cases h2 : y < x
      · rw [if_pos h2]
        constructor
        · intro h; omega
        · intro h; simp only [List.cons.injEq] at h; rw [h.1] at h2; exact absurd h2 (UInt8.lt_irrefl y)
      · rw [if_neg h2, cmpB_zero a b, List.cons.injEq]
        have hxy : x = y := UInt8.le_antisymm (UInt8.not_lt.1 h2) (UInt8.not_lt.1 h1)
        exact ⟨fun h => ⟨hxy, h⟩, fun h => h.2⟩
theorem cmpB_less : ∀ a b : List UInt8, Op.bytesLess a b = decide (Lib.compareBytes a b = -1)
  | [], [] => rfl
  | [], _ :: _ => rfl
  | _ :: _, [] => rfl
  | x :: a, y :: b => by
    rw [Lib.compareBytes, Op.bytesLess]
    by_cases h1 : x < y
    · simp [h1]
    · rw [if_neg h1]
      by_cases h2 : y < x
      · have hne : (x == y) = false := by
          rw [beq_eq_false_iff_ne]; intro e; rw [e] at h2; exact UInt8.lt_irrefl y h2
        simp [h1, h2, hne]
      · have hxy : x = y := UInt8.le_antisymm (UInt8.not_lt.1 h2) (UInt8.not_lt.1 h1)
        rw [if_neg h2, cmpB_less a b]
        simp [hxy]
/-- How two texts compare. -/
def cmpS (s t : ByteArray) : Int := Lib.compareBytes s.data.toList t.data.toList
theorem cmpS_range (s t : ByteArray) : cmpS s t = -1 ∨ cmpS s t = 0 ∨ cmpS s t = 1 := cmpB_range _ _
theorem cmpS_eq (s t : ByteArray) : (s.toList == t.toList) = decide (cmpS s t = 0) := by
  unfold cmpS
  rw [ByteArray.toList_eq, ByteArray.toList_eq, Bool.eq_iff_iff, beq_iff_eq, decide_eq_true_iff]
  exact (cmpB_zero _ _).symm
theorem cmpS_gt (s t : ByteArray) : (!(Op.bytesLess s.toList t.toList || s.toList == t.toList)) = decide (cmpS s t = 1) := by
  rw [cmpS_eq, ByteArray.toList_eq, ByteArray.toList_eq, cmpB_less]
  have := cmpS_range s t
  unfold cmpS at this ⊢
  rcases this with h | h | h <;> rw [h] <;> rfl
theorem cmpS_less (s t : ByteArray) : Op.bytesLess s.toList t.toList = decide (cmpS s t = -1) := by
  rw [ByteArray.toList_eq, ByteArray.toList_eq, cmpB_less]; rfl
/-- Are the two to change places? -/
def swapB (ns : List Nd) (x y : Int) : Bool := decide (cmpS (txS ns x) (txS ns y) = 1) || (decide (cmpS (txS ns x) (txS ns y) = 0) && decide (y < x))

set_option maxRecDepth 100000 in
theorem cmpString_any (s t : ByteArray) (w : World) : Calls Try.prog 197 #[.string s, .string t] w fun e w' => e = .returned (.int .i64 (cmpS s t)) ∧ w = w' := by
  have H : Hid (Calls Try.prog 199 #[.string s, .string t] w fun e w' => e = .returned (.int .i64 (cmpS s t)) ∧ w = w') := by
    show Calls _ _ _ _ _
    go_enter Try.func199, Try.ntmps199
    go_wp2
    rw [run_callFunc_extern Try.func201 (by kernel_rfl) (by kernel_rfl) (by kernel_rfl) (e := Extern.BytealgCompare.compare) (by kernel_rfl), Lib.run_compareString]
    simp only [Result.andThen]
    rw [Oper.upon_value]
    go_wp2
    go_ret
    exact ⟨rfl, rfl⟩
  go_enter Try.func197, Try.ntmps197
  go_wp2_with fail
  refine Calls.mono H.out ?_
  rintro e w' ⟨rfl, rfl⟩
  go_wp2
  go_ret
  exact ⟨rfl, rfl⟩
/-- How two integers compare. -/
def cmpI (x y : Int) : Int := if x < y then -1 else if y < x then 1 else 0
theorem isNaN_any (x : Int) (w : World) : Calls Try.prog 200 #[.int .i64 x] w fun e w' => e = .returned (.bool false) ∧ w = w' := by
  go_enter Try.func200, Try.ntmps200
  go_wp2
  go_ret
  exact ⟨by simp, rfl⟩
theorem cmpInt_any (x y : Int) (w : World) : Calls Try.prog 198 #[.int .i64 x, .int .i64 y] w fun e w' => e = .returned (.int .i64 (cmpI x y)) ∧ w = w' := by
  by_cases h1 : x < y
  · have e : cmpI x y = -1 := by unfold cmpI; rw [if_pos h1]
    rw [e]
    clear e
    go_enter Try.func198, Try.ntmps198
    go_wp2_with fail
    refine (isNaN_any x _).mono ?_
    rintro e w1 ⟨rfl, rfl⟩
    go_wp2_with fail
    refine (isNaN_any y _).mono ?_
    rintro e w1 ⟨rfl, rfl⟩
    go_wp2
    go_ret
    exact ⟨rfl, rfl⟩
  · by_cases h2 : y < x
    · have e : cmpI x y = 1 := by unfold cmpI; rw [if_neg h1, if_pos h2]
      rw [e]
      clear e
      go_enter Try.func198, Try.ntmps198
      go_wp2_with fail
      refine (isNaN_any x _).mono ?_
      rintro e w1 ⟨rfl, rfl⟩
      go_wp2_with fail
      refine (isNaN_any y _).mono ?_
      rintro e w1 ⟨rfl, rfl⟩
      go_wp2
      go_ret
      exact ⟨rfl, rfl⟩
    · have e : cmpI x y = 0 := by unfold cmpI; rw [if_neg h1, if_neg h2]
      rw [e]
      clear e
      go_enter Try.func198, Try.ntmps198
      go_wp2_with fail
      refine (isNaN_any x _).mono ?_
      rintro e w1 ⟨rfl, rfl⟩
      go_wp2_with fail
      refine (isNaN_any y _).mono ?_
      rintro e w1 ⟨rfl, rfl⟩
      go_wp2
      go_ret
      exact ⟨rfl, rfl⟩
/-- cmp.Or of two. -/
theorem orOf_any (b : Nat) (c d : Int) (w : World) (h0 : w.cell? ⟨b, 0, none⟩ = some (.int .i64 c)) (h1 : w.cell? ⟨b, 1, none⟩ = some (.int .i64 d)) :
    Calls Try.prog 196 #[.slice (some ⟨b, 0, none⟩) 2 2] w fun e w' => e = .returned (.int .i64 (if c = 0 then d else c)) ∧ w = w' := by
  obtain ⟨r, HR, hrr⟩ : ∃ r, Hid ((if c = 0 then d else c) = r) ∧ (if c = 0 then d else c) = r := ⟨_, rfl, rfl⟩
  rw [hrr]
  clear hrr
  go_enter Try.func196, Try.ntmps196
  go_wp2
  go_loopw [8] (fun i wr => ∃ k : Nat, k ≤ 2 ∧ i = .int .i64 (k : Int) ∧ (1 ≤ k → c = 0) ∧ (2 ≤ k → d = 0) ∧ w = wr)
    (fun i _ => 2 - (intOf i).toNat)
  case atStart => exact ⟨0, by omega, rfl, fun h => by omega, fun h => by omega, rfl⟩
  case round =>
    obtain ⟨k, hk, rfl, hc, hd, rfl⟩ := hrel
    rcases (show k = 0 ∨ k = 1 ∨ k = 2 by omega) with rfl | rfl | rfl
    · by_cases hc0 : c = 0
      · have hz : (c == 0) = true := by simp [hc0]
        have hz' : (c != 0) = false := by simp [hc0]
        go_wp2
        go_roundw
        case rel => exact ⟨1, by omega, by go_num, fun _ => hc0, fun h => by omega, by first | rfl | trivial⟩
        case measure => simp [intOf]
      · have hz : (c == 0) = false := by simp [hc0]
        have hz' : (c != 0) = true := by simp [hc0]
        have HE : Hid (c = r) := by show _ = _; rw [← HR.out, if_neg hc0]
        clear hc hd hc0 hk
        go_wp2
        go_ret
        exact ⟨by rw [← HE.out]; rfl, rfl⟩
    · obtain rfl := hc (by omega)
      have HE : Hid (d = r) := by show _ = _; rw [← HR.out, if_pos rfl]
      by_cases hd0 : d = 0
      · have hz' : (d != 0) = false := by simp [hd0]
        go_wp2
        go_roundw
        case rel => exact ⟨2, by omega, by go_num, fun _ => by first | rfl | trivial, fun h => hd0, by first | rfl | trivial⟩
        case measure => simp [intOf]
      · have hz' : (d != 0) = true := by simp [hd0]
        clear hc hd hd0 hk
        go_wp2
        go_ret
        exact ⟨by rw [← HE.out]; rfl, rfl⟩
    · obtain rfl := hc (by omega)
      obtain rfl := hd (by omega)
      have HE : Hid (0 = r) := by show _ = _; rw [← HR.out, if_pos rfl]
      clear hc hd hk
      go_wp2
      go_ret
      exact ⟨by rw [← HE.out]; rfl, rfl⟩
end Go.Proofs.Ytffnadnndmmliaa

namespace Go.Proofs.Ytffnadnndmmliaa
open Go.RowKit Go.PlainAid
set_option linter.unusedVariables false
theorem swap_is (ns : List Nd) (x y : Int) : decide (0 < (if cmpS (txS ns x) (txS ns y) = 0 then cmpI x y else cmpS (txS ns x) (txS ns y))) = swapB ns x y := by
  unfold swapB cmpI
  rcases cmpS_range (txS ns x) (txS ns y) with h | h | h <;> rw [h]
  · rfl
  · by_cases h1 : x < y
    · simp [h1]; omega
    · by_cases h2 : y < x
      · simp [h1, h2]
      · simp [h1, h2]
  · rfl
set_option maxHeartbeats 800000 in
theorem inOrder_any (a : Option Addr) (cap : Nat) (ns : List Nd) (x y : Int) (w : World) (hl : ns.length ≤ 1048576) (hr : RowN w.heap.size w a ns) :
    Calls Try.prog 193 #[.agg #[.slice a ns.length cap], .int .i64 x, .int .i64 y] w fun e w' => e = .returned (.tuple #[.int .i64 (if swapB ns x y = true then y else x), .int .i64 (if swapB ns x y = true then x else y)]) ∧ Below w.heap.size w w' := by
  have hb0 : Below w.heap.size w (w.alloc (.cells #[.slice a ns.length cap] 28)) := (Below.refl _ _).alloc (Nat.le_refl _) _
  have hA0 := heap_alloc_new w (.cells #[.slice a ns.length cap] 28)
  have hs0 : (w.alloc (.cells #[.slice a ns.length cap] 28)).heap.size = w.heap.size + 1 := by simp
  have c0 : (w.alloc (.cells #[.slice a ns.length cap] 28)).cell? ⟨w.heap.size, 0, none⟩ = some (.slice a ns.length cap) := (cell_of_row _ _ 0 _ _ _ hA0).trans rfl
  have HTx : Hid (∀ wz, Below w.heap.size w wz → Calls Try.prog 25 #[.agg #[.slice a ns.length cap], .int .i64 x] wz fun e w' => e = .returned (.tuple #[.string (txS ns x), .bool (txB ns x)]) ∧ Below wz.heap.size wz w') := fun wz hz => implTextV_any a cap ns x wz hl (hr.grown hz)
  have HTy : Hid (∀ wz, Below w.heap.size w wz → Calls Try.prog 25 #[.agg #[.slice a ns.length cap], .int .i64 y] wz fun e w' => e = .returned (.tuple #[.string (txS ns y), .bool (txB ns y)]) ∧ Below wz.heap.size wz w') := fun wz hz => implTextV_any a cap ns y wz hl (hr.grown hz)
  have hsw := swap_is ns x y
  obtain ⟨q, hq⟩ : ∃ q, swapB ns x y = q := ⟨_, rfl⟩
  rw [hq] at hsw ⊢
  generalize txS ns x = s at HTx hsw
  generalize txS ns y = t at HTy hsw
  generalize txB ns x = b1 at HTx
  generalize txB ns y = b2 at HTy
  have HC : Hid _ := fun wz => cmpString_any s t wz
  have HI : Hid _ := fun wz => cmpInt_any x y wz
  generalize cmpS s t = c at HC hsw
  generalize cmpI x y = d at HI hsw
  clear hr hq hA0
  go_enter Try.func193, Try.ntmps193
  go_wp2_with fail
  generalize w.alloc (.cells #[.slice a ns.length cap] 28) = w0 at hb0 hs0 c0 ⊢
  refine (HTx.out w0 hb0).mono ?_
  rintro e w1 ⟨rfl, hb1⟩
  have hB1 : Below w.heap.size w w1 := hb0.trans (hb1.mono hb0.size)
  have c1 : w1.cell? ⟨w.heap.size, 0, none⟩ = some (.slice a ns.length cap) := (hb1.cell (p := ⟨w.heap.size, 0, none⟩) (show w.heap.size < w0.heap.size by omega)).trans c0
  clear hb0 hb1 c0
  go_wp2_with fail
  refine (HTy.out w1 hB1).mono ?_
  rintro e w2 ⟨rfl, hb2⟩
  have hB2 : Below w.heap.size w w2 := hB1.trans (hb2.mono hB1.size)
  clear hB1 hb2 c1 HTx HTy
  go_wp2_with fail
  refine (HC.out w2).mono ?_
  rintro e w3 ⟨rfl, rfl⟩
  go_wp2_with fail
  refine (HI.out w2).mono ?_
  rintro e w3 ⟨rfl, rfl⟩
  have HB3 : Hid (Below w.heap.size w (w2.alloc (.cells #[.int .i64 c, .int .i64 d] 3))) := hB2.alloc hB2.size _
  have hn3 := heap_alloc_new w2 (.cells #[.int .i64 c, .int .i64 d] 3)
  have HO : Hid _ := orOf_any w2.heap.size c d (w2.alloc (.cells #[.int .i64 c, .int .i64 d] 3)) ((cell_of_row _ _ 0 _ _ _ hn3).trans rfl) ((cell_of_row _ _ 1 _ _ _ hn3).trans rfl)
  clear HC HI hB2 hn3
  go_wp2_with fail
  refine Calls.mono HO.out ?_
  rintro e w3 ⟨rfl, rfl⟩
  generalize (if c = 0 then d else c) = r at hsw ⊢
  clear HO
  cases q
  · have hr : ¬ 0 < r := by simpa using hsw
    clear hsw
    go_wp2
    go_ret2
    exact ⟨rfl, HB3.out⟩
  · have hr : 0 < r := by simpa using hsw
    clear hsw
    go_wp2
    go_ret2
    exact ⟨rfl, HB3.out⟩

/-- DhOf. -/
def dhB (ns : List Nd) (x pub : Int) : Bool := isK ns pub 6 && okAt ns x
def dhN (ns : List Nd) (x pub : Int) : Nd := ⟨7, 0, if swapB ns x (ndAt ns pub).a = true then (ndAt ns pub).a else x, if swapB ns x (ndAt ns pub).a = true then x else (ndAt ns pub).a⟩
def dhA (ns : List Nd) (x pub : Int) : List Nd := if dhB ns x pub = true then putA ns (dhN ns x pub) else ns
def dhK (ns : List Nd) (x pub : Int) : Int := if dhB ns x pub = true then putK ns (dhN ns x pub) else -1
theorem dhK_neg {ns : List Nd} {x pub : Int} (h : dhK ns x pub < 0) : dhK ns x pub = -1 := by
  unfold dhK at h ⊢
  split
  · rename_i h1; rw [if_pos h1] at h; exact putK_neg h
  · rfl
theorem dhA_neg {ns : List Nd} {x pub : Int} (h : dhK ns x pub < 0) : dhA ns x pub = ns := by
  unfold dhK at h
  unfold dhA
  split
  · rename_i h1; rw [if_pos h1] at h; exact putA_neg h
  · rfl
theorem dhA_len {ns : List Nd} {x pub : Int} (h : ns.length ≤ 1048576) : (dhA ns x pub).length ≤ 1048577 := by
  unfold dhA
  split
  · exact putA_len h
  · omega
end Go.Proofs.Ytffnadnndmmliaa

namespace Go.Proofs.Ytffnadnndmmliaa
open Go.RowKit Go.PlainAid
set_option linter.unusedVariables false
theorem list6 {α : Type} (l : List α) (h : l.length = 6) : ∃ a0 a1 a2 a3 a4 a5, l = [a0, a1, a2, a3, a4, a5] := by
  match l, h with
  | [a0, a1, a2, a3, a4, a5], _ => exact ⟨a0, a1, a2, a3, a4, a5, rfl⟩
theorem txS_size (ns : List Nd) (k : Int) : (txS ns k).size ≤ 8000 := by
  unfold txS
  split
  · rename_i h
    have hb := inB_true h
    obtain ⟨i, rfl, hg, hsz⟩ := sizeN_good (show sizeN ns k ≠ 0 by omega)
    have := tx_len i hg (by omega)
    rw [Int.toNat_natCast, strOfNums_size]
    omega
  · simp
theorem extract_size (s : ByteArray) (i j : Nat) : (s.extract i j).size ≤ s.size := by rw [ByteArray.size_extract]; omega
theorem sliceTo (s : ByteArray) (i : Nat) (h : i ≤ s.size) (w : World) : (Instr.slice 9 (.string s) none (some (.int .i64 (i : Int))) none).run Try.prog w = .ok (.string (s.extract 0 i)) w := by
  have h1 : (0 : Int) ≤ (i : Int) := by omega
  have h2 : (i : Int) ≤ (s.size : Int) := by omega
  simp [go_sem, Try.underlying9, h1, h2]
theorem sliceFrom (s : ByteArray) (i : Nat) (h : i + 1 ≤ s.size) (w : World) : (Instr.slice 9 (.string s) (some (.int .i64 ((i : Int) + 1))) none none).run Try.prog w = .ok (.string (s.extract (i + 1) s.size)) w := by
  have h1 : (0 : Int) ≤ (i : Int) + 1 := by omega
  have h2 : (i : Int) + 1 ≤ (s.size : Int) := by omega
  simp [go_sem, Try.underlying9, h1, h2]
set_option maxHeartbeats 1600000 in
set_option maxRecDepth 20000 in
theorem spoilt_any (B g : Nat) (s : ByteArray) (w : World) (hs : s.size ≤ 10000) (hc : Cur B w g) :
    Calls Try.prog 93 #[.pointer (some ⟨g, 0, none⟩), .string s] w fun e w' => ∃ t : ByteArray, e = .returned (.string t) ∧ t.size ≤ 30000 ∧ Cur B w' g ∧ w.grownBy w' (some g) := by
  go_enter Try.func93, Try.ntmps93
  go_wp2_with fail
  refine (below_any B g 12 _ (by omega) (by omega) hc).mono ?_
  rintro e w1 ⟨x, rfl, hx, hc1, hg1⟩
  have HG1 : Hid (w.grownBy w1 (some g)) := hg1
  have HC1 : Hid (Cur B w1 g) := hc1
  clear hg1 hc1 hc
  rcases (show x = 0 ∨ x = 1 ∨ (x = 2 ∨ x = 3) ∨ 4 ≤ x by omega) with rfl | rfl | h23 | h4
  · go_wp2_with fail
    refine (text_any B g 1 _ (by omega) HC1.out).mono ?_
    rintro e w2 ⟨t, rfl, ht, hc2, hg2⟩
    have HE : Hid _ := And.intro hc2 (grown_trans HG1.out hg2)
    clear hc2 hg2
    go_wp2
    go_ret
    exact ⟨s ++ t, rfl, by rw [ByteArray.size_append]; omega, HE.out.1, HE.out.2⟩
  · go_wp2_with fail
    refine (below_any B g (s.size + 1) _ (by omega) (by omega) HC1.out).mono ?_
    rintro e w2 ⟨y, rfl, hy, hc2, hg2⟩
    have hsl := sliceTo s y (by omega) w2
    have HE : Hid _ := And.intro hc2 (grown_trans HG1.out hg2)
    have he := extract_size s 0 y
    clear hc2 hg2
    go_wp2
    go_ret
    exact ⟨s.extract 0 y, rfl, by omega, HE.out.1, HE.out.2⟩
  · by_cases h0 : s.size = 0
    · have h0' : ¬ (0 : Int) < (s.size : Int) := by omega
      rcases h23 with rfl | rfl
      all_goals
        go_wp2
        go_ret
        exact ⟨s, rfl, by omega, HC1.out, HG1.out⟩
    · have h0' : (0 : Int) < (s.size : Int) := by omega
      rcases h23 with rfl | rfl
      all_goals
        go_wp2_with fail
        refine (below_any B g s.size _ (by omega) (by omega) HC1.out).mono ?_
        rintro e w2 ⟨i, rfl, hi, hc2, hg2⟩
        have HG2 : Hid (w.grownBy w2 (some g)) := grown_trans HG1.out hg2
        have H1 : Hid (∀ wz, (Instr.slice 9 (.string s) none (some (.int .i64 (i : Int))) none).run Try.prog wz = .ok (.string (s.extract 0 i)) wz) := fun wz => sliceTo s i (by omega) wz
        have H2 : Hid (∀ wz, (Instr.slice 9 (.string s) (some (.int .i64 ((i : Int) + 1))) none none).run Try.prog wz = .ok (.string (s.extract (i + 1) s.size)) wz) := fun wz => sliceFrom s i (by omega) wz
        have HWR : Hid (IntKind.i64.wrap ((i : Int) + 1) = (i : Int) + 1) := IntWalk.i64_in _ ⟨by omega, by omega⟩
        have hc2' := hc2
        clear hg2 hc2 HG1 HC1
        go_wp2_with fail
        refine wp_region_list (I := fun w' => Cur B w' g ∧ w2.grownBy w' (some g)) (R := fun i w' w'' => (Cur B w' g ∧ w2.grownBy w' (some g)) → (Cur B w'' g ∧ w2.grownBy w'' (some g)))
          (fs := #[⟨[33], fun vs _ => vs = [.string s]⟩, ⟨[34], fun vs _ => vs = [.int .i64 (i : Int)]⟩, ⟨[35], fun vs _ => vs = [.string (s.extract 0 i)]⟩, ⟨[36], fun vs _ => vs = [.pointer (some ⟨g, 0, none⟩)]⟩, ⟨[37], fun vs _ => ∃ u : ByteArray, vs = [.string u] ∧ u.size ≤ 1⟩, ⟨[38], fun vs _ => ∃ u : ByteArray, vs = [.string u] ∧ u.size ≤ s.size + 1⟩, ⟨[39], fun vs _ => vs = [.string s]⟩, ⟨[40], fun vs _ => vs = [.int .i64 (i : Int)]⟩, ⟨[41], fun vs _ => vs = [.int .i64 ((i : Int) + 1)]⟩, ⟨[42], fun vs _ => vs = [.string (s.extract (i + 1) s.size)]⟩, ⟨[43], fun vs _ => ∃ u : ByteArray, vs = [.string u] ∧ u.size ≤ 2 * s.size + 1⟩, ⟨[4], fun vs _ => ∃ u : ByteArray, vs = [.string u] ∧ u.size ≤ 2 * s.size + 1⟩])
          (by kernel_rfl) 45 rfl (by kernel_rfl) ?stab ?istab ?start ?exec ?fin
        case stab =>
          intro k i f hki hf
          have hk : k < 12 := (Array.getElem?_eq_some_iff.1 hf).1
          rcases (show k = 0 ∨ k = 1 ∨ k = 2 ∨ k = 3 ∨ k = 4 ∨ k = 5 ∨ k = 6 ∨ k = 7 ∨ k = 8 ∨ k = 9 ∨ k = 10 ∨ k = 11 by omega) with rfl | rfl | rfl | rfl | rfl | rfl | rfl | rfl | rfl | rfl | rfl | rfl
          all_goals
            simp only [List.getElem?_toArray, List.getElem?_cons_succ, List.getElem?_cons_zero, Option.some.injEq] at hf
            subst hf
          · exact fun vs _ _ _ h => h
          · exact fun vs _ _ _ h => h
          · exact fun vs _ _ _ h => h
          · exact fun vs _ _ _ h => h
          · exact fun vs _ _ _ h => h
          · exact fun vs _ _ _ h => h
          · exact fun vs _ _ _ h => h
          · exact fun vs _ _ _ h => h
          · exact fun vs _ _ _ h => h
          · exact fun vs _ _ _ h => h
          · exact fun vs _ _ _ h => h
          · exact fun vs _ _ _ h => h
        case istab => exact fun i w' w'' hR h => hR h
        case start => exact ⟨hc2'.grown (Below.refl _ _).drew, grown_drewN w2 1 _⟩
        case exec =>
          intro i o f hi hf a_1 wq hsz hI hold hpre
          have hi11 : i < 12 := (Array.getElem?_eq_some_iff.1 hi).1
          rcases (show i = 0 ∨ i = 1 ∨ i = 2 ∨ i = 3 ∨ i = 4 ∨ i = 5 ∨ i = 6 ∨ i = 7 ∨ i = 8 ∨ i = 9 ∨ i = 10 ∨ i = 11 by omega) with rfl | rfl | rfl | rfl | rfl | rfl | rfl | rfl | rfl | rfl | rfl | rfl
          all_goals
            simp only [List.getElem?_toArray, List.getElem?_cons_succ, List.getElem?_cons_zero, Option.some.injEq] at hi hf
            subst hi hf
          · have g1 : a_1.tmps.getD 1 undef = .string s := hold 1 (free_spec (by kernel_rfl))
            refine exec_same (v := .string s) ?_ ⟨_, rfl, (fun h => h), at_one (by omega) rfl⟩
            simp [go_sem, Act.eval, g1]
          · have g5 : a_1.tmps.getD 5 undef = .int .i64 (i : Int) := hold 5 (free_spec (by kernel_rfl))
            refine exec_same (v := .int .i64 (i : Int)) ?_ ⟨_, rfl, (fun h => h), at_one (by omega) rfl⟩
            simp [go_sem, Act.eval, g5]
          · have g33 : a_1.tmps.getD 33 undef = .string s := by have := of_one (hpre ⟨0, .data⟩ (by simp) rfl _ rfl); simpa using this
            have g34 : a_1.tmps.getD 34 undef = .int .i64 (i : Int) := by have := of_one (hpre ⟨1, .data⟩ (by simp) rfl _ rfl); simpa using this
            have hsl := H1.out wq
            refine exec_same (v := .string (s.extract 0 i)) ?_ ⟨_, rfl, (fun h => h), at_one (by omega) rfl⟩
            simp [go_sem, Act.eval, g33, g34, hsl]
          · have g0 : a_1.tmps.getD 0 undef = .pointer (some ⟨g, 0, none⟩) := hold 0 (free_spec (by kernel_rfl))
            refine exec_same (v := .pointer (some ⟨g, 0, none⟩)) ?_ ⟨_, rfl, (fun h => h), at_one (by omega) rfl⟩
            simp [go_sem, Act.eval, g0]
          · have g36 : a_1.tmps.getD 36 undef = .pointer (some ⟨g, 0, none⟩) := by have := of_one (hpre ⟨3, .data⟩ (by simp) rfl _ rfl); simpa using this
            refine exec_call (f := 159) (args := #[.pointer (some ⟨g, 0, none⟩), .int .i64 1]) (by simp [go_sem, Act.eval, g36]) ?_
            refine (text_any B g 1 wq (by omega) hI.1).mono ?_
            rintro e w2 ⟨t, rfl, ht, hct, hgt⟩
            exact ⟨_, rfl, _, rfl, fun h => ⟨hct, grown_trans h.2 hgt⟩, at_one (by omega) ⟨t, rfl, by omega⟩⟩
          · have g35 : a_1.tmps.getD 35 undef = .string (s.extract 0 i) := by have := of_one (hpre ⟨2, .data⟩ (by simp) rfl _ rfl); simpa using this
            obtain ⟨t, h37, ht⟩ := of_one (hpre ⟨4, .data⟩ (by simp) rfl _ rfl)
            have g37 : a_1.tmps.getD 37 undef = .string t := by simpa using h37
            have he := extract_size s 0 i
            refine exec_same (v := .string (s.extract 0 i ++ t)) ?_ ⟨_, rfl, (fun h => h), at_one (by omega) ⟨_, rfl, by rw [ByteArray.size_append]; omega⟩⟩
            simp [go_sem, Act.eval, g35, g37]
            omega
          · have g1 : a_1.tmps.getD 1 undef = .string s := hold 1 (free_spec (by kernel_rfl))
            refine exec_same (v := .string s) ?_ ⟨_, rfl, (fun h => h), at_one (by omega) rfl⟩
            simp [go_sem, Act.eval, g1]
          · have g5 : a_1.tmps.getD 5 undef = .int .i64 (i : Int) := hold 5 (free_spec (by kernel_rfl))
            refine exec_same (v := .int .i64 (i : Int)) ?_ ⟨_, rfl, (fun h => h), at_one (by omega) rfl⟩
            simp [go_sem, Act.eval, g5]
          · have g40 : a_1.tmps.getD 40 undef = .int .i64 (i : Int) := by have := of_one (hpre ⟨7, .data⟩ (by simp) rfl _ rfl); simpa using this
            have hwr := HWR.out
            refine exec_same (v := .int .i64 ((i : Int) + 1)) ?_ ⟨_, rfl, (fun h => h), at_one (by omega) rfl⟩
            simp [go_sem, Act.eval, g40, hwr]
          · have g39 : a_1.tmps.getD 39 undef = .string s := by have := of_one (hpre ⟨6, .data⟩ (by simp) rfl _ rfl); simpa using this
            have g41 : a_1.tmps.getD 41 undef = .int .i64 ((i : Int) + 1) := by have := of_one (hpre ⟨8, .data⟩ (by simp) rfl _ rfl); simpa using this
            have hsl := H2.out wq
            refine exec_same (v := .string (s.extract (i + 1) s.size)) ?_ ⟨_, rfl, (fun h => h), at_one (by omega) rfl⟩
            simp [go_sem, Act.eval, g39, g41, hsl]
          · obtain ⟨t, h38, ht⟩ := of_one (hpre ⟨5, .data⟩ (by simp) rfl _ rfl)
            have g38 : a_1.tmps.getD 38 undef = .string t := by simpa using h38
            have g42 : a_1.tmps.getD 42 undef = .string (s.extract (i + 1) s.size) := by have := of_one (hpre ⟨9, .data⟩ (by simp) rfl _ rfl); simpa using this
            have he := extract_size s (i + 1) s.size
            refine exec_same (v := .string (t ++ s.extract (i + 1) s.size)) ?_ ⟨_, rfl, (fun h => h), at_one (by omega) ⟨_, rfl, by rw [ByteArray.size_append]; omega⟩⟩
            simp [go_sem, Act.eval, g38, g42]
            omega
          · obtain ⟨t, h43, ht⟩ := of_one (hpre ⟨10, .data⟩ (by simp) rfl _ rfl)
            have g43 : a_1.tmps.getD 43 undef = .string t := by simpa using h43
            refine exec_same (v := .string t) ?_ ⟨_, rfl, (fun h => h), at_one (by omega) ⟨t, rfl, ht⟩⟩
            simp [go_sem, Act.eval, g43]
        case fin =>
          intro zs w5 hzl hI hF
          obtain ⟨z0, z1, z2, z3, z4, z5, z6, z7, z8, z9, z10, z11, rfl⟩ := list12 zs hzl
          obtain ⟨t, hst, ht⟩ := of_one (hF 11 _ rfl)
          simp only [List.cons.injEq, and_true] at hst
          have hs2 := last_is (i := 11) (v := z11) (n := 45) hst (by kernel_rfl) rfl rfl (by omega)
          clear hst
          subst hs2
          clear hF
          simp only [putAll, Act.put, List.setIfInBounds_toArray, List.set_cons_succ, List.set_cons_zero]
          have HE : Hid _ := And.intro hI.1 (grown_trans HG2.out hI.2)
          clear hI
          go_wp2
          go_ret
          exact ⟨t, rfl, by omega, HE.out.1, HE.out.2⟩
  · have q0 : ((x : Int) == 0) = false := by simp; omega
    have q1 : ((x : Int) == 1) = false := by simp; omega
    have q2 : ((x : Int) == 2) = false := by simp; omega
    have q3 : ((x : Int) == 3) = false := by simp; omega
    go_wp2
    go_ret
    exact ⟨s, rfl, by omega, HC1.out, HG1.out⟩
end Go.Proofs.Ytffnadnndmmliaa
