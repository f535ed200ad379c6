/- Chapter 4: the order of two terms by their texts: plain mathematics, TermText of both sides in one form, and the program's inOrder with the library's Compare and Or. -/
import Derived.Test.YtffnadnndmmliaaSpecText
import Derived.Test.YtffnadnndmmliaaImplText2
import Derived.Test.YtffnadnndmmliaaMakeIs
import Derived.Lib.Bytealg
import Derived.WalkKit
import Derived.WalkLawsBesides
import Derived.WalkSpells
import Derived.Laws.Rows
import Derived.Test.YtffnadnndmmliaaLawKeep
namespace Go.Proofs.Ytffnadnndmmliaa
open Go.RowKit Go.PlainAid
set_option linter.unusedVariables false

/-- TermText. -/
def txB (ns : List Nd) (k : Int) : Bool := inB (sizeN ns k) 1 2000
def txS (ns : List Nd) (k : Int) : ByteArray := if txB ns k = true then strOfNums (tx ns k.toNat) else ByteArray.empty
theorem specTextV_any (a : Option Addr) (cap : Nat) (ns : List Nd) (k : Int) (w : World) (hl : ns.length ≤ 1048576) (hr : RowN w.heap.size w a ns) :
    Calls Try.prog 32 #[.agg #[.slice a ns.length cap], .int .i64 k] w fun e w' => e = .returned (.tuple #[.string (txS ns k), .bool (txB ns k)]) ∧ Below w.heap.size w w' := by
  cases h : txB ns k with
  | false =>
    have e : txS ns k = ByteArray.empty := by unfold txS; rw [h]; rfl
    rw [e]
    exact specText_no a cap ns k w hl hr h
  | true =>
    have e : txS ns k = strOfNums (tx ns k.toNat) := by unfold txS; rw [h]; rfl
    rw [e]
    have hb := inB_true h
    obtain ⟨i, rfl, hg, hsz⟩ := sizeN_good (show sizeN ns k ≠ 0 by omega)
    have := specText_yes a cap ns i w hl hr hg (by omega)
    simpa using this
theorem implTextV_any (a : Option Addr) (cap : Nat) (ns : List Nd) (k : Int) (w : World) (hl : ns.length ≤ 1048576) (hr : RowN w.heap.size w a ns) :
    Calls Try.prog 25 #[.agg #[.slice a ns.length cap], .int .i64 k] w fun e w' => e = .returned (.tuple #[.string (txS ns k), .bool (txB ns k)]) ∧ Below w.heap.size w w' := by
  cases h : txB ns k with
  | false =>
    have e : txS ns k = ByteArray.empty := by unfold txS; rw [h]; rfl
    rw [e]
    exact implText_no a cap ns k w hl hr h
  | true =>
    have e : txS ns k = strOfNums (tx ns k.toNat) := by unfold txS; rw [h]; rfl
    rw [e]
    have hb := inB_true h
    obtain ⟨i, rfl, hg, hsz⟩ := sizeN_good (show sizeN ns k ≠ 0 by omega)
    have := implText_yes a cap ns i w hl hr hg (by omega)
    simpa using this

/-- Bytes in their order. -/
theorem cmpB_range : ∀ a b : List UInt8, Lib.compareBytes a b = -1 ∨ Lib.compareBytes a b = 0 ∨ Lib.compareBytes a b = 1
  | [], [] => .inr (.inl rfl)
  | [], _ :: _ => .inl rfl
  | _ :: _, [] => .inr (.inr rfl)
  | x :: a, y :: b => by
    rw [Lib.compareBytes]
    split
    · exact .inl rfl
    · split
      · exact .inr (.inr rfl)
      · exact cmpB_range a b
theorem cmpB_zero : ∀ a b : List UInt8, Lib.compareBytes a b = 0 ↔ a = b
  | [], [] => by simp [Lib.compareBytes]
  | [], _ :: _ => by simp [Lib.compareBytes]
  | _ :: _, [] => by simp [Lib.compareBytes]
  | x :: a, y :: b => by
    rw [Lib.compareBytes]
    by_cases h1 : x < y
    · rw [if_pos h1]
      constructor
      · intro h; omega
      · intro h; simp only [List.cons.injEq] at h; rw [h.1] at h1; exact absurd h1 (UInt8.lt_irrefl y)
    · rw [if_neg h1]
      by_cases h2 : y < x
      · rw [if_pos h2]
        constructor
        · intro h; omega
        · intro h; simp only [List.cons.injEq] at h; rw [h.1] at h2; exact absurd h2 (UInt8.lt_irrefl y)
      · rw [if_neg h2, cmpB_zero a b, List.cons.injEq]
        have hxy : x = y := UInt8.le_antisymm (UInt8.not_lt.1 h2) (UInt8.not_lt.1 h1)
        exact ⟨fun h => ⟨hxy, h⟩, fun h => h.2⟩
theorem cmpB_less : ∀ a b : List UInt8, Op.bytesLess a b = decide (Lib.compareBytes a b = -1)
  | [], [] => rfl
  | [], _ :: _ => rfl
  | _ :: _, [] => rfl
  | x :: a, y :: b => by
    rw [Lib.compareBytes, Op.bytesLess]
    by_cases h1 : x < y
    · simp [h1]
    · rw [if_neg h1]
      by_cases h2 : y < x
      · have hne : (x == y) = false := by
          rw [beq_eq_false_iff_ne]; intro e; rw [e] at h2; exact UInt8.lt_irrefl y h2
        simp [h1, h2, hne]
      · have hxy : x = y := UInt8.le_antisymm (UInt8.not_lt.1 h2) (UInt8.not_lt.1 h1)
        rw [if_neg h2, cmpB_less a b]
        simp [hxy]
/-- How two texts compare. -/
def cmpS (s t : ByteArray) : Int := Lib.compareBytes s.data.toList t.data.toList
theorem cmpS_range (s t : ByteArray) : cmpS s t = -1 ∨ cmpS s t = 0 ∨ cmpS s t = 1 := cmpB_range _ _
theorem cmpS_eq (s t : ByteArray) : (s.toList == t.toList) = decide (cmpS s t = 0) := by
  unfold cmpS
  rw [ByteArray.toList_eq, ByteArray.toList_eq, Bool.eq_iff_iff, beq_iff_eq, decide_eq_true_iff]
  exact (cmpB_zero _ _).symm
theorem cmpS_gt (s t : ByteArray) : (!(Op.bytesLess s.toList t.toList || s.toList == t.toList)) = decide (cmpS s t = 1) := by
  rw [cmpS_eq, ByteArray.toList_eq, ByteArray.toList_eq, cmpB_less]
  have := cmpS_range s t
  unfold cmpS at this ⊢
  rcases this with h | h | h <;> rw [h] <;> rfl
theorem cmpS_less (s t : ByteArray) : Op.bytesLess s.toList t.toList = decide (cmpS s t = -1) := by
  rw [ByteArray.toList_eq, ByteArray.toList_eq, cmpB_less]; rfl
/-- Are the two to change places? -/
def swapB (ns : List Nd) (x y : Int) : Bool := decide (cmpS (txS ns x) (txS ns y) = 1) || (decide (cmpS (txS ns x) (txS ns y) = 0) && decide (y < x))

set_option maxRecDepth 100000 in
theorem cmpString_any (s t : ByteArray) (w : World) : Calls Try.prog 197 #[.string s, .string t] w fun e w' => e = .returned (.int .i64 (cmpS s t)) ∧ w = w' := by
  have H : Hid (Calls Try.prog 199 #[.string s, .string t] w fun e w' => e = .returned (.int .i64 (cmpS s t)) ∧ w = w') := by
    show Calls _ _ _ _ _
    go_enter Try.func199, Try.ntmps199
    go_wp2
    rw [run_callFunc_extern Try.func201 (by kernel_rfl) (by kernel_rfl) (by kernel_rfl) (e := Extern.BytealgCompare.compare) (by kernel_rfl), Lib.run_compareString]
    simp only [Result.andThen]
    rw [Oper.upon_value]
    go_wp2
    go_ret
    exact ⟨rfl, rfl⟩
  go_enter Try.func197, Try.ntmps197
  go_wp2_with fail
  refine Calls.mono H.out ?_
  rintro e w' ⟨rfl, rfl⟩
  go_wp2
  go_ret
  exact ⟨rfl, rfl⟩
/-- How two integers compare. -/
def cmpI (x y : Int) : Int := if x < y then -1 else if y < x then 1 else 0
theorem isNaN_any (x : Int) (w : World) : Calls Try.prog 200 #[.int .i64 x] w fun e w' => e = .returned (.bool false) ∧ w = w' := by
  go_enter Try.func200, Try.ntmps200
  go_wp2
  go_ret
  exact ⟨by simp, rfl⟩
theorem cmpInt_any (x y : Int) (w : World) : Calls Try.prog 198 #[.int .i64 x, .int .i64 y] w fun e w' => e = .returned (.int .i64 (cmpI x y)) ∧ w = w' := by
  by_cases h1 : x < y
  · have e : cmpI x y = -1 := by unfold cmpI; rw [if_pos h1]
    rw [e]
    clear e
    go_enter Try.func198, Try.ntmps198
    go_wp2_with fail
    refine (isNaN_any x _).mono ?_
    rintro e w1 ⟨rfl, rfl⟩
    go_wp2_with fail
    refine (isNaN_any y _).mono ?_
    rintro e w1 ⟨rfl, rfl⟩
    go_wp2
    go_ret
    exact ⟨rfl, rfl⟩
  · by_cases h2 : y < x
    · have e : cmpI x y = 1 := by unfold cmpI; rw [if_neg h1, if_pos h2]
      rw [e]
      clear e
      go_enter Try.func198, Try.ntmps198
      go_wp2_with fail
      refine (isNaN_any x _).mono ?_
      rintro e w1 ⟨rfl, rfl⟩
      go_wp2_with fail
      refine (isNaN_any y _).mono ?_
      rintro e w1 ⟨rfl, rfl⟩
      go_wp2
      go_ret
      exact ⟨rfl, rfl⟩
    · have e : cmpI x y = 0 := by unfold cmpI; rw [if_neg h1, if_neg h2]
      rw [e]
      clear e
      go_enter Try.func198, Try.ntmps198
      go_wp2_with fail
      refine (isNaN_any x _).mono ?_
      rintro e w1 ⟨rfl, rfl⟩
      go_wp2_with fail
      refine (isNaN_any y _).mono ?_
      rintro e w1 ⟨rfl, rfl⟩
      go_wp2
      go_ret
      exact ⟨rfl, rfl⟩
/-- cmp.Or of two. -/
theorem orOf_any (b : Nat) (c d : Int) (w : World) (h0 : w.cell? ⟨b, 0, none⟩ = some (.int .i64 c)) (h1 : w.cell? ⟨b, 1, none⟩ = some (.int .i64 d)) :
    Calls Try.prog 196 #[.slice (some ⟨b, 0, none⟩) 2 2] w fun e w' => e = .returned (.int .i64 (if c = 0 then d else c)) ∧ w = w' := by
  obtain ⟨r, HR, hrr⟩ : ∃ r, Hid ((if c = 0 then d else c) = r) ∧ (if c = 0 then d else c) = r := ⟨_, rfl, rfl⟩
  rw [hrr]
  clear hrr
  go_enter Try.func196, Try.ntmps196
  go_wp2
  go_loopw [8] (fun i wr => ∃ k : Nat, k ≤ 2 ∧ i = .int .i64 (k : Int) ∧ (1 ≤ k → c = 0) ∧ (2 ≤ k → d = 0) ∧ w = wr)
    (fun i _ => 2 - (intOf i).toNat)
  case atStart => exact ⟨0, by omega, rfl, fun h => by omega, fun h => by omega, rfl⟩
  case round =>
    obtain ⟨k, hk, rfl, hc, hd, rfl⟩ := hrel
    rcases (show k = 0 ∨ k = 1 ∨ k = 2 by omega) with rfl | rfl | rfl
    · by_cases hc0 : c = 0
      · have hz : (c == 0) = true := by simp [hc0]
        have hz' : (c != 0) = false := by simp [hc0]
        go_wp2
        go_roundw
        case rel => exact ⟨1, by omega, by go_num, fun _ => hc0, fun h => by omega, by first | rfl | trivial⟩
        case measure => simp [intOf]
      · have hz : (c == 0) = false := by simp [hc0]
        have hz' : (c != 0) = true := by simp [hc0]
        have HE : Hid (c = r) := by show _ = _; rw [← HR.out, if_neg hc0]
        clear hc hd hc0 hk
        go_wp2
        go_ret
        exact ⟨by rw [← HE.out]; rfl, rfl⟩
    · obtain rfl := hc (by omega)
      have HE : Hid (d = r) := by show _ = _; rw [← HR.out, if_pos rfl]
      by_cases hd0 : d = 0
      · have hz' : (d != 0) = false := by simp [hd0]
        go_wp2
        go_roundw
        case rel => exact ⟨2, by omega, by go_num, fun _ => by first | rfl | trivial, fun h => hd0, by first | rfl | trivial⟩
        case measure => simp [intOf]
      · have hz' : (d != 0) = true := by simp [hd0]
        clear hc hd hd0 hk
        go_wp2
        go_ret
        exact ⟨by rw [← HE.out]; rfl, rfl⟩
    · obtain rfl := hc (by omega)
      obtain rfl := hd (by omega)
      have HE : Hid (0 = r) := by show _ = _; rw [← HR.out, if_pos rfl]
      clear hc hd hk
      go_wp2
      go_ret
      exact ⟨by rw [← HE.out]; rfl, rfl⟩
end Go.Proofs.Ytffnadnndmmliaa

namespace Go.Proofs.Ytffnadnndmmliaa
open Go.RowKit Go.PlainAid
set_option linter.unusedVariables false
theorem swap_is (ns : List Nd) (x y : Int) : decide (0 < (if cmpS (txS ns x) (txS ns y) = 0 then cmpI x y else cmpS (txS ns x) (txS ns y))) = swapB ns x y := by
  unfold swapB cmpI
  rcases cmpS_range (txS ns x) (txS ns y) with h | h | h <;> rw [h]
  · rfl
  · by_cases h1 : x < y
    · simp [h1]; omega
    · by_cases h2 : y < x
      · simp [h1, h2]
      · simp [h1, h2]
  · rfl
set_option maxHeartbeats 800000 in
theorem inOrder_any (a : Option Addr) (cap : Nat) (ns : List Nd) (x y : Int) (w : World) (hl : ns.length ≤ 1048576) (hr : RowN w.heap.size w a ns) :
    Calls Try.prog 193 #[.agg #[.slice a ns.length cap], .int .i64 x, .int .i64 y] w fun e w' => e = .returned (.tuple #[.int .i64 (if swapB ns x y = true then y else x), .int .i64 (if swapB ns x y = true then x else y)]) ∧ Below w.heap.size w w' := by
  have hb0 : Below w.heap.size w (w.alloc (.cells #[.slice a ns.length cap] 28)) := (Below.refl _ _).alloc (Nat.le_refl _) _
  have hA0 := heap_alloc_new w (.cells #[.slice a ns.length cap] 28)
  have hs0 : (w.alloc (.cells #[.slice a ns.length cap] 28)).heap.size = w.heap.size + 1 := by simp
  have c0 : (w.alloc (.cells #[.slice a ns.length cap] 28)).cell? ⟨w.heap.size, 0, none⟩ = some (.slice a ns.length cap) := (cell_of_row _ _ 0 _ _ _ hA0).trans rfl
  have HTx : Hid (∀ wz, Below w.heap.size w wz → Calls Try.prog 25 #[.agg #[.slice a ns.length cap], .int .i64 x] wz fun e w' => e = .returned (.tuple #[.string (txS ns x), .bool (txB ns x)]) ∧ Below wz.heap.size wz w') := fun wz hz => implTextV_any a cap ns x wz hl (hr.grown hz)
  have HTy : Hid (∀ wz, Below w.heap.size w wz → Calls Try.prog 25 #[.agg #[.slice a ns.length cap], .int .i64 y] wz fun e w' => e = .returned (.tuple #[.string (txS ns y), .bool (txB ns y)]) ∧ Below wz.heap.size wz w') := fun wz hz => implTextV_any a cap ns y wz hl (hr.grown hz)
  have hsw := swap_is ns x y
  obtain ⟨q, hq⟩ : ∃ q, swapB ns x y = q := ⟨_, rfl⟩
  rw [hq] at hsw ⊢
  generalize txS ns x = s at HTx hsw
  generalize txS ns y = t at HTy hsw
  generalize txB ns x = b1 at HTx
  generalize txB ns y = b2 at HTy
  have HC : Hid _ := fun wz => cmpString_any s t wz
  have HI : Hid _ := fun wz => cmpInt_any x y wz
  generalize cmpS s t = c at HC hsw
  generalize cmpI x y = d at HI hsw
  clear hr hq hA0
  go_enter Try.func193, Try.ntmps193
  go_wp2_with fail
  generalize w.alloc (.cells #[.slice a ns.length cap] 28) = w0 at hb0 hs0 c0 ⊢
  refine (HTx.out w0 hb0).mono ?_
  rintro e w1 ⟨rfl, hb1⟩
  have hB1 : Below w.heap.size w w1 := hb0.trans (hb1.mono hb0.size)
  have c1 : w1.cell? ⟨w.heap.size, 0, none⟩ = some (.slice a ns.length cap) := (hb1.cell (p := ⟨w.heap.size, 0, none⟩) (show w.heap.size < w0.heap.size by omega)).trans c0
  clear hb0 hb1 c0
  go_wp2_with fail
  refine (HTy.out w1 hB1).mono ?_
  rintro e w2 ⟨rfl, hb2⟩
  have hB2 : Below w.heap.size w w2 := hB1.trans (hb2.mono hB1.size)
  clear hB1 hb2 c1 HTx HTy
  go_wp2_with fail
  refine (HC.out w2).mono ?_
  rintro e w3 ⟨rfl, rfl⟩
  go_wp2_with fail
  refine (HI.out w2).mono ?_
  rintro e w3 ⟨rfl, rfl⟩
  have HB3 : Hid (Below w.heap.size w (w2.alloc (.cells #[.int .i64 c, .int .i64 d] 3))) := hB2.alloc hB2.size _
  have hn3 := heap_alloc_new w2 (.cells #[.int .i64 c, .int .i64 d] 3)
  have HO : Hid _ := orOf_any w2.heap.size c d (w2.alloc (.cells #[.int .i64 c, .int .i64 d] 3)) ((cell_of_row _ _ 0 _ _ _ hn3).trans rfl) ((cell_of_row _ _ 1 _ _ _ hn3).trans rfl)
  clear HC HI hB2 hn3
  go_wp2_with fail
  refine Calls.mono HO.out ?_
  rintro e w3 ⟨rfl, rfl⟩
  generalize (if c = 0 then d else c) = r at hsw ⊢
  clear HO
  cases q
  · have hr : ¬ 0 < r := by simpa using hsw
    clear hsw
    go_wp2
    go_ret2
    exact ⟨rfl, HB3.out⟩
  · have hr : 0 < r := by simpa using hsw
    clear hsw
    go_wp2
    go_ret2
    exact ⟨rfl, HB3.out⟩

/-- DhOf. -/
def dhB (ns : List Nd) (x pub : Int) : Bool := isK ns pub 6 && okAt ns x
def dhN (ns : List Nd) (x pub : Int) : Nd := ⟨7, 0, if swapB ns x (ndAt ns pub).a = true then (ndAt ns pub).a else x, if swapB ns x (ndAt ns pub).a = true then x else (ndAt ns pub).a⟩
def dhA (ns : List Nd) (x pub : Int) : List Nd := if dhB ns x pub = true then putA ns (dhN ns x pub) else ns
def dhK (ns : List Nd) (x pub : Int) : Int := if dhB ns x pub = true then putK ns (dhN ns x pub) else -1
theorem dhK_neg {ns : List Nd} {x pub : Int} (h : dhK ns x pub < 0) : dhK ns x pub = -1 := by
  unfold dhK at h ⊢
  split
  · rename_i h1; rw [if_pos h1] at h; exact putK_neg h
  · rfl
theorem dhA_neg {ns : List Nd} {x pub : Int} (h : dhK ns x pub < 0) : dhA ns x pub = ns := by
  unfold dhK at h
  unfold dhA
  split
  · rename_i h1; rw [if_pos h1] at h; exact putA_neg h
  · rfl
theorem dhA_len {ns : List Nd} {x pub : Int} (h : ns.length ≤ 1048576) : (dhA ns x pub).length ≤ 1048577 := by
  unfold dhA
  split
  · exact putA_len h
  · omega
end Go.Proofs.Ytffnadnndmmliaa
