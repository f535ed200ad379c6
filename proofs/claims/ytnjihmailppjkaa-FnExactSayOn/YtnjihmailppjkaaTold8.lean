/- Chapter 6's terms that are told of others (the program's): toldHand, toldSideKey, toldDone. -/
import Derived.Test.YtnjihmailppjkaaTold7
import Derived.Test.YtnjihmailppjkaaPlainTerm
import Derived.WalkKit
import Derived.Test.YtnjihmailppjkaaLawClip
import Derived.OpenShut
import Derived.Test.YtnjihmailppjkaaRegionK
import Derived.Deep.RegionHeld3
namespace Go.Proofs.Ytnjihmailppjkaa
open Go.RowKit Go.Maps
set_option linter.unusedVariables false
/-- Terms that are told stay so. -/
theorem ToldIs.nx {L : Nat} {w w' : World} {t : Tl} {v : Value} (hb : Below w.heap.size w w') (h : ToldIs L w.heap.size w t v) : ToldIs L w'.heap.size w' t v := ToldIs.base hb.size t (ToldIs.later hb t h)
set_option maxHeartbeats 1600000 in
set_option maxRecDepth 20000 in
theorem toldSideKey_any {L : Nat} (x : Tl) (v : Value) (n : Int) (w : World) (hL : L ≤ w.heap.size) (hx : ToldIs L w.heap.size w x v)  :
    Calls Try.prog 75 #[v, .int .i64 n] w (ToldP L (.two 4 x (.atom n)) w) := by
  have HB0 : Hid (Below w.heap.size w w ∧ L ≤ w.heap.size) := ⟨Below.refl _ _, hL⟩
  obtain ⟨Fx, cx, rfl⟩ := hx.fn
  have Tx : Hid (ToldIs L w.heap.size w x (.func (.func Fx) #[] cx)) := hx
  clear hL hx
  go_enter Try.func75, Try.ntmps75
  go_wp2_with fail
  refine Calls.mono (toldAtom_any (L := L) n w HB0.out.2) ?_
  rintro e w1 ⟨v1, rfl, t1, b1⟩
  have HB1 : Hid (Below w.heap.size w w1 ∧ L ≤ w1.heap.size) := ⟨HB0.out.1.trans (b1.mono HB0.out.1.size), Nat.le_trans HB0.out.2 b1.size⟩
  replace Tx : Hid (ToldIs L w1.heap.size w1 _ (.func (.func Fx) #[] cx)) := ToldIs.nx b1 Tx.out
  obtain ⟨Fa, ca, rfl⟩ := t1.fn
  have Ta : Hid (ToldIs L w1.heap.size w1 _ (.func (.func Fa) #[] ca)) := t1
  clear t1 b1 HB0
  go_wp2_with fail
  refine Calls.mono (toldKdf_any (L := L) _ _ _ _ w1 HB1.out.2 Tx.out Ta.out) ?_
  rintro e w2 ⟨v2, rfl, t2, b2⟩
  have HE : Hid (ToldP L (.two 4 x (.atom n)) w (.returned v2) w2) := ⟨v2, rfl, t2, HB1.out.1.trans (b2.mono HB1.out.1.size)⟩
  clear t2 b2
  go_wp2
  go_ret
  exact HE.out
end Go.Proofs.Ytnjihmailppjkaa

namespace Go.Proofs.Ytnjihmailppjkaa
open Go.RowKit
set_option linter.unusedVariables false
theorem isEpoch_any (x : Int) (w : World) : Calls Try.prog 36 #[.int .i64 x] w fun e w' => e = .returned (.bool (inB x 0 8)) ∧ Below w.heap.size w w' := by
  have hin : inB x 0 8 = (decide (0 ≤ x) && decide (x ≤ 8)) := by unfold inB; first | rfl | (rw [Bool.eq_iff_iff]; simp)
  rw [hin]
  clear hin
  go_enter Try.func36, Try.ntmps36
  cases h1 : decide (0 ≤ x) with
  | true =>
    go_wp2
    go_ret
    exact ⟨by first | rfl | simp, Below.refl _ _⟩
  | false =>
    go_wp2
    go_ret
    exact ⟨by first | rfl | simp, Below.refl _ _⟩
end Go.Proofs.Ytnjihmailppjkaa

namespace Go.Proofs.Ytnjihmailppjkaa
open Go.RowKit Go.Maps
set_option linter.unusedVariables false
theorem make_as {ns : List Nd} {k x y : Int} (h : ¬ (k = 1 ∨ k = 7)) : makeA ns k x y = putA ns (mkNd k x y) ∧ makeK ns k x y = putK ns (mkNd k x y) := by
  unfold makeA makeK; rw [if_neg h, if_neg h]; exact ⟨rfl, rfl⟩
def sideT (x : Tl) (n : Int) : Tl := .two 4 x (.atom n)
theorem sideT_f (x : Tl) (n : Int) (ns : List Nd) : (sideT x n).f ns = (sideA (x.f ns).1 (x.f ns).2 n, sideK (x.f ns).1 (x.f ns).2 n) := by
  unfold sideA sideK
  rw [(make_as (by omega)).1, (make_as (by omega)).2]
  rfl
def handT (s p b : Int) : Tl := .two 4 (.two 2 (.pl s) (.pl p)) (.hash (.pl b))
theorem handT_f (s p b : Int) (ns : List Nd) : (handT s p b).f ns = (handA ns s p b, handK ns s p b) := by
  unfold handA handK
  rw [(make_as (k := 4) (by omega)).1, (make_as (k := 4) (by omega)).2, (make_as (k := 3) (by omega)).1, (make_as (k := 3) (by omega)).2, (make_as (k := 2) (by omega)).1, (make_as (k := 2) (by omega)).2]
  rfl
def overT (k s n d : Int) : Tl := .two k (.two 4 (.pl s) (.atom n)) (.hash (.pl d))
theorem overT_f (k s n d : Int) (ns : List Nd) (h : ¬ (k = 1 ∨ k = 7)) : (overT k s n d).f ns = (overA ns k s n d, overK ns k s n d) := by
  have e : ((Tl.two 4 (.pl s) (.atom n)).f ns) = (sideA ns s n, sideK ns s n) := sideT_f (.pl s) n ns
  unfold overA overK
  rw [(make_as h).1, (make_as h).2, (make_as (k := 3) (by omega)).1, (make_as (k := 3) (by omega)).2]
  show (putA (putA ((Tl.two 4 (.pl s) (.atom n)).f ns).1 (mkNd 3 d 0)) (mkNd k ((Tl.two 4 (.pl s) (.atom n)).f ns).2 (putK ((Tl.two 4 (.pl s) (.atom n)).f ns).1 (mkNd 3 d 0))), putK (putA ((Tl.two 4 (.pl s) (.atom n)).f ns).1 (mkNd 3 d 0)) (mkNd k ((Tl.two 4 (.pl s) (.atom n)).f ns).2 (putK ((Tl.two 4 (.pl s) (.atom n)).f ns).1 (mkNd 3 d 0)))) = _
  rw [e]
def epochT (k : Int) : Nat → Tl
  | 0 => .pl k
  | m + 1 => .two 4 (epochT k m) (.atom 30)
theorem epochT_f (k : Int) (ns : List Nd) : ∀ m, (epochT k m).f ns = epochF ns k m
  | 0 => rfl
  | m + 1 => by
    show (sideT (epochT k m) 30).f ns = _
    rw [sideT_f, epochT_f k ns m]
    rfl
theorem wf20 : (Lit.int .i64 20).wf = true := by decide
theorem wf30 : (Lit.int .i64 30).wf = true := by decide
theorem epochT_wf {k : Int} (h : (Lit.int .i64 k).wf = true) : ∀ m, (epochT k m).Wf
  | 0 => h
  | m + 1 => ⟨by omega, by omega, epochT_wf h m, wf30⟩
theorem ifneg_same {K : Int} (h : K < 0 → K = -1) : (if K < 0 then -1 else K) = K := by
  split
  · rename_i h1; exact (h h1).symm
  · rfl
theorem overK_neg {ns : List Nd} {k s n d : Int} (h : overK ns k s n d < 0) : overK ns k s n d = -1 := makeK_neg (show makeK _ _ _ _ < 0 from h)
theorem handK_neg {ns : List Nd} {s p b : Int} (h : handK ns s p b < 0) : handK ns s p b = -1 := makeK_neg (show makeK _ _ _ _ < 0 from h)

theorem epoch_no {ns : List Nd} {k ep : Int} (h : epochB ns k ep = false) : epochK ns k ep = -1 ∧ keptA ns (epochA ns k ep) (epochK ns k ep) = ns := by
  have e : epochK ns k ep = -1 := by unfold epochK; rw [h]; rfl
  exact ⟨e, keptA_neg (by rw [e]; omega)⟩
theorem epochT_neg {ns : List Nd} {k : Int} (h : okAt ns k = true) (m : Nat) : (epochF ns k m).2 < 0 → (epochF ns k m).2 = -1 := by
  obtain ⟨i, e, _⟩ := okAt_in h
  exact epochF_neg (by omega) m
set_option maxHeartbeats 1600000 in
set_option maxRecDepth 20000 in
theorem toldEpoch_any {L : Nat} (k : Int) (m0 : Nat) (w : World) (hm8 : m0 ≤ 8) (hL : L ≤ w.heap.size) :
    Calls Try.prog 76 #[.int .i64 k, .int .i64 (m0 : Int)] w fun e w' => ∃ v, e = .returned v ∧ ToldIs L w'.heap.size w' (epochT k m0) v ∧ Below w.heap.size w w' := by
  go_enter Try.func76, Try.ntmps76
  go_wp2_with fail
  refine Calls.mono (toldAt_any (L := L) k w hL) ?_
  rintro e w2 ⟨v2, rfl, ht, hb⟩
  have HC2 : Hid (Below w.heap.size w w2 ∧ L ≤ w2.heap.size) := ⟨hb, Nat.le_trans hL hb.size⟩
  have T2 : Hid (ToldIs L w2.heap.size w2 (epochT k 0) v2) := ht
  clear ht hb hL
  obtain ⟨F2, cs2, rfl⟩ := T2.out.fn
  go_wp2
  go_loopw [5, 9] (fun sv iv wr => ∃ (m : Nat) (F : FuncId) (cs : Array Value), m ≤ m0 ∧ iv = .int .i64 (m : Int) ∧ sv = .func (.func F) #[] cs ∧ Hid (ToldIs L wr.heap.size wr (epochT k m) (.func (.func F) #[] cs)) ∧ Hid (Below w.heap.size w wr ∧ L ≤ wr.heap.size))
    (fun _ iv _ => m0 - (intOf iv).toNat)
  case atStart => exact ⟨0, _, _, Nat.zero_le _, rfl, rfl, T2, HC2⟩
  case round =>
    clear T2 HC2
    obtain ⟨m, F, cs, hm, rfl, rfl, T3, HC3'⟩ := hrel
    obtain ⟨w3, rfl⟩ : ∃ w3, w3 = wr := ⟨_, rfl⟩
    have HC3 : Hid (Below w.heap.size w w3 ∧ L ≤ w3.heap.size) := HC3'
    clear HC3'
    by_cases hlt : m < m0
    · have hi1 : (m : Int) < (m0 : Int) := by omega
      go_wp2_with fail
      refine Calls.mono (toldAtom_any (L := L) 30 w3 HC3.out.2) ?_
      rintro e w4 ⟨v4, rfl, ht, hb⟩
      have HC4 : Hid (Below w.heap.size w w4 ∧ L ≤ w4.heap.size) := ⟨HC3.out.1.trans (hb.mono HC3.out.1.size), Nat.le_trans HC3.out.2 hb.size⟩
      have T4 : Hid (ToldIs L w4.heap.size w4 (epochT k m) (.func (.func F) #[] cs)) := ToldIs.base hb.size _ (ToldIs.later hb _ T3.out)
      obtain ⟨F4, cs4, rfl⟩ := ht.fn
      have T5 : Hid (ToldIs L w4.heap.size w4 (.atom 30) (.func (.func F4) #[] cs4)) := ht
      clear ht hb HC3 T3
      go_wp2_with fail
      refine Calls.mono (toldKdf_any (L := L) (epochT k m) (.atom 30) _ _ w4 HC4.out.2 T4.out T5.out) ?_
      rintro e w5 ⟨v5, rfl, ht, hb⟩
      have HC5 : Hid (Below w.heap.size w w5 ∧ L ≤ w5.heap.size) := ⟨HC4.out.1.trans (hb.mono HC4.out.1.size), Nat.le_trans HC4.out.2 hb.size⟩
      obtain ⟨F5, cs5, rfl⟩ := ht.fn
      have T6 : Hid (ToldIs L w5.heap.size w5 (epochT k (m + 1)) (.func (.func F5) #[] cs5)) := ht
      clear ht hb HC4 T4 T5
      go_wp2
      go_roundw
      case rel => exact ⟨m + 1, _, _, by omega, by go_num, rfl, T6, HC5⟩
      case measure => simp [intOf] <;> omega
    · obtain rfl : m = m0 := by omega
      go_wp2
      go_ret
      exact ⟨_, rfl, T3.out, HC3.out.1⟩
end Go.Proofs.Ytnjihmailppjkaa
