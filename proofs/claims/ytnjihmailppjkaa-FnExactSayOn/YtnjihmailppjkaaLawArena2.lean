/- The laws' own helpers over arenas: eqNodeS, eqArena, sameArena, markNodeS, markArena, heldNodeS, heldArena. -/
import Derived.Test.YtnjihmailppjkaaLawArena
import Derived.Test.YtnjihmailppjkaaTermAt
import Derived.WalkKit
import Derived.WalkLawsBesides
import Derived.WalkSpells
import Derived.OwnWalk
import Derived.Laws.OwnMore
import Derived.Laws.Rows
import Derived.Test.YtnjihmailppjkaaPlainRT
import Derived.Test.YtnjihmailppjkaaTermPut2
import Derived.BigRegion
namespace Go.Proofs.Ytnjihmailppjkaa
open Go.RowKit

/-- Are these nodes the same, from place k on? -/
def sameFrom (ns ms : List Nd) : Nat → Nat → Bool
  | 0, _ => true
  | f + 1, k => if ns.getD k Nd.zero = ms.getD k Nd.zero then sameFrom ns ms f (k + 1) else false
theorem sameFrom_eq : ∀ (f k : Nat) (ns ms : List Nd), ns.length = ms.length → ns.length = k + f → ns.take k = ms.take k → sameFrom ns ms f k = decide (ns = ms)
  | 0, k, ns, ms, hl, hf, ht => by
    rw [List.take_of_length_le (by omega), List.take_of_length_le (by omega)] at ht
    simp [sameFrom, ht]
  | f + 1, k, ns, ms, hl, hf, ht => by
    rw [sameFrom]
    have h1 : k < ns.length := by omega
    have h2 : k < ms.length := by omega
    have e1 : ns.getD k Nd.zero = ns[k] := by rw [List.getD_eq_getElem?_getD, List.getElem?_eq_getElem h1]; rfl
    have e2 : ms.getD k Nd.zero = ms[k] := by rw [List.getD_eq_getElem?_getD, List.getElem?_eq_getElem h2]; rfl
    split
    · rename_i h
      refine sameFrom_eq f (k + 1) ns ms hl (by omega) ?_
      rw [List.take_succ_eq_append_getElem h1, List.take_succ_eq_append_getElem h2, ht, ← e1, ← e2, h]
    · rename_i h
      symm; apply decide_eq_false
      intro e; subst e; exact h rfl

/-- The worlds in which all below B is as it was: a class that calls keep. -/
theorem below_class {B : Nat} {w wr : World} (h : Below B w wr) (hs : B ≤ w.heap.size) : ∃ S : World → Prop, S wr.drew ∧ Nonempty (Hw S) ∧ Hid ((∀ (s : Hw S) w', Below s.w.heap.size s.w w' → S w') ∧ (∀ w', S w' → Below B w w')) :=
  ⟨Below B w, h.drew, ⟨⟨wr.drew, h.drew⟩⟩, ⟨fun s _ h1 => s.ok.trans (h1.mono (Nat.le_trans hs s.ok.size)), fun _ h => h⟩⟩

set_option maxHeartbeats 1600000 in
theorem eqNodeS_same (a b : Option Addr) (ca cb n : Nat) (ns ms : List Nd) (w : World) (h1 : ns.length = n) (h2 : ms.length = n) (hl : n ≤ 2097152) (hr : RowN w.heap.size w a ns) (hq : RowN w.heap.size w b ms) :
    Calls Try.prog 37 #[.slice a n ca, .slice b n cb] w fun e w' => e = .returned (.bool (decide (ns = ms))) ∧ Below w.heap.size w w' := by
  have HR : Hid (RowN w.heap.size w a ns) := hr
  have HQ : Hid (RowN w.heap.size w b ms) := hq
  have HN : Hid (ns.length = n ∧ ms.length = n) := ⟨h1, h2⟩
  have HS : Hid (sameFrom ns ms n 0 = decide (ns = ms)) := sameFrom_eq n 0 ns ms (by omega) (by omega) rfl
  clear hr hq h1 h2
  go_enter Try.func37, Try.ntmps37
  go_wp2
  go_loopw [5] (fun i wr => ∃ k : Nat, k ≤ n ∧ i = .int .i64 (k : Int) ∧ Hid (sameFrom ns ms (n - k) k = decide (ns = ms)) ∧ Below w.heap.size w wr)
    (fun i _ => n - (intOf i).toNat)
  case atStart => exact ⟨0, Nat.zero_le _, rfl, HS, Below.refl _ _⟩
  case round =>
    obtain ⟨k, hk, rfl, HF, hbel⟩ := hrel
    by_cases hlt : k < n
    · obtain ⟨b1, off1, rfl⟩ := HR.out.addr (i := k) (by have := HN.out.1; omega)
      obtain ⟨b2, off2, rfl⟩ := HQ.out.addr (i := k) (by have := HN.out.2; omega)
      have hi0 : (0 : Int) ≤ (k : Int) := by omega
      have hi1 : (k : Int) < (n : Int) := by omega
      obtain ⟨S, hS0, hNE, HK⟩ := below_class hbel (Nat.le_refl _)
      have C1 := fun s : Hw S => HR.out.at (HK.out.2 _ s.ok) (i := k) (by have := HN.out.1; omega)
      have C2 := fun s : Hw S => HQ.out.at (HK.out.2 _ s.ok) (i := k) (by have := HN.out.2; omega)
      have HFD : Hid (sameFrom ns ms (n - k) k = if ns.getD k Nd.zero = ms.getD k Nd.zero then sameFrom ns ms (n - (k + 1)) (k + 1) else false) := by
        show _ = _
        rw [show n - k = (n - (k + 1)) + 1 by omega, sameFrom]
      generalize ns.getD k Nd.zero = x at C1 HFD
      generalize ms.getD k Nd.zero = y at C2 HFD
      have c0 := fun s : Hw S => (C1 s).2.1
      have c1 := fun s : Hw S => (C1 s).2.2.1
      have c2 := fun s : Hw S => (C1 s).2.2.2.1
      have c3 := fun s : Hw S => (C1 s).2.2.2.2
      have d0 := fun s : Hw S => (C2 s).2.1
      have d1 := fun s : Hw S => (C2 s).2.2.1
      have d2 := fun s : Hw S => (C2 s).2.2.2.1
      have d3 := fun s : Hw S => (C2 s).2.2.2.2
      clear C1 C2
      by_cases hxy : x = y
      · have hd : decide (x = y) = true := decide_eq_true hxy
        have HV : Hid (sameFrom ns ms (n - (k + 1)) (k + 1) = decide (ns = ms)) := by show _ = _; rw [← HF.out, HFD.out, if_pos hxy]
        clear hxy
        go_wp2
        refine wp_region_held (S := S) (by kernel_rfl) (by kernel_rfl) hS0 ?_
        repeat (go_big_quiet_step ((go_at_call 52; exact Calls.held (eqNode_any x y _) (HK.out.1 _))))
        refine wpQuiet_nil ?_
        rintro _ ⟨sw, rfl⟩
        have hB := HK.out.2 _ sw.ok
        clear c0 c1 c2 c3 d0 d1 d2 d3 HK
        go_wp2
        go_roundw
        case rel => exact ⟨k + 1, by omega, by go_num, HV, hB⟩
        case measure => simp [intOf]; omega
      · have hd : decide (x = y) = false := decide_eq_false hxy
        have HV : Hid (decide (ns = ms) = false) := by show _ = _; rw [← HF.out, HFD.out, if_neg hxy]
        clear hxy
        go_wp2
        refine wp_region_held (S := S) (by kernel_rfl) (by kernel_rfl) hS0 ?_
        repeat (go_big_quiet_step ((go_at_call 52; exact Calls.held (eqNode_any x y _) (HK.out.1 _))))
        refine wpQuiet_nil ?_
        rintro _ ⟨sw, rfl⟩
        have hB := HK.out.2 _ sw.ok
        clear c0 c1 c2 c3 d0 d1 d2 d3 HK
        go_wp2
        go_ret
        exact ⟨by rw [HV.out]; rfl, hB⟩
    · obtain rfl : k = n := by omega
      go_wp2
      go_ret
      exact ⟨by rw [← HF.out, Nat.sub_self]; rfl, hbel⟩
theorem eqNodeS_any (a b : Option Addr) (ca cb : Nat) (ns ms : List Nd) (w : World) (_hl : ns.length ≤ 2097152) (hm : ms.length ≤ 2097152) (hr : RowN w.heap.size w a ns) (hq : RowN w.heap.size w b ms) :
    Calls Try.prog 37 #[.slice a ns.length ca, .slice b ms.length cb] w fun e w' => e = .returned (.bool (decide (ns = ms))) ∧ Below w.heap.size w w' := by
  by_cases he : ns.length = ms.length
  · have := eqNodeS_same a b ca cb ms.length ns ms w he rfl hm hr hq
    rw [he]; exact this
  · have hei : ((ns.length : Int) != (ms.length : Int)) = true := by simp; omega
    have HV : Hid (decide (ns = ms) = false) := decide_eq_false (fun h => he (by rw [h]))
    clear hr hq
    go_enter Try.func37, Try.ntmps37
    go_wp2
    go_ret
    exact ⟨by rw [HV.out]; rfl, Below.refl _ _⟩
theorem eqArena_any (a b : Option Addr) (ca cb : Nat) (ns ms : List Nd) (w : World) (hl : ns.length ≤ 2097152) (hm : ms.length ≤ 2097152) (hr : RowN w.heap.size w a ns) (hq : RowN w.heap.size w b ms) :
    Calls Try.prog 16 #[.agg #[.slice a ns.length ca], .agg #[.slice b ms.length cb]] w fun e w' => e = .returned (.bool (decide (ns = ms))) ∧ Below w.heap.size w w' := by
  have hb0 : Below w.heap.size w ((w.alloc (.cells #[.slice a ns.length ca] 39)).alloc (.cells #[.slice b ms.length cb] 39)) := ((Below.refl _ _).alloc (Nat.le_refl _) _).alloc (by simp) _
  have H : Hid _ := eqNodeS_any a b ca cb ns ms ((w.alloc (.cells #[.slice a ns.length ca] 39)).alloc (.cells #[.slice b ms.length cb] 39)) hl hm (hr.grown hb0) (hq.grown hb0)
  have HB : Hid _ := hb0
  clear hr hq hb0
  cases hd : decide (ns = ms)
  all_goals
    rw [hd] at H
    go_enter Try.func16, Try.ntmps16
    go_wp2_with fail
    refine Calls.mono H.out ?_
    rintro e w1 ⟨rfl, hb1⟩
    go_wp2
    go_ret
    exact ⟨rfl, HB.out.trans (hb1.mono HB.out.size)⟩
theorem eqArena_same (a b : Option Addr) (ca cb : Nat) (ns : List Nd) (w : World) (hl : ns.length ≤ 2097152) (hr : RowN w.heap.size w a ns) (hq : RowN w.heap.size w b ns) :
    Calls Try.prog 16 #[.agg #[.slice a ns.length ca], .agg #[.slice b ns.length cb]] w fun e w' => e = .returned (.bool true) ∧ Below w.heap.size w w' := by
  have h := eqArena_any a b ca cb ns ns w hl hl hr hq
  rw [decide_eq_true rfl] at h
  exact h
/-- Two cells that were there are there behind a call. -/
theorem two_kept {w w' : World} {p q : Addr} {u v : Value} (h : w.cell? p = some u ∧ w.cell? q = some v) (hp : p.block < w.heap.size) (hq : q.block < w.heap.size) (hb : Below w.heap.size w w') : w'.cell? p = some u ∧ w'.cell? q = some v :=
  ⟨(hb.cell hp).trans h.1, (hb.cell hq).trans h.2⟩
end Go.Proofs.Ytnjihmailppjkaa

namespace Go.Proofs.Ytnjihmailppjkaa
open Go.RowKit Go.PlainAid
set_option linter.unusedVariables false
theorem findFrom_get (x : Nd) : ∀ (l : List Nd) (i : Nat), 0 ≤ findFrom x l i → l.getD ((findFrom x l i).toNat - i) Nd.zero = x
  | [], i, h => by simp [findFrom] at h
  | y :: l, i, h => by
    rw [findFrom] at h ⊢
    by_cases hy : y = x
    · rw [if_pos hy]; simp [hy]
    · rw [if_neg hy] at h ⊢
      have ih := findFrom_get x l (i + 1) h
      rcases findFrom_range x l (i + 1) with h1 | h1
      · omega
      · rw [show (findFrom x l (i + 1)).toNat - i = ((findFrom x l (i + 1)).toNat - (i + 1)) + 1 by omega]
        simpa using ih
theorem findN_get {ns : List Nd} {x : Nd} (h : 0 ≤ findN ns x) : ns.getD (findN ns x).toNat Nd.zero = x := by
  have := findFrom_get x ns 0 h
  simpa [findN] using this
theorem putA_pre (ns : List Nd) (x : Nd) : ns <+: putA ns x := by
  unfold putA
  split
  · exact List.prefix_append _ _
  · exact List.prefix_refl _
theorem put_at {ns : List Nd} {x : Nd} (h : 0 ≤ putK ns x) : (putK ns x).toNat < (putA ns x).length ∧ (putA ns x).getD (putK ns x).toNat Nd.zero = x := by
  unfold putK putA at *
  by_cases h1 : nodeB x ns.length = true
  · rw [if_pos h1] at h ⊢
    by_cases h2 : findN ns x = -1 ∧ ns.length < 3000
    · rw [if_pos h2] at h ⊢
      rw [if_pos ⟨h1, h2⟩]
      simp
    · rw [if_neg h2] at h ⊢
      rw [if_neg (fun h3 => h2 h3.2)]
      rcases findN_range ns x with h3 | h3
      · omega
      · exact ⟨by omega, findN_get h⟩
  · rw [if_neg h1] at h; omega
theorem pre_get {ns ms : List Nd} {k : Nat} (h : ns <+: ms) (hk : k < ns.length) : ms.getD k Nd.zero = ns.getD k Nd.zero := by
  obtain ⟨t, rfl⟩ := h
  rw [List.getD_eq_getElem?_getD, List.getD_eq_getElem?_getD, List.getElem?_append_left hk]
theorem good_szR {ns : List Nd} {k : Nat} (h : Good ns k) : szv ns k = if 100000 < szSum ns (ns.getD k Nd.zero) then 100000 else szSum ns (ns.getD k Nd.zero) :=
  szv_good (h.2 k (Nat.le_refl _)) (fun hk => by have := szv_range ns (k - 1) (fun i hi => h.2 i (by omega)); omega)
/-- What was read is its text. -/
theorem rd_C (s : ByteArray) : ∀ (F : Nat) (ns : List Nd) (p : Nat) (ns' : List Nd) (k e c : Nat), rdS s F ns p = some (ns', k, e, c) →
    ns <+: ns' ∧ k < ns'.length ∧ p ≤ e ∧ e ≤ s.size ∧ ∀ ms, ns' <+: ms → Good ms k → tx ms k = nums (tk s p (e - p)) ∧ szv ms k = min 100000 (c : Int)
  | 0, ns, p, ns', k, e, c, h => by simp [rdS] at h
  | F + 1, ns, p, ns', k, e, c, h => by
    rw [rdS] at h
    cases hr : RV s p with
    | none => simp [hr] at h
    | some nq =>
      obtain ⟨kind, q⟩ := nq
      obtain ⟨b1, b2, b3⟩ := RV_bytes hr
      simp only [hr] at h
      cases hi : inB kind 1 9 with
      | false => simp [hi] at h
      | true =>
        have hib := inB_true hi
        rw [if_neg (by simp [hi])] at h
        by_cases h1 : kind = 1
        · rw [if_pos h1] at h
          cases hz : RV s q with
          | none => simp [hz] at h
          | some ze =>
            obtain ⟨z, e2⟩ := ze
            obtain ⟨d1, d2, d3⟩ := RV_bytes hz
            simp only [hz, putR] at h
            by_cases hp : putK ns ⟨1, z, 0, 0⟩ < 0
            · simp [hp] at h
            · rw [if_neg hp] at h
              simp at h
              obtain ⟨rfl, rfl, rfl, rfl⟩ := h
              obtain ⟨g1, g2⟩ := put_at (show 0 ≤ putK ns ⟨1, z, 0, 0⟩ by omega)
              refine ⟨putA_pre _ _, g1, by omega, d2, fun ms hm hg => ?_⟩
              have hx := (pre_get hm g1).trans g2
              refine ⟨?_, ?_⟩
              · rw [tx_atom (by rw [hx]), hx, nums_add s p q e2 b1 d1, b3, d3, h1]; rfl
              · rw [good_szR hg, hx]; simp [szSum]; rfl
        · rw [if_neg h1] at h
          cases hs1 : rdS s F ns q with
          | none => simp [hs1] at h
          | some r1 =>
            obtain ⟨ns1, x, m, c1⟩ := r1
            obtain ⟨p1, p2, p3, p4, p5⟩ := rd_C s F ns q ns1 x m c1 hs1
            simp only [hs1] at h
            cases ho : oneK kind with
            | true =>
              rw [if_pos ho] at h
              unfold putR at h
              by_cases hp : putK ns1 ⟨kind, 0, (x : Int), 0⟩ < 0
              · rw [if_pos hp] at h; simp at h
              · rw [if_neg hp] at h
                simp at h
                obtain ⟨rfl, rfl, rfl, rfl⟩ := h
                obtain ⟨g1, g2⟩ := put_at (show 0 ≤ putK ns1 ⟨kind, 0, (x : Int), 0⟩ by omega)
                refine ⟨p1.trans (putA_pre _ _), g1, by omega, p4, fun ms hm hg => ?_⟩
                have hx := (pre_get hm g1).trans g2
                have hnb := hg.2 _ (Nat.le_refl _)
                rw [hx] at hnb
                have hxk : x < (putK ns1 ⟨kind, 0, (x : Int), 0⟩).toNat := by
                  rcases nodeB_true hnb with h5 | h5 | h5 <;> simp at h5 <;> omega
                obtain ⟨t1, t2⟩ := p5 ms ((putA_pre _ _).trans hm) (hg.down (by omega))
                refine ⟨?_, ?_⟩
                · rw [tx_one hg (by rw [hx]; simp only; omega) (by rw [hx]; exact ho), hx, nums_add s p q m b1 p3, b3]
                  simp only [Int.toNat_natCast]
                  rw [t1]
                · rw [good_szR hg, hx]
                  simp only [szSum, if_neg h1, if_pos ho, Int.toNat_natCast]
                  rw [t2]
                  split <;> omega
            | false =>
              rw [if_neg (by simp [ho])] at h
              cases hs2 : rdS s F ns1 m with
              | none => simp [hs2] at h
              | some r2 =>
                obtain ⟨ns2, y, e2, c2⟩ := r2
                obtain ⟨q1, q2, q3, q4, q5⟩ := rd_C s F ns1 m ns2 y e2 c2 hs2
                simp only [hs2] at h
                unfold putR at h
                by_cases hp : putK ns2 ⟨kind, 0, (x : Int), (y : Int)⟩ < 0
                · rw [if_pos hp] at h; simp at h
                · rw [if_neg hp] at h
                  simp at h
                  obtain ⟨rfl, rfl, rfl, rfl⟩ := h
                  obtain ⟨g1, g2⟩ := put_at (show 0 ≤ putK ns2 ⟨kind, 0, (x : Int), (y : Int)⟩ by omega)
                  refine ⟨(p1.trans q1).trans (putA_pre _ _), g1, by omega, q4, fun ms hm hg => ?_⟩
                  have hx := (pre_get hm g1).trans g2
                  have hnb := hg.2 _ (Nat.le_refl _)
                  rw [hx] at hnb
                  have hxy : x < (putK ns2 ⟨kind, 0, (x : Int), (y : Int)⟩).toNat ∧ y < (putK ns2 ⟨kind, 0, (x : Int), (y : Int)⟩).toNat := by
                    rcases nodeB_true hnb with h5 | h5 | h5 <;> simp at h5
                    · omega
                    · rw [ho] at h5; simp at h5
                    · omega
                  obtain ⟨t1, t2⟩ := p5 ms ((q1.trans (putA_pre _ _)).trans hm) (hg.down (by omega))
                  obtain ⟨u1, u2⟩ := q5 ms ((putA_pre _ _).trans hm) (hg.down (by omega))
                  refine ⟨?_, ?_⟩
                  · rw [tx_two hg (by rw [hx]; simp only; omega) (by rw [hx]; exact ho), hx, nums_add s p q e2 b1 (by omega), b3, nums_add s q m e2 p3 q3]
                    simp only [Int.toNat_natCast]
                    rw [t1, u1]
                  · rw [good_szR hg, hx]
                    simp only [szSum, if_neg h1, if_neg (show ¬ oneK kind = true by simp [ho]), Int.toNat_natCast]
                    rw [t2, u2]
                    split <;> omega
end Go.Proofs.Ytnjihmailppjkaa

namespace Go.Proofs.Ytnjihmailppjkaa
open Go.RowKit
set_option linter.unusedVariables false
theorem gb_setR {w w2 : World} {g : Nat} (h : Below w.heap.size w w2) (j : Nat) (u : Value) : w.grownBy (w2.setCell ⟨g, j, none⟩ u) (some g) :=
  ⟨h.os, h.tape, h.output, by simpa using h.size, fun k hk hne => (Below.heap_setCell _ _ _ _ (by simpa using hne)).trans (h.block k hk)⟩
end Go.Proofs.Ytnjihmailppjkaa
