/- What is read is the term's text, and the number of terms in it its size. -/
import Derived.Test.YtffnadnndmmliaaPlainRT
import Derived.Test.YtffnadnndmmliaaTermPut2
import Derived.Test.YtffnadnndmmliaaLawArena2
import Derived.Test.YtffnadnndmmliaaHeldQ
import Derived.WalkKit
import Derived.WalkLawsBesides
import Derived.WalkSpells
import Derived.Laws.Rows
import Derived.BigRegion
namespace Go.Proofs.Ytffnadnndmmliaa
open Go.RowKit Go.PlainAid
set_option linter.unusedVariables false
theorem findFrom_get (x : Nd) : ∀ (l : List Nd) (i : Nat), 0 ≤ findFrom x l i → l.getD ((findFrom x l i).toNat - i) Nd.zero = x
  | [], i, h => by simp [findFrom] at h
  | y :: l, i, h => by
    rw [findFrom] at h ⊢
    by_cases hy : y = x
    · rw [if_pos hy]; simp [hy]
    · rw [if_neg hy] at h ⊢
      have ih := findFrom_get x l (i + 1) h
      rcases findFrom_range x l (i + 1) with h1 | h1
      · omega
      · rw [show (findFrom x l (i + 1)).toNat - i = ((findFrom x l (i + 1)).toNat - (i + 1)) + 1 by omega]
        simpa using ih
theorem findN_get {ns : List Nd} {x : Nd} (h : 0 ≤ findN ns x) : ns.getD (findN ns x).toNat Nd.zero = x := by
  have := findFrom_get x ns 0 h
  simpa [findN] using this
theorem putA_pre (ns : List Nd) (x : Nd) : ns <+: putA ns x := by
  unfold putA
  split
  · exact List.prefix_append _ _
  · exact List.prefix_refl _
theorem put_at {ns : List Nd} {x : Nd} (h : 0 ≤ putK ns x) : (putK ns x).toNat < (putA ns x).length ∧ (putA ns x).getD (putK ns x).toNat Nd.zero = x := by
  unfold putK putA at *
  by_cases h1 : nodeB x ns.length = true
  · rw [if_pos h1] at h ⊢
    by_cases h2 : findN ns x = -1 ∧ ns.length < 3000
    · rw [if_pos h2] at h ⊢
      rw [if_pos ⟨h1, h2⟩]
      simp
    · rw [if_neg h2] at h ⊢
      rw [if_neg (fun h3 => h2 h3.2)]
      rcases findN_range ns x with h3 | h3
      · omega
      · exact ⟨by omega, findN_get h⟩
  · rw [if_neg h1] at h; omega
theorem pre_get {ns ms : List Nd} {k : Nat} (h : ns <+: ms) (hk : k < ns.length) : ms.getD k Nd.zero = ns.getD k Nd.zero := by
  obtain ⟨t, rfl⟩ := h
  rw [List.getD_eq_getElem?_getD, List.getD_eq_getElem?_getD, List.getElem?_append_left hk]
theorem good_szR {ns : List Nd} {k : Nat} (h : Good ns k) : szv ns k = if 100000 < szSum ns (ns.getD k Nd.zero) then 100000 else szSum ns (ns.getD k Nd.zero) :=
  szv_good (h.2 k (Nat.le_refl _)) (fun hk => by have := szv_range ns (k - 1) (fun i hi => h.2 i (by omega)); omega)
/-- What was read is its text. -/
theorem rd_C (s : ByteArray) : ∀ (F : Nat) (ns : List Nd) (p : Nat) (ns' : List Nd) (k e c : Nat), rdS s F ns p = some (ns', k, e, c) →
    ns <+: ns' ∧ k < ns'.length ∧ p ≤ e ∧ e ≤ s.size ∧ ∀ ms, ns' <+: ms → Good ms k → tx ms k = nums (tk s p (e - p)) ∧ szv ms k = min 100000 (c : Int)
  | 0, ns, p, ns', k, e, c, h => by simp [rdS] at h
  | F + 1, ns, p, ns', k, e, c, h => by
    rw [rdS] at h
    cases hr : RV s p with
    | none => simp [hr] at h
    | some nq =>
      obtain ⟨kind, q⟩ := nq
      obtain ⟨b1, b2, b3⟩ := RV_bytes hr
      simp only [hr] at h
      cases hi : inB kind 1 9 with
      | false => simp [hi] at h
      | true =>
        have hib := inB_true hi
        rw [if_neg (by simp [hi])] at h
        by_cases h1 : kind = 1
        · rw [if_pos h1] at h
          cases hz : RV s q with
          | none => simp [hz] at h
          | some ze =>
            obtain ⟨z, e2⟩ := ze
            obtain ⟨d1, d2, d3⟩ := RV_bytes hz
            simp only [hz, putR] at h
            by_cases hp : putK ns ⟨1, z, 0, 0⟩ < 0
            · simp [hp] at h
            · rw [if_neg hp] at h
              simp at h
              obtain ⟨rfl, rfl, rfl, rfl⟩ := h
              obtain ⟨g1, g2⟩ := put_at (show 0 ≤ putK ns ⟨1, z, 0, 0⟩ by omega)
              refine ⟨putA_pre _ _, g1, by omega, d2, fun ms hm hg => ?_⟩
              have hx := (pre_get hm g1).trans g2
              refine ⟨?_, ?_⟩
              · rw [tx_atom (by rw [hx]), hx, nums_add s p q e2 b1 d1, b3, d3, h1]; rfl
              · rw [good_szR hg, hx]; simp [szSum]; rfl
        · rw [if_neg h1] at h
          cases hs1 : rdS s F ns q with
          | none => simp [hs1] at h
          | some r1 =>
            obtain ⟨ns1, x, m, c1⟩ := r1
            obtain ⟨p1, p2, p3, p4, p5⟩ := rd_C s F ns q ns1 x m c1 hs1
            simp only [hs1] at h
            cases ho : oneK kind with
            | true =>
              rw [if_pos ho] at h
              unfold putR at h
              by_cases hp : putK ns1 ⟨kind, 0, (x : Int), 0⟩ < 0
              · rw [if_pos hp] at h; simp at h
              · rw [if_neg hp] at h
                simp at h
                obtain ⟨rfl, rfl, rfl, rfl⟩ := h
                obtain ⟨g1, g2⟩ := put_at (show 0 ≤ putK ns1 ⟨kind, 0, (x : Int), 0⟩ by omega)
                refine ⟨p1.trans (putA_pre _ _), g1, by omega, p4, fun ms hm hg => ?_⟩
                have hx := (pre_get hm g1).trans g2
                have hnb := hg.2 _ (Nat.le_refl _)
                rw [hx] at hnb
                have hxk : x < (putK ns1 ⟨kind, 0, (x : Int), 0⟩).toNat := by
                  rcases nodeB_true hnb with h5 | h5 | h5 <;> simp at h5 <;> omega
                obtain ⟨t1, t2⟩ := p5 ms ((putA_pre _ _).trans hm) (hg.down (by omega))
                refine ⟨?_, ?_⟩
                · rw [tx_one hg (by rw [hx]; simp only; omega) (by rw [hx]; exact ho), hx, nums_add s p q m b1 p3, b3]
                  simp only [Int.toNat_natCast]
                  rw [t1]
                · rw [good_szR hg, hx]
                  simp only [szSum, if_neg h1, if_pos ho, Int.toNat_natCast]
                  rw [t2]
                  split <;> omega
            | false =>
              rw [if_neg (by simp [ho])] at h
              cases hs2 : rdS s F ns1 m with
              | none => simp [hs2] at h
              | some r2 =>
                obtain ⟨ns2, y, e2, c2⟩ := r2
                obtain ⟨q1, q2, q3, q4, q5⟩ := rd_C s F ns1 m ns2 y e2 c2 hs2
                simp only [hs2] at h
                unfold putR at h
                by_cases hp : putK ns2 ⟨kind, 0, (x : Int), (y : Int)⟩ < 0
                · rw [if_pos hp] at h; simp at h
                · rw [if_neg hp] at h
                  simp at h
                  obtain ⟨rfl, rfl, rfl, rfl⟩ := h
                  obtain ⟨g1, g2⟩ := put_at (show 0 ≤ putK ns2 ⟨kind, 0, (x : Int), (y : Int)⟩ by omega)
                  refine ⟨(p1.trans q1).trans (putA_pre _ _), g1, by omega, q4, fun ms hm hg => ?_⟩
                  have hx := (pre_get hm g1).trans g2
                  have hnb := hg.2 _ (Nat.le_refl _)
                  rw [hx] at hnb
                  have hxy : x < (putK ns2 ⟨kind, 0, (x : Int), (y : Int)⟩).toNat ∧ y < (putK ns2 ⟨kind, 0, (x : Int), (y : Int)⟩).toNat := by
                    rcases nodeB_true hnb with h5 | h5 | h5 <;> simp at h5
                    · omega
                    · rw [ho] at h5; simp at h5
                    · omega
                  obtain ⟨t1, t2⟩ := p5 ms ((q1.trans (putA_pre _ _)).trans hm) (hg.down (by omega))
                  obtain ⟨u1, u2⟩ := q5 ms ((putA_pre _ _).trans hm) (hg.down (by omega))
                  refine ⟨?_, ?_⟩
                  · rw [tx_two hg (by rw [hx]; simp only; omega) (by rw [hx]; exact ho), hx, nums_add s p q e2 b1 (by omega), b3, nums_add s q m e2 p3 q3]
                    simp only [Int.toNat_natCast]
                    rw [t1, u1]
                  · rw [good_szR hg, hx]
                    simp only [szSum, if_neg h1, if_neg (show ¬ oneK kind = true by simp [ho]), Int.toNat_natCast]
                    rw [t2, u2]
                    split <;> omega
end Go.Proofs.Ytffnadnndmmliaa

namespace Go.Proofs.Ytffnadnndmmliaa
open Go.RowKit
set_option linter.unusedVariables false
theorem gb_setR {w w2 : World} {g : Nat} (h : Below w.heap.size w w2) (j : Nat) (u : Value) : w.grownBy (w2.setCell ⟨g, j, none⟩ u) (some g) :=
  ⟨h.os, h.tape, h.output, by simpa using h.size, fun k hk hne => (Below.heap_setCell _ _ _ _ (by simpa using hne)).trans (h.block k hk)⟩
set_option maxHeartbeats 800000 in
set_option maxRecDepth 20000 in
theorem nextNum_any (gr : Nat) (s : ByteArray) (p l : Nat) (v : Value) (w : World) (hs : s.size ≤ 1048576)
    (hb : w.heap[gr]? = some (.cells #[.string s, .int .i64 (p : Int), .int .i64 (l : Int), v] 82 (0, 0))) :
    Calls Try.prog 150 #[.pointer (some ⟨gr, 0, none⟩)] w fun e w' => e = .returned (.int .i64 (numI s p).1) ∧ w'.heap[gr]? = some (.cells #[.string s, .int .i64 ((numI s p).2 : Int), .int .i64 (l : Int), v] 82 (0, 0)) ∧ w.grownBy w' (some gr) := by
  have hlt : gr < w.heap.size := (Array.getElem?_eq_some_iff.1 hb).1
  obtain ⟨S, hS0, hNE, HK⟩ := below_class (Below.refl w.heap.size w) (Nat.le_refl _)
  have c0 : ∀ q : Hw S, q.w.cell? ⟨gr, 0, none⟩ = some (.string s) := fun q => ((HK.out.2 _ q.ok).cell (p := ⟨gr, 0, none⟩) hlt).trans ((cell_of_row _ _ 0 _ _ _ hb).trans rfl)
  have c1 : ∀ q : Hw S, q.w.cell? ⟨gr, 1, none⟩ = some (.int .i64 (p : Int)) := fun q => ((HK.out.2 _ q.ok).cell (p := ⟨gr, 1, none⟩) hlt).trans ((cell_of_row _ _ 1 _ _ _ hb).trans rfl)
  have HBB : Hid (w.heap[gr]? = some (.cells #[.string s, .int .i64 (p : Int), .int .i64 (l : Int), v] 82 (0, 0))) := hb
  clear hb
  cases hr : RV s p with
  | none =>
    have HN : Hid ((numI s p).1 = -1 ∧ (numI s p).2 = p) := by show _ ∧ _; simp [numI, hr]
    have HR : Hid (RV s p = none) := hr
    clear hr
    go_enter Try.func150, Try.ntmps150
    go_wp2_with fail
    refine wp_region_held (S := S) (by kernel_rfl) (by kernel_rfl) hS0 ?_
    repeat (go_big_quiet_step ((go_at_call 182; exact Calls.heldSame (implRead_none s _ _ hs HR.out))))
    refine wpQuiet_nil ?_
    rintro _ ⟨sw, rfl⟩
    have hB := HK.out.2 _ sw.ok
    clear c0 c1 HK
    go_wp2
    go_ret
    exact ⟨by rw [HN.out.1]; rfl, by rw [HN.out.2]; exact (hB.block _ hlt).trans HBB.out, hB.os, hB.tape, hB.output, hB.size, fun k hk _ => hB.block k hk⟩
  | some nq =>
    obtain ⟨n, q⟩ := nq
    have HN : Hid ((numI s p).1 = n ∧ (numI s p).2 = q) := by show _ ∧ _; simp [numI, hr]
    have HR : Hid (RV s p = some (n, q)) := hr
    clear hr
    go_enter Try.func150, Try.ntmps150
    go_wp2_with fail
    refine wp_region_held (S := S) (by kernel_rfl) (by kernel_rfl) hS0 ?_
    repeat (go_big_quiet_step ((go_at_call 182; exact Calls.heldSame (implRead_some s _ _ hs n q HR.out))))
    refine wpQuiet_nil ?_
    rintro _ ⟨sw, rfl⟩
    have hB := HK.out.2 _ sw.ok
    have hb2 := (hB.block _ hlt).trans HBB.out
    generalize sw.w = w2 at hB hb2 ⊢
    clear c0 c1 HK
    have e0 : w2.cell? ⟨gr, 1, none⟩ = some (.int .i64 (p : Int)) := (cell_of_row _ _ 1 _ _ _ hb2).trans rfl
    have f0 : w2.frozen? ⟨gr, 1, none⟩ = false := frozen_of_row _ _ 1 _ _ hb2
    have HE : Hid ((w2.setCell ⟨gr, 1, none⟩ (.int .i64 (q : Int))).heap[gr]? = some (.cells #[.string s, .int .i64 (q : Int), .int .i64 (l : Int), v] 82 (0, 0))) := by
      show _ = _
      exact (heap_setCell_same _ _ 1 _ _ _ hb2).trans rfl
    have HG : Hid (w.grownBy (w2.setCell ⟨gr, 1, none⟩ (.int .i64 (q : Int))) (some gr)) := by
      have := gb_setR (w := w) (w2 := w2) (g := gr) hB 1 (.int .i64 (q : Int))
      exact this
    clear hb2 hB
    go_wp2
    go_ret
    exact ⟨by rw [HN.out.1]; rfl, by rw [HN.out.2]; exact HE.out, HG.out⟩
end Go.Proofs.Ytffnadnndmmliaa
