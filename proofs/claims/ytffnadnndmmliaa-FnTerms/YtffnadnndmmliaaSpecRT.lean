/- The contract of chapter 3's l03Read, the specification's. -/
import Derived.Test.YtffnadnndmmliaaPlainRT2
import Derived.Test.YtffnadnndmmliaaPlainTerm
import Derived.Test.YtffnadnndmmliaaTermPut2
import Derived.WalkKit
import Derived.WalkLawsBesides
import Derived.WalkSpells
namespace Go.Proofs.Ytffnadnndmmliaa
open Go.RowKit
set_option linter.unusedVariables false
theorem put_le {ns : List Nd} {x : Nd} (h : ns.length ≤ 1048576) : (putA ns x).length ≤ 1048576 := by
  unfold putA
  split
  · simp; omega
  · exact h
/-- What l03Read leaves. -/
def RdPost (s : ByteArray) (B ga F : Nat) (ns : List Nd) (p : Nat) (w : World) (e : Ending) (w' : World) : Prop :=
  ∃ ns' x y, e = .returned (.tuple #[.int .i64 x, .int .i64 y]) ∧ ArenaAt B w' ga ns' ∧ Below B w w' ∧ ns'.length ≤ 1048576 ∧
    ((rdS s F ns p = none ∧ x = -1) ∨ ∃ k e1 c : Nat, rdS s F ns p = some (ns', k, e1, c) ∧ x = (k : Int) ∧ y = (e1 : Int))
theorem putR_post {s : ByteArray} {B ga F : Nat} {ns nt : List Nd} {p : Nat} {w w' : World} {n : Nd} {e c : Nat} (h : rdS s F ns p = putR nt n e c) (hl : nt.length ≤ 1048576) (ha : ArenaAt B w' ga (putA nt n)) (hb : Below B w w') :
    RdPost s B ga F ns p w (.returned (.tuple #[.int .i64 (putK nt n), .int .i64 (e : Int)])) w' := by
  refine ⟨putA nt n, _, _, rfl, ha, hb, put_le hl, ?_⟩
  rw [h]; unfold putR
  rcases putK_ge nt n with h1 | h1
  · left; rw [if_pos (by omega)]; exact ⟨rfl, h1⟩
  · right; rw [if_neg (by omega)]; exact ⟨_, _, _, rfl, by omega, rfl⟩
set_option maxHeartbeats 3200000 in
set_option maxRecDepth 20000 in
theorem specRd_any (s : ByteArray) (B ga : Nat) (hs : s.size ≤ 1048576) : ∀ (F : Nat) (d : Int) (ns : List Nd) (p : Nat) (w : World), d + (F : Int) = 2001 → 0 ≤ d → p ≤ s.size → ns.length ≤ 1048576 → ArenaAt B w ga ns → B ≤ w.heap.size →
    Calls Try.prog 77 #[.pointer (some ⟨ga, 0, none⟩), .string s, .int .i64 (p : Int), .int .i64 d] w (RdPost s B ga F ns p w) := by
  intro F
  induction F with
  | zero =>
    intro d ns p w hd hd0 hp hl ha hB
    have HA : Hid (ArenaAt B w ga ns) := ha
    clear ha
    have hdd : decide ((2000 : Int) < d) = true := by simp; omega
    cases hr : RV s p with
    | none =>
      have HR : Hid (RV s p = none) := hr
      clear hr
      go_enter Try.func77, Try.ntmps77
      go_wp2_with fail
      refine (specRead_none s _ _ hs HR.out).mono ?_
      rintro e w1 ⟨rfl, hb⟩
      go_wp2
      go_ret2
      exact ⟨ns, _, _, rfl, HA.out.later hb, hb.mono hB, hl, .inl ⟨rfl, rfl⟩⟩
    | some nq =>
      obtain ⟨kind, q⟩ := nq
      have HR : Hid (RV s p = some (kind, q)) := hr
      clear hr
      go_enter Try.func77, Try.ntmps77
      go_wp2_with fail
      refine (specRead_some s _ _ hs kind q HR.out).mono ?_
      rintro e w1 ⟨rfl, hb⟩
      go_wp2
      go_ret2
      exact ⟨ns, _, _, rfl, HA.out.later hb, hb.mono hB, hl, .inl ⟨rfl, rfl⟩⟩
  | succ F ih =>
    intro d ns p w hd hd0 hp hl ha hB
    have HA : Hid (ArenaAt B w ga ns) := ha
    have HIH : Hid _ := ih
    clear ha ih
    have hdd : decide ((2000 : Int) < d) = false := by simp; omega
    cases hr : RV s p with
    | none =>
      have HR : Hid (RV s p = none) := hr
      have HS : Hid (rdS s (F + 1) ns p = none) := by show _ = _; rw [rdS, hr]
      clear hr
      go_enter Try.func77, Try.ntmps77
      go_wp2_with fail
      refine (specRead_none s _ _ hs HR.out).mono ?_
      rintro e w1 ⟨rfl, hb⟩
      go_wp2
      go_ret2
      exact ⟨ns, _, _, rfl, HA.out.later hb, hb.mono hB, hl, .inl ⟨HS.out, rfl⟩⟩
    | some nq =>
      obtain ⟨kind, q⟩ := nq
      have HR : Hid (RV s p = some (kind, q)) := hr
      have hbd := RV_bd hr
      have hkb : 0 ≤ kind ∧ kind ≤ 1000000000 := ⟨hbd.1, hbd.2.1⟩
      have hqb := hbd.2.2
      clear hbd
      cases hi : inB kind 1 9 with
      | false =>
        have HS : Hid (rdS s (F + 1) ns p = none) := by show _ = _; rw [rdS, hr]; simp [hi]
        have HI : Hid (inB kind 1 9 = false) := hi
        clear hr hi
        go_enter Try.func77, Try.ntmps77
        go_wp2_with fail
        refine (specRead_some s _ _ hs kind q HR.out).mono ?_
        rintro e w1 ⟨rfl, hb⟩
        go_wp2_with fail
        refine (specIn_any kind 1 9 _).mono ?_
        rintro e w2 ⟨rfl, rfl⟩
        rw [HI.out]
        go_wp2
        go_ret2
        exact ⟨ns, _, _, rfl, HA.out.later hb, hb.mono hB, hl, .inl ⟨HS.out, rfl⟩⟩
      | true =>
        have hib := inB_true hi
        have HI : Hid (inB kind 1 9 = true) := hi
        by_cases h1 : kind = 1
        · obtain rfl := h1
          cases hz : RV s q with
          | none =>
            have HS : Hid (rdS s (F + 1) ns p = none) := by show _ = _; rw [rdS, hr]; simp [hi, hz]
            have HZ : Hid (RV s q = none) := hz
            clear hr hi hz hib
            go_enter Try.func77, Try.ntmps77
            go_wp2_with fail
            refine (specRead_some s _ _ hs 1 q HR.out).mono ?_
            rintro e w1 ⟨rfl, hb⟩
            go_wp2_with fail
            refine (specIn_any 1 1 9 _).mono ?_
            rintro e w2 ⟨rfl, rfl⟩
            rw [HI.out]
            go_wp2_with fail
            refine (specRead_none s _ _ hs HZ.out).mono ?_
            rintro e w2 ⟨rfl, hb2⟩
            go_wp2
            go_ret2
            exact ⟨ns, _, _, rfl, (HA.out.later hb).later hb2, (hb.mono hB).trans (hb2.mono (Nat.le_trans hB hb.size)), hl, .inl ⟨HS.out, rfl⟩⟩
          | some ze =>
            obtain ⟨z, e2⟩ := ze
            have HS : Hid (rdS s (F + 1) ns p = putR ns ⟨1, z, 0, 0⟩ e2 1) := by show _ = _; rw [rdS, hr]; simp [hi, hz]
            have HZ : Hid (RV s q = some (z, e2)) := hz
            clear hr hi hz hib
            go_enter Try.func77, Try.ntmps77
            go_wp2_with fail
            refine (specRead_some s _ _ hs 1 q HR.out).mono ?_
            rintro e w1 ⟨rfl, hb⟩
            go_wp2_with fail
            refine (specIn_any 1 1 9 _).mono ?_
            rintro e w2 ⟨rfl, rfl⟩
            rw [HI.out]
            go_wp2_with fail
            refine (specRead_some s _ _ hs z e2 HZ.out).mono ?_
            rintro e w2 ⟨rfl, hb2⟩
            go_wp2_with fail
            refine (specPutP_any B ga ns ⟨1, z, 0, 0⟩ _ hl ((HA.out.later hb).later hb2) (Nat.le_trans (Nat.le_trans hB hb.size) hb2.size)).mono ?_
            rintro e w3 ⟨rfl, ha3, hb3⟩
            have HP : Hid _ := putR_post HS.out hl ha3 (((hb.mono hB).trans (hb2.mono (Nat.le_trans hB hb.size))).trans hb3)
            clear ha3 hb3 hb2 hb
            go_wp2
            go_ret2
            exact HP.out
        · have hk1 : (kind == 1) = false := by simp [h1]
          have HE : Hid (rdS s (F + 1) ns p = match rdS s F ns q with | none => none | some (ns1, x, m, c1) => if oneK kind = true then putR ns1 ⟨kind, 0, x, 0⟩ m (1 + c1) else match rdS s F ns1 m with | none => none | some (ns2, y, e, c2) => putR ns2 ⟨kind, 0, x, y⟩ e (1 + c1 + c2)) := by show _ = _; rw [rdS, hr]; simp [hi, h1]; rfl
          clear hr hi hib h1
          go_enter Try.func77, Try.ntmps77
          go_wp2_with fail
          refine (specRead_some s _ _ hs kind q HR.out).mono ?_
          rintro e w1 ⟨rfl, hb⟩
          go_wp2_with fail
          refine (specIn_any kind 1 9 _).mono ?_
          rintro e w2 ⟨rfl, rfl⟩
          rw [HI.out]
          have hB1 := Nat.le_trans hB hb.size
          have HB1 : Hid (Below B w w1) := hb.mono hB
          have HA1 : Hid (ArenaAt B w1 ga ns) := HA.out.later hb
          clear hb HA
          go_wp2_with fail
          refine (HIH.out (d + 1) ns q _ (by omega) (by omega) hqb hl HA1.out hB1).mono ?_
          rintro e w2 ⟨ns1, x, y, rfl, ha2, hb2, hl1, hcase⟩
          have hB2 := Nat.le_trans hB1 hb2.size
          have HB2 : Hid (Below B w w2) := HB1.out.trans hb2
          have HA2 : Hid (ArenaAt B w2 ga ns1) := ha2
          clear ha2 hb2 HA1 HB1
          rcases hcase with ⟨hn, rfl⟩ | ⟨x, m, c1, hn, rfl, rfl⟩
          · have HS : Hid (rdS s (F + 1) ns p = none) := by show _ = _; rw [HE.out, hn]
            clear hn HE
            go_wp2
            go_ret2
            exact ⟨ns1, _, _, rfl, HA2.out, HB2.out, hl1, .inl ⟨HS.out, rfl⟩⟩
          · have hx0 : ¬ (x : Int) < 0 := by omega
            have hmb : m ≤ s.size := (rd_C s F ns q ns1 x m c1 hn).2.2.2.1
            go_wp2_with fail
            refine (specOne_any kind _).mono ?_
            rintro e w3 ⟨rfl, rfl⟩
            cases ho : oneK kind with
            | true =>
              have HS : Hid (rdS s (F + 1) ns p = putR ns1 ⟨kind, 0, x, 0⟩ m (1 + c1)) := by show _ = _; rw [HE.out, hn]; simp [ho]
              clear hn HE ho
              go_wp2_with fail
              refine (specPutP_any B ga ns1 ⟨kind, 0, x, 0⟩ _ hl1 HA2.out hB2).mono ?_
              rintro e w3 ⟨rfl, ha3, hb3⟩
              have HP : Hid _ := putR_post HS.out hl1 ha3 (HB2.out.trans hb3)
              clear ha3 hb3
              go_wp2
              go_ret2
              exact HP.out
            | false =>
              have HE2 : Hid (rdS s (F + 1) ns p = match rdS s F ns1 m with | none => none | some (ns2, y, e, c2) => putR ns2 ⟨kind, 0, x, y⟩ e (1 + c1 + c2)) := by show _ = _; rw [HE.out, hn]; simp [ho]
              clear hn HE ho
              go_wp2_with fail
              refine (HIH.out (d + 1) ns1 m _ (by omega) (by omega) hmb hl1 HA2.out hB2).mono ?_
              rintro e w3 ⟨ns2, y, z, rfl, ha3, hb3, hl2, hcase⟩
              have hB3 := Nat.le_trans hB2 hb3.size
              have HB3 : Hid (Below B w w3) := HB2.out.trans hb3
              have HA3 : Hid (ArenaAt B w3 ga ns2) := ha3
              clear ha3 hb3 HA2 HB2
              rcases hcase with ⟨hn, rfl⟩ | ⟨y, e2, c2, hn, rfl, rfl⟩
              · have HS : Hid (rdS s (F + 1) ns p = none) := by show _ = _; rw [HE2.out, hn]
                clear hn HE2
                go_wp2
                go_ret2
                exact ⟨ns2, _, _, rfl, HA3.out, HB3.out, hl2, .inl ⟨HS.out, rfl⟩⟩
              · have hy0 : ¬ (y : Int) < 0 := by omega
                have HS : Hid (rdS s (F + 1) ns p = putR ns2 ⟨kind, 0, x, y⟩ e2 (1 + c1 + c2)) := by show _ = _; rw [HE2.out, hn]
                clear hn HE2
                go_wp2_with fail
                refine (specPutP_any B ga ns2 ⟨kind, 0, x, y⟩ _ hl2 HA3.out hB3).mono ?_
                rintro e w4 ⟨rfl, ha4, hb4⟩
                have HP : Hid _ := putR_post HS.out hl2 ha4 (HB3.out.trans hb4)
                clear ha4 hb4
                go_wp2
                go_ret2
                exact HP.out
end Go.Proofs.Ytffnadnndmmliaa
