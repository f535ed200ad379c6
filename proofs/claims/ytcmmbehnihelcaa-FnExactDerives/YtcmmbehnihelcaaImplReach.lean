/- The contracts of chapter 5's Reach and Derives, the program's. -/
import Derived.Test.YtcmmbehnihelcaaReachO
import Derived.WalkKit
import Derived.WalkLawsBesides
import Derived.WalkSpells
import Derived.Laws.Rows
namespace Go.Proofs.Ytcmmbehnihelcaa
open Go.RowKit
set_option linter.unusedVariables false
theorem implReach_any (ca ck : Nat) (a kb : Option Addr) (ns : List Nd) (xs : List Int) (w : World) (hl : ns.length ≤ 1048576) (hxl : xs.length ≤ 1048576) (hf : ∀ y ∈ ns, y.Fits) (hxf : ∀ x ∈ xs, -9223372036854775808 ≤ x ∧ x ≤ 9223372036854775807) (hr : RowN w.heap.size w a ns) (hk : RowI w.heap.size w kb xs) :
    Calls Try.prog 11 #[.agg #[.slice a ns.length ca], .slice kb xs.length ck] w fun e w' => ∃ v bs, e = .returned v ∧ IsR ns xs bs ∧ OwnBool w.heap.size w' v bs ∧ Below w.heap.size w w' := implReach_of reacherOf_any ca ck a kb ns xs w hl hxl hf hxf hr hk
set_option maxHeartbeats 1600000 in
theorem implDerives_any (ca ck : Nat) (a kb : Option Addr) (ns : List Nd) (xs : List Int) (k : Int) (w : World) (hl : ns.length ≤ 1048576) (hxl : xs.length ≤ 1048576) (hf : ∀ y ∈ ns, y.Fits) (hxf : ∀ x ∈ xs, -9223372036854775808 ≤ x ∧ x ≤ 9223372036854775807) (hr : RowN w.heap.size w a ns) (hk : RowI w.heap.size w kb xs) :
    Calls Try.prog 13 #[.agg #[.slice a ns.length ca], .slice kb xs.length ck, .int .i64 k] w fun e w' => ∃ bs, IsR ns xs bs ∧ e = .returned (.bool (derB bs k)) ∧ Below w.heap.size w w' := by
  have HF : Hid (∀ y ∈ ns, y.Fits) := hf
  have HXF : Hid (∀ x ∈ xs, -9223372036854775808 ≤ x ∧ x ≤ 9223372036854775807) := hxf
  have HR : Hid (RowN w.heap.size w a ns) := hr
  have HK : Hid (RowI w.heap.size w kb xs) := hk
  clear hr hk hf hxf
  go_enter Try.func13, Try.ntmps13
  go_wp2_with fail
  refine (implReach_any ca ck a kb ns xs _ hl hxl HF.out HXF.out (HR.out.grown ((Below.refl _ _).alloc (Nat.le_refl _) _)) (HK.out.grown ((Below.refl _ _).alloc (Nat.le_refl _) _))).mono ?_
  rintro e w2 ⟨v, bs, rfl, hR, hO, hb2⟩
  have HI : Hid (IsR ns xs bs) := hR
  have HB : Hid (Below w.heap.size w w2) := ((Below.refl _ _).alloc (Nat.le_refl _) _).trans (hb2.mono (by simp))
  have hbl : bs.length ≤ 3000 := by
    rcases hR with ⟨h1, h2⟩ | ⟨_, rfl⟩
    · have : ns.length ≤ 3000 := by unfold arenaB at h1; simp at h1; exact h1.1
      rw [h2.len]; exact this
    · simp
  obtain ⟨hb, ch, rfl, -, hRB⟩ := hO.row
  have HRB : Hid (RowB w2.heap.size w2 hb bs) := hRB
  clear hO hb2 hR hRB
  cases hi : inB k 0 ((bs.length : Int) - 1) with
  | false =>
    have HD : Hid (derB bs k = false) := by show _ = _; unfold derB; rw [hi]; rfl
    have HQ : Hid _ := hi
    clear hi
    go_wp2_with (go_at_call 50; refine (ahead_any _ _ _).mono ?_; rintro e w' ⟨rfl, rfl⟩; rw [HQ.out])
    go_ret
    exact ⟨bs, HI.out, by rw [HD.out]; rfl, HB.out⟩
  | true =>
    have hb3 := inB_true hi
    obtain ⟨j, rfl⟩ := Int.eq_ofNat_of_zero_le hb3.1
    have hj : j < bs.length := by omega
    have hj0 : (0 : Int) ≤ (j : Int) := by omega
    have hj1 : (j : Int) < (bs.length : Int) := by omega
    obtain ⟨bB, oB, rfl⟩ := HRB.out.addr hj
    have cB := (HRB.out.at (Below.refl _ _) hj).2
    have HD : Hid (derB bs (j : Int) = bs.getD j false) := by show _ = _; unfold derB; rw [hi]; simp
    generalize bs.getD j false = t at cB HD
    have HQ : Hid _ := hi
    clear hi hb3 HRB
    go_wp2_with (go_at_call 50; refine (ahead_any _ _ _).mono ?_; rintro e w' ⟨rfl, rfl⟩; rw [HQ.out])
    go_ret
    exact ⟨bs, HI.out, by rw [HD.out]; rfl, HB.out⟩
end Go.Proofs.Ytcmmbehnihelcaa
