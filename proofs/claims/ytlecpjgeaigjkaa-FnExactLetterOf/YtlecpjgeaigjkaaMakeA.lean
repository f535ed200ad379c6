/- The contracts of chapter 4's l04Atom, l04Make, Atom and Make, the specification's. -/
import Derived.Test.YtlecpjgeaigjkaaTermPut2
import Derived.Test.YtlecpjgeaigjkaaImplPut
import Derived.WalkKit
import Derived.WalkLawsBesides
import Derived.WalkSpells
import Derived.Laws.Rows
namespace Go.Proofs.Ytlecpjgeaigjkaa
open Go.RowKit
set_option linter.unusedVariables false

theorem putK_neg {ns : List Nd} {x : Nd} (h : putK ns x < 0) : putK ns x = -1 := by
  unfold putK at h ⊢
  split at h
  · split at h
    · omega
    · rename_i h1 h2; rw [if_pos h1, if_neg h2]; have := findN_range ns x; omega
  · rename_i h1; rw [if_neg h1]
theorem putA_neg {ns : List Nd} {x : Nd} (h : putK ns x < 0) : putA ns x = ns := putA_old (by omega)
/-- The node of a kind. -/
def mkNd (kind x y : Int) : Nd := ⟨kind, 0, x, if oneK kind = true then 0 else y⟩
def makeA (ns : List Nd) (kind x y : Int) : List Nd := if kind = 1 ∨ kind = 7 then ns else putA ns (mkNd kind x y)
def makeK (ns : List Nd) (kind x y : Int) : Int := if kind = 1 ∨ kind = 7 then -1 else putK ns (mkNd kind x y)
theorem makeK_neg {ns : List Nd} {kind x y : Int} (h : makeK ns kind x y < 0) : makeK ns kind x y = -1 := by
  unfold makeK at h ⊢
  split
  · rfl
  · rename_i h1; rw [if_neg h1] at h; exact putK_neg h
theorem makeA_neg {ns : List Nd} {kind x y : Int} (h : makeK ns kind x y < 0) : makeA ns kind x y = ns := by
  unfold makeK at h
  unfold makeA
  split
  · rfl
  · rename_i h1; rw [if_neg h1] at h; exact putA_neg h
theorem mkNd_bad {kind x y : Int} {e : Int} (h1 : kind ≠ 1) (h : x < 0 ∨ (oneK kind = false ∧ y < 0)) : nodeB (mkNd kind x y) e = false := by
  unfold nodeB mkNd
  simp only
  rw [if_neg h1]
  split
  · rfl
  · rcases h with h | ⟨ho, h⟩
    · rw [if_pos (.inr (by unfold inB; simp; omega))]
    · split
      · rfl
      · rw [ho]
        simp only [Bool.false_eq_true, if_false]
        unfold inB; simp; omega
theorem make_bad {ns : List Nd} {kind x y : Int} (h : kind = 1 ∨ kind = 7 ∨ x < 0 ∨ (oneK kind = false ∧ y < 0)) : makeK ns kind x y = -1 ∧ makeA ns kind x y = ns := by
  unfold makeK makeA
  by_cases h1 : kind = 1 ∨ kind = 7
  · rw [if_pos h1, if_pos h1]; exact ⟨rfl, rfl⟩
  · rw [if_neg h1, if_neg h1]
    have hb : nodeB (mkNd kind x y) ns.length = false := mkNd_bad (fun e => h1 (.inl e)) (by
      rcases h with h | h | h | h
      · exact absurd (.inl h) h1
      · exact absurd (.inr h) h1
      · exact .inl h
      · exact .inr h)
    have hk : putK ns (mkNd kind x y) = -1 := by unfold putK; rw [if_neg (by simp [hb])]
    exact ⟨hk, putA_neg (by omega)⟩
theorem make_good {ns : List Nd} {kind x y : Int} (h : kind ≠ 1 ∧ kind ≠ 7) : makeK ns kind x y = putK ns (mkNd kind x y) ∧ makeA ns kind x y = putA ns (mkNd kind x y) := by
  unfold makeK makeA
  rw [if_neg (by omega), if_neg (by omega)]
  exact ⟨rfl, rfl⟩

theorem specAtomP_any (B g : Nat) (ns : List Nd) (n : Int) (w : World) (hl : ns.length ≤ 1048576) (h : ArenaAt B w g ns) (hB : B ≤ w.heap.size) :
    Calls Try.prog 82 #[.pointer (some ⟨g, 0, none⟩), .int .i64 n] w fun e w' => e = .returned (.int .i64 (putK ns ⟨1, n, 0, 0⟩)) ∧ ArenaAt B w' g (putA ns ⟨1, n, 0, 0⟩) ∧ Below B w w' := by
  have H : Hid _ := specPutP_any B g ns ⟨1, n, 0, 0⟩ w hl h hB
  clear h
  go_enter Try.func82, Try.ntmps82
  go_wp2_with fail
  refine Calls.mono H.out ?_
  rintro e w1 ⟨rfl, ha, hb⟩
  have HE : Hid _ := And.intro ha hb
  clear ha hb H
  go_wp2
  go_ret
  exact ⟨rfl, HE.out.1, HE.out.2⟩

theorem specMakeP_any (B g : Nat) (ns : List Nd) (kind x y : Int) (w : World) (hl : ns.length ≤ 1048576) (h : ArenaAt B w g ns) (hB : B ≤ w.heap.size) :
    Calls Try.prog 89 #[.pointer (some ⟨g, 0, none⟩), .int .i64 kind, .int .i64 x, .int .i64 y] w fun e w' => e = .returned (.int .i64 (makeK ns kind x y)) ∧ ArenaAt B w' g (makeA ns kind x y) ∧ Below B w w' := by
  have HH : Hid (ArenaAt B w g ns) := h
  clear h
  cases ho : oneK kind with
  | true =>
    have HO : Hid (oneK kind = true) := ho
    by_cases hbad : kind = 1 ∨ kind = 7 ∨ x < 0
    · obtain ⟨e1, e2⟩ := make_bad (ns := ns) (kind := kind) (x := x) (y := y) (by rcases hbad with h | h | h <;> simp [h])
      rw [e1, e2]
      clear ho e1 e2
      have hk1 : (kind == 1) = false := by have := HO.out; unfold oneK at this; simp at this; simp; omega
      have hk7 : (kind == 7) = false := by have := HO.out; unfold oneK at this; simp at this; simp; omega
      have hx : x < 0 := by simp at hk1 hk7; omega
      clear hbad
      go_enter Try.func89, Try.ntmps89
      go_wp2_with fail
      refine (specOne_any kind _).mono ?_
      rintro e w1 ⟨rfl, rfl⟩
      rw [HO.out]
      go_wp2
      go_ret
      exact ⟨rfl, HH.out, Below.refl _ _⟩
    · have hg : kind ≠ 1 ∧ kind ≠ 7 ∧ ¬ x < 0 := by omega
      obtain ⟨e1, e2⟩ := make_good (ns := ns) (x := x) (y := y) ⟨hg.1, hg.2.1⟩
      rw [e1, e2]
      have em : mkNd kind x y = ⟨kind, 0, x, 0⟩ := by unfold mkNd; rw [if_pos ho]
      rw [em]
      have hk1 : (kind == 1) = false := by simp; omega
      have hk7 : (kind == 7) = false := by simp; omega
      have hx := hg.2.2
      have H : Hid _ := specPutP_any B g ns ⟨kind, 0, x, 0⟩ w hl HH.out hB
      clear ho e1 e2 em hbad hg
      go_enter Try.func89, Try.ntmps89
      go_wp2_with fail
      refine (specOne_any kind _).mono ?_
      rintro e w1 ⟨rfl, rfl⟩
      rw [HO.out]
      go_wp2_with fail
      refine Calls.mono H.out ?_
      rintro e w1 ⟨rfl, ha, hb⟩
      have HE : Hid _ := And.intro ha hb
      clear ha hb H
      go_wp2
      go_ret
      exact ⟨rfl, HE.out.1, HE.out.2⟩
  | false =>
    have HO : Hid (oneK kind = false) := ho
    have em : mkNd kind x y = ⟨kind, 0, x, y⟩ := by unfold mkNd; rw [if_neg (by simp [ho])]
    by_cases h1 : kind = 1
    · obtain ⟨e1, e2⟩ := make_bad (ns := ns) (kind := kind) (x := x) (y := y) (.inl h1)
      rw [e1, e2]
      have hk1 : (kind == 1) = true := by simp [h1]
      clear ho em e1 e2 h1
      go_enter Try.func89, Try.ntmps89
      go_wp2_with fail
      refine (specOne_any kind _).mono ?_
      rintro e w1 ⟨rfl, rfl⟩
      rw [HO.out]
      go_wp2
      go_ret
      exact ⟨rfl, HH.out, Below.refl _ _⟩
    by_cases h7 : kind = 7
    · obtain ⟨e1, e2⟩ := make_bad (ns := ns) (kind := kind) (x := x) (y := y) (.inr (.inl h7))
      rw [e1, e2]
      have hk1 : (kind == 1) = false := by simp [h1]
      have hk7 : (kind == 7) = true := by simp [h7]
      clear ho em e1 e2 h1 h7
      go_enter Try.func89, Try.ntmps89
      go_wp2_with fail
      refine (specOne_any kind _).mono ?_
      rintro e w1 ⟨rfl, rfl⟩
      rw [HO.out]
      go_wp2
      go_ret
      exact ⟨rfl, HH.out, Below.refl _ _⟩
    have hk1 : (kind == 1) = false := by simp [h1]
    have hk7 : (kind == 7) = false := by simp [h7]
    by_cases hx : x < 0
    · obtain ⟨e1, e2⟩ := make_bad (ns := ns) (kind := kind) (x := x) (y := y) (.inr (.inr (.inl hx)))
      rw [e1, e2]
      clear ho em e1 e2 h1 h7
      go_enter Try.func89, Try.ntmps89
      go_wp2_with fail
      refine (specOne_any kind _).mono ?_
      rintro e w1 ⟨rfl, rfl⟩
      rw [HO.out]
      go_wp2
      go_ret
      exact ⟨rfl, HH.out, Below.refl _ _⟩
    by_cases hy : y < 0
    · obtain ⟨e1, e2⟩ := make_bad (ns := ns) (kind := kind) (x := x) (y := y) (.inr (.inr (.inr ⟨ho, hy⟩)))
      rw [e1, e2]
      clear ho em e1 e2 h1 h7
      go_enter Try.func89, Try.ntmps89
      go_wp2_with fail
      refine (specOne_any kind _).mono ?_
      rintro e w1 ⟨rfl, rfl⟩
      rw [HO.out]
      go_wp2
      go_ret
      exact ⟨rfl, HH.out, Below.refl _ _⟩
    obtain ⟨e1, e2⟩ := make_good (ns := ns) (x := x) (y := y) ⟨h1, h7⟩
    rw [e1, e2, em]
    have H : Hid _ := specPutP_any B g ns ⟨kind, 0, x, y⟩ w hl HH.out hB
    clear ho em e1 e2 h1 h7
    go_enter Try.func89, Try.ntmps89
    go_wp2_with fail
    refine (specOne_any kind _).mono ?_
    rintro e w1 ⟨rfl, rfl⟩
    rw [HO.out]
    go_wp2_with fail
    refine Calls.mono H.out ?_
    rintro e w1 ⟨rfl, ha, hb⟩
    have HE : Hid _ := And.intro ha hb
    clear ha hb H
    go_wp2
    go_ret
    exact ⟨rfl, HE.out.1, HE.out.2⟩

end Go.Proofs.Ytlecpjgeaigjkaa
