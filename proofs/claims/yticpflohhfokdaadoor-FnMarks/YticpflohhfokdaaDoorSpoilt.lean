/- l02Spoilt of the specification: what it hands back, within bounds (arena-free seats). -/
import Derived.Test.YticpflohhfokdaaDoorCodeW
import Derived.Test.YticpflohhfokdaaDoorRegionK
import Derived.WalkKit
import Derived.PlainAid
import Derived.BigRegion
import Derived.WalkLawsBesides
import Derived.WalkSpells
import Derived.Laws.Rows
import Derived.Laws.ResultCell
namespace Go.Proofs.YticpflohhfokdaaDoor
open Go.RowKit Go.PlainAid
set_option linter.unusedVariables false
theorem extract_size (s : ByteArray) (i j : Nat) : (s.extract i j).size ≤ s.size := by rw [ByteArray.size_extract]; omega
theorem sliceTo (s : ByteArray) (i : Nat) (h : i ≤ s.size) (w : World) : (Instr.slice 9 (.string s) none (some (.int .i64 (i : Int))) none).run Tryd.prog w = .ok (.string (s.extract 0 i)) w := by
  have h1 : (0 : Int) ≤ (i : Int) := by omega
  have h2 : (i : Int) ≤ (s.size : Int) := by omega
  simp [go_sem, Tryd.underlying9, h1, h2]
theorem sliceFrom (s : ByteArray) (i : Nat) (h : i + 1 ≤ s.size) (w : World) : (Instr.slice 9 (.string s) (some (.int .i64 ((i : Int) + 1))) none none).run Tryd.prog w = .ok (.string (s.extract (i + 1) s.size)) w := by
  have h1 : (0 : Int) ≤ (i : Int) + 1 := by omega
  have h2 : (i : Int) + 1 ≤ (s.size : Int) := by omega
  simp [go_sem, Tryd.underlying9, h1, h2]
set_option maxHeartbeats 1600000 in
set_option maxRecDepth 20000 in
theorem spoilt_any (B g : Nat) (s : ByteArray) (w : World) (hs : s.size ≤ 10000) (hc : Cur B w g) :
    Calls Tryd.prog 20 #[.pointer (some ⟨g, 0, none⟩), .string s] w fun e w' => ∃ t : ByteArray, e = .returned (.string t) ∧ t.size ≤ 30000 ∧ Cur B w' g ∧ w.grownBy w' (some g) := by
  go_enter Tryd.func20, Tryd.ntmps20
  go_wp2_with fail
  refine (below_any B g 12 _ (by omega) (by omega) hc).mono ?_
  rintro e w1 ⟨x, rfl, hx, hc1, hg1⟩
  have HG1 : Hid (w.grownBy w1 (some g)) := hg1
  have HC1 : Hid (Cur B w1 g) := hc1
  clear hg1 hc1 hc
  rcases (show x = 0 ∨ x = 1 ∨ (x = 2 ∨ x = 3) ∨ 4 ≤ x by omega) with rfl | rfl | h23 | h4
  · go_wp2_with fail
    refine (text_any B g 1 _ (by omega) HC1.out).mono ?_
    rintro e w2 ⟨t, rfl, ht, hc2, hg2⟩
    have HE : Hid _ := And.intro hc2 (grown_trans HG1.out hg2)
    clear hc2 hg2
    go_wp2
    go_ret
    exact ⟨s ++ t, rfl, by rw [ByteArray.size_append]; omega, HE.out.1, HE.out.2⟩
  · go_wp2_with fail
    refine (below_any B g (s.size + 1) _ (by omega) (by omega) HC1.out).mono ?_
    rintro e w2 ⟨y, rfl, hy, hc2, hg2⟩
    have hsl := sliceTo s y (by omega) w2
    have HE : Hid _ := And.intro hc2 (grown_trans HG1.out hg2)
    have he := extract_size s 0 y
    clear hc2 hg2
    go_wp2
    go_ret
    exact ⟨s.extract 0 y, rfl, by omega, HE.out.1, HE.out.2⟩
  · by_cases h0 : s.size = 0
    · have h0' : ¬ (0 : Int) < (s.size : Int) := by omega
      rcases h23 with rfl | rfl
      all_goals
        go_wp2
        go_ret
        exact ⟨s, rfl, by omega, HC1.out, HG1.out⟩
    · have h0' : (0 : Int) < (s.size : Int) := by omega
      rcases h23 with rfl | rfl
      all_goals
        go_wp2_with fail
        refine (below_any B g s.size _ (by omega) (by omega) HC1.out).mono ?_
        rintro e w2 ⟨i, rfl, hi, hc2, hg2⟩
        have HG2 : Hid (w.grownBy w2 (some g)) := grown_trans HG1.out hg2
        have H1 : Hid (∀ wz, (Instr.slice 9 (.string s) none (some (.int .i64 (i : Int))) none).run Tryd.prog wz = .ok (.string (s.extract 0 i)) wz) := fun wz => sliceTo s i (by omega) wz
        have H2 : Hid (∀ wz, (Instr.slice 9 (.string s) (some (.int .i64 ((i : Int) + 1))) none none).run Tryd.prog wz = .ok (.string (s.extract (i + 1) s.size)) wz) := fun wz => sliceFrom s i (by omega) wz
        have HWR : Hid (IntKind.i64.wrap ((i : Int) + 1) = (i : Int) + 1) := IntWalk.i64_in _ ⟨by omega, by omega⟩
        have hc2' := hc2
        clear hg2 hc2 HG1 HC1
        go_wp2_with fail
        refine wp_region_list (I := fun w' => Cur B w' g ∧ w2.grownBy w' (some g)) (R := fun i w' w'' => (Cur B w' g ∧ w2.grownBy w' (some g)) → (Cur B w'' g ∧ w2.grownBy w'' (some g)))
          (fs := #[⟨[33], fun vs _ => vs = [.string s]⟩, ⟨[34], fun vs _ => vs = [.int .i64 (i : Int)]⟩, ⟨[35], fun vs _ => vs = [.string (s.extract 0 i)]⟩, ⟨[36], fun vs _ => vs = [.pointer (some ⟨g, 0, none⟩)]⟩, ⟨[37], fun vs _ => ∃ u : ByteArray, vs = [.string u] ∧ u.size ≤ 1⟩, ⟨[38], fun vs _ => ∃ u : ByteArray, vs = [.string u] ∧ u.size ≤ s.size + 1⟩, ⟨[39], fun vs _ => vs = [.string s]⟩, ⟨[40], fun vs _ => vs = [.int .i64 (i : Int)]⟩, ⟨[41], fun vs _ => vs = [.int .i64 ((i : Int) + 1)]⟩, ⟨[42], fun vs _ => vs = [.string (s.extract (i + 1) s.size)]⟩, ⟨[43], fun vs _ => ∃ u : ByteArray, vs = [.string u] ∧ u.size ≤ 2 * s.size + 1⟩, ⟨[4], fun vs _ => ∃ u : ByteArray, vs = [.string u] ∧ u.size ≤ 2 * s.size + 1⟩])
          (by kernel_rfl) 45 rfl (by kernel_rfl) ?stab ?istab ?start ?exec ?fin
        case stab =>
          intro k i f hki hf
          have hk : k < 12 := (Array.getElem?_eq_some_iff.1 hf).1
          rcases (show k = 0 ∨ k = 1 ∨ k = 2 ∨ k = 3 ∨ k = 4 ∨ k = 5 ∨ k = 6 ∨ k = 7 ∨ k = 8 ∨ k = 9 ∨ k = 10 ∨ k = 11 by omega) with rfl | rfl | rfl | rfl | rfl | rfl | rfl | rfl | rfl | rfl | rfl | rfl
          all_goals
            simp only [List.getElem?_toArray, List.getElem?_cons_succ, List.getElem?_cons_zero, Option.some.injEq] at hf
            subst hf
          · exact fun vs _ _ _ h => h
          · exact fun vs _ _ _ h => h
          · exact fun vs _ _ _ h => h
          · exact fun vs _ _ _ h => h
          · exact fun vs _ _ _ h => h
          · exact fun vs _ _ _ h => h
          · exact fun vs _ _ _ h => h
          · exact fun vs _ _ _ h => h
          · exact fun vs _ _ _ h => h
          · exact fun vs _ _ _ h => h
          · exact fun vs _ _ _ h => h
          · exact fun vs _ _ _ h => h
        case istab => exact fun i w' w'' hR h => hR h
        case start => exact ⟨hc2'.grown (Below.refl _ _).drew, grown_drewN w2 1 _⟩
        case exec =>
          intro i o f hi hf a_1 wq hsz hI hold hpre
          have hi11 : i < 12 := (Array.getElem?_eq_some_iff.1 hi).1
          rcases (show i = 0 ∨ i = 1 ∨ i = 2 ∨ i = 3 ∨ i = 4 ∨ i = 5 ∨ i = 6 ∨ i = 7 ∨ i = 8 ∨ i = 9 ∨ i = 10 ∨ i = 11 by omega) with rfl | rfl | rfl | rfl | rfl | rfl | rfl | rfl | rfl | rfl | rfl | rfl
          all_goals
            simp only [List.getElem?_toArray, List.getElem?_cons_succ, List.getElem?_cons_zero, Option.some.injEq] at hi hf
            subst hi hf
          · have g1 : a_1.tmps.getD 1 undef = .string s := hold 1 (free_spec (by kernel_rfl))
            refine exec_same (v := .string s) ?_ ⟨_, rfl, (fun h => h), at_one (by omega) rfl⟩
            simp [go_sem, Act.eval, g1]
          · have g5 : a_1.tmps.getD 5 undef = .int .i64 (i : Int) := hold 5 (free_spec (by kernel_rfl))
            refine exec_same (v := .int .i64 (i : Int)) ?_ ⟨_, rfl, (fun h => h), at_one (by omega) rfl⟩
            simp [go_sem, Act.eval, g5]
          · have g33 : a_1.tmps.getD 33 undef = .string s := by have := of_one (hpre ⟨0, .data⟩ (by simp) rfl _ rfl); simpa using this
            have g34 : a_1.tmps.getD 34 undef = .int .i64 (i : Int) := by have := of_one (hpre ⟨1, .data⟩ (by simp) rfl _ rfl); simpa using this
            have hsl := H1.out wq
            refine exec_same (v := .string (s.extract 0 i)) ?_ ⟨_, rfl, (fun h => h), at_one (by omega) rfl⟩
            simp [go_sem, Act.eval, g33, g34, hsl]
          · have g0 : a_1.tmps.getD 0 undef = .pointer (some ⟨g, 0, none⟩) := hold 0 (free_spec (by kernel_rfl))
            refine exec_same (v := .pointer (some ⟨g, 0, none⟩)) ?_ ⟨_, rfl, (fun h => h), at_one (by omega) rfl⟩
            simp [go_sem, Act.eval, g0]
          · have g36 : a_1.tmps.getD 36 undef = .pointer (some ⟨g, 0, none⟩) := by have := of_one (hpre ⟨3, .data⟩ (by simp) rfl _ rfl); simpa using this
            refine exec_call (f := 31) (args := #[.pointer (some ⟨g, 0, none⟩), .int .i64 1]) (by simp [go_sem, Act.eval, g36]) ?_
            refine (text_any B g 1 wq (by omega) hI.1).mono ?_
            rintro e w2 ⟨t, rfl, ht, hct, hgt⟩
            exact ⟨_, rfl, _, rfl, fun h => ⟨hct, grown_trans h.2 hgt⟩, at_one (by omega) ⟨t, rfl, by omega⟩⟩
          · have g35 : a_1.tmps.getD 35 undef = .string (s.extract 0 i) := by have := of_one (hpre ⟨2, .data⟩ (by simp) rfl _ rfl); simpa using this
            obtain ⟨t, h37, ht⟩ := of_one (hpre ⟨4, .data⟩ (by simp) rfl _ rfl)
            have g37 : a_1.tmps.getD 37 undef = .string t := by simpa using h37
            have he := extract_size s 0 i
            refine exec_same (v := .string (s.extract 0 i ++ t)) ?_ ⟨_, rfl, (fun h => h), at_one (by omega) ⟨_, rfl, by rw [ByteArray.size_append]; omega⟩⟩
            simp [go_sem, Act.eval, g35, g37]
            omega
          · have g1 : a_1.tmps.getD 1 undef = .string s := hold 1 (free_spec (by kernel_rfl))
            refine exec_same (v := .string s) ?_ ⟨_, rfl, (fun h => h), at_one (by omega) rfl⟩
            simp [go_sem, Act.eval, g1]
          · have g5 : a_1.tmps.getD 5 undef = .int .i64 (i : Int) := hold 5 (free_spec (by kernel_rfl))
            refine exec_same (v := .int .i64 (i : Int)) ?_ ⟨_, rfl, (fun h => h), at_one (by omega) rfl⟩
            simp [go_sem, Act.eval, g5]
          · have g40 : a_1.tmps.getD 40 undef = .int .i64 (i : Int) := by have := of_one (hpre ⟨7, .data⟩ (by simp) rfl _ rfl); simpa using this
            have hwr := HWR.out
            refine exec_same (v := .int .i64 ((i : Int) + 1)) ?_ ⟨_, rfl, (fun h => h), at_one (by omega) rfl⟩
            simp [go_sem, Act.eval, g40, hwr]
          · have g39 : a_1.tmps.getD 39 undef = .string s := by have := of_one (hpre ⟨6, .data⟩ (by simp) rfl _ rfl); simpa using this
            have g41 : a_1.tmps.getD 41 undef = .int .i64 ((i : Int) + 1) := by have := of_one (hpre ⟨8, .data⟩ (by simp) rfl _ rfl); simpa using this
            have hsl := H2.out wq
            refine exec_same (v := .string (s.extract (i + 1) s.size)) ?_ ⟨_, rfl, (fun h => h), at_one (by omega) rfl⟩
            simp [go_sem, Act.eval, g39, g41, hsl]
          · obtain ⟨t, h38, ht⟩ := of_one (hpre ⟨5, .data⟩ (by simp) rfl _ rfl)
            have g38 : a_1.tmps.getD 38 undef = .string t := by simpa using h38
            have g42 : a_1.tmps.getD 42 undef = .string (s.extract (i + 1) s.size) := by have := of_one (hpre ⟨9, .data⟩ (by simp) rfl _ rfl); simpa using this
            have he := extract_size s (i + 1) s.size
            refine exec_same (v := .string (t ++ s.extract (i + 1) s.size)) ?_ ⟨_, rfl, (fun h => h), at_one (by omega) ⟨_, rfl, by rw [ByteArray.size_append]; omega⟩⟩
            simp [go_sem, Act.eval, g38, g42]
            omega
          · obtain ⟨t, h43, ht⟩ := of_one (hpre ⟨10, .data⟩ (by simp) rfl _ rfl)
            have g43 : a_1.tmps.getD 43 undef = .string t := by simpa using h43
            refine exec_same (v := .string t) ?_ ⟨_, rfl, (fun h => h), at_one (by omega) ⟨t, rfl, ht⟩⟩
            simp [go_sem, Act.eval, g43]
        case fin =>
          intro zs w5 hzl hI hF
          obtain ⟨z0, z1, z2, z3, z4, z5, z6, z7, z8, z9, z10, z11, rfl⟩ := list12 zs hzl
          obtain ⟨t, hst, ht⟩ := of_one (hF 11 _ rfl)
          simp only [List.cons.injEq, and_true] at hst
          have hs2 := last_is (i := 11) (v := z11) (n := 45) hst (by kernel_rfl) rfl rfl (by omega)
          clear hst
          subst hs2
          clear hF
          simp only [putAll, Act.put, List.setIfInBounds_toArray, List.set_cons_succ, List.set_cons_zero]
          have HE : Hid _ := And.intro hI.1 (grown_trans HG2.out hI.2)
          clear hI
          go_wp2
          go_ret
          exact ⟨t, rfl, by omega, HE.out.1, HE.out.2⟩
  · have q0 : ((x : Int) == 0) = false := by simp; omega
    have q1 : ((x : Int) == 1) = false := by simp; omega
    have q2 : ((x : Int) == 2) = false := by simp; omega
    have q3 : ((x : Int) == 3) = false := by simp; omega
    go_wp2
    go_ret
    exact ⟨s, rfl, by omega, HC1.out, HG1.out⟩
end Go.Proofs.YticpflohhfokdaaDoor
