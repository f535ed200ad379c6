/- The contracts of chapter 5's put and come, the program's. -/
import Derived.Test.YtcmmbehnihelcaaReachM
import Derived.WalkKit
import Derived.WalkLawsBesides
import Derived.WalkSpells
import Derived.Laws.Rows
namespace Go.Proofs.Ytcmmbehnihelcaa
open Go.RowKit
set_option linter.unusedVariables false
set_option maxHeartbeats 1600000 in
set_option maxRecDepth 20000 in
theorem putC_any (w1 : World) (g h n ca ub pb : Nat) (a : Option Addr) (bs : List Bool) (L : List (Nat × Nat)) (k : Nat) (w : World) (s : Sm w1 g h n ca ub pb a bs L w) :
    Calls Try.prog 88 #[.pointer (some ⟨g, 4, none⟩), .int .i64 (k : Int)] w fun e w' => e = .returned (.tuple #[]) ∧ Sm w1 g h n ca ub pb a bs (L ++ [(w.heap.size, k)]) w' ∧ Kp g h L (L ++ [(w.heap.size, k)]) w w' := by
  have hg : g < w.heap.size := Nat.lt_of_lt_of_le s.gl s.size
  have c4 := s.c4
  have c5 := s.c5
  have f4 := s.fz 4
  have f5 := s.fz 5
  by_cases hL : 0 < L.length
  · rw [pt_some (by omega)] at c5
    obtain ⟨m1, m2⟩ := s.nodes (L.length - 1) (by omega)
    have n1 := (cell_of_row _ _ 1 _ _ _ m2).trans rfl
    have fn := frozen_of_row _ _ 1 _ _ m2
    have hlb := (Array.getElem?_eq_some_iff.1 m2).1
    have hne : (L.getD (L.length - 1) (0, 0)).1 ≠ g := by have := s.gl; omega
    have HS : Hid _ := s.put_more' hL k
    have HKP : Hid (∀ u v o, Kp g h L (L ++ [(w.heap.size, k)]) w (((w.setCell ⟨(L.getD (L.length - 1) (0, 0)).1, 1, none⟩ u).setCell ⟨g, 5, none⟩ v).alloc o)) := s.kp_more hL k
    clear s m2 c4 f4 m1
    generalize (L.getD (L.length - 1) (0, 0)).1 = lb at *
    go_enter Try.func88, Try.ntmps88
    go_wp2
    go_end0
    exact ⟨rfl, HS.out, HKP.out _ _ _⟩
  · obtain rfl : L = [] := by cases L with
      | nil => rfl
      | cons x L => simp at hL
    have c4' : w.cell? ⟨g, 4, none⟩ = some (.pointer none) := c4
    have c5' : w.cell? ⟨g, 5, none⟩ = some (.pointer none) := c5
    have HS : Hid _ := s.put_nil' k
    have HKP : Hid (∀ u v o, Kp g h [] [(w.heap.size, k)] w (((w.setCell ⟨g, 4, none⟩ u).setCell ⟨g, 5, none⟩ v).alloc o)) := s.kp_nil k
    clear s c4 c5 hL
    go_enter Try.func88, Try.ntmps88
    go_wp2
    go_end0
    exact ⟨rfl, HS.out, HKP.out _ _ _⟩
set_option maxHeartbeats 1600000 in
set_option maxRecDepth 20000 in
theorem comeC_any (w1 : World) (g h n ca ub pb : Nat) (a : Option Addr) (bs : List Bool) (L : List (Nat × Nat)) (k : Nat) (w : World) (hn : n ≤ 3000) (hk : k < n) (s : Sm w1 g h n ca ub pb a bs L w) (p : Pls n bs L) :
    Calls Try.prog 51 #[.pointer (some ⟨g, 0, none⟩), .int .i64 (k : Int)] w fun e w' => e = .returned (.tuple #[]) ∧ ∃ L', Sm w1 g h n ca ub pb a (bs.set k true) L' w' ∧ Pls n (bs.set k true) L' ∧ Kp g h L L' w w' := by
  have c1 := s.c1
  have cB := BoolsAt.cell s.had hk
  have fB := World.ownsRow.frozenAt s.had k
  have hk0 : (0 : Int) ≤ (k : Int) := by omega
  have hk1 : (k : Int) < (n : Int) := by omega
  have HS : Hid _ := s
  have HP : Hid _ := p
  cases hb : bs.getD k false with
  | true =>
    have HE : Hid _ := set_same hb
    rw [hb] at cB
    clear s p hb
    go_enter Try.func51, Try.ntmps51
    go_wp2
    go_end0
    refine ⟨rfl, L, ?_⟩
    rw [HE.out]
    exact ⟨HS.out, HP.out, Kp.refl⟩
  | false =>
    have H1 : Hid _ := s.set k
    have HQ : Hid _ := hb
    have hlen : Hid (k < bs.length) := by show _ < _; rw [s.len]; exact hk
    rw [hb] at cB
    clear s p hb
    go_enter Try.func51, Try.ntmps51
    go_wp2_with fail
    refine (putC_any w1 g h n ca ub pb a (bs.set k true) L k _ H1.out).mono ?_
    rintro e w' ⟨rfl, hs, hkp⟩
    have H2 : Hid _ := hs
    have H3 : Hid (Kp g h L _ w w') := (Kp.set w k (.bool true)).trans hkp
    clear hs hkp
    go_wp2
    go_end0
    exact ⟨rfl, _, H2.out, Pls.put HP.out _ hlen.out HQ.out, H3.out⟩
end Go.Proofs.Ytcmmbehnihelcaa
